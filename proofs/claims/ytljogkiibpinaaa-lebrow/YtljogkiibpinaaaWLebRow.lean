/- 'LebRow' of package peloruslaw12 returns true at every list of ints: numbers one behind the other are read one behind the other. No condition. -/
import Derived.Test.YtljogkiibpinaaaLW
import Derived.LoopTactic
import Derived.OpenShut
import Derived.ChangeMaps5
import Derived.ShutString
import Derived.SizedLaws
import Derived.Carry
import Derived.Deep.Slices
set_option linter.unusedVariables false
set_option linter.unusedSimpArgs false
set_option maxRecDepth 100000
set_option maxHeartbeats 8000000
namespace Go.Proofs.Ytljogkiibpinaaa.lebRow
open Go.ChangeShapes Go.WideShapes Go.ChangeAt Go.RowKit
/-- the first so many numbers, each written twice -/
def pre (f : Nat → Int) : Nat → List Int
  | 0 => []
  | k + 1 => pre f k ++ (lebL (f k) ++ slebL (f k))
theorem pre_byte (f : Nat → Int) : ∀ k, ∀ b ∈ pre f k, 0 ≤ b ∧ b < 256
  | 0, b, h => by simp [pre] at h
  | k + 1, b, h => by
    simp only [pre, List.mem_append] at h
    rcases h with h | h | h
    · exact pre_byte f k b h
    · exact lebL_byte (f k) b h
    · exact slebF_byte 9 (f k) b h
theorem pre_at (f : Nat → Int) (i : Nat) : ∀ m, i < m → ∃ rest, pre f m = pre f i ++ (lebL (f i) ++ (slebL (f i) ++ rest))
  | 0, h => by omega
  | m + 1, h => by
    by_cases hi : i = m
    · subst hi
      exact ⟨[], by simp [pre]⟩
    · obtain ⟨rest, hr⟩ := pre_at f i m (by omega)
      exact ⟨rest ++ (lebL (f m) ++ slebL (f m)), by simp only [pre]; rw [hr]; simp [List.append_assoc]⟩
theorem pre_len (f : Nat → Int) : ∀ k, (pre f k).length ≤ 20 * k
  | 0 => by simp [pre]
  | k + 1 => by
    have h1 := pre_len f k
    have h2 : (lebL (f k)).length ≤ 10 := lebF_len 9 _
    have h3 : (slebL (f k)).length ≤ 10 := slebF_len 9 _
    simp only [pre, List.length_append]
    omega
theorem str_app (a b : List Int) : strOfNums (a ++ b) = strOfNums a ++ strOfNums b := by
  unfold strOfNums
  apply ByteArray.ext
  rw [ByteArray.data_append]
  simp
/-- what is read at the i-th -/
theorem read_at (f : Nat → Int) (i m : Nat) (hi : i < m) (hf : -9223372036854775808 ≤ f i ∧ f i ≤ 9223372036854775807) :
    ulR (strOfNums (pre f m)) ((pre f i).length : Int) 64 = (f i, (((pre f i).length + (lebL (f i)).length : Nat) : Int), 0) ∧ usR (strOfNums (pre f m)) (((pre f i).length + (lebL (f i)).length : Nat) : Int) 64 = (f i, ((pre f (i + 1)).length : Int), 0) := by
  obtain ⟨rest, hr⟩ := pre_at f i m hi
  have hb := bl_nums (pre f i) (lebL (f i) ++ (slebL (f i) ++ rest)) (fun b h => pre_byte f m b (by rw [hr]; exact List.mem_append_right _ h))
  rw [← hr] at hb
  obtain ⟨h1, h2⟩ := bl_app.1 hb
  refine ⟨get_put64 (f i) hf _ _ h1, ?_⟩
  rw [gets_put64 (f i) hf _ _ (bl_app.1 h2).1]
  refine Prod.ext rfl (Prod.ext ?_ rfl)
  show ((_ : Nat) : Int) = ((pre f (i + 1)).length : Int)
  simp only [pre, List.length_append]
  omega
theorem read_end (f : Nat → Int) (m : Nat) : ulR (strOfNums (pre f m)) ((pre f m).length : Int) 64 = (0, 0, 1201) ∧ ulR (strOfNums (pre f m)) ((pre f m).length + 1 : Int) 64 = (0, 0, 1200) := by
  refine ⟨ul_cut _ _ [] 64 10 (Or.inr ⟨rfl, rfl⟩) ?_ trivial (by rw [strOfNums_size]; rfl) (by decide), ul_out _ _ _ ?_⟩
  · show (pre f m).length ≤ _
    rw [strOfNums_size]
    exact Nat.le_refl _
  · rw [strOfNums_size]
    omega
theorem core (A : Option Addr) (n cap : Nat) (f : Nat → Int) (w : World) (hA : Hid (n = 0 ∨ ∃ g o, A = some ⟨g, o, none⟩ ∧ ∀ i, i < n → w.cell? ⟨g, o + i, none⟩ = some (.int .i64 (f i)) ∧ (-9223372036854775808 ≤ f i ∧ f i ≤ 9223372036854775807))) :
    Calls Try.prog 7 #[.slice A n cap] w fun e w' => e = .returned (.bool true) ∧ Later w w' := by
  go_enter Try.func7, Try.ntmps7
  go_wp2_with fail
  refine (awake_any _).mono ?_
  rintro e w1 ⟨rfl, l1⟩
  go_wp2_with fail
  go_loopw [3, 4] (fun s i wr => ∃ j : Nat, j ≤ n ∧ j ≤ 30 ∧ i = .int .i64 (j : Nat) ∧ s = .string (strOfNums (pre f j)) ∧ Later w wr) (fun s i _ => 30 - (intOf i).toNat)
  case atStart => exact ⟨0, by omega, by omega, rfl, rfl, l1⟩
  case round =>
    clear l1
    obtain ⟨j, hj, hj3, rfl, rfl, hL⟩ := hrel
    by_cases hlt : j < n ∧ j < 30
    · have hl1 : (j : Int) < (n : Int) := by omega
      have hl2 : (j : Int) < 30 := by omega
      obtain ⟨g, o, rfl, hc⟩ := hA.out.resolve_left (by omega)
      obtain ⟨c0, hr⟩ := hc j hlt.1
      replace c0 := hL.cell_of c0
      have lc := cell_lt c0
      have h1 : Hid (∀ W : World, Calls Try.prog 13 #[.int .i64 (f j)] W fun e w' => e = .returned (.string (strOfNums (lebL (f j)))) ∧ Later W w') := fun W => put_any (f j) hr W
      have h2 : Hid (∀ W : World, Calls Try.prog 15 #[.int .i64 (f j)] W fun e w' => e = .returned (.string (strOfNums (slebL (f j)))) ∧ Later W w') := fun W => puts_any (f j) hr W
      have e1 : strOfNums (pre f j) ++ strOfNums (lebL (f j)) ++ strOfNums (slebL (f j)) = strOfNums (pre f (j + 1)) := by
        simp only [pre, str_app, ByteArray.append_assoc]
      have z1 : (strOfNums (pre f j)).size ≤ 600 := by rw [strOfNums_size]; have := pre_len f j; omega
      have z2 : (strOfNums (lebL (f j))).size ≤ 10 := by rw [strOfNums_size]; exact lebF_len 9 _
      have z3 : (strOfNums (slebL (f j))).size ≤ 10 := by rw [strOfNums_size]; exact slebF_len 9 _
      replace hL : Hid (Later w wr) := hL
      clear hc hr
      generalize strOfNums (pre f j) = s0 at *
      generalize strOfNums (lebL (f j)) = s1 at *
      generalize strOfNums (slebL (f j)) = s2 at *
      go_wp2
      refine wp_region_quiet_far (by kernel_rfl) (by kernel_rfl) ?_
      repeat (go_big_quiet_step (first | (go_at_call 13; exact Calls.far_of (h1.out _)) | (go_at_call 15; exact Calls.far_of (h2.out _))))
      refine wpQuiet_nil ?_
      rintro _ ⟨⟨bs, d⟩, rfl⟩
      go_wp2
      go_roundw
      case rel => exact ⟨j + 1, by omega, by omega, by go_num, by rw [← e1], hL.out.trans (Lv (Lz _))⟩
      case measure => simp [intOf]; omega
    · have hzs : (strOfNums (pre f j)).size = (pre f j).length := strOfNums_size _
      have hzl : (pre f j).length ≤ 600 := by have := pre_len f j; omega
      obtain ⟨e1, e2⟩ := read_end f j
      have h1 : Hid (∀ (q : Nat) (W : World), q < j → Calls Try.prog 9 #[.string (strOfNums (pre f j)), .int .i64 ((pre f q).length : Int), .int .i64 64] W fun e w' => e = .returned (.tuple #[.int .i64 (f q), .int .i64 (((pre f q).length + (lebL (f q)).length : Nat) : Int), .int .i64 0]) ∧ Later W w') := fun q W hq => by
        obtain ⟨g, o, rfl, hc⟩ := hA.out.resolve_left (by omega)
        have hp := pre_len f q
        exact get_is _ _ 64 _ _ _ (read_at f q j hq (hc q (by omega)).2).1 (by omega) (by omega) (by decide) W
      have h2 : Hid (∀ (q : Nat) (W : World), q < j → Calls Try.prog 11 #[.string (strOfNums (pre f j)), .int .i64 (((pre f q).length + (lebL (f q)).length : Nat) : Int), .int .i64 64] W fun e w' => e = .returned (.tuple #[.int .i64 (f q), .int .i64 ((pre f (q + 1)).length : Int), .int .i64 0]) ∧ Later W w') := fun q W hq => by
        obtain ⟨g, o, rfl, hc⟩ := hA.out.resolve_left (by omega)
        have hp := pre_len f q
        have hp2 : (lebL (f q)).length ≤ 10 := lebF_len 9 _
        exact gets_is _ _ 64 _ _ _ (read_at f q j hq (hc q (by omega)).2).2 (by omega) (by omega) (by decide) W
      have h3 : Hid (∀ W : World, Calls Try.prog 9 #[.string (strOfNums (pre f j)), .int .i64 ((pre f j).length : Int), .int .i64 64] W fun e w' => e = .returned (.tuple #[.int .i64 0, .int .i64 0, .int .i64 1201]) ∧ Later W w') := fun W => get_is _ _ 64 _ _ _ e1 (by omega) (by omega) (by decide) W
      have h4 : Hid (∀ W : World, Calls Try.prog 9 #[.string (strOfNums (pre f j)), .int .i64 ((pre f j).length + 1 : Int), .int .i64 64] W fun e w' => e = .returned (.tuple #[.int .i64 0, .int .i64 0, .int .i64 1200]) ∧ Later W w') := fun W => get_is _ _ 64 _ _ _ e2 (by omega) (by omega) (by decide) W
      clear e1 e2
      replace hL : Hid (Later w wr) := hL
      generalize strOfNums (pre f j) = S at *
      rcases (by omega : ¬ (j : Int) < (n : Int) ∨ ((j : Int) < (n : Int) ∧ ¬ (j : Int) < 30)) with hl1 | ⟨hl1, hl2⟩
      all_goals
        go_wp2_with fail
        go_loopw [5, 6] (fun p i wr => ∃ q : Nat, q ≤ j ∧ i = .int .i64 (q : Nat) ∧ p = .int .i64 ((pre f q).length : Nat) ∧ Later w wr) (fun p i _ => 30 - (intOf i).toNat)
        case atStart => exact ⟨0, by omega, rfl, rfl, hL.out⟩
        case round =>
          clear hL
          obtain ⟨q, hq, rfl, rfl, hL⟩ := hrel
          by_cases hqj : q < j
          · have hm1 : (q : Int) < (n : Int) := by omega
            have hm2 : (q : Int) < 30 := by omega
            obtain ⟨g, o, rfl, hc⟩ := hA.out.resolve_left (by omega)
            have c0 := (hc q (by omega)).1
            replace c0 := hL.cell_of c0
            have lc := cell_lt c0
            have g1 : Hid (∀ W : World, Calls Try.prog 9 #[.string S, .int .i64 ((pre f q).length : Int), .int .i64 64] W fun e w' => e = .returned (.tuple #[.int .i64 (f q), .int .i64 (((pre f q).length + (lebL (f q)).length : Nat) : Int), .int .i64 0]) ∧ Later W w') := fun W => h1.out q W hqj
            have g2 : Hid (∀ W : World, Calls Try.prog 11 #[.string S, .int .i64 (((pre f q).length + (lebL (f q)).length : Nat) : Int), .int .i64 64] W fun e w' => e = .returned (.tuple #[.int .i64 (f q), .int .i64 ((pre f (q + 1)).length : Int), .int .i64 0]) ∧ Later W w') := fun W => h2.out q W hqj
            generalize hPq : ((pre f q).length : Int) = Pq at *
            generalize hMq : (((pre f q).length + (lebL (f q)).length : Nat) : Int) = Mq at *
            replace hL : Hid (Later w wr) := hL
            clear hc hPq hMq
            go_wp2_with fail
            refine (g1.out _).mono ?_
            rintro e w2 ⟨rfl, l2⟩
            replace c0 := l2.cell_of c0
            replace lc := cell_lt c0
            replace hL : Hid (Later w w2) := hL.out.trans l2
            clear l2
            go_wp2_with fail
            refine (g2.out _).mono ?_
            rintro e w3 ⟨rfl, l3⟩
            replace c0 := l3.cell_of c0
            replace lc := cell_lt c0
            replace hL : Hid (Later w w3) := hL.out.trans l3
            clear l3 g1 g2
            go_wp2_with (go_at_call 17; refine (num_any _ _).mono ?_; rintro e w' ⟨rfl, hw⟩; obtain rfl : w3 = w' := hw.symm)
            go_roundw
            case rel => exact ⟨q + 1, by omega, by go_num, rfl, hL.out⟩
            case measure => simp [intOf]; omega
          · have hqe : q = j := by omega
            subst hqe
            replace hL : Hid (Later w wr) := hL
            clear hqj hq hlt h1 h2
            go_wp2_with fail
            refine (h3.out _).mono ?_
            rintro e w2 ⟨rfl, l2⟩
            replace hL : Hid (Later w w2) := hL.out.trans l2
            clear l2
            go_wp2_with fail
            refine (h4.out _).mono ?_
            rintro e w3 ⟨rfl, l3⟩
            replace hL : Hid (Later w w3) := hL.out.trans l3
            clear l3
            go_wp2_with (go_at_call 17; refine (num_any _ _).mono ?_; rintro e w' ⟨rfl, hw⟩; obtain rfl : w3 = w' := hw.symm)
            go_ret
            exact ⟨rfl, hL.out⟩
theorem add_pl (b o i : Nat) : (⟨b, o, none⟩ : Addr).add i = ⟨b, o + i, none⟩ := by unfold Addr.add; split <;> simp_all
theorem view_ints {H : Type} {enc : TypeId × Value → H} {W : World} {A : Option Addr} {n cap : Nat} {d : DataW H} {ps : List MemPlace} (h : DataW.Trod enc Try.prog W 0 (fun _ => true) true 36 (.slice A n cap) d ps) :
    ∃ f : Nat → Int, n = 0 ∨ ∃ g o, A = some ⟨g, o, none⟩ ∧ ∀ i, i < n → W.cell? ⟨g, o + i, none⟩ = some (.int .i64 (f i)) ∧ (-9223372036854775808 ≤ f i ∧ f i ≤ 9223372036854775807) := by
  obtain ⟨fuel, hf⟩ := h
  rcases open_ints Try.underlying36 Try.underlying3 (by kernel_rfl) hf with ⟨hcs, hx⟩ | ⟨a, len', cap', zs, hcs, _, hl, hm, hz, hx, hcell, hwz⟩
  · simp [Value.cells] at hcs
    exact ⟨fun _ => 0, Or.inl hcs.2.1⟩
  · simp [Value.cells] at hcs
    obtain ⟨rfl, rfl, rfl⟩ := hcs
    simp only [if_true] at hz
    by_cases h0 : n = 0
    · exact ⟨fun _ => 0, Or.inl h0⟩
    · obtain ⟨b, off, spot⟩ := a
      have hspot : spot = none := by simpa [Addr.add] using World.cell?_spot (hcell 0 (by omega))
      subst hspot
      refine ⟨fun i => zs.getD i 0, Or.inr ⟨b, off, rfl, fun i hi => ⟨by rw [← add_pl]; exact hcell i (by omega), ?_⟩⟩⟩
      have hi2 : i < zs.length := by omega
      have := hwz (zs.getD i 0) (by simp [List.getD, hi2])
      exact wf_i64 this
theorem walk (A : Option Addr) (n cap : Nat) (w : World) (hv : ∃ f : Nat → Int, n = 0 ∨ ∃ g o, A = some ⟨g, o, none⟩ ∧ ∀ i, i < n → w.cell? ⟨g, o + i, none⟩ = some (.int .i64 (f i)) ∧ (-9223372036854775808 ≤ f i ∧ f i ≤ 9223372036854775807)) :
    Calls Try.prog 7 #[.slice A n cap] w fun e w' => e = .returned (.bool true) ∧ Later w w' := by
  obtain ⟨f, hf⟩ := hv
  exact core A n cap f w hf

set_option maxRecDepth 100000 in
theorem lifted (os : Os) (started : os.Started) (H : Type) (enc : TypeId × Value → H) :
    ReturnsInHanded {} Try.checked os 7 .any (Rows.lebRowSpec.pre6 enc Try.prog Try.f7 Rows.lebRowRow.domain false) (Rows.lebRowSpec.post enc Try.prog Try.f7 false true false false) := by
  refine returnsInHanded_of_change_sized (C := Try.checked) own started (by kernel_rfl) Try.func7
    (ChangeSpec.witness6 (enc := enc) (C := Try.checked) false ⟨#[], #[.slice none 0 0], []⟩ 8 (by kernel_rfl) (by kernel_rfl) (by kernel_rfl) (by kernel_rfl)) ?_
  intro W base args ds gs before hval0 hW _ _ _
  have hval : ∀ (j : Nat) t v, Try.f7.params[j]? = some t → args[j]? = some v → Value.okWide Try.prog W .any base t v := hval0
  have hW' := hW
  obtain ⟨p, q, hA0, hV, rfl, hfz, hnd⟩ := hW
  have hA : DataW.TrodAll enc Try.prog W 0 (fun _ => true) true Try.f7.params.toList args.toList ds p := hA0
  rw [Try.params7] at hA hval
  obtain ⟨v0, vs0, d0, ds0, p0, q0, hargs, rfl, rfl, h0, r0⟩ := trodAll_cons hA
  obtain ⟨rfl, rfl, rfl⟩ := trodAll_nil r0
  obtain rfl : args = #[v0] := by cases args; simp_all
  obtain ⟨rfl, rfl⟩ := trodVars_none hV
  obtain ⟨A0, n0, c0, rfl⟩ := okWide_slice Try.underlying36 (hval 0 36 v0 rfl rfl)
  clear hA0 hval0
  simp only [List.append_nil, List.nil_append] at hW'
  have hlt : ∀ x ∈ p0, x.block < W.heap.size := fun x hx => by simpa using hW'.lt x hx
  refine (walk A0 n0 c0 W (view_ints h0)).mono fun e W' ⟨he, hl⟩ => ?_
  subst he
  have hg := hl.grown
  have hbel : Below W.heap.size W W' := by obtain ⟨bs, nn, rfl⟩ := hl; exact ⟨rfl, rfl, rfl, by rw [World.far_size]; omega, fun k hk => World.far_block W bs nn k hk⟩
  have hx : ∀ sp : Nat → Bool, (∀ p ∈ p0, sp p.block = true) → DataW.TrodAll enc Try.prog W' 0 sp true [36] [.slice A0 n0 c0] [d0] (p0) := fun sp hsp => by simpa using (trodAll_cons_mk (WideElems.Trod_stays (by kernel_rfl) (by kernel_rfl) (of_decide_eq_true (by kernel_rfl)) h0 (fun x hx => hbel.same (hlt x (by simp [hx]))) (fun x hx => hsp x (by simp [hx]))) trodAll_mk0)
  exact ⟨_, rfl, post_of_same (pa := p0) (pv := []) hW' (fun _ _ _ => (trodAll_cons_mk (shut_bool Try.underlying4 _) trodAll_mk0)) (fun sp hsp => hx sp hsp) (fun _ _ => rfl) (by simp)
    (hg.frame _) hg.2.1 (ok_one (by kernel_rfl) rfl (okWide_bool_mk Try.underlying4 _))⟩

theorem over : Rows.lebRowRow.holds Try.pinned (OpenSpec.ofChange Rows.lebRowSpec) :=
  OpenClaim.holds_of_wide 7 Try.f7 rfl rfl rfl rfl rfl rfl rfl ⟨rfl, rfl, rfl, rfl, rfl⟩ rfl rfl rfl rfl rfl (by kernel_rfl) Try.func7 (by kernel_rfl)
    (of_decide_eq_true (by kernel_rfl)) (by unfold Func.isWrapper; first | (rw [if_pos (by decide +kernel)]; kernel_rfl) | (rw [if_neg (by decide +kernel)]; exact ⟨rfl, rfl⟩))
    (fun os started H enc _ => lifted os started H enc)


theorem proved : Rows.LebRowSaid := over
end Go.Proofs.Ytljogkiibpinaaa.lebRow
namespace Go.Proofs.Ytljogkiibpinaaa
theorem lebRow_holds : Rows.LebRowSaid := lebRow.proved
#print axioms lebRow_holds
end Go.Proofs.Ytljogkiibpinaaa
