/- 'NameLimits' of package peloruslaw13 returns true at every two ints: how long a name may be; a rune that is cut is none. No condition. -/
import Derived.Test.YthbagkaodcplmaaOW
import Derived.LoopTactic
import Derived.OpenShut
import Derived.ChangeMaps5
import Derived.ShutString
import Derived.SizedLaws
import Derived.Laws.MakeOwn
set_option linter.unusedVariables false
set_option linter.unusedSimpArgs false
set_option maxRecDepth 100000
set_option maxHeartbeats 8000000
namespace Go.Proofs.Ythbagkaodcplmaa.nameLimits
open Go.ChangeShapes Go.WideShapes Go.ChangeAt Go.RowKit
def xs (n : Nat) : List Int := List.replicate n 120
theorem lims (j : Nat) (h : j < 8) : (nmR (strOfNums (xs (60 + j)))).2 = (if j ≤ 4 then 0 else 1301) ∧ (4 < j → (nmR (strOfNums (xs (60 + j)))).1 = ⟨#[]⟩) ∧ (unR (strOfNums [((60 + j : Nat) : Int)] ++ strOfNums (xs (60 + j))) 0).2.2 = (if j ≤ 4 then 0 else 1301) := by
  have hh : ∀ j : Fin 8, (nmR (strOfNums (xs (60 + j.val)))).2 = (if j.val ≤ 4 then 0 else 1301) ∧ (4 < j.val → (nmR (strOfNums (xs (60 + j.val)))).1 = ⟨#[]⟩) ∧ (unR (strOfNums [((60 + j.val : Nat) : Int)] ++ strOfNums (xs (60 + j.val))) 0).2.2 = (if j.val ≤ 4 then 0 else 1301) := by decide +kernel
  exact hh ⟨j, h⟩
theorem conv_n (d : List Int) (hd : ∀ b ∈ d, 0 ≤ b ∧ b < 256) (n : Nat) (hn : d.length = n) (W : World) : (convert 36 9 (.slice (some ⟨W.heap.size, 0, none⟩) n n)).run Try.prog (W.alloc (.cells (bys d).toArray 5)) = .ok (.string (strOfNums d)) (W.alloc (.cells (bys d).toArray 5)) := by
  subst hn
  have hB : Lib.Bytes (W.alloc (.cells (bys d).toArray 5)) W.heap.size 0 (strOfNums d) := Lib.bytes_of_nums rfl hd (fun i hi => by
    rw [Nat.zero_add, cell_of_row _ _ _ _ _ _ (heap_alloc_new W _)]
    simp [bys, List.getD, hi])
  have := Lib.run_convert_whole (P := Try.prog) _ 36 5 9 Try.underlying36 Try.underlying5 Try.underlying9 W.heap.size 0 _ hB d.length
  rwa [strOfNums_size] at this
theorem row_str {w : World} {g n c : Nat} {T : TypeId} {F : Nat → Value} (h : w.rowIs g T n F) (hF : ∀ i, i < n → F i = .int .u8 120) : (convert 36 9 (.slice (some ⟨g, 0, none⟩) n c)).run Try.prog w = .ok (.string (strOfNums (xs n))) w := by
  have hlen : (xs n).length = n := by simp [xs]
  have hB : Lib.Bytes w g 0 (strOfNums (xs n)) := Lib.bytes_of_nums hlen (fun x hx => by obtain rfl := List.eq_of_mem_replicate hx; decide) (fun i hi => by
    rw [Nat.zero_add, h.cell hi, hF i hi]
    simp [xs, List.getD, hi])
  have := Lib.run_convert_whole (P := Try.prog) w 36 5 9 Try.underlying36 Try.underlying5 Try.underlying9 g 0 _ hB c
  rwa [strOfNums_size, hlen] at this
theorem at_7 (x : Int) : ∃ j : Nat, bits .and .i64 x 7 = (j : Int) ∧ j < 8 := ⟨(x % 8).toNat, by rw [show (7 : Int) = ((2 ^ 3 : Nat) - 1 : Int) by decide, BM.and_mask x 3 (by decide)]; omega, by omega⟩
theorem at_1 (x : Int) : bits .and .i64 x 1 = 0 ∨ bits .and .i64 x 1 = 1 := by
  rw [show (1 : Int) = ((2 ^ 1 : Nat) - 1 : Int) by decide, BM.and_mask x 1 (by decide)]
  omega
theorem wr_60 (j : Nat) (h : j < 8) : wrap64 (60 + (j : Int)) = ((60 + j : Nat) : Int) ∧ IntKind.u8.wrap ((60 + j : Nat) : Int) = ((60 + j : Nat) : Int) := by
  constructor
  · unfold wrap64; omega
  · rw [IntKind.wrap_u8]; omega
theorem walk (many cut : Int) (w : World) :
    Calls Try.prog 6 #[.int .i64 many, .int .i64 cut] w fun e w' => e = .returned (.bool true) ∧ Later w w' := by
  obtain ⟨j, hj', hjl⟩ := at_7 many
  obtain ⟨q1, q2⟩ := wr_60 j hjl
  obtain ⟨l1, l2, l3⟩ := lims j hjl
  obtain ⟨d, hd⟩ : ∃ d : Int, d = (j : Int) := ⟨_, rfl⟩
  rw [← hd] at hj' q1
  obtain ⟨n, hn⟩ : ∃ n, n = 60 + j := ⟨_, rfl⟩
  rw [← hn] at q1 q2 l1 l2 l3
  have hn2 : n ≤ 67 := by omega
  have hjn : (j ≤ 4 ∧ n ≤ 64) ∨ (¬ j ≤ 4 ∧ 4 < j ∧ ¬ n ≤ 64) := by omega
  obtain ⟨iv, hv1, hv2, hv3, hv4⟩ := byte_parts
  have hmk : ∀ w' : World, (Instr.makeSlice 36 (.int .i64 (n : Int)) (.int .i64 (n : Int))).run Try.prog w' = .ok (.slice (some ⟨w'.heap.size, 0, none⟩) n n) (w'.alloc (.cells (madeCells #[.int .u8 0] n) 5)) := fun w' => by
    have hr := run_make (P := Try.prog) w' 36 5 iv _ Try.underlying36 hv1 hv2 .i64 .i64 n n (by omega) (Int.le_refl _) (by rw [hv4]; omega) (by omega)
    simp only [Int.toNat_natCast, hv3, Nat.mul_one] at hr
    exact hr
  have hz : (strOfNums (xs n)).size = n := by rw [strOfNums_size]; simp [xs]
  have hz1 : (strOfNums [(n : Int)]).size = 1 := strOfNums_size _
  have hz2 : (strOfNums [(n : Int)] ++ strOfNums (xs n)).size = 1 + n := by rw [ByteArray.size_append, hz, strOfNums_size]; rfl
  have c3 : ∀ (W : World) (g : Nat), g = W.heap.size → (convert 36 9 (.slice (some ⟨g, 0, none⟩) 1 1)).run Try.prog (W.alloc (.cells #[.int .u8 (n : Int)] 5)) = .ok (.string (strOfNums [(n : Int)])) (W.alloc (.cells #[.int .u8 (n : Int)] 5)) := fun W g hg => by
    subst hg
    exact conv_n [(n : Int)] (by simp; omega) 1 rfl W
  have h1 : Hid (∀ w : World, Calls Try.prog 7 #[.string (strOfNums (xs n))] w fun e w' => e = .returned (.tuple #[.string (nmR (strOfNums (xs n))).1, .int .i64 (nmR (strOfNums (xs n))).2]) ∧ Later w w') := fun w => nput_any _ (by omega) w
  have h2 : Hid (∀ w : World, Calls Try.prog 9 #[.string (strOfNums [(n : Int)] ++ strOfNums (xs n)), .int .i64 0] w fun e w' => ∃ t b, e = .returned (.tuple #[.string t, .int .i64 b, .int .i64 (unR (strOfNums [(n : Int)] ++ strOfNums (xs n)) 0).2.2]) ∧ Later w w') := fun w => (nget_any _ (by omega) 0 (by decide) w).mono fun e w' h => ⟨_, _, h⟩
  have h3 : Hid (∀ w : World, Calls Try.prog 11 #[.string { data := #[97, 98, 226, 130, 172] }] w fun e w' => e = .returned (.bool true) ∧ Later w w') := fun w => may_is _ true (by kernel_rfl) (by decide) w
  obtain ⟨E, hE⟩ : ∃ E : Int, (if j ≤ 4 then (0 : Int) else 1301) = E := ⟨_, rfl⟩
  rw [l3, hE] at h2
  rw [l1, hE] at h1
  have hjE : Hid ((E = 0 ∧ n ≤ 64) ∨ (E = 1301 ∧ ¬ n ≤ 64 ∧ (nmR (strOfNums (xs n))).1 = ⟨#[]⟩)) := by
    rcases hjn with ⟨j1, j2⟩ | ⟨j1, j2, j3⟩
    · exact Or.inl ⟨by rw [← hE, if_pos j1], j2⟩
    · exact Or.inr ⟨by rw [← hE, if_neg j1], j3, l2 j2⟩
  clear hjn hE l2
  generalize (nmR (strOfNums (xs n))).1 = P1 at *
  have hrow : Hid (∀ W : World, (W.alloc (.cells (madeCells #[.int .u8 0] n) 5)).rowIs W.heap.size 5 n (fun _ => .int .u8 0)) := fun W => World.rowIs_made W (.int .u8 0) n 5
  generalize madeCells #[.int .u8 0] n = C at *
  have hrs : Hid (∀ (W : World) (g c : Nat) (F : Nat → Value), W.rowIs g 5 n F → (∀ i, i < n → F i = .int .u8 120) → (convert 36 9 (.slice (some ⟨g, 0, none⟩) n c)).run Try.prog W = .ok (.string (strOfNums (xs n))) W) := fun W g c F h1 h2 => row_str h1 h2
  generalize strOfNums (xs n) = X at *
  clear hv1 hv2 hv3 hv4 hd hn l1 l3 hjl
  go_enter Try.func6, Try.ntmps6
  go_wp2_with fail
  refine (awake_any _).mono ?_
  rintro e w1 ⟨rfl, L1⟩
  have hr0 := hrow.out w1
  replace hr0 : Hid _ := hr0
  replace L1 : Hid (Later w w1) := L1
  go_wp2_with fail
  rw [q1]
  clear q1 hj' hmk hrow
  go_loopw [7] (fun i wr => ∃ (k : Nat) (F : Nat → Value), k ≤ n ∧ i = .int .i64 (k : Nat) ∧ Later w1 wr ∧ wr.rowIs w1.heap.size 5 n F ∧ ∀ i, i < k → F i = .int .u8 120) (fun i _ => n - (intOf i).toNat)
  case atStart => exact ⟨0, _, Nat.zero_le _, rfl, La (Lz _), hr0.out, fun i hi => absurd hi (Nat.not_lt_zero _)⟩
  case round =>
    clear hr0
    obtain ⟨k, F, hk, rfl, hL, hR, hF⟩ := hrel
    by_cases hlt : k < n
    · have hl1 : (k : Int) < (n : Int) := by omega
      have z0 := hR.frozen k
      have k0 := hR.cell (i := k) hlt
      have R3 := hR.set k (.int .u8 120)
      have T1 : Turned w1.heap.size wr (wr.setCell ⟨w1.heap.size, k, none⟩ (.int .u8 120)) := (Turned.refl hR).set hR _ _
      have L3 : Hid (Later w1 _) := hL.turned hR (Nat.le_refl _) T1
      replace R3 : Hid _ := R3
      replace hF : Hid (∀ i, i < k → F i = .int .u8 120) := hF
      clear hR hL T1
      go_wp2
      go_roundw
      case rel => exact ⟨k + 1, _, by omega, by go_num, L3.out, R3.out, fun i hi => by
        show (if i = k then _ else F i) = _
        by_cases hik : i = k
        · rw [if_pos hik]
        · rw [if_neg hik]; exact hF.out i (by omega)⟩
      case measure => simp [intOf]; omega
    · have hke : k = n := by omega
      subst hke
      have cv1 := hrs.out wr w1.heap.size k F hR hF
      replace hL : Hid (Later w1 wr) := hL
      replace hR : Hid (wr.rowIs w1.heap.size 5 k F) := hR
      replace hF : Hid (∀ i, i < k → F i = .int .u8 120) := hF
      go_wp2_with fail
      refine (h1.out _).mono ?_
      rintro e w2 ⟨rfl, l2'⟩
      have cv2 := hrs.out w2 w1.heap.size k F (rowIs_later l2' hR.out) hF.out
      have R2 : Hid (w2.rowIs w1.heap.size 5 k F) := rowIs_later l2' hR.out
      have L2 : Hid (Later w w2) := (L1.out.trans hL.out).trans l2'
      clear cv1 hL hR l2' hlt hk L1
      rcases at_1 cut with hcut | hcut
      all_goals
        go_wp2_with fail
        refine (nput_is _ ⟨#[]⟩ 1300 (by kernel_rfl) (by decide) _).mono ?_
        rintro e w3 ⟨rfl, l3⟩
        have cv3 : ∀ W, Later w3 W → (convert 36 9 (.slice (some ⟨w1.heap.size, 0, none⟩) k k)).run Try.prog W = .ok (.string X) W := fun W hl => hrs.out W w1.heap.size k F (rowIs_later (l3.trans hl) R2.out) hF.out
        have cv4 := cv3 (w3.alloc (.cells #[.int .u8 (k : Int)] 5)) (La (Lz _))
        have L3 : Hid (Later w w3) := L2.out.trans l3
        clear cv2 cv3 l3
        go_wp2_with fail
        refine (h2.out _).mono ?_
        rintro e w4 ⟨t4, b4, rfl, l4⟩
        have L4 : Hid (Later w w4) := L3.out.trans ((La (Lz _)).trans l4)
        clear cv4 l4 c3 hz hz1 hz2 q2
        rcases hjE.out with ⟨rfl, j2⟩ | ⟨rfl, j2, rfl⟩
        · have f1 : (k : Int) ≤ 64 := by omega
          clear j2 hn2 hjE
          go_wp2_with (first | (go_at_call 13; refine (num_any _ _).mono ?_; rintro e w' ⟨rfl, hw⟩; obtain rfl : w4 = w' := hw.symm))
          refine (may_is _ true (by kernel_rfl) (by decide) _).mono ?_
          rintro e w5 ⟨rfl, l5⟩
          go_wp2_with fail
          refine (may_is _ false (by kernel_rfl) (by decide) _).mono ?_
          rintro e w6 ⟨rfl, l6⟩
          go_wp2
          go_ret
          exact ⟨rfl, (L4.out.trans l5).trans l6⟩
        · have f1 : decide ((k : Int) ≤ 64) = false := decide_eq_false (by omega)
          clear j2 hn2 hjE
          go_wp2_with (first | (go_at_call 13; refine (num_any _ _).mono ?_; rintro e w' ⟨rfl, hw⟩; obtain rfl : w4 = w' := hw.symm))
          refine (may_is _ true (by kernel_rfl) (by decide) _).mono ?_
          rintro e w5 ⟨rfl, l5⟩
          go_wp2_with fail
          refine (may_is _ false (by kernel_rfl) (by decide) _).mono ?_
          rintro e w6 ⟨rfl, l6⟩
          go_wp2
          go_ret
          exact ⟨rfl, (L4.out.trans l5).trans l6⟩

set_option maxRecDepth 100000 in
theorem lifted (os : Os) (started : os.Started) (H : Type) (enc : TypeId × Value → H) :
    ReturnsInHanded {} Try.checked os 6 .any (Rows.nameLimitsSpec.pre6 enc Try.prog Try.f6 Rows.nameLimitsRow.domain false) (Rows.nameLimitsSpec.post enc Try.prog Try.f6 false true false false) := by
  refine returnsInHanded_of_change_sized (C := Try.checked) own started (by kernel_rfl) Try.func6
    (ChangeSpec.witness6 (enc := enc) (C := Try.checked) false ⟨#[], #[.int .i64 0, .int .i64 0], []⟩ 8 (by kernel_rfl) (by kernel_rfl) (by kernel_rfl) (by kernel_rfl)) ?_
  intro W base args ds gs before hval0 hW _ _ _
  have hval : ∀ (j : Nat) t v, Try.f6.params[j]? = some t → args[j]? = some v → Value.okWide Try.prog W .any base t v := hval0
  have hW' := hW
  obtain ⟨p, q, hA0, hV, rfl, hfz, hnd⟩ := hW
  have hA : DataW.TrodAll enc Try.prog W 0 (fun _ => true) true Try.f6.params.toList args.toList ds p := hA0
  rw [Try.params6] at hA hval
  obtain ⟨v0, vs0, d0, ds0, p0, q0, hargs, rfl, rfl, h0, r0⟩ := trodAll_cons hA
  obtain ⟨v1, vs1, d1, ds1, p1, q1, rfl, rfl, rfl, h1, r1⟩ := trodAll_cons r0
  obtain ⟨rfl, rfl, rfl⟩ := trodAll_nil r1
  obtain rfl : args = #[v0, v1] := by cases args; simp_all
  obtain ⟨rfl, rfl⟩ := trodVars_none hV
  obtain ⟨a0, rfl, rfl, rfl, w0⟩ := open_int Try.underlying3 (hval 0 3 v0 rfl rfl) h0
  obtain ⟨a1, rfl, rfl, rfl, w1⟩ := open_int Try.underlying3 (hval 1 3 v1 rfl rfl) h1
  clear hA0 hval0
  simp only [List.append_nil, List.nil_append] at hW'
  have hlt : ∀ x ∈ ([] : List MemPlace), x.block < W.heap.size := fun x hx => by simpa using hW'.lt x hx
  refine (walk a0 a1 W ).mono fun e W' ⟨he, hl⟩ => ?_
  subst he
  have hbel : Below W.heap.size W W' := by obtain ⟨bs, nn, rfl⟩ := hl; exact ⟨rfl, rfl, rfl, by rw [World.far_size]; omega, fun k hk => World.far_block W bs nn k hk⟩
  have hx : ∀ sp : Nat → Bool, (∀ p ∈ ([] : List MemPlace), sp p.block = true) → DataW.TrodAll enc Try.prog W' 0 sp true [3, 3] [.int .i64 a0, .int .i64 a1] [.lit (.int .i64 a0), .lit (.int .i64 a1)] (([] : List MemPlace)) := fun sp hsp => by simpa using (trodAll_cons_mk (shut_int Try.underlying3 w0) (trodAll_cons_mk (shut_int Try.underlying3 w1) trodAll_mk0))
  exact ⟨_, rfl, post_none hW' (fun _ _ _ => (trodAll_cons_mk (shut_bool Try.underlying4 _) trodAll_mk0)) (fun sp => hx sp (fun p hp => absurd hp List.not_mem_nil)) (fun _ => rfl) (hbel.frame _) (ok_one (by kernel_rfl) rfl (okWide_bool_mk Try.underlying4 _))⟩

theorem over : Rows.nameLimitsRow.holds Try.pinned (OpenSpec.ofChange Rows.nameLimitsSpec) :=
  OpenClaim.holds_of_wide 6 Try.f6 rfl rfl rfl rfl rfl rfl rfl ⟨rfl, rfl, rfl, rfl, rfl⟩ rfl rfl rfl rfl rfl (by kernel_rfl) Try.func6 (by kernel_rfl)
    (of_decide_eq_true (by kernel_rfl)) (by unfold Func.isWrapper; first | (rw [if_pos (by decide +kernel)]; kernel_rfl) | (rw [if_neg (by decide +kernel)]; exact ⟨rfl, rfl⟩))
    (fun os started H enc _ => lifted os started H enc)


theorem proved : Rows.NameLimitsSaid := over
end Go.Proofs.Ythbagkaodcplmaa.nameLimits
namespace Go.Proofs.Ythbagkaodcplmaa
theorem nameLimits_holds : Rows.NameLimitsSaid := nameLimits.proved
#print axioms nameLimits_holds
end Go.Proofs.Ythbagkaodcplmaa
