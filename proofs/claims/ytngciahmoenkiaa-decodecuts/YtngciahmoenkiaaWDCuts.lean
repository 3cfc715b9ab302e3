/- 'DecodeCuts' of package peloruslaw15 returns true at every text and int: a module that is cut within its first section is refused with 1501, and a cut head with 1500. No condition. -/
import Derived.Test.YtngciahmoenkiaaFC
import Derived.Test.YtngciahmoenkiaaFK
import Derived.Test.YtngciahmoenkiaaFZ
import Derived.LoopTactic
import Derived.OpenShut
import Derived.ChangeMaps5
import Derived.ShutString
import Derived.SizedLaws
set_option linter.unusedVariables false
set_option linter.unusedSimpArgs false
set_option maxRecDepth 100000
set_option maxHeartbeats 8000000
namespace Go.Proofs.Ytngciahmoenkiaa.decodeCuts
open Go.ChangeShapes Go.WideShapes Go.ChangeAt Go.RowKit
theorem wrap_j (j : Nat) (h : j ≤ 65536) : wrap64 (j : Int) = (j : Int) := by unfold wrap64; omega
theorem wrap_tj (t j : Nat) (h : t + j ≤ 65536) : wrap64 ((t : Int) + wrap64 (j : Int)) = ((t + j : Nat) : Int) := by unfold wrap64; omega
theorem bad (s : ByteArray) (hs : s.size ≤ 140737488351232) (cut : Int) (c : Int) (hc : ¬ c = 0) (hr : (unM s).2 = c) (w : World) :
    Calls Try.prog 4 #[.string s, .int .i64 cut] w fun e w' => e = .returned (.bool true) ∧ Later w w' := by
  have hm1 : Hid (∀ W, Calls Try.prog 9 #[.string s] W (DcP W c)) := dm_code (by omega) hr
  have hc2 : (c != 0) = true := by simpa using hc
  clear hr
  have hn : Hid (∀ x W, Calls Try.prog 10 #[.int .i64 x] W fun e w' => e = .returned (.int .i64 x) ∧ w' = W) := lnum_any
  go_enter Try.func4, Try.ntmps4
  go_wp2_with (go_at_call 8; refine (awake_any _).mono ?_; rintro e w0 ⟨rfl, l0⟩; replace l0 : Hid (Later w w0) := l0.out)
  refine (hm1.out _).mono ?_
  clear hm1
  rintro e w1 ⟨A1, n1, c1, st1, rfl, l1⟩
  have L1 : Hid (Later w w1) := l0.out.trans l1.out
  clear l0 l1
  go_wp2_with (go_at_call 10; refine (hn.out _ _).mono ?_; rintro e W ⟨rfl, hw⟩; subst hw)
  go_ret
  exact ⟨rfl, La L1.out⟩
theorem small (s : ByteArray) (hs : s.size ≤ 140737488351232) (cut : Int) (h8 : s.size ≤ 8) (hr : (unM s).2 = 0) (w : World) :
    Calls Try.prog 4 #[.string s, .int .i64 cut] w fun e w' => e = .returned (.bool true) ∧ Later w w' := by
  have hm1 : Hid (∀ W, Calls Try.prog 9 #[.string s] W (DcP W 0)) := dm_code (by omega) hr
  have h9 : (s.size : Int) ≤ 8 := by omega
  clear hr
  have hn : Hid (∀ x W, Calls Try.prog 10 #[.int .i64 x] W fun e w' => e = .returned (.int .i64 x) ∧ w' = W) := lnum_any
  go_enter Try.func4, Try.ntmps4
  go_wp2_with (go_at_call 8; refine (awake_any _).mono ?_; rintro e w0 ⟨rfl, l0⟩; replace l0 : Hid (Later w w0) := l0.out)
  refine (hm1.out _).mono ?_
  clear hm1
  rintro e w1 ⟨A1, n1, c1, st1, rfl, l1⟩
  have L1 : Hid (Later w w1) := l0.out.trans l1.out
  clear l0 l1
  go_wp2_with (go_at_call 10; refine (hn.out _ _).mono ?_; rintro e W ⟨rfl, hw⟩; subst hw)
  go_ret
  exact ⟨rfl, La L1.out⟩
theorem zero (s : ByteArray) (hs : s.size ≤ 140737488351232) (cut : Int) (h8 : 8 < s.size) (T : Nat) (hr : (unM s).2 = 0) (hu : ulR s 9 32 = (0, (T : Int), 0)) (w : World) :
    Calls Try.prog 4 #[.string s, .int .i64 cut] w fun e w' => e = .returned (.bool true) ∧ Later w w' := by
  have hm1 : Hid (∀ W, Calls Try.prog 9 #[.string s] W (DcP W 0)) := dm_code (by omega) hr
  have h9 : ¬ (s.size : Int) ≤ 8 := by omega
  have h9d : decide ((s.size : Int) ≤ 8) = false := decide_eq_false h9
  have h9e : decide (s.size ≤ 8) = false := decide_eq_false (by omega)
  have hl : Hid (∀ W, Calls Try.prog 14 #[.string s, .int .i64 9, .int .i64 32] W fun e w' => e = .returned (.tuple #[.int .i64 0, .int .i64 (T : Int), .int .i64 0]) ∧ w' = W) := fun W => by
    have t := unleb_any s (by omega) 9 32 W
    rw [hu] at t
    exact t
  clear hr hu
  have hn : Hid (∀ x W, Calls Try.prog 10 #[.int .i64 x] W fun e w' => e = .returned (.int .i64 x) ∧ w' = W) := lnum_any
  go_enter Try.func4, Try.ntmps4
  go_wp2_with (go_at_call 8; refine (awake_any _).mono ?_; rintro e w0 ⟨rfl, l0⟩; replace l0 : Hid (Later w w0) := l0.out)
  refine (hm1.out _).mono ?_
  clear hm1
  rintro e w1 ⟨A1, n1, c1, st1, rfl, l1⟩
  have L1 : Hid (Later w w1) := l0.out.trans l1.out
  clear l0 l1
  go_wp2_with (first | (go_at_call 10; refine (hn.out _ _).mono ?_; rintro e W ⟨rfl, hw⟩; subst hw) | (go_at_call 14; refine (hl.out _).mono ?_; clear hl; rintro e W ⟨rfl, hw⟩; subst hw))
  go_ret
  exact ⟨rfl, La L1.out⟩
theorem cutk (s : ByteArray) (hs : s.size ≤ 140737488351232) (cut : Int) (h8 : 8 < s.size) (X T K J : Nat) (hX : 0 < X) (hT : T + X ≤ 65536) (hr : (unM s).2 = 0) (hu : ulR s 9 32 = ((X : Int), (T : Int), 0)) (hk : wrap64 ((T : Int) + wrap64 ((IntKind.u64.wrap cut).tmod (X : Int))) = (K : Int)) (hK : K ≤ s.size) (hj : wrap64 ((IntKind.u64.wrap cut).tmod 8) = (J : Int)) (hJ : J < 8) (r1 : unM (s.extract 0 K) = (mdZ 0, 1501)) (r2 : (unM (s.extract 0 J)).2 = 1500) (w : World) :
    Calls Try.prog 4 #[.string s, .int .i64 cut] w fun e w' => e = .returned (.bool true) ∧ Later w w' := by
  replace hk : Hid _ := hk
  replace hj : Hid _ := hj
  have zk := ext_size s K hK
  have zj := ext_size s J (by omega)
  have hm1 : Hid (∀ W, Calls Try.prog 9 #[.string s] W (DcP W 0)) := dm_code (by omega) hr
  have hm2 : Hid (∀ W, Calls Try.prog 9 #[.string (s.extract 0 K)] W (DzP W 1501)) := dm_zero (by omega) r1
  have hm3 : Hid (∀ W, Calls Try.prog 9 #[.string (s.extract 0 J)] W (DcP W 1500)) := dm_code (by omega) r2
  have h9 : ¬ (s.size : Int) ≤ 8 := by omega
  have h9d : decide ((s.size : Int) ≤ 8) = false := decide_eq_false h9
  have h9e : decide (s.size ≤ 8) = false := decide_eq_false (by omega)
  have hl : Hid (∀ W, Calls Try.prog 14 #[.string s, .int .i64 9, .int .i64 32] W fun e w' => e = .returned (.tuple #[.int .i64 (X : Int), .int .i64 (T : Int), .int .i64 0]) ∧ w' = W) := fun W => by
    have t := unleb_any s (by omega) 9 32 W
    rw [hu] at t
    exact t
  have sK : ∀ W : World, (Instr.slice 9 (.string s) none (some (.int .i64 (K : Int))) none).run Try.prog W = .ok (.string (s.extract 0 K)) W := fun W => sl_to s K hK W
  have sJ : ∀ W : World, (Instr.slice 9 (.string s) none (some (.int .i64 (J : Int))) none).run Try.prog W = .ok (.string (s.extract 0 J)) W := fun W => sl_to s J (by omega) W
  have x0 : ¬ (X : Int) = 0 := by omega
  have x1 : ((X : Int) == 0) = false := beq_false x0
  have x2 : (X == 0) = false := by simp; omega
  have x3 : IntKind.u64.wrap (X : Int) = (X : Int) := by rw [IntKind.wrap_u64]; omega
  have x4 : ¬ X = 0 := by omega
  clear hr hu r1 r2 zk zj
  generalize s.extract 0 K = S1 at *
  generalize s.extract 0 J = S2 at *
  clear hK hJ hX hT h8
  replace hk := hk.out
  replace hj := hj.out
  have hn : Hid (∀ x W, Calls Try.prog 10 #[.int .i64 x] W fun e w' => e = .returned (.int .i64 x) ∧ w' = W) := lnum_any
  go_enter Try.func4, Try.ntmps4
  go_wp2_with (go_at_call 8; refine (awake_any _).mono ?_; rintro e w0 ⟨rfl, l0⟩; replace l0 : Hid (Later w w0) := l0.out)
  refine (hm1.out _).mono ?_
  clear hm1
  rintro e w1 ⟨A1, n1, c1, st1, rfl, l1⟩
  have L1 : Hid (Later w w1) := l0.out.trans l1.out
  clear l0 l1
  go_wp2_with (first | (go_at_call 10; refine (hn.out _ _).mono ?_; rintro e W ⟨rfl, hw⟩; subst hw) | (go_at_call 14; refine (hl.out _).mono ?_; clear hl; rintro e W ⟨rfl, hw⟩; subst hw))
  refine (hm2.out _).mono ?_
  clear hm2
  rintro e w2 ⟨A2, c2, rfl, C2, l2⟩
  have L2 : Hid (Later w w2) := (La L1.out).trans l2.out
  have hz : Hid (∀ W, Later w2 W → _) := same_zero C2
  clear L1 l2 C2
  go_wp2_with fail
  refine (hm3.out _).mono ?_
  clear hm3
  rintro e w3 ⟨A3, n3, c3, st3, rfl, l3⟩
  have k3 : Hid (Later w2 w3) := (La (Lz _)).trans l3.out
  have m0 : w3.cell? ⟨w2.heap.size, 0, none⟩ = some (.slice (A2 0) 0 (c2 0)) := l3.out.cell_of (by simp [go_sem])
  have m1 : w3.cell? ⟨w2.heap.size, 1, none⟩ = some (.slice (A2 1) 0 (c2 1)) := l3.out.cell_of (by simp [go_sem])
  have m2 : w3.cell? ⟨w2.heap.size, 2, none⟩ = some (.slice (A2 2) 0 (c2 2)) := l3.out.cell_of (by simp [go_sem])
  have m3 : w3.cell? ⟨w2.heap.size, 3, none⟩ = some (.slice (A2 3) 0 (c2 3)) := l3.out.cell_of (by simp [go_sem])
  have m4 : w3.cell? ⟨w2.heap.size, 4, none⟩ = some (.slice (A2 4) 0 (c2 4)) := l3.out.cell_of (by simp [go_sem])
  have m5 : w3.cell? ⟨w2.heap.size, 5, none⟩ = some (.slice (A2 5) 0 (c2 5)) := l3.out.cell_of (by simp [go_sem])
  have m6 : w3.cell? ⟨w2.heap.size, 6, none⟩ = some (.slice (A2 6) 0 (c2 6)) := l3.out.cell_of (by simp [go_sem])
  have m7 : w3.cell? ⟨w2.heap.size, 7, none⟩ = some (.int .i64 0) := l3.out.cell_of (by simp [go_sem])
  have m8 : w3.cell? ⟨w2.heap.size, 8, none⟩ = some (.slice (A2 8) 0 (c2 8)) := l3.out.cell_of (by simp [go_sem])
  have m9 : w3.cell? ⟨w2.heap.size, 9, none⟩ = some (.slice (A2 9) 0 (c2 9)) := l3.out.cell_of (by simp [go_sem])
  have m10 : w3.cell? ⟨w2.heap.size, 10, none⟩ = some (.slice (A2 10) 0 (c2 10)) := l3.out.cell_of (by simp [go_sem])
  have lm := cell_lt m0
  have L3 : Hid (Later w w3) := L2.out.trans k3.out
  clear L2 l3
  go_wp2_with (first | (go_at_call 10; refine (hn.out _ _).mono ?_; rintro e W ⟨rfl, hw⟩; subst hw) | (go_at_call 12; refine (hz.out _ (k3.out.trans (by repeat first | exact Lz _ | apply La | apply Ld))).mono ?_; clear hz; rintro e w4 ⟨rfl, l4⟩; replace l4 : Hid _ := l4))
  go_ret
  exact ⟨rfl, L3.out.trans (Later.trans (by repeat first | exact Lz _ | apply La | apply Ld) l4.out)⟩
theorem walk (s : ByteArray) (hs : s.size ≤ 140737488351232) (cut : Int) (w : World) :
    Calls Try.prog 4 #[.string s, .int .i64 cut] w fun e w' => e = .returned (.bool true) ∧ Later w w' := by
  obtain ⟨c, hc⟩ : ∃ c, (unM s).2 = c := ⟨_, rfl⟩
  by_cases h0 : c = 0
  · subst h0
    by_cases h8 : s.size ≤ 8
    · exact small s hs cut h8 hc w
    · have h8 : 8 < s.size := Nat.lt_of_not_le h8
      obtain ⟨h1, X, T, hu, h9, hT, hcut⟩ := un_cut (s := s) (M := (unM s).1) (Prod.ext rfl hc) h8
      by_cases hX : X = 0
      · subst hX
        exact zero s hs cut h8 T hc hu w
      · have hw : 0 ≤ IntKind.u64.wrap cut ∧ IntKind.u64.wrap cut < 18446744073709551616 := by rw [IntKind.wrap_u64]; omega
        have e1 : (IntKind.u64.wrap cut).tmod (X : Int) = IntKind.u64.wrap cut % (X : Int) := Int.tmod_eq_emod_of_nonneg hw.1
        have e2 : (IntKind.u64.wrap cut).tmod 8 = IntKind.u64.wrap cut % 8 := Int.tmod_eq_emod_of_nonneg hw.1
        have b1 := Int.emod_nonneg (IntKind.u64.wrap cut) (show (X : Int) ≠ 0 by omega)
        have b2 := Int.emod_lt_of_pos (IntKind.u64.wrap cut) (show (0 : Int) < X by omega)
        obtain ⟨j, hj⟩ := Int.eq_ofNat_of_zero_le b1
        obtain ⟨J, hJ⟩ := Int.eq_ofNat_of_zero_le (show 0 ≤ IntKind.u64.wrap cut % 8 by omega)
        have J8 : J < 8 := by omega
        rw [hj] at b2
        refine cutk s hs cut h8 X T (T + j) J (by omega) (by omega) hc hu ?_ (by omega) ?_ J8 (hcut (T + j) (by omega) (by omega)) ?_ w
        · rw [e1, hj]
          exact wrap_tj T j (by omega)
        · rw [e2, hJ]
          exact wrap_j J (by omega)
        · rw [un_short (by rw [ext_size s J (by omega)]; exact J8)]
  · exact bad s hs cut c h0 hc w

set_option maxRecDepth 100000 in
theorem lifted (os : Os) (started : os.Started) (H : Type) (enc : TypeId × Value → H) :
    ReturnsInHanded {} Try.checked os 4 .any (Rows.decodeCutsSpec.pre6 enc Try.prog Try.f4 Rows.decodeCutsRow.domain false) (Rows.decodeCutsSpec.post enc Try.prog Try.f4 false true false false) := by
  refine returnsInHanded_of_change_sized (C := Try.checked) own started (by kernel_rfl) Try.func4
    (ChangeSpec.witness6 (enc := enc) (C := Try.checked) false ⟨#[], #[.string ⟨#[]⟩, .int .i64 0], []⟩ 8 (by kernel_rfl) (by kernel_rfl) (by kernel_rfl) (by kernel_rfl)) ?_
  intro W base args ds gs before hval0 hW _ hsz0 _
  have hval : ∀ (j : Nat) t v, Try.f4.params[j]? = some t → args[j]? = some v → Value.okWide Try.prog W .any base t v := hval0
  have hW' := hW
  obtain ⟨p, q, hA0, hV, rfl, hfz, hnd⟩ := hW
  have hA : DataW.TrodAll enc Try.prog W 0 (fun _ => true) true Try.f4.params.toList args.toList ds p := hA0
  rw [Try.params4] at hA hval
  obtain ⟨v0, vs0, d0, ds0, p0, q0, hargs, rfl, rfl, h0, r0⟩ := trodAll_cons hA
  obtain ⟨v1, vs1, d1, ds1, p1, q1, rfl, rfl, rfl, h1, r1⟩ := trodAll_cons r0
  obtain ⟨rfl, rfl, rfl⟩ := trodAll_nil r1
  obtain rfl : args = #[v0, v1] := by cases args; simp_all
  obtain ⟨rfl, rfl⟩ := trodVars_none hV
  obtain ⟨a0, rfl, rfl, rfl, w0⟩ := ChangeMaps.open_string Try.underlying9 (hval 0 9 v0 rfl rfl) h0
  have hs0 : a0.size ≤ 140737488351232 := by
    have hs := sized_string hsz0 (j := 0) (t := 9) (bytes := a0.data.toList) rfl rfl
    unfold reachBytes at hs
    simpa using hs
  obtain ⟨a1, rfl, rfl, rfl, w1⟩ := open_int Try.underlying3 (hval 1 3 v1 rfl rfl) h1
  clear hA0 hval0
  simp only [List.append_nil, List.nil_append] at hW'
  have hlt : ∀ x ∈ ([] : List MemPlace), x.block < W.heap.size := fun x hx => by simpa using hW'.lt x hx
  refine (walk a0 hs0 a1 W ).mono fun e W' ⟨he, hl⟩ => ?_
  subst he
  have hbel : Below W.heap.size W W' := by obtain ⟨bs, nn, rfl⟩ := hl; exact ⟨rfl, rfl, rfl, by rw [World.far_size]; omega, fun k hk => World.far_block W bs nn k hk⟩
  have hx : ∀ sp : Nat → Bool, (∀ p ∈ ([] : List MemPlace), sp p.block = true) → DataW.TrodAll enc Try.prog W' 0 sp true [9, 3] [.string a0, .int .i64 a1] [.lit (.string a0.data.toList), .lit (.int .i64 a1)] (([] : List MemPlace)) := fun sp hsp => by simpa using (trodAll_cons_mk (ChangeMaps.shut_string Try.underlying9 w0) (trodAll_cons_mk (shut_int Try.underlying3 w1) trodAll_mk0))
  exact ⟨_, rfl, post_none hW' (fun _ _ _ => (trodAll_cons_mk (shut_bool Try.underlying4 _) trodAll_mk0)) (fun sp => hx sp (fun p hp => absurd hp List.not_mem_nil)) (fun _ => rfl) (hbel.frame _) (ok_one (by kernel_rfl) rfl (okWide_bool_mk Try.underlying4 _))⟩

theorem over : Rows.decodeCutsRow.holds Try.pinned (OpenSpec.ofChange Rows.decodeCutsSpec) :=
  OpenClaim.holds_of_wide 4 Try.f4 rfl rfl rfl rfl rfl rfl rfl ⟨rfl, rfl, rfl, rfl, rfl⟩ rfl rfl rfl rfl rfl (by kernel_rfl) Try.func4 (by kernel_rfl)
    (of_decide_eq_true (by kernel_rfl)) (by unfold Func.isWrapper; first | (rw [if_pos (by decide +kernel)]; kernel_rfl) | (rw [if_neg (by decide +kernel)]; exact ⟨rfl, rfl⟩))
    (fun os started H enc _ => lifted os started H enc)


theorem proved : Rows.DecodeCutsSaid := over
end Go.Proofs.Ytngciahmoenkiaa.decodeCuts
namespace Go.Proofs.Ytngciahmoenkiaa
theorem decodeCuts_holds : Rows.DecodeCutsSaid := decodeCuts.proved
#print axioms decodeCuts_holds
end Go.Proofs.Ytngciahmoenkiaa
