/- 'ConvSteps' of package peloruslaw6 returns true at every two ints: a float does not fall as the number grows. No condition. -/
import Derived.Test.YtibfjlibkaejnabL6
import Derived.Test.YtibfjlibkaejnabMaskI
import Derived.OpenShut
import Derived.LoopTactic
import Derived.RowKit3
namespace Go.Proofs.Ytibfjlibkaejnab.convSteps
open Go.ChangeShapes Go.WideShapes Go.ChangeAt Go.RowKit
open Go.FM (isN fixn qn sw otherW fromW cutI tval small ofI)
set_option linter.unusedVariables false

theorem own : ownKnob Try.prog.godebug = none := by kernel_rfl

/-- a number's float and a greater one's -/
def Step (op y z : Int) : Prop := ∃ a b, Hid (ofI op y = (a, 0)) ∧ Hid (ofI op z = (b, 0)) ∧ a ≤ b ∧ 0 ≤ a
set_option maxRecDepth 100000 in
set_option maxHeartbeats 2000000 in
theorem plain (x v y z d : Int) (hy : x / 2 = y) (h0 : 0 ≤ y) (hd : bits .and .i64 v 65535 = d) (hz : y + d = z) (yl : -9223372036854775808 ≤ y) (yh : y ≤ 9223372036854775807) (zl : -9223372036854775808 ≤ z) (zh : z ≤ 9223372036854775807) (T0 : Hid (Step 180 y z)) (T1 : Hid (Step 181 y z)) (T2 : Hid (Step 185 y z)) (T3 : Hid (Step 186 y z)) (w : World) :
    Calls Try.prog 4 #[.int .i64 x, .int .i64 v] w fun e w' => e = .returned (.bool true) ∧ Grown w w' := by
  go_enter Try.func4, Try.ntmps4
  go_wp2_with fail
  refine (awake_any _).mono ?_
  rintro e w' ⟨rfl, bs0, n0, rfl⟩
  go_wp2
  go_loopw [8] (fun i wr => ∃ j : Nat, j ≤ 4 ∧ i = .int .i64 (j : Int) ∧ Later ((w.far bs0 n0).alloc (Obj.cells #[Value.int .i64 180, Value.int .i64 181, Value.int .i64 185, Value.int .i64 186] 3)) wr) (fun i _ => 4 - (intOf i).toNat)
  case atStart => exact ⟨0, by decide, rfl, Later.refl _⟩
  case round =>
    obtain ⟨j, hj, rfl, bs, n, rfl⟩ := hrel
    have hc : j = 0 ∨ j = 1 ∨ j = 2 ∨ j = 3 ∨ j = 4 := by omega
    clear hj
    rcases hc with rfl | rfl | rfl | rfl | rfl
    · obtain ⟨a, b, r1, r2, h1, h2⟩ := T0.out
      clear T0 T1 T2 T3
      go_wp2_with fail
      refine (of_eq (Or.inl (by decide)) r1.out _).mono ?_
      rintro e w' ⟨rfl, bs1, n1, rfl⟩
      go_wp2_with fail
      refine (of_eq (Or.inl (by decide)) r2.out _).mono ?_
      rintro e w' ⟨rfl, bs2, n2, rfl⟩
      go_wp2_with (go_at_call 7; refine (num_any _ _).mono ?_; rintro e w' ⟨rfl, rfl⟩)
      go_roundw
      case rel => exact ⟨1, by decide, rfl, (by repeat (first | exact Later.refl _ | refine Later.alloc ?_ | refine Later.far ?_ | refine Later.drewN ?_ | refine Later.drew ?_))⟩
      case measure => simp [intOf]
    · obtain ⟨a, b, r1, r2, h1, h2⟩ := T1.out
      clear T0 T1 T2 T3
      go_wp2_with fail
      refine (of_eq (Or.inl (by decide)) r1.out _).mono ?_
      rintro e w' ⟨rfl, bs1, n1, rfl⟩
      go_wp2_with fail
      refine (of_eq (Or.inl (by decide)) r2.out _).mono ?_
      rintro e w' ⟨rfl, bs2, n2, rfl⟩
      go_wp2_with (go_at_call 7; refine (num_any _ _).mono ?_; rintro e w' ⟨rfl, rfl⟩)
      go_roundw
      case rel => exact ⟨2, by decide, rfl, (by repeat (first | exact Later.refl _ | refine Later.alloc ?_ | refine Later.far ?_ | refine Later.drewN ?_ | refine Later.drew ?_))⟩
      case measure => simp [intOf]
    · obtain ⟨a, b, r1, r2, h1, h2⟩ := T2.out
      clear T0 T1 T2 T3
      go_wp2_with fail
      refine (of_eq (Or.inl (by decide)) r1.out _).mono ?_
      rintro e w' ⟨rfl, bs1, n1, rfl⟩
      go_wp2_with fail
      refine (of_eq (Or.inl (by decide)) r2.out _).mono ?_
      rintro e w' ⟨rfl, bs2, n2, rfl⟩
      go_wp2_with (go_at_call 7; refine (num_any _ _).mono ?_; rintro e w' ⟨rfl, rfl⟩)
      go_roundw
      case rel => exact ⟨3, by decide, rfl, (by repeat (first | exact Later.refl _ | refine Later.alloc ?_ | refine Later.far ?_ | refine Later.drewN ?_ | refine Later.drew ?_))⟩
      case measure => simp [intOf]
    · obtain ⟨a, b, r1, r2, h1, h2⟩ := T3.out
      clear T0 T1 T2 T3
      go_wp2_with fail
      refine (of_eq (Or.inl (by decide)) r1.out _).mono ?_
      rintro e w' ⟨rfl, bs1, n1, rfl⟩
      go_wp2_with fail
      refine (of_eq (Or.inl (by decide)) r2.out _).mono ?_
      rintro e w' ⟨rfl, bs2, n2, rfl⟩
      go_wp2_with (go_at_call 7; refine (num_any _ _).mono ?_; rintro e w' ⟨rfl, rfl⟩)
      go_roundw
      case rel => exact ⟨4, by decide, rfl, (by repeat (first | exact Later.refl _ | refine Later.alloc ?_ | refine Later.far ?_ | refine Later.drewN ?_ | refine Later.drew ?_))⟩
      case measure => simp [intOf]
    · go_wp2
      go_ret
      exact ⟨rfl, later_grown (Later.trans (Later.alloc (Later.far (Later.refl _))) (by repeat (first | exact Later.refl _ | refine Later.alloc ?_ | refine Later.far ?_ | refine Later.drewN ?_ | refine Later.drew ?_)))⟩
set_option maxRecDepth 100000 in
set_option maxHeartbeats 2000000 in
theorem minus (x v y0 y1 y z z0 d : Int) (hy : x / 2 = y0) (h0 : y0 < 0) (hd : bits .and .i64 v 65535 = d) (hz0 : y0 + d = z0) (h1 : y0 + 1 = y1) (h2 : -y1 = y) (hz : y + d = z) (y0l : -9223372036854775808 ≤ y0) (y0h : y0 ≤ 9223372036854775807) (y1l : -9223372036854775808 ≤ y1) (y1h : y1 ≤ 9223372036854775807) (yl : -9223372036854775808 ≤ y) (yh : y ≤ 9223372036854775807) (zl : -9223372036854775808 ≤ z) (zh : z ≤ 9223372036854775807) (z0l : -9223372036854775808 ≤ z0) (z0h : z0 ≤ 9223372036854775807) (T0 : Hid (Step 180 y z)) (T1 : Hid (Step 181 y z)) (T2 : Hid (Step 185 y z)) (T3 : Hid (Step 186 y z)) (w : World) :
    Calls Try.prog 4 #[.int .i64 x, .int .i64 v] w fun e w' => e = .returned (.bool true) ∧ Grown w w' := by
  go_enter Try.func4, Try.ntmps4
  go_wp2_with fail
  refine (awake_any _).mono ?_
  rintro e w' ⟨rfl, bs0, n0, rfl⟩
  go_wp2
  go_loopw [8] (fun i wr => ∃ j : Nat, j ≤ 4 ∧ i = .int .i64 (j : Int) ∧ Later ((w.far bs0 n0).alloc (Obj.cells #[Value.int .i64 180, Value.int .i64 181, Value.int .i64 185, Value.int .i64 186] 3)) wr) (fun i _ => 4 - (intOf i).toNat)
  case atStart => exact ⟨0, by decide, rfl, Later.refl _⟩
  case round =>
    obtain ⟨j, hj, rfl, bs, n, rfl⟩ := hrel
    have hc : j = 0 ∨ j = 1 ∨ j = 2 ∨ j = 3 ∨ j = 4 := by omega
    clear hj
    rcases hc with rfl | rfl | rfl | rfl | rfl
    · obtain ⟨a, b, r1, r2, h1, h2⟩ := T0.out
      clear T0 T1 T2 T3
      go_wp2_with fail
      refine (of_eq (Or.inl (by decide)) r1.out _).mono ?_
      rintro e w' ⟨rfl, bs1, n1, rfl⟩
      go_wp2_with fail
      refine (of_eq (Or.inl (by decide)) r2.out _).mono ?_
      rintro e w' ⟨rfl, bs2, n2, rfl⟩
      go_wp2_with (go_at_call 7; refine (num_any _ _).mono ?_; rintro e w' ⟨rfl, rfl⟩)
      go_roundw
      case rel => exact ⟨1, by decide, rfl, (by repeat (first | exact Later.refl _ | refine Later.alloc ?_ | refine Later.far ?_ | refine Later.drewN ?_ | refine Later.drew ?_))⟩
      case measure => simp [intOf]
    · obtain ⟨a, b, r1, r2, h1, h2⟩ := T1.out
      clear T0 T1 T2 T3
      go_wp2_with fail
      refine (of_eq (Or.inl (by decide)) r1.out _).mono ?_
      rintro e w' ⟨rfl, bs1, n1, rfl⟩
      go_wp2_with fail
      refine (of_eq (Or.inl (by decide)) r2.out _).mono ?_
      rintro e w' ⟨rfl, bs2, n2, rfl⟩
      go_wp2_with (go_at_call 7; refine (num_any _ _).mono ?_; rintro e w' ⟨rfl, rfl⟩)
      go_roundw
      case rel => exact ⟨2, by decide, rfl, (by repeat (first | exact Later.refl _ | refine Later.alloc ?_ | refine Later.far ?_ | refine Later.drewN ?_ | refine Later.drew ?_))⟩
      case measure => simp [intOf]
    · obtain ⟨a, b, r1, r2, h1, h2⟩ := T2.out
      clear T0 T1 T2 T3
      go_wp2_with fail
      refine (of_eq (Or.inl (by decide)) r1.out _).mono ?_
      rintro e w' ⟨rfl, bs1, n1, rfl⟩
      go_wp2_with fail
      refine (of_eq (Or.inl (by decide)) r2.out _).mono ?_
      rintro e w' ⟨rfl, bs2, n2, rfl⟩
      go_wp2_with (go_at_call 7; refine (num_any _ _).mono ?_; rintro e w' ⟨rfl, rfl⟩)
      go_roundw
      case rel => exact ⟨3, by decide, rfl, (by repeat (first | exact Later.refl _ | refine Later.alloc ?_ | refine Later.far ?_ | refine Later.drewN ?_ | refine Later.drew ?_))⟩
      case measure => simp [intOf]
    · obtain ⟨a, b, r1, r2, h1, h2⟩ := T3.out
      clear T0 T1 T2 T3
      go_wp2_with fail
      refine (of_eq (Or.inl (by decide)) r1.out _).mono ?_
      rintro e w' ⟨rfl, bs1, n1, rfl⟩
      go_wp2_with fail
      refine (of_eq (Or.inl (by decide)) r2.out _).mono ?_
      rintro e w' ⟨rfl, bs2, n2, rfl⟩
      go_wp2_with (go_at_call 7; refine (num_any _ _).mono ?_; rintro e w' ⟨rfl, rfl⟩)
      go_roundw
      case rel => exact ⟨4, by decide, rfl, (by repeat (first | exact Later.refl _ | refine Later.alloc ?_ | refine Later.far ?_ | refine Later.drewN ?_ | refine Later.drew ?_))⟩
      case measure => simp [intOf]
    · go_wp2
      go_ret
      exact ⟨rfl, later_grown (Later.trans (Later.alloc (Later.far (Later.refl _))) (by repeat (first | exact Later.refl _ | refine Later.alloc ?_ | refine Later.far ?_ | refine Later.drewN ?_ | refine Later.drew ?_)))⟩
theorem step (op : Int) (h : op = 180 ∨ op = 181 ∨ op = 185 ∨ op = 186) (y z : Nat) (h1 : y ≤ z) (h2 : z < 9223372036854775808) : Step op (y : Int) (z : Int) := by
  have m1 := FM.from_mono Ieee.single y z h1
  have m2 := FM.from_mono Ieee.double y z h1
  have i1 := FM.from_inf Ieee.double y
  have i2 := FM.from_inf Ieee.double z
  rw [FM.inf64] at i1 i2
  have e1 : (y : Int) % 18446744073709551616 = (y : Int) := by omega
  have e2 : (z : Int) % 18446744073709551616 = (z : Int) := by omega
  unfold Step
  rcases h with rfl | rfl | rfl | rfl
  · exact ⟨_, _, FM.of_180 _, FM.of_180 _, by omega, by omega⟩
  · refine ⟨_, _, FM.of_181 _, FM.of_181 _, ?_, ?_⟩
    · rw [e1, e2]; omega
    · omega
  · refine ⟨_, _, FM.of_185 _, FM.of_185 _, ?_, ?_⟩
    · rw [FM.sw_small _ (by omega), FM.sw_small _ (by omega)]; omega
    · rw [FM.sw_small _ (by omega)]; omega
  · refine ⟨_, _, FM.of_186 _, FM.of_186 _, ?_, ?_⟩
    · rw [e1, e2, FM.sw_small _ (by omega), FM.sw_small _ (by omega)]; omega
    · rw [e1, FM.sw_small _ (by omega)]; omega
theorem walk (a0 : Int) (a1 : Int) (w0 : (Lit.int .i64 a0).wf = true) (w1 : (Lit.int .i64 a1).wf = true) (w : World) :
    Calls Try.prog 4 #[.int .i64 a0, .int .i64 a1] w fun e w' => e = .returned (.bool true) ∧ Grown w w' := by
  have hb := bounds_i64 w0
  clear w0 w1
  have m1 := MI.and_mask a1 16 (by decide)
  obtain ⟨d, hd, hd0, hd1⟩ : ∃ d : Int, a1 % (2 ^ 16 : Nat) = d ∧ 0 ≤ d ∧ d ≤ 65535 := ⟨_, rfl, by omega, by omega⟩
  rw [hd] at m1
  by_cases h : 0 ≤ a0 / 2
  · have S := fun op h => step op h (a0 / 2).toNat (a0 / 2 + d).toNat (by omega) (by omega)
    rw [show (((a0 / 2).toNat : Nat) : Int) = a0 / 2 from by omega, show (((a0 / 2 + d).toNat : Nat) : Int) = a0 / 2 + d from by omega] at S
    exact plain a0 a1 (a0 / 2) (a0 / 2 + d) d rfl h m1 rfl (by omega) (by omega) (by omega) (by omega) (S 180 (by decide)) (S 181 (by decide)) (S 185 (by decide)) (S 186 (by decide)) w
  · have S := fun op h => step op h (-(a0 / 2 + 1)).toNat (-(a0 / 2 + 1) + d).toNat (by omega) (by omega)
    rw [show (((-(a0 / 2 + 1)).toNat : Nat) : Int) = -(a0 / 2 + 1) from by omega, show (((-(a0 / 2 + 1) + d).toNat : Nat) : Int) = -(a0 / 2 + 1) + d from by omega] at S
    exact minus a0 a1 (a0 / 2) (a0 / 2 + 1) (-(a0 / 2 + 1)) (-(a0 / 2 + 1) + d) (a0 / 2 + d) d rfl (by omega) m1 rfl rfl rfl rfl (by omega) (by omega) (by omega) (by omega) (by omega) (by omega) (by omega) (by omega) (by omega) (by omega) (S 180 (by decide)) (S 181 (by decide)) (S 185 (by decide)) (S 186 (by decide)) w

/-! ### THE ROW's STEP: WRITTEN OUT: LEAVE IT -/
set_option maxRecDepth 100000 in
theorem lifted (os : Os) (started : os.Started) (H : Type) (enc : TypeId × Value → H) :
    ReturnsInHanded {} Try.checked os 4 .any (Rows.convStepsSpec.pre6 enc Try.prog Try.f4 Rows.convStepsRow.domain false) (Rows.convStepsSpec.post enc Try.prog Try.f4 false true false false) := by
  refine returnsInHanded_of_change (C := Try.checked) own started (by kernel_rfl) Try.func4
    (ChangeSpec.witness6 (enc := enc) (C := Try.checked) false ⟨#[], #[.int .i64 0, .int .i64 0], []⟩ 8 (by kernel_rfl) (by kernel_rfl) (by kernel_rfl) (by kernel_rfl)) ?_
  intro W base args ds gs before hval0 hW hcnd _
  have hval : ∀ (j : Nat) t v, Try.f4.params[j]? = some t → args[j]? = some v → Value.okWide Try.prog W .any base t v := hval0
  have hW' := hW
  obtain ⟨p, q, hA0, hV, rfl, hfz, hnd⟩ := hW
  have hA : DataW.TrodAll enc Try.prog W 0 (fun _ => true) true Try.f4.params.toList args.toList ds p := hA0
  rw [Try.params4] at hA hval
  obtain ⟨v0, vs0, d0, ds0, p0, q0, hargs, rfl, rfl, h0, r0⟩ := trodAll_cons hA
  obtain ⟨v1, vs1, d1, ds1, p1, q1, rfl, rfl, rfl, h1, r1⟩ := trodAll_cons r0
  obtain ⟨rfl, rfl, rfl⟩ := trodAll_nil r1
  obtain rfl : args = #[v0, v1] := by cases args; simp_all
  obtain ⟨rfl, rfl⟩ := trodVars_none hV
  obtain ⟨a0, rfl, rfl, rfl, w0⟩ := open_int Try.underlying3 (hval 0 3 v0 rfl rfl) h0
  obtain ⟨a1, rfl, rfl, rfl, w1⟩ := open_int Try.underlying3 (hval 1 3 v1 rfl rfl) h1
  clear hA0 hval0
  simp only [List.append_nil] at hW'
  refine (walk a0 a1 w0 w1 W).mono fun e W' ⟨he, hg⟩ => ?_
  subst he
  exact ⟨_, rfl, post_of_same (pa := []) (pv := []) hW' (fun _ _ _ => (trodAll_cons_mk (shut_bool Try.underlying4 _) trodAll_mk0)) (fun sp _ => (trodAll_cons_mk (shut_int Try.underlying3 w0) (trodAll_cons_mk (shut_int Try.underlying3 w1) trodAll_mk0))) (fun _ _ => rfl) rfl
    (hg.frame _) hg.2.1 (ok_one (by kernel_rfl) rfl (okWide_bool_mk Try.underlying4 _))⟩

theorem over : Rows.convStepsRow.holds Try.pinned (OpenSpec.ofChange Rows.convStepsSpec) :=
  OpenClaim.holds_of_wide 4 Try.f4 rfl rfl rfl rfl rfl rfl rfl ⟨rfl, rfl, rfl, rfl, rfl⟩ rfl rfl rfl rfl rfl (by kernel_rfl) Try.func4 (by kernel_rfl)
    (of_decide_eq_true (by kernel_rfl)) (by unfold Func.isWrapper; first | (rw [if_pos (by decide +kernel)]; kernel_rfl) | (rw [if_neg (by decide +kernel)]; exact ⟨rfl, rfl⟩))
    (fun os started H enc _ => lifted os started H enc)

theorem proved : Rows.ConvStepsSaid := over
end Go.Proofs.Ytibfjlibkaejnab.convSteps
namespace Go.Proofs.Ytibfjlibkaejnab
theorem convSteps_holds : Rows.ConvStepsSaid := convSteps.proved
#print axioms convSteps_holds
end Go.Proofs.Ytibfjlibkaejnab

