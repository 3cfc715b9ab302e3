/- 'ConvWide' of package peloruslaw6 returns true at every int: numbers are made wider with their sign or without, and cut again. No condition. -/
import Derived.Test.YtibfjlibkaejnaaL6
import Derived.Test.YtibfjlibkaejnaaMaskI
import Derived.OpenShut
import Derived.RowKit3
namespace Go.Proofs.Ytibfjlibkaejnaa.convWide
open Go.ChangeShapes Go.WideShapes Go.ChangeAt Go.RowKit
open Go.FM (isN fixn qn sw otherW fromW cutI tval small ofI)
set_option linter.unusedVariables false

theorem own : ownKnob Try.prog.godebug = none := by kernel_rfl

set_option maxRecDepth 100000 in
set_option maxHeartbeats 2000000 in
theorem plain (x y : Int) (r1 : Hid (ofI 172 x = (y, 0))) (r2 : Hid (ofI 173 x = (y, 0))) (r3 : Hid (ofI 167 y = (y, 0))) (t : bits .and .i64 x 4294967295 = y) (h0 : 0 ≤ y) (h1 : y < 2147483648) (w : World) :
    Calls Try.prog 7 #[.int .i64 x] w fun e w' => e = .returned (.bool true) ∧ Grown w w' := by
  have v1 : decide (y < 0) = false := decide_eq_false (by omega)
  have v2 : decide (2147483648 ≤ y) = false := decide_eq_false (by omega)
  go_enter Try.func7, Try.ntmps7
  go_wp2_with fail
  refine (awake_any _).mono ?_
  rintro e w' ⟨rfl, bs0, n0, rfl⟩
  go_wp2_with fail
  refine (of_eq (Or.inl (by decide)) r1.out _).mono ?_
  rintro e w' ⟨rfl, bs1, n1, rfl⟩
  go_wp2_with fail
  refine (of_eq (Or.inl (by decide)) r2.out _).mono ?_
  rintro e w' ⟨rfl, bs2, n2, rfl⟩
  go_wp2_with fail
  refine (of_eq (Or.inl (by decide)) r3.out _).mono ?_
  rintro e w' ⟨rfl, bs3, n3, rfl⟩
  go_wp2_with fail
  refine (of_eq (Or.inl (by decide)) r3.out _).mono ?_
  rintro e w' ⟨rfl, bs4, n4, rfl⟩
  go_wp2_with (go_at_call 11; refine (num_any _ _).mono ?_; rintro e w' ⟨rfl, rfl⟩)
  all_goals
    go_ret
    exact ⟨rfl, (later_grown (by repeat (first | exact Later.refl _ | refine Later.alloc ?_ | refine Later.far ?_ | refine Later.drewN ?_ | refine Later.drew ?_)))⟩
set_option maxRecDepth 100000 in
set_option maxHeartbeats 2000000 in
theorem minus (x y a : Int) (r1 : Hid (ofI 172 x = (a, 0))) (r2 : Hid (ofI 173 x = (y, 0))) (r3 : Hid (ofI 167 a = (y, 0))) (r4 : Hid (ofI 167 y = (y, 0))) (t : bits .and .i64 x 4294967295 = y) (hs : y - 4294967296 = a) (h0 : -2147483648 ≤ a) (h1 : a < 0) (h2 : 2147483648 ≤ y) (w : World) :
    Calls Try.prog 7 #[.int .i64 x] w fun e w' => e = .returned (.bool true) ∧ Grown w w' := by
  have v1 : ¬ a = y := by omega
  have v2 : a ≤ 9223372036854775807 := by omega
  have v3 : -9223372036854775808 ≤ a := by omega
  have v4 : decide (a < 0) = true := decide_eq_true (by omega)
  have v5 : decide (2147483648 ≤ y) = true := decide_eq_true (by omega)
  go_enter Try.func7, Try.ntmps7
  go_wp2_with fail
  refine (awake_any _).mono ?_
  rintro e w' ⟨rfl, bs0, n0, rfl⟩
  go_wp2_with fail
  refine (of_eq (Or.inl (by decide)) r1.out _).mono ?_
  rintro e w' ⟨rfl, bs1, n1, rfl⟩
  go_wp2_with fail
  refine (of_eq (Or.inl (by decide)) r2.out _).mono ?_
  rintro e w' ⟨rfl, bs2, n2, rfl⟩
  go_wp2_with fail
  refine (of_eq (Or.inl (by decide)) r3.out _).mono ?_
  rintro e w' ⟨rfl, bs3, n3, rfl⟩
  go_wp2_with fail
  refine (of_eq (Or.inl (by decide)) r4.out _).mono ?_
  rintro e w' ⟨rfl, bs4, n4, rfl⟩
  go_wp2_with (go_at_call 11; refine (num_any _ _).mono ?_; rintro e w' ⟨rfl, rfl⟩)
  all_goals
    go_ret
    exact ⟨rfl, (later_grown (by repeat (first | exact Later.refl _ | refine Later.alloc ?_ | refine Later.far ?_ | refine Later.drewN ?_ | refine Later.drew ?_)))⟩
theorem walk (a0 : Int) (w0 : (Lit.int .i64 a0).wf = true) (w : World) :
    Calls Try.prog 7 #[.int .i64 a0] w fun e w' => e = .returned (.bool true) ∧ Grown w w' := by
  have m := MI.and_mask a0 32 (by decide)
  have r1 := FM.of_172 a0
  have r2 := FM.of_173 a0
  have r3 := FM.of_167 (FM.s32 a0)
  have r4 := FM.of_167 (a0 % 4294967296)
  have e1 : FM.s32 a0 % 4294967296 = a0 % 4294967296 := by unfold FM.s32; omega
  rw [e1] at r3
  rw [Int.emod_emod] at r4
  by_cases h : a0 % 4294967296 < 2147483648
  · have e2 : FM.s32 a0 = a0 % 4294967296 := by unfold FM.s32; omega
    rw [e2] at r1 r3
    exact plain a0 (a0 % 4294967296) r1 r2 r3 m (by omega) h w
  · exact minus a0 (a0 % 4294967296) (FM.s32 a0) r1 r2 r3 r4 m (by unfold FM.s32; omega) (by unfold FM.s32; omega) (by unfold FM.s32; omega) (by omega) w

/-! ### THE ROW's STEP: WRITTEN OUT: LEAVE IT -/
set_option maxRecDepth 100000 in
theorem lifted (os : Os) (started : os.Started) (H : Type) (enc : TypeId × Value → H) :
    ReturnsInHanded {} Try.checked os 7 .any (Rows.convWideSpec.pre6 enc Try.prog Try.f7 Rows.convWideRow.domain false) (Rows.convWideSpec.post enc Try.prog Try.f7 false true false false) := by
  refine returnsInHanded_of_change (C := Try.checked) own started (by kernel_rfl) Try.func7
    (ChangeSpec.witness6 (enc := enc) (C := Try.checked) false ⟨#[], #[.int .i64 0], []⟩ 8 (by kernel_rfl) (by kernel_rfl) (by kernel_rfl) (by kernel_rfl)) ?_
  intro W base args ds gs before hval0 hW hcnd _
  have hval : ∀ (j : Nat) t v, Try.f7.params[j]? = some t → args[j]? = some v → Value.okWide Try.prog W .any base t v := hval0
  have hW' := hW
  obtain ⟨p, q, hA0, hV, rfl, hfz, hnd⟩ := hW
  have hA : DataW.TrodAll enc Try.prog W 0 (fun _ => true) true Try.f7.params.toList args.toList ds p := hA0
  rw [Try.params7] at hA hval
  obtain ⟨v0, vs0, d0, ds0, p0, q0, hargs, rfl, rfl, h0, r0⟩ := trodAll_cons hA
  obtain ⟨rfl, rfl, rfl⟩ := trodAll_nil r0
  obtain rfl : args = #[v0] := by cases args; simp_all
  obtain ⟨rfl, rfl⟩ := trodVars_none hV
  obtain ⟨a0, rfl, rfl, rfl, w0⟩ := open_int Try.underlying3 (hval 0 3 v0 rfl rfl) h0
  clear hA0 hval0
  simp only [List.append_nil] at hW'
  refine (walk a0 w0 W).mono fun e W' ⟨he, hg⟩ => ?_
  subst he
  exact ⟨_, rfl, post_of_same (pa := []) (pv := []) hW' (fun _ _ _ => (trodAll_cons_mk (shut_bool Try.underlying4 _) trodAll_mk0)) (fun sp _ => (trodAll_cons_mk (shut_int Try.underlying3 w0) trodAll_mk0)) (fun _ _ => rfl) rfl
    (hg.frame _) hg.2.1 (ok_one (by kernel_rfl) rfl (okWide_bool_mk Try.underlying4 _))⟩

theorem over : Rows.convWideRow.holds Try.pinned (OpenSpec.ofChange Rows.convWideSpec) :=
  OpenClaim.holds_of_wide 7 Try.f7 rfl rfl rfl rfl rfl rfl rfl ⟨rfl, rfl, rfl, rfl, rfl⟩ rfl rfl rfl rfl rfl (by kernel_rfl) Try.func7 (by kernel_rfl)
    (of_decide_eq_true (by kernel_rfl)) (by unfold Func.isWrapper; first | (rw [if_pos (by decide +kernel)]; kernel_rfl) | (rw [if_neg (by decide +kernel)]; exact ⟨rfl, rfl⟩))
    (fun os started H enc _ => lifted os started H enc)

theorem proved : Rows.ConvWideSaid := over
end Go.Proofs.Ytibfjlibkaejnaa.convWide
namespace Go.Proofs.Ytibfjlibkaejnaa
theorem convWide_holds : Rows.ConvWideSaid := convWide.proved
#print axioms convWide_holds
end Go.Proofs.Ytibfjlibkaejnaa

