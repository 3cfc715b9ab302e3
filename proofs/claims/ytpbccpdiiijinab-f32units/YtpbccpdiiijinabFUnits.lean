/- 'F32Units' of package peloruslaw4 returns true at every int: one time one, by one and less nothing a float stays; by itself it is one, but for zeros and infinities. No condition. -/
import Derived.Test.YtpbccpdiiijinabL32A
import Derived.OpenShut
namespace Go.Proofs.Ytpbccpdiiijinab.f32Units
open Go.ChangeShapes Go.WideShapes Go.ChangeAt Go.RowKit
open Go.FM (isN fixn qn)
set_option linter.unusedVariables false

theorem own : ownKnob Try.prog.godebug = none := by kernel_rfl

set_option maxRecDepth 100000 in
set_option maxHeartbeats 2000000 in
theorem none (a x : Int) (hx : bits .and .i64 a 4294967295 = x) (r1 : Hid (binI 91 x x = (0, 0))) (r2 : Hid (binI 148 x 1065353216 = (2143289344, 0))) (r3 : Hid (binI 149 x 1065353216 = (2143289344, 0))) (r4 : Hid (binI 147 x 0 = (2143289344, 0))) (r5 : Hid (binI 149 x x = (2143289344, 0))) (w : World) :
    Calls Try.prog 3 #[.int .i64 a] w fun e w' => e = .returned (.bool true) ∧ Grown w w' := by
  go_enter Try.func3, Try.ntmps3
  go_wp2_with fail
  refine (awake_any _).mono ?_
  rintro e w' ⟨rfl, bs39, n39, rfl⟩
  go_wp2_with fail
  refine (cmp_eq (by decide) r1.out _).mono ?_
  rintro e w' ⟨rfl, rfl⟩
  go_wp2_with fail
  refine (bin_eq r2.out _).mono ?_
  rintro e w' ⟨rfl, bs40, n40, rfl⟩
  go_wp2_with fail
  refine (bin_eq r3.out _).mono ?_
  rintro e w' ⟨rfl, bs41, n41, rfl⟩
  go_wp2_with fail
  refine (bin_eq r4.out _).mono ?_
  rintro e w' ⟨rfl, bs42, n42, rfl⟩
  go_wp2_with fail
  refine (bin_eq r5.out _).mono ?_
  rintro e w' ⟨rfl, bs43, n43, rfl⟩
  go_wp2
  all_goals
    go_ret
    exact ⟨rfl, (later_grown (by repeat (first | exact Later.refl _ | refine Later.alloc ?_ | refine Later.far ?_ | refine Later.drewN ?_ | refine Later.drew ?_)))⟩
set_option maxRecDepth 100000 in
set_option maxHeartbeats 2000000 in
theorem endless (a x : Int) (hx : bits .and .i64 a 4294967295 = x) (r1 : Hid (binI 91 x x = (1, 0))) (r2 : Hid (binI 148 x 1065353216 = (x, 0))) (r3 : Hid (binI 149 x 1065353216 = (x, 0))) (r4 : Hid (binI 147 x 0 = (x, 0))) (r5 : Hid (binI 149 x x = (2143289344, 0))) (t1 : bits .andNot .i64 x 2147483648 = 2139095040) (w : World) :
    Calls Try.prog 3 #[.int .i64 a] w fun e w' => e = .returned (.bool true) ∧ Grown w w' := by
  go_enter Try.func3, Try.ntmps3
  go_wp2_with fail
  refine (awake_any _).mono ?_
  rintro e w' ⟨rfl, bs44, n44, rfl⟩
  go_wp2_with fail
  refine (cmp_eq (by decide) r1.out _).mono ?_
  rintro e w' ⟨rfl, rfl⟩
  go_wp2_with fail
  refine (bin_eq r2.out _).mono ?_
  rintro e w' ⟨rfl, bs45, n45, rfl⟩
  go_wp2_with fail
  refine (bin_eq r3.out _).mono ?_
  rintro e w' ⟨rfl, bs46, n46, rfl⟩
  go_wp2_with fail
  refine (bin_eq r4.out _).mono ?_
  rintro e w' ⟨rfl, bs47, n47, rfl⟩
  go_wp2_with fail
  refine (bin_eq r5.out _).mono ?_
  rintro e w' ⟨rfl, bs48, n48, rfl⟩
  go_wp2
  all_goals
    go_ret
    exact ⟨rfl, (later_grown (by repeat (first | exact Later.refl _ | refine Later.alloc ?_ | refine Later.far ?_ | refine Later.drewN ?_ | refine Later.drew ?_)))⟩
set_option maxRecDepth 100000 in
set_option maxHeartbeats 2000000 in
theorem zero (a x : Int) (hx : bits .and .i64 a 4294967295 = x) (r1 : Hid (binI 91 x x = (1, 0))) (r2 : Hid (binI 148 x 1065353216 = (x, 0))) (r3 : Hid (binI 149 x 1065353216 = (x, 0))) (r4 : Hid (binI 147 x 0 = (x, 0))) (r5 : Hid (binI 149 x x = (2143289344, 0))) (t1 : bits .andNot .i64 x 2147483648 = 0) (w : World) :
    Calls Try.prog 3 #[.int .i64 a] w fun e w' => e = .returned (.bool true) ∧ Grown w w' := by
  go_enter Try.func3, Try.ntmps3
  go_wp2_with fail
  refine (awake_any _).mono ?_
  rintro e w' ⟨rfl, bs49, n49, rfl⟩
  go_wp2_with fail
  refine (cmp_eq (by decide) r1.out _).mono ?_
  rintro e w' ⟨rfl, rfl⟩
  go_wp2_with fail
  refine (bin_eq r2.out _).mono ?_
  rintro e w' ⟨rfl, bs50, n50, rfl⟩
  go_wp2_with fail
  refine (bin_eq r3.out _).mono ?_
  rintro e w' ⟨rfl, bs51, n51, rfl⟩
  go_wp2_with fail
  refine (bin_eq r4.out _).mono ?_
  rintro e w' ⟨rfl, bs52, n52, rfl⟩
  go_wp2_with fail
  refine (bin_eq r5.out _).mono ?_
  rintro e w' ⟨rfl, bs53, n53, rfl⟩
  go_wp2
  all_goals
    go_ret
    exact ⟨rfl, (later_grown (by repeat (first | exact Later.refl _ | refine Later.alloc ?_ | refine Later.far ?_ | refine Later.drewN ?_ | refine Later.drew ?_)))⟩
set_option maxRecDepth 100000 in
set_option maxHeartbeats 2000000 in
theorem plain (a x : Int) (hx : bits .and .i64 a 4294967295 = x) (r1 : Hid (binI 91 x x = (1, 0))) (r2 : Hid (binI 148 x 1065353216 = (x, 0))) (r3 : Hid (binI 149 x 1065353216 = (x, 0))) (r4 : Hid (binI 147 x 0 = (x, 0))) (r5 : Hid (binI 149 x x = (1065353216, 0))) (q : Int) (t1 : bits .andNot .i64 x 2147483648 = q) (t2 : (q == 2139095040) = false) (t3 : (q == 0) = false) (w : World) :
    Calls Try.prog 3 #[.int .i64 a] w fun e w' => e = .returned (.bool true) ∧ Grown w w' := by
  go_enter Try.func3, Try.ntmps3
  go_wp2_with fail
  refine (awake_any _).mono ?_
  rintro e w' ⟨rfl, bs54, n54, rfl⟩
  go_wp2_with fail
  refine (cmp_eq (by decide) r1.out _).mono ?_
  rintro e w' ⟨rfl, rfl⟩
  go_wp2_with fail
  refine (bin_eq r2.out _).mono ?_
  rintro e w' ⟨rfl, bs55, n55, rfl⟩
  go_wp2_with fail
  refine (bin_eq r3.out _).mono ?_
  rintro e w' ⟨rfl, bs56, n56, rfl⟩
  go_wp2_with fail
  refine (bin_eq r4.out _).mono ?_
  rintro e w' ⟨rfl, bs57, n57, rfl⟩
  go_wp2_with fail
  refine (bin_eq r5.out _).mono ?_
  rintro e w' ⟨rfl, bs58, n58, rfl⟩
  go_wp2
  all_goals
    go_ret
    exact ⟨rfl, (later_grown (by repeat (first | exact Later.refl _ | refine Later.alloc ?_ | refine Later.far ?_ | refine Later.drewN ?_ | refine Later.drew ?_)))⟩

theorem walk (a0 : Int) (w0 : (Lit.int .i64 a0).wf = true) (w : World) :
    Calls Try.prog 3 #[.int .i64 a0] w fun e w' => e = .returned (.bool true) ∧ Grown w w' := by
  obtain ⟨X, hX, hXl⟩ := low_word a0
  have hO : (1065353216 : Nat) < 4294967296 := by decide
  have hr := FM.rg32 X
  by_cases hn : isN sf X
  · refine none a0 X hX (b_nan X hXl hn).1 ?_ ?_ ?_ ?_ w
    · show _ = _; rw [show (1065353216 : Int) = ((1065353216 : Nat) : Int) from rfl, bI 148 X _ hXl hO (by decide), f_mul, fix_none (FM.mul_nan sf hsf X _ hn)]; rfl
    · show _ = _; rw [show (1065353216 : Int) = ((1065353216 : Nat) : Int) from rfl, bI 149 X _ hXl hO (by decide), f_div, fix_none (FM.div_nan sf hsf X _ hn)]; rfl
    · have h := bI 147 X 0 hXl (by decide) (by decide)
      rw [f_sub, fix_none (FM.sub_nan sf hsf X _ hn)] at h
      exact h
    · show _ = _; rw [bI 149 X X hXl hXl (by decide), f_div, fix_none (FM.div_nan sf hsf X X hn)]; rfl
  · have q1 := (b_num X hXl hn).1
    have q2 : binI 148 X 1065353216 = ((X : Int), 0) := by
      rw [show (1065353216 : Int) = ((1065353216 : Nat) : Int) from rfl, bI 148 X _ hXl hO (by decide), f_mul, fix_some (FM.mul_one sf hsf _ X one32 (sw2 X hXl) hn)]
    have q3 : binI 149 X 1065353216 = ((X : Int), 0) := by
      rw [show (1065353216 : Int) = ((1065353216 : Nat) : Int) from rfl, bI 149 X _ hXl hO (by decide), f_div, fix_some (FM.div_one sf hsf _ X one32 (sw2 X hXl) hn)]
    have q4 : binI 147 X 0 = ((X : Int), 0) := by
      have h := bI 147 X 0 hXl (by decide) (by decide)
      rw [f_sub, fix_some (FM.sub_zero sf hsf X (sw2 X hXl) hn)] at h
      exact h
    have q5 := FM.div_self sf hsf _ X one32' hn
    have hA := FM.andNot_top X hXl
    by_cases h0 : FM.rg sf X = 0
    · refine zero a0 X hX q1 q2 q3 q4 ?_ (by rw [hA, ← hr]; exact congrArg _ h0) w
      show _ = _; rw [bI 149 X X hXl hXl (by decide), f_div, fix_none (by rw [q5, if_pos (Or.inl h0)])]; rfl
    by_cases h1 : FM.rg sf X = sf.infRung
    · refine endless a0 X hX q1 q2 q3 q4 ?_ (by rw [hA, ← hr]; exact congrArg _ (h1.trans FM.inf32)) w
      show _ = _; rw [bI 149 X X hXl hXl (by decide), f_div, fix_none (by rw [q5, if_pos (Or.inr h1)])]; rfl
    · refine plain a0 X hX q1 q2 q3 q4 ?_ _ hA (beq_eq_false_iff_ne.2 (fun h => h1 ?_)) (beq_eq_false_iff_ne.2 (fun h => h0 ?_)) w
      · show _ = _; rw [bI 149 X X hXl hXl (by decide), f_div, fix_some (by rw [q5, if_neg (by rintro (h | h); exact h0 h; exact h1 h)])]; rfl
      · show FM.rg Ieee.single X = Ieee.single.infRung
        rw [hr, FM.inf32]; omega
      · show FM.rg Ieee.single X = 0
        rw [hr]; omega

/-! ### THE ROW's STEP: WRITTEN OUT: LEAVE IT -/
set_option maxRecDepth 100000 in
theorem lifted (os : Os) (started : os.Started) (H : Type) (enc : TypeId × Value → H) :
    ReturnsInHanded {} Try.checked os 3 .any (Rows.f32UnitsSpec.pre6 enc Try.prog Try.f3 Rows.f32UnitsRow.domain false) (Rows.f32UnitsSpec.post enc Try.prog Try.f3 false true false false) := by
  refine returnsInHanded_of_change (C := Try.checked) own started (by kernel_rfl) Try.func3
    (ChangeSpec.witness6 (enc := enc) (C := Try.checked) false ⟨#[], #[.int .i64 0], []⟩ 8 (by kernel_rfl) (by kernel_rfl) (by kernel_rfl) (by kernel_rfl)) ?_
  intro W base args ds gs before hval0 hW hcnd _
  have hval : ∀ (j : Nat) t v, Try.f3.params[j]? = some t → args[j]? = some v → Value.okWide Try.prog W .any base t v := hval0
  have hW' := hW
  obtain ⟨p, q, hA0, hV, rfl, hfz, hnd⟩ := hW
  have hA : DataW.TrodAll enc Try.prog W 0 (fun _ => true) true Try.f3.params.toList args.toList ds p := hA0
  rw [Try.params3] at hA hval
  obtain ⟨v0, vs0, d0, ds0, p0, q0, hargs, rfl, rfl, h0, r0⟩ := trodAll_cons hA
  obtain ⟨rfl, rfl, rfl⟩ := trodAll_nil r0
  obtain rfl : args = #[v0] := by cases args; simp_all
  obtain ⟨rfl, rfl⟩ := trodVars_none hV
  obtain ⟨a0, rfl, rfl, rfl, w0⟩ := open_int Try.underlying3 (hval 0 3 v0 rfl rfl) h0
  clear hA0 hval0
  simp only [List.append_nil] at hW'
  refine (walk a0 w0 W).mono fun e W' ⟨he, hg⟩ => ?_
  subst he
  exact ⟨_, rfl, post_of_same (pa := []) (pv := []) hW' (fun _ _ _ => (trodAll_cons_mk (shut_bool Try.underlying4 _) trodAll_mk0)) (fun sp _ => (trodAll_cons_mk (shut_int Try.underlying3 w0) trodAll_mk0)) (fun _ _ => rfl) rfl
    (hg.frame _) hg.2.1 (ok_one (by kernel_rfl) rfl (okWide_bool_mk Try.underlying4 _))⟩

theorem over : Rows.f32UnitsRow.holds Try.pinned (OpenSpec.ofChange Rows.f32UnitsSpec) :=
  OpenClaim.holds_of_wide 3 Try.f3 rfl rfl rfl rfl rfl rfl rfl ⟨rfl, rfl, rfl, rfl, rfl⟩ rfl rfl rfl rfl rfl (by kernel_rfl) Try.func3 (by kernel_rfl)
    (of_decide_eq_true (by kernel_rfl)) (by unfold Func.isWrapper; first | (rw [if_pos (by decide +kernel)]; kernel_rfl) | (rw [if_neg (by decide +kernel)]; exact ⟨rfl, rfl⟩))
    (fun os started H enc _ => lifted os started H enc)

theorem proved : Rows.F32UnitsSaid := over
end Go.Proofs.Ytpbccpdiiijinab.f32Units
namespace Go.Proofs.Ytpbccpdiiijinab
theorem f32Units_holds : Rows.F32UnitsSaid := f32Units.proved
#print axioms f32Units_holds
end Go.Proofs.Ytpbccpdiiijinab

