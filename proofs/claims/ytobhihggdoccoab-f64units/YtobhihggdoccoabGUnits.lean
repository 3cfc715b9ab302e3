/- 'F64Units' of package peloruslaw5 returns true at every int: one time one, by one and less nothing a float stays; by itself it is one, but for zeros and infinities. No condition. -/
import Derived.Test.YtobhihggdoccoabL64A
import Derived.OpenShut
namespace Go.Proofs.Ytobhihggdoccoab.f64Units
open Go.ChangeShapes Go.WideShapes Go.ChangeAt Go.RowKit
open Go.FM (isN fixn qn sw)
set_option linter.unusedVariables false

theorem own : ownKnob Try.prog.godebug = none := by kernel_rfl

set_option maxRecDepth 100000 in
set_option maxHeartbeats 2000000 in
theorem none (x : Int) (r1 : Hid (binI 97 x x = (0, 0))) (r2 : Hid (binI 162 x 4607182418800017408 = (9221120237041090560, 0))) (r3 : Hid (binI 163 x 4607182418800017408 = (9221120237041090560, 0))) (r4 : Hid (binI 161 x 0 = (9221120237041090560, 0))) (r5 : Hid (binI 163 x x = (9221120237041090560, 0))) (w : World) :
    Calls Try.prog 5 #[.int .i64 x] w fun e w' => e = .returned (.bool true) ∧ Grown w w' := by
  go_enter Try.func5, Try.ntmps5
  go_wp2_with fail
  refine (awake_any _).mono ?_
  rintro e w' ⟨rfl, bs45, n45, rfl⟩
  go_wp2_with fail
  refine (cmp_eq (by decide) r1.out _).mono ?_
  rintro e w' ⟨rfl, rfl⟩
  go_wp2_with fail
  refine (bin_eq (Or.inl (by decide)) r2.out _).mono ?_
  rintro e w' ⟨rfl, bs47, n47, rfl⟩
  go_wp2_with fail
  refine (bin_eq (Or.inl (by decide)) r3.out _).mono ?_
  rintro e w' ⟨rfl, bs48, n48, rfl⟩
  go_wp2_with fail
  refine (bin_eq (Or.inl (by decide)) r4.out _).mono ?_
  rintro e w' ⟨rfl, bs49, n49, rfl⟩
  go_wp2_with fail
  refine (bin_eq (Or.inl (by decide)) r5.out _).mono ?_
  rintro e w' ⟨rfl, bs50, n50, rfl⟩
  go_wp2
  all_goals
    go_ret
    exact ⟨rfl, (later_grown (by repeat (first | exact Later.refl _ | refine Later.alloc ?_ | refine Later.far ?_ | refine Later.drewN ?_ | refine Later.drew ?_)))⟩
set_option maxRecDepth 100000 in
set_option maxHeartbeats 2000000 in
theorem endless (x : Int) (r1 : Hid (binI 97 x x = (1, 0))) (r2 : Hid (binI 162 x 4607182418800017408 = (x, 0))) (r3 : Hid (binI 163 x 4607182418800017408 = (x, 0))) (r4 : Hid (binI 161 x 0 = (x, 0))) (r5 : Hid (binI 163 x x = (9221120237041090560, 0))) (t1 : bits .andNot .i64 x (-9223372036854775808) = 9218868437227405312) (w : World) :
    Calls Try.prog 5 #[.int .i64 x] w fun e w' => e = .returned (.bool true) ∧ Grown w w' := by
  go_enter Try.func5, Try.ntmps5
  go_wp2_with fail
  refine (awake_any _).mono ?_
  rintro e w' ⟨rfl, bs51, n51, rfl⟩
  go_wp2_with fail
  refine (cmp_eq (by decide) r1.out _).mono ?_
  rintro e w' ⟨rfl, rfl⟩
  go_wp2_with fail
  refine (bin_eq (Or.inl (by decide)) r2.out _).mono ?_
  rintro e w' ⟨rfl, bs53, n53, rfl⟩
  go_wp2_with fail
  refine (bin_eq (Or.inl (by decide)) r3.out _).mono ?_
  rintro e w' ⟨rfl, bs54, n54, rfl⟩
  go_wp2_with fail
  refine (bin_eq (Or.inl (by decide)) r4.out _).mono ?_
  rintro e w' ⟨rfl, bs55, n55, rfl⟩
  go_wp2_with fail
  refine (bin_eq (Or.inl (by decide)) r5.out _).mono ?_
  rintro e w' ⟨rfl, bs56, n56, rfl⟩
  go_wp2
  all_goals
    go_ret
    exact ⟨rfl, (later_grown (by repeat (first | exact Later.refl _ | refine Later.alloc ?_ | refine Later.far ?_ | refine Later.drewN ?_ | refine Later.drew ?_)))⟩
set_option maxRecDepth 100000 in
set_option maxHeartbeats 2000000 in
theorem zero (x : Int) (r1 : Hid (binI 97 x x = (1, 0))) (r2 : Hid (binI 162 x 4607182418800017408 = (x, 0))) (r3 : Hid (binI 163 x 4607182418800017408 = (x, 0))) (r4 : Hid (binI 161 x 0 = (x, 0))) (r5 : Hid (binI 163 x x = (9221120237041090560, 0))) (t1 : bits .andNot .i64 x (-9223372036854775808) = 0) (w : World) :
    Calls Try.prog 5 #[.int .i64 x] w fun e w' => e = .returned (.bool true) ∧ Grown w w' := by
  go_enter Try.func5, Try.ntmps5
  go_wp2_with fail
  refine (awake_any _).mono ?_
  rintro e w' ⟨rfl, bs57, n57, rfl⟩
  go_wp2_with fail
  refine (cmp_eq (by decide) r1.out _).mono ?_
  rintro e w' ⟨rfl, rfl⟩
  go_wp2_with fail
  refine (bin_eq (Or.inl (by decide)) r2.out _).mono ?_
  rintro e w' ⟨rfl, bs59, n59, rfl⟩
  go_wp2_with fail
  refine (bin_eq (Or.inl (by decide)) r3.out _).mono ?_
  rintro e w' ⟨rfl, bs60, n60, rfl⟩
  go_wp2_with fail
  refine (bin_eq (Or.inl (by decide)) r4.out _).mono ?_
  rintro e w' ⟨rfl, bs61, n61, rfl⟩
  go_wp2_with fail
  refine (bin_eq (Or.inl (by decide)) r5.out _).mono ?_
  rintro e w' ⟨rfl, bs62, n62, rfl⟩
  go_wp2
  all_goals
    go_ret
    exact ⟨rfl, (later_grown (by repeat (first | exact Later.refl _ | refine Later.alloc ?_ | refine Later.far ?_ | refine Later.drewN ?_ | refine Later.drew ?_)))⟩
set_option maxRecDepth 100000 in
set_option maxHeartbeats 2000000 in
theorem plain (x : Int) (r1 : Hid (binI 97 x x = (1, 0))) (r2 : Hid (binI 162 x 4607182418800017408 = (x, 0))) (r3 : Hid (binI 163 x 4607182418800017408 = (x, 0))) (r4 : Hid (binI 161 x 0 = (x, 0))) (r5 : Hid (binI 163 x x = (4607182418800017408, 0))) (q : Int) (t1 : bits .andNot .i64 x (-9223372036854775808) = q) (t2 : (q == 9218868437227405312) = false) (t3 : (q == 0) = false) (w : World) :
    Calls Try.prog 5 #[.int .i64 x] w fun e w' => e = .returned (.bool true) ∧ Grown w w' := by
  go_enter Try.func5, Try.ntmps5
  go_wp2_with fail
  refine (awake_any _).mono ?_
  rintro e w' ⟨rfl, bs63, n63, rfl⟩
  go_wp2_with fail
  refine (cmp_eq (by decide) r1.out _).mono ?_
  rintro e w' ⟨rfl, rfl⟩
  go_wp2_with fail
  refine (bin_eq (Or.inl (by decide)) r2.out _).mono ?_
  rintro e w' ⟨rfl, bs65, n65, rfl⟩
  go_wp2_with fail
  refine (bin_eq (Or.inl (by decide)) r3.out _).mono ?_
  rintro e w' ⟨rfl, bs66, n66, rfl⟩
  go_wp2_with fail
  refine (bin_eq (Or.inl (by decide)) r4.out _).mono ?_
  rintro e w' ⟨rfl, bs67, n67, rfl⟩
  go_wp2_with fail
  refine (bin_eq (Or.inl (by decide)) r5.out _).mono ?_
  rintro e w' ⟨rfl, bs68, n68, rfl⟩
  go_wp2
  all_goals
    go_ret
    exact ⟨rfl, (later_grown (by repeat (first | exact Later.refl _ | refine Later.alloc ?_ | refine Later.far ?_ | refine Later.drewN ?_ | refine Later.drew ?_)))⟩
theorem walk (a0 : Int) (w0 : (Lit.int .i64 a0).wf = true) (w : World) :
    Calls Try.prog 5 #[.int .i64 a0] w fun e w' => e = .returned (.bool true) ∧ Grown w w' := by
  obtain ⟨X, rfl, hXl⟩ := word_of a0 (bounds_i64 w0)
  clear w0
  have hO : (4607182418800017408 : Nat) < 18446744073709551616 := by decide
  have hr := FM.rg64 X
  have o2 := bI 162 X 4607182418800017408 hXl hO (by decide)
  have o3 := bI 163 X 4607182418800017408 hXl hO (by decide)
  have o4 := bI 161 X 0 hXl (by decide) (by decide)
  have o5 := bI 163 X X hXl hXl (by decide)
  rw [sw_1] at o2 o3
  rw [sw_zero] at o4
  rw [f_mul] at o2
  rw [f_div] at o3 o5
  rw [f_sub] at o4
  by_cases hn : isN df X
  · rw [fix_none (FM.mul_nan df hdf X _ hn), sw_q] at o2
    rw [fix_none (FM.div_nan df hdf X _ hn), sw_q] at o3 o5
    rw [fix_none (FM.sub_nan df hdf X _ hn), sw_q] at o4
    exact none (sw X) (b_nan X hXl hn).1 o2 o3 o4 o5 w
  · have q1 := (b_num X hXl hn).1
    rw [fix_some (FM.mul_one df hdf _ X one64 (sw2 X hXl) hn)] at o2
    rw [fix_some (FM.div_one df hdf _ X one64 (sw2 X hXl) hn)] at o3
    rw [fix_some (FM.sub_zero df hdf X (sw2 X hXl) hn)] at o4
    have q5 := FM.div_self df hdf _ X one64' hn
    have hA : bits .andNot .i64 (sw X) (-9223372036854775808) = ((FM.rg df X : Nat) : Int) := by
      rw [FM.andNot_a _ X (FM.sw_mod X hXl), ← hr]
      exact FM.sw_small _ (by rw [hr]; omega)
    by_cases h0 : FM.rg df X = 0
    · rw [fix_none (by rw [q5, if_pos (Or.inl h0)]), sw_q] at o5
      exact zero (sw X) q1 o2 o3 o4 o5 (by rw [hA]; exact congrArg _ h0) w
    by_cases h1 : FM.rg df X = df.infRung
    · rw [fix_none (by rw [q5, if_pos (Or.inr h1)]), sw_q] at o5
      exact endless (sw X) q1 o2 o3 o4 o5 (by rw [hA]; exact congrArg _ (h1.trans FM.inf64)) w
    · rw [fix_some (by rw [q5, if_neg (by rintro (h | h); exact h0 h; exact h1 h)]), sw_1] at o5
      refine plain (sw X) q1 o2 o3 o4 o5 _ hA (beq_eq_false_iff_ne.2 (fun h => h1 ?_)) (beq_eq_false_iff_ne.2 (fun h => h0 ?_)) w
      · show FM.rg Ieee.double X = Ieee.double.infRung
        rw [FM.inf64]; exact Int.ofNat.inj h
      · exact Int.ofNat.inj h

/-! ### THE ROW's STEP: WRITTEN OUT: LEAVE IT -/
set_option maxRecDepth 100000 in
theorem lifted (os : Os) (started : os.Started) (H : Type) (enc : TypeId × Value → H) :
    ReturnsInHanded {} Try.checked os 5 .any (Rows.f64UnitsSpec.pre6 enc Try.prog Try.f5 Rows.f64UnitsRow.domain false) (Rows.f64UnitsSpec.post enc Try.prog Try.f5 false true false false) := by
  refine returnsInHanded_of_change (C := Try.checked) own started (by kernel_rfl) Try.func5
    (ChangeSpec.witness6 (enc := enc) (C := Try.checked) false ⟨#[], #[.int .i64 0], []⟩ 8 (by kernel_rfl) (by kernel_rfl) (by kernel_rfl) (by kernel_rfl)) ?_
  intro W base args ds gs before hval0 hW hcnd _
  have hval : ∀ (j : Nat) t v, Try.f5.params[j]? = some t → args[j]? = some v → Value.okWide Try.prog W .any base t v := hval0
  have hW' := hW
  obtain ⟨p, q, hA0, hV, rfl, hfz, hnd⟩ := hW
  have hA : DataW.TrodAll enc Try.prog W 0 (fun _ => true) true Try.f5.params.toList args.toList ds p := hA0
  rw [Try.params5] at hA hval
  obtain ⟨v0, vs0, d0, ds0, p0, q0, hargs, rfl, rfl, h0, r0⟩ := trodAll_cons hA
  obtain ⟨rfl, rfl, rfl⟩ := trodAll_nil r0
  obtain rfl : args = #[v0] := by cases args; simp_all
  obtain ⟨rfl, rfl⟩ := trodVars_none hV
  obtain ⟨a0, rfl, rfl, rfl, w0⟩ := open_int Try.underlying3 (hval 0 3 v0 rfl rfl) h0
  clear hA0 hval0
  simp only [List.append_nil] at hW'
  refine (walk a0 w0 W).mono fun e W' ⟨he, hg⟩ => ?_
  subst he
  exact ⟨_, rfl, post_of_same (pa := []) (pv := []) hW' (fun _ _ _ => (trodAll_cons_mk (shut_bool Try.underlying4 _) trodAll_mk0)) (fun sp _ => (trodAll_cons_mk (shut_int Try.underlying3 w0) trodAll_mk0)) (fun _ _ => rfl) rfl
    (hg.frame _) hg.2.1 (ok_one (by kernel_rfl) rfl (okWide_bool_mk Try.underlying4 _))⟩

theorem over : Rows.f64UnitsRow.holds Try.pinned (OpenSpec.ofChange Rows.f64UnitsSpec) :=
  OpenClaim.holds_of_wide 5 Try.f5 rfl rfl rfl rfl rfl rfl rfl ⟨rfl, rfl, rfl, rfl, rfl⟩ rfl rfl rfl rfl rfl (by kernel_rfl) Try.func5 (by kernel_rfl)
    (of_decide_eq_true (by kernel_rfl)) (by unfold Func.isWrapper; first | (rw [if_pos (by decide +kernel)]; kernel_rfl) | (rw [if_neg (by decide +kernel)]; exact ⟨rfl, rfl⟩))
    (fun os started H enc _ => lifted os started H enc)

theorem proved : Rows.F64UnitsSaid := over
end Go.Proofs.Ytobhihggdoccoab.f64Units
namespace Go.Proofs.Ytobhihggdoccoab
theorem f64Units_holds : Rows.F64UnitsSaid := f64Units.proved
#print axioms f64Units_holds
end Go.Proofs.Ytobhihggdoccoab

