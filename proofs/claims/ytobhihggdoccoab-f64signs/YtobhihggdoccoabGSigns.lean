/- 'F64Signs' of package peloruslaw5 returns true at every two ints: abs, neg and copysign turn the sign bit alone. No condition. -/
import Derived.Test.YtobhihggdoccoabL64A
import Derived.OpenShut
namespace Go.Proofs.Ytobhihggdoccoab.f64Signs
open Go.ChangeShapes Go.WideShapes Go.ChangeAt Go.RowKit
open Go.FM (isN fixn qn sw)
set_option linter.unusedVariables false

theorem own : ownKnob Try.prog.godebug = none := by kernel_rfl

set_option maxRecDepth 100000 in
set_option maxHeartbeats 2000000 in
theorem core (x y p q r v : Int) (r1 : Hid (unI 153 x = (p, 0))) (r2 : Hid (unI 154 x = (q, 0))) (r3 : Hid (binI 166 x y = (r, 0))) (r4 : Hid (binI 166 p y = (r, 0)))
    (t1 : bits .andNot .i64 x (-9223372036854775808) = p) (t2 : bits .xor .i64 x (-9223372036854775808) = q) (t3 : bits .and .i64 y (-9223372036854775808) = v) (t4 : bits .or .i64 p v = r) (w : World) :
    Calls Try.prog 4 #[.int .i64 x, .int .i64 y] w fun e w' => e = .returned (.bool true) ∧ Grown w w' := by
  go_enter Try.func4, Try.ntmps4
  go_wp2_with fail
  refine (awake_any _).mono ?_
  rintro e w' ⟨rfl, bs1, n1, rfl⟩
  go_wp2_with fail
  refine (un_eq r1.out _).mono ?_
  rintro e w' ⟨rfl, bs2, n2, rfl⟩
  go_wp2_with fail
  refine (un_eq r2.out _).mono ?_
  rintro e w' ⟨rfl, bs3, n3, rfl⟩
  go_wp2_with fail
  refine (bin_eq (Or.inl (by decide)) r3.out _).mono ?_
  rintro e w' ⟨rfl, bs4, n4, rfl⟩
  go_wp2_with fail
  refine (bin_eq (Or.inl (by decide)) r4.out _).mono ?_
  rintro e w' ⟨rfl, bs5, n5, rfl⟩
  go_wp2
  all_goals
    go_ret
    exact ⟨rfl, (later_grown (by repeat (first | exact Later.refl _ | refine Later.alloc ?_ | refine Later.far ?_ | refine Later.drewN ?_ | refine Later.drew ?_)))⟩
theorem walk (a0 : Int) (a1 : Int) (w0 : (Lit.int .i64 a0).wf = true) (w1 : (Lit.int .i64 a1).wf = true) (w : World) :
    Calls Try.prog 4 #[.int .i64 a0, .int .i64 a1] w fun e w' => e = .returned (.bool true) ∧ Grown w w' := by
  obtain ⟨X, rfl, hXl⟩ := word_of a0 (bounds_i64 w0)
  clear w0
  obtain ⟨Y, rfl, hYl⟩ := word_of a1 (bounds_i64 w1)
  clear w1
  have hm : X % 9223372036854775808 < 18446744073709551616 := by omega
  refine core (sw X) (sw Y) (sw (X % 9223372036854775808)) (sw (X ^^^ 9223372036854775808)) (sw (X % 9223372036854775808 ||| (Y &&& 9223372036854775808))) (sw (Y &&& 9223372036854775808)) ?_ ?_ ?_ ?_ (FM.andNot_a _ X (FM.sw_mod X hXl)) (FM.xor_a _ _ X _ (FM.sw_mod X hXl) FM.top_mod) (FM.and_a _ _ Y _ (FM.sw_mod Y hYl) FM.top_mod) (FM.or_a _ _ _ _ (FM.sw_mod _ hm) (FM.sw_mod _ (Nat.lt_of_le_of_lt Nat.and_le_right (by decide)))) w
  · show _ = _; rw [uI 153 X hXl (by decide), unW_153]
  · show _ = _; rw [uI 154 X hXl (by decide), unW_154]
  · show _ = _; rw [bI 166 X Y hXl hYl (by decide), f_sign]
  · show _ = _; rw [bI 166 _ Y hm hYl (by decide), f_sign, Nat.mod_mod]

/-! ### THE ROW's STEP: WRITTEN OUT: LEAVE IT -/
set_option maxRecDepth 100000 in
theorem lifted (os : Os) (started : os.Started) (H : Type) (enc : TypeId × Value → H) :
    ReturnsInHanded {} Try.checked os 4 .any (Rows.f64SignsSpec.pre6 enc Try.prog Try.f4 Rows.f64SignsRow.domain false) (Rows.f64SignsSpec.post enc Try.prog Try.f4 false true false false) := by
  refine returnsInHanded_of_change (C := Try.checked) own started (by kernel_rfl) Try.func4
    (ChangeSpec.witness6 (enc := enc) (C := Try.checked) false ⟨#[], #[.int .i64 0, .int .i64 0], []⟩ 8 (by kernel_rfl) (by kernel_rfl) (by kernel_rfl) (by kernel_rfl)) ?_
  intro W base args ds gs before hval0 hW hcnd _
  have hval : ∀ (j : Nat) t v, Try.f4.params[j]? = some t → args[j]? = some v → Value.okWide Try.prog W .any base t v := hval0
  have hW' := hW
  obtain ⟨p, q, hA0, hV, rfl, hfz, hnd⟩ := hW
  have hA : DataW.TrodAll enc Try.prog W 0 (fun _ => true) true Try.f4.params.toList args.toList ds p := hA0
  rw [Try.params4] at hA hval
  obtain ⟨v0, vs0, d0, ds0, p0, q0, hargs, rfl, rfl, h0, r0⟩ := trodAll_cons hA
  obtain ⟨v1, vs1, d1, ds1, p1, q1, rfl, rfl, rfl, h1, r1⟩ := trodAll_cons r0
  obtain ⟨rfl, rfl, rfl⟩ := trodAll_nil r1
  obtain rfl : args = #[v0, v1] := by cases args; simp_all
  obtain ⟨rfl, rfl⟩ := trodVars_none hV
  obtain ⟨a0, rfl, rfl, rfl, w0⟩ := open_int Try.underlying3 (hval 0 3 v0 rfl rfl) h0
  obtain ⟨a1, rfl, rfl, rfl, w1⟩ := open_int Try.underlying3 (hval 1 3 v1 rfl rfl) h1
  clear hA0 hval0
  simp only [List.append_nil] at hW'
  refine (walk a0 a1 w0 w1 W).mono fun e W' ⟨he, hg⟩ => ?_
  subst he
  exact ⟨_, rfl, post_of_same (pa := []) (pv := []) hW' (fun _ _ _ => (trodAll_cons_mk (shut_bool Try.underlying4 _) trodAll_mk0)) (fun sp _ => (trodAll_cons_mk (shut_int Try.underlying3 w0) (trodAll_cons_mk (shut_int Try.underlying3 w1) trodAll_mk0))) (fun _ _ => rfl) rfl
    (hg.frame _) hg.2.1 (ok_one (by kernel_rfl) rfl (okWide_bool_mk Try.underlying4 _))⟩

theorem over : Rows.f64SignsRow.holds Try.pinned (OpenSpec.ofChange Rows.f64SignsSpec) :=
  OpenClaim.holds_of_wide 4 Try.f4 rfl rfl rfl rfl rfl rfl rfl ⟨rfl, rfl, rfl, rfl, rfl⟩ rfl rfl rfl rfl rfl (by kernel_rfl) Try.func4 (by kernel_rfl)
    (of_decide_eq_true (by kernel_rfl)) (by unfold Func.isWrapper; first | (rw [if_pos (by decide +kernel)]; kernel_rfl) | (rw [if_neg (by decide +kernel)]; exact ⟨rfl, rfl⟩))
    (fun os started H enc _ => lifted os started H enc)

theorem proved : Rows.F64SignsSaid := over
end Go.Proofs.Ytobhihggdoccoab.f64Signs
namespace Go.Proofs.Ytobhihggdoccoab
theorem f64Signs_holds : Rows.F64SignsSaid := f64Signs.proved
#print axioms f64Signs_holds
end Go.Proofs.Ytobhihggdoccoab

