/- 'F64Extremes' of package peloruslaw5 returns true at every two ints: the least and the greatest of two floats are the two, in their order; beside no number there is none. No condition. -/
import Derived.Test.YtobhihggdoccoabL64A
import Derived.OpenShut
namespace Go.Proofs.Ytobhihggdoccoab.f64Extremes
open Go.ChangeShapes Go.WideShapes Go.ChangeAt Go.RowKit
open Go.FM (isN fixn qn sw)
set_option linter.unusedVariables false

theorem own : ownKnob Try.prog.godebug = none := by kernel_rfl

set_option maxRecDepth 100000 in
set_option maxHeartbeats 2000000 in
theorem none00 (x y le : Int) (ix : Hid (in64 x)) (iy : Hid (in64 y)) (r1 : Hid (binI 164 x y = (9221120237041090560, 0))) (r2 : Hid (binI 165 x y = (9221120237041090560, 0))) (r3 : Hid (binI 165 y x = (9221120237041090560, 0))) (r4 : Hid (binI 101 9221120237041090560 9221120237041090560 = (le, 0))) (r5 : Hid (binI 97 x x = (0, 0))) (r6 : Hid (binI 97 y y = (0, 0))) (w : World) :
    Calls Try.prog 6 #[.int .i64 x, .int .i64 y] w fun e w' => e = .returned (.bool true) ∧ Grown w w' := by
  go_enter Try.func6, Try.ntmps6
  go_wp2_with fail
  refine (awake_any _).mono ?_
  rintro e w' ⟨rfl, bs69, n69, rfl⟩
  go_wp2_with fail
  refine (bin_eq (Or.inr ⟨ix.out, iy.out⟩) r1.out _).mono ?_
  rintro e w' ⟨rfl, bs70, n70, rfl⟩
  go_wp2_with fail
  refine (bin_eq (Or.inr ⟨ix.out, iy.out⟩) r2.out _).mono ?_
  rintro e w' ⟨rfl, bs71, n71, rfl⟩
  go_wp2_with fail
  refine (bin_eq (Or.inr ⟨iy.out, ix.out⟩) r3.out _).mono ?_
  rintro e w' ⟨rfl, bs72, n72, rfl⟩
  go_wp2_with fail
  refine (cmp_eq (by decide) r4.out _).mono ?_
  rintro e w' ⟨rfl, rfl⟩
  go_wp2_with fail
  refine (cmp_eq (by decide) r5.out _).mono ?_
  rintro e w' ⟨rfl, rfl⟩
  go_wp2_with fail
  refine (cmp_eq (by decide) r6.out _).mono ?_
  rintro e w' ⟨rfl, rfl⟩
  go_wp2
  all_goals
    go_ret
    exact ⟨rfl, (later_grown (by repeat (first | exact Later.refl _ | refine Later.alloc ?_ | refine Later.far ?_ | refine Later.drewN ?_ | refine Later.drew ?_)))⟩
set_option maxRecDepth 100000 in
set_option maxHeartbeats 2000000 in
theorem none01 (x y le : Int) (ix : Hid (in64 x)) (iy : Hid (in64 y)) (r1 : Hid (binI 164 x y = (9221120237041090560, 0))) (r2 : Hid (binI 165 x y = (9221120237041090560, 0))) (r3 : Hid (binI 165 y x = (9221120237041090560, 0))) (r4 : Hid (binI 101 9221120237041090560 9221120237041090560 = (le, 0))) (r5 : Hid (binI 97 x x = (0, 0))) (r6 : Hid (binI 97 y y = (1, 0))) (w : World) :
    Calls Try.prog 6 #[.int .i64 x, .int .i64 y] w fun e w' => e = .returned (.bool true) ∧ Grown w w' := by
  go_enter Try.func6, Try.ntmps6
  go_wp2_with fail
  refine (awake_any _).mono ?_
  rintro e w' ⟨rfl, bs76, n76, rfl⟩
  go_wp2_with fail
  refine (bin_eq (Or.inr ⟨ix.out, iy.out⟩) r1.out _).mono ?_
  rintro e w' ⟨rfl, bs77, n77, rfl⟩
  go_wp2_with fail
  refine (bin_eq (Or.inr ⟨ix.out, iy.out⟩) r2.out _).mono ?_
  rintro e w' ⟨rfl, bs78, n78, rfl⟩
  go_wp2_with fail
  refine (bin_eq (Or.inr ⟨iy.out, ix.out⟩) r3.out _).mono ?_
  rintro e w' ⟨rfl, bs79, n79, rfl⟩
  go_wp2_with fail
  refine (cmp_eq (by decide) r4.out _).mono ?_
  rintro e w' ⟨rfl, rfl⟩
  go_wp2_with fail
  refine (cmp_eq (by decide) r5.out _).mono ?_
  rintro e w' ⟨rfl, rfl⟩
  go_wp2_with fail
  refine (cmp_eq (by decide) r6.out _).mono ?_
  rintro e w' ⟨rfl, rfl⟩
  go_wp2
  all_goals
    go_ret
    exact ⟨rfl, (later_grown (by repeat (first | exact Later.refl _ | refine Later.alloc ?_ | refine Later.far ?_ | refine Later.drewN ?_ | refine Later.drew ?_)))⟩
set_option maxRecDepth 100000 in
set_option maxHeartbeats 2000000 in
theorem none10 (x y le : Int) (ix : Hid (in64 x)) (iy : Hid (in64 y)) (r1 : Hid (binI 164 x y = (9221120237041090560, 0))) (r2 : Hid (binI 165 x y = (9221120237041090560, 0))) (r3 : Hid (binI 165 y x = (9221120237041090560, 0))) (r4 : Hid (binI 101 9221120237041090560 9221120237041090560 = (le, 0))) (r5 : Hid (binI 97 x x = (1, 0))) (r6 : Hid (binI 97 y y = (0, 0))) (w : World) :
    Calls Try.prog 6 #[.int .i64 x, .int .i64 y] w fun e w' => e = .returned (.bool true) ∧ Grown w w' := by
  go_enter Try.func6, Try.ntmps6
  go_wp2_with fail
  refine (awake_any _).mono ?_
  rintro e w' ⟨rfl, bs83, n83, rfl⟩
  go_wp2_with fail
  refine (bin_eq (Or.inr ⟨ix.out, iy.out⟩) r1.out _).mono ?_
  rintro e w' ⟨rfl, bs84, n84, rfl⟩
  go_wp2_with fail
  refine (bin_eq (Or.inr ⟨ix.out, iy.out⟩) r2.out _).mono ?_
  rintro e w' ⟨rfl, bs85, n85, rfl⟩
  go_wp2_with fail
  refine (bin_eq (Or.inr ⟨iy.out, ix.out⟩) r3.out _).mono ?_
  rintro e w' ⟨rfl, bs86, n86, rfl⟩
  go_wp2_with fail
  refine (cmp_eq (by decide) r4.out _).mono ?_
  rintro e w' ⟨rfl, rfl⟩
  go_wp2_with fail
  refine (cmp_eq (by decide) r5.out _).mono ?_
  rintro e w' ⟨rfl, rfl⟩
  go_wp2_with fail
  refine (cmp_eq (by decide) r6.out _).mono ?_
  rintro e w' ⟨rfl, rfl⟩
  go_wp2
  all_goals
    go_ret
    exact ⟨rfl, (later_grown (by repeat (first | exact Later.refl _ | refine Later.alloc ?_ | refine Later.far ?_ | refine Later.drewN ?_ | refine Later.drew ?_)))⟩
set_option maxRecDepth 100000 in
set_option maxHeartbeats 2000000 in
theorem first (x y : Int) (ix : Hid (in64 x)) (iy : Hid (in64 y)) (r1 : Hid (binI 164 x y = (x, 0))) (r2 : Hid (binI 165 x y = (y, 0))) (r3 : Hid (binI 165 y x = (y, 0))) (r4 : Hid (binI 101 x y = (1, 0))) (r5 : Hid (binI 97 x x = (1, 0))) (r6 : Hid (binI 97 y y = (1, 0))) (w : World) :
    Calls Try.prog 6 #[.int .i64 x, .int .i64 y] w fun e w' => e = .returned (.bool true) ∧ Grown w w' := by
  go_enter Try.func6, Try.ntmps6
  go_wp2_with fail
  refine (awake_any _).mono ?_
  rintro e w' ⟨rfl, bs90, n90, rfl⟩
  go_wp2_with fail
  refine (bin_eq (Or.inr ⟨ix.out, iy.out⟩) r1.out _).mono ?_
  rintro e w' ⟨rfl, bs91, n91, rfl⟩
  go_wp2_with fail
  refine (bin_eq (Or.inr ⟨ix.out, iy.out⟩) r2.out _).mono ?_
  rintro e w' ⟨rfl, bs92, n92, rfl⟩
  go_wp2_with fail
  refine (bin_eq (Or.inr ⟨iy.out, ix.out⟩) r3.out _).mono ?_
  rintro e w' ⟨rfl, bs93, n93, rfl⟩
  go_wp2_with fail
  refine (cmp_eq (by decide) r4.out _).mono ?_
  rintro e w' ⟨rfl, rfl⟩
  go_wp2_with fail
  refine (cmp_eq (by decide) r5.out _).mono ?_
  rintro e w' ⟨rfl, rfl⟩
  go_wp2_with fail
  refine (cmp_eq (by decide) r6.out _).mono ?_
  rintro e w' ⟨rfl, rfl⟩
  go_wp2
  all_goals
    go_ret
    exact ⟨rfl, (later_grown (by repeat (first | exact Later.refl _ | refine Later.alloc ?_ | refine Later.far ?_ | refine Later.drewN ?_ | refine Later.drew ?_)))⟩
set_option maxRecDepth 100000 in
set_option maxHeartbeats 2000000 in
theorem second (x y : Int) (ix : Hid (in64 x)) (iy : Hid (in64 y)) (r1 : Hid (binI 164 x y = (y, 0))) (r2 : Hid (binI 165 x y = (x, 0))) (r3 : Hid (binI 165 y x = (x, 0))) (r4 : Hid (binI 101 y x = (1, 0))) (r5 : Hid (binI 97 x x = (1, 0))) (r6 : Hid (binI 97 y y = (1, 0))) (w : World) :
    Calls Try.prog 6 #[.int .i64 x, .int .i64 y] w fun e w' => e = .returned (.bool true) ∧ Grown w w' := by
  go_enter Try.func6, Try.ntmps6
  go_wp2_with fail
  refine (awake_any _).mono ?_
  rintro e w' ⟨rfl, bs97, n97, rfl⟩
  go_wp2_with fail
  refine (bin_eq (Or.inr ⟨ix.out, iy.out⟩) r1.out _).mono ?_
  rintro e w' ⟨rfl, bs98, n98, rfl⟩
  go_wp2_with fail
  refine (bin_eq (Or.inr ⟨ix.out, iy.out⟩) r2.out _).mono ?_
  rintro e w' ⟨rfl, bs99, n99, rfl⟩
  go_wp2_with fail
  refine (bin_eq (Or.inr ⟨iy.out, ix.out⟩) r3.out _).mono ?_
  rintro e w' ⟨rfl, bs100, n100, rfl⟩
  go_wp2_with fail
  refine (cmp_eq (by decide) r4.out _).mono ?_
  rintro e w' ⟨rfl, rfl⟩
  go_wp2_with fail
  refine (cmp_eq (by decide) r5.out _).mono ?_
  rintro e w' ⟨rfl, rfl⟩
  go_wp2_with fail
  refine (cmp_eq (by decide) r6.out _).mono ?_
  rintro e w' ⟨rfl, rfl⟩
  go_wp2
  all_goals
    go_ret
    exact ⟨rfl, (later_grown (by repeat (first | exact Later.refl _ | refine Later.alloc ?_ | refine Later.far ?_ | refine Later.drewN ?_ | refine Later.drew ?_)))⟩
theorem cells (X Y : Nat) (hXl : X < 18446744073709551616) (hYl : Y < 18446744073709551616) (hx : ¬ isN df X) (hy : ¬ isN df Y) :
    (FM.minW df X Y = X ∧ FM.maxW df X Y = Y ∨ FM.minW df X Y = Y ∧ FM.maxW df X Y = X) ∧ (df.order (FM.minW df X Y) (FM.maxW df X Y) = some .lt ∨ df.order (FM.minW df X Y) (FM.maxW df X Y) = some .eq) := by
  have hsw := FM.order_swap df hdf X Y
  have ho : df.order X Y = some (compare (FM.key (FM.sg df X) (FM.rg df X)) (FM.key (FM.sg df Y) (FM.rg df Y))) := FM.order_key df hdf X Y (by unfold isN at hx; omega) (by unfold isN at hy; omega)
  cases hc : compare (FM.key (FM.sg df X) (FM.rg df X)) (FM.key (FM.sg df Y) (FM.rg df Y)) with
  | lt =>
    rw [hc] at ho
    have e1 : FM.minW df X Y = X := by unfold FM.minW; rw [ho]; simp
    have e2 : FM.maxW df X Y = Y := by unfold FM.maxW; rw [ho]; simp
    rw [e1, e2]; exact ⟨Or.inl ⟨rfl, rfl⟩, Or.inl ho⟩
  | gt =>
    rw [hc] at ho
    have e1 : FM.minW df X Y = Y := by unfold FM.minW; rw [ho]; simp
    have e2 : FM.maxW df X Y = X := by unfold FM.maxW; rw [ho]; simp
    rw [e1, e2]; exact ⟨Or.inr ⟨rfl, rfl⟩, Or.inl (hsw.2.1.1 ho)⟩
  | eq =>
    rw [hc] at ho
    have e1 : FM.minW df X Y = X ||| Y := by unfold FM.minW; rw [ho]; simp
    have e2 : FM.maxW df X Y = X &&& Y := by unfold FM.maxW; rw [ho]; simp
    have hk : FM.key (FM.sg df X) (FM.rg df X) = FM.key (FM.sg df Y) (FM.rg df Y) := by
      rcases Int.lt_trichotomy (FM.key (FM.sg df X) (FM.rg df X)) (FM.key (FM.sg df Y) (FM.rg df Y)) with h | h | h
      · rw [FM.cmp_lt h] at hc; cases hc
      · exact h
      · rw [FM.cmp_gt h] at hc; cases hc
    rw [e1, e2]
    obtain ⟨s, r, ex, h1, h2, h3⟩ := FM.parts64 X hXl
    obtain ⟨t, q, ey, g1, g2, g3⟩ := FM.parts64 Y hYl
    have hk' : FM.key s r = FM.key t q := by rw [← h2, ← h3, ← g2, ← g3]; exact hk
    by_cases hst : s = t
    · subst hst
      have : r = q := by unfold FM.key at hk'; split at hk' <;> omega
      subst this
      have exy : X = Y := ex.trans ey.symm
      rw [← exy, Nat.or_self, Nat.and_self]
      exact ⟨Or.inl ⟨rfl, rfl⟩, Or.inr (FM.order_self df hdf X hx)⟩
    · have hr : r = 0 ∧ q = 0 := by unfold FM.key at hk'; cases s <;> cases t <;> simp at hk' hst <;> omega
      rw [hr.1] at ex
      rw [hr.2] at ey
      rw [ex, ey]
      cases s <;> cases t
      · exact absurd rfl hst
      · exact ⟨Or.inr ⟨by decide +kernel, by decide +kernel⟩, Or.inr (by decide +kernel)⟩
      · exact ⟨Or.inl ⟨by decide +kernel, by decide +kernel⟩, Or.inr (by decide +kernel)⟩
      · exact absurd rfl hst
theorem walk (a0 : Int) (a1 : Int) (w0 : (Lit.int .i64 a0).wf = true) (w1 : (Lit.int .i64 a1).wf = true) (w : World) :
    Calls Try.prog 6 #[.int .i64 a0, .int .i64 a1] w fun e w' => e = .returned (.bool true) ∧ Grown w w' := by
  obtain ⟨X, rfl, hXl⟩ := word_of a0 (bounds_i64 w0)
  clear w0
  obtain ⟨Y, rfl, hYl⟩ := word_of a1 (bounds_i64 w1)
  clear w1
  have ix : Hid (in64 (sw X)) := in_sw X
  have iy : Hid (in64 (sw Y)) := in_sw Y
  have hm := FM.max_comm df hdf X Y
  have nan : isN df X ∨ isN df Y → Hid (binI 164 (sw X) (sw Y) = (9221120237041090560, 0)) ∧ Hid (binI 165 (sw X) (sw Y) = (9221120237041090560, 0)) ∧ Hid (binI 165 (sw Y) (sw X) = (9221120237041090560, 0)) := by
    intro h
    have e := FM.min_nan df hdf X Y h
    refine ⟨?_, ?_, ?_⟩
    · show _ = _; rw [bI 164 X Y hXl hYl (by decide), f_min, e.1, qn64, sw_q]
    · show _ = _; rw [bI 165 X Y hXl hYl (by decide), f_max, e.2, qn64, sw_q]
    · show _ = _; rw [bI 165 Y X hYl hXl (by decide), f_max, ← hm, e.2, qn64, sw_q]
  have le : Hid (binI 101 9221120237041090560 9221120237041090560 = (0, 0)) := by show _ = _; decide +kernel
  by_cases hx : isN df X
  · obtain ⟨n1, n2, n3⟩ := nan (Or.inl hx)
    by_cases hy : isN df Y
    · exact none00 (sw X) (sw Y) 0 ix iy n1 n2 n3 le (b_nan X hXl hx).1 (b_nan Y hYl hy).1 w
    · exact none01 (sw X) (sw Y) 0 ix iy n1 n2 n3 le (b_nan X hXl hx).1 (b_num Y hYl hy).1 w
  by_cases hy : isN df Y
  · obtain ⟨n1, n2, n3⟩ := nan (Or.inr hy)
    exact none10 (sw X) (sw Y) 0 ix iy n1 n2 n3 le (b_num X hXl hx).1 (b_nan Y hYl hy).1 w
  obtain ⟨hc, hl⟩ := cells X Y hXl hYl hx hy
  have c1 := bI 164 X Y hXl hYl (by decide)
  have c2 := bI 165 X Y hXl hYl (by decide)
  have c3 := bI 165 Y X hYl hXl (by decide)
  rw [f_min] at c1
  rw [f_max] at c2 c3
  rw [← hm] at c3
  have q5 := (b_num X hXl hx).1
  have q6 := (b_num Y hYl hy).1
  rcases hc with ⟨e1, e2⟩ | ⟨e1, e2⟩
  · rw [e1] at c1 hl
    rw [e2] at c2 c3 hl
    exact first (sw X) (sw Y) ix iy c1 c2 c3 (by show _ = _; rw [bI 101 X Y hXl hYl (by decide), f_le, if_pos hl, sw_one]) q5 q6 w
  · rw [e1] at c1 hl
    rw [e2] at c2 c3 hl
    exact second (sw X) (sw Y) ix iy c1 c2 c3 (by show _ = _; rw [bI 101 Y X hYl hXl (by decide), f_le, if_pos hl, sw_one]) q5 q6 w

/-! ### THE ROW's STEP: WRITTEN OUT: LEAVE IT -/
set_option maxRecDepth 100000 in
theorem lifted (os : Os) (started : os.Started) (H : Type) (enc : TypeId × Value → H) :
    ReturnsInHanded {} Try.checked os 6 .any (Rows.f64ExtremesSpec.pre6 enc Try.prog Try.f6 Rows.f64ExtremesRow.domain false) (Rows.f64ExtremesSpec.post enc Try.prog Try.f6 false true false false) := by
  refine returnsInHanded_of_change (C := Try.checked) own started (by kernel_rfl) Try.func6
    (ChangeSpec.witness6 (enc := enc) (C := Try.checked) false ⟨#[], #[.int .i64 0, .int .i64 0], []⟩ 8 (by kernel_rfl) (by kernel_rfl) (by kernel_rfl) (by kernel_rfl)) ?_
  intro W base args ds gs before hval0 hW hcnd _
  have hval : ∀ (j : Nat) t v, Try.f6.params[j]? = some t → args[j]? = some v → Value.okWide Try.prog W .any base t v := hval0
  have hW' := hW
  obtain ⟨p, q, hA0, hV, rfl, hfz, hnd⟩ := hW
  have hA : DataW.TrodAll enc Try.prog W 0 (fun _ => true) true Try.f6.params.toList args.toList ds p := hA0
  rw [Try.params6] at hA hval
  obtain ⟨v0, vs0, d0, ds0, p0, q0, hargs, rfl, rfl, h0, r0⟩ := trodAll_cons hA
  obtain ⟨v1, vs1, d1, ds1, p1, q1, rfl, rfl, rfl, h1, r1⟩ := trodAll_cons r0
  obtain ⟨rfl, rfl, rfl⟩ := trodAll_nil r1
  obtain rfl : args = #[v0, v1] := by cases args; simp_all
  obtain ⟨rfl, rfl⟩ := trodVars_none hV
  obtain ⟨a0, rfl, rfl, rfl, w0⟩ := open_int Try.underlying3 (hval 0 3 v0 rfl rfl) h0
  obtain ⟨a1, rfl, rfl, rfl, w1⟩ := open_int Try.underlying3 (hval 1 3 v1 rfl rfl) h1
  clear hA0 hval0
  simp only [List.append_nil] at hW'
  refine (walk a0 a1 w0 w1 W).mono fun e W' ⟨he, hg⟩ => ?_
  subst he
  exact ⟨_, rfl, post_of_same (pa := []) (pv := []) hW' (fun _ _ _ => (trodAll_cons_mk (shut_bool Try.underlying4 _) trodAll_mk0)) (fun sp _ => (trodAll_cons_mk (shut_int Try.underlying3 w0) (trodAll_cons_mk (shut_int Try.underlying3 w1) trodAll_mk0))) (fun _ _ => rfl) rfl
    (hg.frame _) hg.2.1 (ok_one (by kernel_rfl) rfl (okWide_bool_mk Try.underlying4 _))⟩

theorem over : Rows.f64ExtremesRow.holds Try.pinned (OpenSpec.ofChange Rows.f64ExtremesSpec) :=
  OpenClaim.holds_of_wide 6 Try.f6 rfl rfl rfl rfl rfl rfl rfl ⟨rfl, rfl, rfl, rfl, rfl⟩ rfl rfl rfl rfl rfl (by kernel_rfl) Try.func6 (by kernel_rfl)
    (of_decide_eq_true (by kernel_rfl)) (by unfold Func.isWrapper; first | (rw [if_pos (by decide +kernel)]; kernel_rfl) | (rw [if_neg (by decide +kernel)]; exact ⟨rfl, rfl⟩))
    (fun os started H enc _ => lifted os started H enc)

theorem proved : Rows.F64ExtremesSaid := over
end Go.Proofs.Ytobhihggdoccoab.f64Extremes
namespace Go.Proofs.Ytobhihggdoccoab
theorem f64Extremes_holds : Rows.F64ExtremesSaid := f64Extremes.proved
#print axioms f64Extremes_holds
end Go.Proofs.Ytobhihggdoccoab

