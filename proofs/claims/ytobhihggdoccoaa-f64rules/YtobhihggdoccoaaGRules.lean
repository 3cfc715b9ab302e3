/- 'F64Rules' of package peloruslaw5 returns true at every two ints: sums, products and the lesser do not hang on the row, signs turn twice, a float less itself is 0 or no number, beside no number there is none. No condition. -/
import Derived.Test.YtobhihggdoccoaaL64A
import Derived.OpenShut
namespace Go.Proofs.Ytobhihggdoccoaa.f64Rules
open Go.ChangeShapes Go.WideShapes Go.ChangeAt Go.RowKit
open Go.FM (isN fixn qn sw)
set_option linter.unusedVariables false

theorem own : ownKnob Try.prog.godebug = none := by kernel_rfl

set_option maxRecDepth 100000 in
set_option maxHeartbeats 2000000 in
theorem number (x y p r t m : Int) (ix : Hid (in64 x)) (iy : Hid (in64 y)) (r1 : Hid (binI 160 x y = (p, 0))) (r2 : Hid (binI 160 y x = (p, 0))) (r3 : Hid (binI 162 x y = (r, 0))) (r4 : Hid (binI 162 y x = (r, 0))) (r5 : Hid (unI 154 x = (t, 0))) (r6 : Hid (unI 154 t = (x, 0))) (r7 : Hid (binI 161 x x = (0, 0))) (r8 : Hid (binI 97 x x = (1, 0))) (r9 : Hid (binI 98 x x = (0, 0))) (r10 : Hid (binI 166 x t = (t, 0))) (r11 : Hid (binI 164 x y = (m, 0))) (r12 : Hid (binI 164 y x = (m, 0))) (w : World) :
    Calls Try.prog 7 #[.int .i64 x, .int .i64 y] w fun e w' => e = .returned (.bool true) ∧ Grown w w' := by
  go_enter Try.func7, Try.ntmps7
  go_wp2_with fail
  refine (awake_any _).mono ?_
  rintro e w' ⟨rfl, bs6, n6, rfl⟩
  go_wp2_with fail
  refine (bin_eq (Or.inl (by decide)) r1.out _).mono ?_
  rintro e w' ⟨rfl, bs7, n7, rfl⟩
  go_wp2_with fail
  refine (bin_eq (Or.inl (by decide)) r2.out _).mono ?_
  rintro e w' ⟨rfl, bs8, n8, rfl⟩
  go_wp2_with fail
  refine (bin_eq (Or.inl (by decide)) r3.out _).mono ?_
  rintro e w' ⟨rfl, bs9, n9, rfl⟩
  go_wp2_with fail
  refine (bin_eq (Or.inl (by decide)) r4.out _).mono ?_
  rintro e w' ⟨rfl, bs10, n10, rfl⟩
  go_wp2_with fail
  refine (un_eq r5.out _).mono ?_
  rintro e w' ⟨rfl, bs11, n11, rfl⟩
  go_wp2_with fail
  refine (un_eq r6.out _).mono ?_
  rintro e w' ⟨rfl, bs12, n12, rfl⟩
  go_wp2_with fail
  refine (bin_eq (Or.inl (by decide)) r7.out _).mono ?_
  rintro e w' ⟨rfl, bs13, n13, rfl⟩
  go_wp2_with fail
  refine (cmp_eq (by decide) r8.out _).mono ?_
  rintro e w' ⟨rfl, rfl⟩
  go_wp2_with fail
  refine (cmp_eq (by decide) r9.out _).mono ?_
  rintro e w' ⟨rfl, rfl⟩
  go_wp2_with fail
  refine (bin_eq (Or.inl (by decide)) r10.out _).mono ?_
  rintro e w' ⟨rfl, bs16, n16, rfl⟩
  go_wp2_with fail
  refine (bin_eq (Or.inr ⟨ix.out, iy.out⟩) r11.out _).mono ?_
  rintro e w' ⟨rfl, bs17, n17, rfl⟩
  go_wp2_with fail
  refine (bin_eq (Or.inr ⟨iy.out, ix.out⟩) r12.out _).mono ?_
  rintro e w' ⟨rfl, bs18, n18, rfl⟩
  go_wp2
  all_goals
    go_ret
    exact ⟨rfl, (later_grown (by repeat (first | exact Later.refl _ | refine Later.alloc ?_ | refine Later.far ?_ | refine Later.drewN ?_ | refine Later.drew ?_)))⟩
set_option maxRecDepth 100000 in
set_option maxHeartbeats 2000000 in
theorem number2 (x y p r t m : Int) (ix : Hid (in64 x)) (iy : Hid (in64 y)) (r1 : Hid (binI 160 x y = (p, 0))) (r2 : Hid (binI 160 y x = (p, 0))) (r3 : Hid (binI 162 x y = (r, 0))) (r4 : Hid (binI 162 y x = (r, 0))) (r5 : Hid (unI 154 x = (t, 0))) (r6 : Hid (unI 154 t = (x, 0))) (r7 : Hid (binI 161 x x = (9221120237041090560, 0))) (r8 : Hid (binI 97 x x = (1, 0))) (r9 : Hid (binI 98 x x = (0, 0))) (r10 : Hid (binI 166 x t = (t, 0))) (r11 : Hid (binI 164 x y = (m, 0))) (r12 : Hid (binI 164 y x = (m, 0))) (w : World) :
    Calls Try.prog 7 #[.int .i64 x, .int .i64 y] w fun e w' => e = .returned (.bool true) ∧ Grown w w' := by
  go_enter Try.func7, Try.ntmps7
  go_wp2_with fail
  refine (awake_any _).mono ?_
  rintro e w' ⟨rfl, bs19, n19, rfl⟩
  go_wp2_with fail
  refine (bin_eq (Or.inl (by decide)) r1.out _).mono ?_
  rintro e w' ⟨rfl, bs20, n20, rfl⟩
  go_wp2_with fail
  refine (bin_eq (Or.inl (by decide)) r2.out _).mono ?_
  rintro e w' ⟨rfl, bs21, n21, rfl⟩
  go_wp2_with fail
  refine (bin_eq (Or.inl (by decide)) r3.out _).mono ?_
  rintro e w' ⟨rfl, bs22, n22, rfl⟩
  go_wp2_with fail
  refine (bin_eq (Or.inl (by decide)) r4.out _).mono ?_
  rintro e w' ⟨rfl, bs23, n23, rfl⟩
  go_wp2_with fail
  refine (un_eq r5.out _).mono ?_
  rintro e w' ⟨rfl, bs24, n24, rfl⟩
  go_wp2_with fail
  refine (un_eq r6.out _).mono ?_
  rintro e w' ⟨rfl, bs25, n25, rfl⟩
  go_wp2_with fail
  refine (bin_eq (Or.inl (by decide)) r7.out _).mono ?_
  rintro e w' ⟨rfl, bs26, n26, rfl⟩
  go_wp2_with fail
  refine (cmp_eq (by decide) r8.out _).mono ?_
  rintro e w' ⟨rfl, rfl⟩
  go_wp2_with fail
  refine (cmp_eq (by decide) r9.out _).mono ?_
  rintro e w' ⟨rfl, rfl⟩
  go_wp2_with fail
  refine (bin_eq (Or.inl (by decide)) r10.out _).mono ?_
  rintro e w' ⟨rfl, bs29, n29, rfl⟩
  go_wp2_with fail
  refine (bin_eq (Or.inr ⟨ix.out, iy.out⟩) r11.out _).mono ?_
  rintro e w' ⟨rfl, bs30, n30, rfl⟩
  go_wp2_with fail
  refine (bin_eq (Or.inr ⟨iy.out, ix.out⟩) r12.out _).mono ?_
  rintro e w' ⟨rfl, bs31, n31, rfl⟩
  go_wp2
  all_goals
    go_ret
    exact ⟨rfl, (later_grown (by repeat (first | exact Later.refl _ | refine Later.alloc ?_ | refine Later.far ?_ | refine Later.drewN ?_ | refine Later.drew ?_)))⟩
set_option maxRecDepth 100000 in
set_option maxHeartbeats 2000000 in
theorem none (x y t : Int) (ix : Hid (in64 x)) (iy : Hid (in64 y)) (r1 : Hid (binI 160 x y = (9221120237041090560, 0))) (r2 : Hid (binI 160 y x = (9221120237041090560, 0))) (r3 : Hid (binI 162 x y = (9221120237041090560, 0))) (r4 : Hid (binI 162 y x = (9221120237041090560, 0))) (r5 : Hid (unI 154 x = (t, 0))) (r6 : Hid (unI 154 t = (x, 0))) (r7 : Hid (binI 161 x x = (9221120237041090560, 0))) (r8 : Hid (binI 97 x x = (0, 0))) (r9 : Hid (binI 98 x x = (1, 0))) (r10 : Hid (binI 166 x t = (t, 0))) (r11 : Hid (binI 164 x y = (9221120237041090560, 0))) (r12 : Hid (binI 164 y x = (9221120237041090560, 0))) (w : World) :
    Calls Try.prog 7 #[.int .i64 x, .int .i64 y] w fun e w' => e = .returned (.bool true) ∧ Grown w w' := by
  go_enter Try.func7, Try.ntmps7
  go_wp2_with fail
  refine (awake_any _).mono ?_
  rintro e w' ⟨rfl, bs32, n32, rfl⟩
  go_wp2_with fail
  refine (bin_eq (Or.inl (by decide)) r1.out _).mono ?_
  rintro e w' ⟨rfl, bs33, n33, rfl⟩
  go_wp2_with fail
  refine (bin_eq (Or.inl (by decide)) r2.out _).mono ?_
  rintro e w' ⟨rfl, bs34, n34, rfl⟩
  go_wp2_with fail
  refine (bin_eq (Or.inl (by decide)) r3.out _).mono ?_
  rintro e w' ⟨rfl, bs35, n35, rfl⟩
  go_wp2_with fail
  refine (bin_eq (Or.inl (by decide)) r4.out _).mono ?_
  rintro e w' ⟨rfl, bs36, n36, rfl⟩
  go_wp2_with fail
  refine (un_eq r5.out _).mono ?_
  rintro e w' ⟨rfl, bs37, n37, rfl⟩
  go_wp2_with fail
  refine (un_eq r6.out _).mono ?_
  rintro e w' ⟨rfl, bs38, n38, rfl⟩
  go_wp2_with fail
  refine (bin_eq (Or.inl (by decide)) r7.out _).mono ?_
  rintro e w' ⟨rfl, bs39, n39, rfl⟩
  go_wp2_with fail
  refine (cmp_eq (by decide) r8.out _).mono ?_
  rintro e w' ⟨rfl, rfl⟩
  go_wp2_with fail
  refine (cmp_eq (by decide) r9.out _).mono ?_
  rintro e w' ⟨rfl, rfl⟩
  go_wp2_with fail
  refine (bin_eq (Or.inl (by decide)) r10.out _).mono ?_
  rintro e w' ⟨rfl, bs42, n42, rfl⟩
  go_wp2_with fail
  refine (bin_eq (Or.inr ⟨ix.out, iy.out⟩) r11.out _).mono ?_
  rintro e w' ⟨rfl, bs43, n43, rfl⟩
  go_wp2_with fail
  refine (bin_eq (Or.inr ⟨iy.out, ix.out⟩) r12.out _).mono ?_
  rintro e w' ⟨rfl, bs44, n44, rfl⟩
  go_wp2
  all_goals
    go_ret
    exact ⟨rfl, (later_grown (by repeat (first | exact Later.refl _ | refine Later.alloc ?_ | refine Later.far ?_ | refine Later.drewN ?_ | refine Later.drew ?_)))⟩
theorem walk (a0 : Int) (a1 : Int) (w0 : (Lit.int .i64 a0).wf = true) (w1 : (Lit.int .i64 a1).wf = true) (w : World) :
    Calls Try.prog 7 #[.int .i64 a0, .int .i64 a1] w fun e w' => e = .returned (.bool true) ∧ Grown w w' := by
  obtain ⟨X, rfl, hXl⟩ := word_of a0 (bounds_i64 w0)
  clear w0
  obtain ⟨Y, rfl, hYl⟩ := word_of a1 (bounds_i64 w1)
  clear w1
  have ix : Hid (in64 (sw X)) := in_sw X
  have iy : Hid (in64 (sw Y)) := in_sw Y
  have hc := FM.add_comm df X Y
  have hd := FM.mul_comm df X Y
  have hm := FM.min_comm df hdf X Y
  obtain ⟨s, r, e, h1, h2, h3⟩ := FM.parts64 X hXl
  have hT : X ^^^ 9223372036854775808 < 18446744073709551616 := by rw [e, FM.neg64 s r h1]; exact FM.word64_lt _ _ h1
  have q5 : Hid (unI 154 (sw X) = (sw (X ^^^ 9223372036854775808), 0)) := by show _ = _; rw [uI 154 X hXl (by decide), unW_154]
  have q6 : Hid (unI 154 (sw (X ^^^ 9223372036854775808)) = (sw X, 0)) := by
    show _ = _; rw [uI 154 _ hT (by decide), unW_154, Nat.xor_assoc, Nat.xor_self, Nat.xor_zero]
  have q10 : Hid (binI 166 (sw X) (sw (X ^^^ 9223372036854775808)) = (sw (X ^^^ 9223372036854775808), 0)) := by
    show _ = _
    rw [bI 166 X _ hXl hT (by decide), f_sign]
    have : X % 9223372036854775808 ||| ((X ^^^ 9223372036854775808) &&& 9223372036854775808) = X ^^^ 9223372036854775808 := by
      rw [e, FM.neg64 s r h1, FM.rest64 s r h1, FM.bit64 (!s) r h1, FM.join64 (!s) r h1]
    rw [this]
  by_cases hn : isN df X
  · obtain ⟨n1, n2⟩ := b_nan X hXl hn
    refine none (sw X) (sw Y) (sw (X ^^^ 9223372036854775808)) ix iy ?_ ?_ ?_ ?_ q5 q6 ?_ n1 n2 q10 ?_ ?_ w
    · show _ = _; rw [bI 160 X Y hXl hYl (by decide), f_add, fix_none (FM.add_nan df hdf X Y hn), sw_q]
    · show _ = _; rw [bI 160 Y X hYl hXl (by decide), f_add, ← hc, fix_none (FM.add_nan df hdf X Y hn), sw_q]
    · show _ = _; rw [bI 162 X Y hXl hYl (by decide), f_mul, fix_none (FM.mul_nan df hdf X Y hn), sw_q]
    · show _ = _; rw [bI 162 Y X hYl hXl (by decide), f_mul, ← hd, fix_none (FM.mul_nan df hdf X Y hn), sw_q]
    · show _ = _; rw [bI 161 X X hXl hXl (by decide), f_sub, fix_none (FM.sub_nan df hdf X X hn), sw_q]
    · show _ = _; rw [bI 164 X Y hXl hYl (by decide), f_min, (FM.min_nan df hdf X Y (Or.inl hn)).1, qn64, sw_q]
    · show _ = _; rw [bI 164 Y X hYl hXl (by decide), f_min, (FM.min_nan df hdf Y X (Or.inr hn)).1, qn64, sw_q]
  · obtain ⟨n1, n2⟩ := b_num X hXl hn
    have q1 : Hid (binI 160 (sw X) (sw Y) = (sw (binW 160 X Y), 0)) := bI 160 X Y hXl hYl (by decide)
    have q2 : Hid (binI 160 (sw Y) (sw X) = (sw (binW 160 X Y), 0)) := by show _ = _; rw [bI 160 Y X hYl hXl (by decide), f_add, f_add, hc]
    have q3 : Hid (binI 162 (sw X) (sw Y) = (sw (binW 162 X Y), 0)) := bI 162 X Y hXl hYl (by decide)
    have q4 : Hid (binI 162 (sw Y) (sw X) = (sw (binW 162 X Y), 0)) := by show _ = _; rw [bI 162 Y X hYl hXl (by decide), f_mul, f_mul, hd]
    have q11 : Hid (binI 164 (sw X) (sw Y) = (sw (binW 164 X Y), 0)) := bI 164 X Y hXl hYl (by decide)
    have q12 : Hid (binI 164 (sw Y) (sw X) = (sw (binW 164 X Y), 0)) := by show _ = _; rw [bI 164 Y X hYl hXl (by decide), f_min, f_min, hm]
    rcases FM.sub_self df hdf X hn with h | h
    · exact number (sw X) (sw Y) _ _ _ _ ix iy q1 q2 q3 q4 q5 q6 (by show _ = _; rw [bI 161 X X hXl hXl (by decide), f_sub, fix_some h, sw_zero]) n1 n2 q10 q11 q12 w
    · exact number2 (sw X) (sw Y) _ _ _ _ ix iy q1 q2 q3 q4 q5 q6 (by show _ = _; rw [bI 161 X X hXl hXl (by decide), f_sub, fix_none h, sw_q]) n1 n2 q10 q11 q12 w

/-! ### THE ROW's STEP: WRITTEN OUT: LEAVE IT -/
set_option maxRecDepth 100000 in
theorem lifted (os : Os) (started : os.Started) (H : Type) (enc : TypeId × Value → H) :
    ReturnsInHanded {} Try.checked os 7 .any (Rows.f64RulesSpec.pre6 enc Try.prog Try.f7 Rows.f64RulesRow.domain false) (Rows.f64RulesSpec.post enc Try.prog Try.f7 false true false false) := by
  refine returnsInHanded_of_change (C := Try.checked) own started (by kernel_rfl) Try.func7
    (ChangeSpec.witness6 (enc := enc) (C := Try.checked) false ⟨#[], #[.int .i64 0, .int .i64 0], []⟩ 8 (by kernel_rfl) (by kernel_rfl) (by kernel_rfl) (by kernel_rfl)) ?_
  intro W base args ds gs before hval0 hW hcnd _
  have hval : ∀ (j : Nat) t v, Try.f7.params[j]? = some t → args[j]? = some v → Value.okWide Try.prog W .any base t v := hval0
  have hW' := hW
  obtain ⟨p, q, hA0, hV, rfl, hfz, hnd⟩ := hW
  have hA : DataW.TrodAll enc Try.prog W 0 (fun _ => true) true Try.f7.params.toList args.toList ds p := hA0
  rw [Try.params7] at hA hval
  obtain ⟨v0, vs0, d0, ds0, p0, q0, hargs, rfl, rfl, h0, r0⟩ := trodAll_cons hA
  obtain ⟨v1, vs1, d1, ds1, p1, q1, rfl, rfl, rfl, h1, r1⟩ := trodAll_cons r0
  obtain ⟨rfl, rfl, rfl⟩ := trodAll_nil r1
  obtain rfl : args = #[v0, v1] := by cases args; simp_all
  obtain ⟨rfl, rfl⟩ := trodVars_none hV
  obtain ⟨a0, rfl, rfl, rfl, w0⟩ := open_int Try.underlying3 (hval 0 3 v0 rfl rfl) h0
  obtain ⟨a1, rfl, rfl, rfl, w1⟩ := open_int Try.underlying3 (hval 1 3 v1 rfl rfl) h1
  clear hA0 hval0
  simp only [List.append_nil] at hW'
  refine (walk a0 a1 w0 w1 W).mono fun e W' ⟨he, hg⟩ => ?_
  subst he
  exact ⟨_, rfl, post_of_same (pa := []) (pv := []) hW' (fun _ _ _ => (trodAll_cons_mk (shut_bool Try.underlying4 _) trodAll_mk0)) (fun sp _ => (trodAll_cons_mk (shut_int Try.underlying3 w0) (trodAll_cons_mk (shut_int Try.underlying3 w1) trodAll_mk0))) (fun _ _ => rfl) rfl
    (hg.frame _) hg.2.1 (ok_one (by kernel_rfl) rfl (okWide_bool_mk Try.underlying4 _))⟩

theorem over : Rows.f64RulesRow.holds Try.pinned (OpenSpec.ofChange Rows.f64RulesSpec) :=
  OpenClaim.holds_of_wide 7 Try.f7 rfl rfl rfl rfl rfl rfl rfl ⟨rfl, rfl, rfl, rfl, rfl⟩ rfl rfl rfl rfl rfl (by kernel_rfl) Try.func7 (by kernel_rfl)
    (of_decide_eq_true (by kernel_rfl)) (by unfold Func.isWrapper; first | (rw [if_pos (by decide +kernel)]; kernel_rfl) | (rw [if_neg (by decide +kernel)]; exact ⟨rfl, rfl⟩))
    (fun os started H enc _ => lifted os started H enc)

theorem proved : Rows.F64RulesSaid := over
end Go.Proofs.Ytobhihggdoccoaa.f64Rules
namespace Go.Proofs.Ytobhihggdoccoaa
theorem f64Rules_holds : Rows.F64RulesSaid := f64Rules.proved
#print axioms f64Rules_holds
end Go.Proofs.Ytobhihggdoccoaa

