/- 'I64Rules' of package peloruslaw3 returns true at every input: a division and its rest make the number; differences undo sums; rolls undo one another. -/
import Derived.Test.YtjolnfipacpjgaaDoorI64
import Derived.Test.YtjolnfipacpjgaaDoorLaid
import Derived.Test.YtjolnfipacpjgaaDoorTie
import Derived.Test.YtjolnfipacpjgaaDoorCards
import Derived.SevenTiedAt
import Derived.LoopN
namespace Go.Proofs.YtjolnfipacpjgaaDoor.i64Rules
open Go.ChangeShapes Go.WideShapes Go.ChangeAt Go.RowKit
set_option linter.unusedVariables false

set_option maxRecDepth 100000 in
set_option maxHeartbeats 2000000 in
theorem zero (x s r : Int) (r1 : Hid (BM.bin64 124 x 0 = (s, 0))) (r2 : Hid (BM.bin64 125 s 0 = (x, 0))) (r3 : Hid (BM.bin64 137 x 0 = (r, 0))) (r4 : Hid (BM.bin64 138 r 0 = (x, 0))) (r5 : Hid (BM.bin64 127 x 0 = (0, 301))) (r6 : Hid (BM.bin64 129 x 0 = (0, 301))) (r7 : Hid (BM.bin64 128 x 0 = (0, 301))) (r8 : Hid (BM.bin64 130 x 0 = (0, 301)))  (w : World) :
    Calls Tryd.prog 5 #[.int .i64 x, .int .i64 0] w fun e w' => e = .returned (.bool true) ∧ Grown w w' := by
  go_enter Tryd.func5, Tryd.ntmps5
  go_wp2_with fail
  refine (awake_any _).mono ?_
  rintro e w' ⟨rfl, n0, rfl⟩
  go_wp2_with fail
  refine (bin_eq (by decide) r1.out _).mono ?_
  rintro e w' ⟨rfl, rfl⟩
  go_wp2_with fail
  refine (bin_eq (by decide) r2.out _).mono ?_
  rintro e w' ⟨rfl, rfl⟩
  go_wp2_with fail
  refine (bin_eq (by decide) r3.out _).mono ?_
  rintro e w' ⟨rfl, rfl⟩
  go_wp2_with fail
  refine (bin_eq (by decide) r4.out _).mono ?_
  rintro e w' ⟨rfl, rfl⟩
  go_wp2
  refine wp_loop_rounds 3 ?_
  rw [rounds_succ]
  go_wp2_with fail
  refine (bin_eq (by decide) r5.out _).mono ?_
  rintro e w' ⟨rfl, rfl⟩
  go_wp2_with fail
  refine (bin_eq (by decide) r6.out _).mono ?_
  rintro e w' ⟨rfl, rfl⟩
  go_wp2_with (go_at_call 13; refine (num_any _ _).mono ?_; rintro e w' ⟨rfl, rfl⟩)
  rw [rounds_succ]
  go_wp2_with fail
  refine (bin_eqd (by decide) r7.out _).mono ?_
  rintro e w' ⟨rfl, n7, rfl⟩
  go_wp2_with fail
  refine (bin_eqd (by decide) r8.out _).mono ?_
  rintro e w' ⟨rfl, n8, rfl⟩
  go_wp2_with (go_at_call 13; refine (num_any _ _).mono ?_; rintro e w' ⟨rfl, rfl⟩)
  rw [rounds_succ]
  go_wp2
  go_ret
  exact ⟨rfl, grown_drewN _ _⟩
set_option maxRecDepth 100000 in
set_option maxHeartbeats 2000000 in
theorem overs (r1 : Hid (BM.bin64 124 (-9223372036854775808) (-1) = (9223372036854775807, 0))) (r2 : Hid (BM.bin64 125 9223372036854775807 (-1) = ((-9223372036854775808), 0))) (r3 : Hid (BM.bin64 137 (-9223372036854775808) (-1) = (4611686018427387904, 0))) (r4 : Hid (BM.bin64 138 4611686018427387904 (-1) = ((-9223372036854775808), 0))) (r5 : Hid (BM.bin64 127 (-9223372036854775808) (-1) = (0, 302))) (r6 : Hid (BM.bin64 129 (-9223372036854775808) (-1) = (0, 0))) (r7 : Hid (BM.bin64 128 (-9223372036854775808) (-1) = (0, 0))) (r8 : Hid (BM.bin64 130 (-9223372036854775808) (-1) = ((-9223372036854775808), 0)))  (w : World) :
    Calls Tryd.prog 5 #[.int .i64 (-9223372036854775808), .int .i64 (-1)] w fun e w' => e = .returned (.bool true) ∧ Grown w w' := by
  go_enter Tryd.func5, Tryd.ntmps5
  go_wp2_with fail
  refine (awake_any _).mono ?_
  rintro e w' ⟨rfl, n0, rfl⟩
  go_wp2_with fail
  refine (bin_eq (by decide) r1.out _).mono ?_
  rintro e w' ⟨rfl, rfl⟩
  go_wp2_with fail
  refine (bin_eq (by decide) r2.out _).mono ?_
  rintro e w' ⟨rfl, rfl⟩
  go_wp2_with fail
  refine (bin_eq (by decide) r3.out _).mono ?_
  rintro e w' ⟨rfl, rfl⟩
  go_wp2_with fail
  refine (bin_eq (by decide) r4.out _).mono ?_
  rintro e w' ⟨rfl, rfl⟩
  go_wp2
  refine wp_loop_rounds 3 ?_
  rw [rounds_succ]
  go_wp2_with fail
  refine (bin_eq (by decide) r5.out _).mono ?_
  rintro e w' ⟨rfl, rfl⟩
  go_wp2_with fail
  refine (bin_eq (by decide) r6.out _).mono ?_
  rintro e w' ⟨rfl, rfl⟩
  go_wp2_with (go_at_call 13; refine (num_any _ _).mono ?_; rintro e w' ⟨rfl, rfl⟩)
  rw [rounds_succ]
  go_wp2_with fail
  refine (bin_eqd (by decide) r7.out _).mono ?_
  rintro e w' ⟨rfl, n7, rfl⟩
  go_wp2_with fail
  refine (bin_eqd (by decide) r8.out _).mono ?_
  rintro e w' ⟨rfl, n8, rfl⟩
  go_wp2_with (go_at_call 13; refine (num_any _ _).mono ?_; rintro e w' ⟨rfl, rfl⟩)
  rw [rounds_succ]
  go_wp2
  go_ret
  exact ⟨rfl, grown_drewN _ _⟩
set_option maxRecDepth 100000 in
set_option maxHeartbeats 2000000 in
theorem plain (x y s r q0 m0 q1 m1 : Int) (h0 : ¬ y = 0) (hr : Hid (-9223372036854775808 ≤ y ∧ y ≤ 9223372036854775807)) (r1 : Hid (BM.bin64 124 x y = (s, 0))) (r2 : Hid (BM.bin64 125 s y = (x, 0))) (r3 : Hid (BM.bin64 137 x y = (r, 0))) (r4 : Hid (BM.bin64 138 r y = (x, 0))) (r5 : Hid (BM.bin64 127 x y = (q0, 0))) (r6 : Hid (BM.bin64 129 x y = (m0, 0))) (r7 : Hid (BM.bin64 128 x y = (q1, 0))) (r8 : Hid (BM.bin64 130 x y = (m1, 0))) (t1 : wrap64 (wrap64 (q0 * y) + m0) = x) (t2 : wrap64 (wrap64 (q1 * y) + m1) = x) (w : World) :
    Calls Tryd.prog 5 #[.int .i64 x, .int .i64 y] w fun e w' => e = .returned (.bool true) ∧ Grown w w' := by
  go_enter Tryd.func5, Tryd.ntmps5
  go_wp2_with fail
  refine (awake_any _).mono ?_
  rintro e w' ⟨rfl, n0, rfl⟩
  go_wp2_with fail
  refine (bin_eq (by decide) r1.out _).mono ?_
  rintro e w' ⟨rfl, rfl⟩
  go_wp2_with fail
  refine (bin_eq (by decide) r2.out _).mono ?_
  rintro e w' ⟨rfl, rfl⟩
  go_wp2_with fail
  refine (bin_eq (by decide) r3.out _).mono ?_
  rintro e w' ⟨rfl, rfl⟩
  go_wp2_with fail
  refine (bin_eq (by decide) r4.out _).mono ?_
  rintro e w' ⟨rfl, rfl⟩
  go_wp2
  refine wp_loop_rounds 3 ?_
  rw [rounds_succ]
  go_wp2_with fail
  refine (bin_eq (by decide) r5.out _).mono ?_
  rintro e w' ⟨rfl, rfl⟩
  go_wp2_with fail
  refine (bin_eq (by decide) r6.out _).mono ?_
  rintro e w' ⟨rfl, rfl⟩
  go_wp2_with (go_at_call 13; refine (num_any _ _).mono ?_; rintro e w' ⟨rfl, rfl⟩)
  rw [rounds_succ]
  go_wp2_with fail
  refine (bin_eqd hr.out r7.out _).mono ?_
  rintro e w' ⟨rfl, n7, rfl⟩
  go_wp2_with fail
  refine (bin_eqd hr.out r8.out _).mono ?_
  rintro e w' ⟨rfl, n8, rfl⟩
  go_wp2_with (go_at_call 13; refine (num_any _ _).mono ?_; rintro e w' ⟨rfl, rfl⟩)
  rw [rounds_succ]
  go_wp2
  go_ret
  exact ⟨rfl, grown_drewN _ _⟩

theorem walk (a0 : Int) (a1 : Int) (w0 : (Lit.int .i64 a0).wf = true) (w1 : (Lit.int .i64 a1).wf = true) (w : World) (hT : Tab 0 Lib.deBruijn32tab w ∧ Tab 1 Lib.deBruijn64tab w) :
    Calls Tryd.prog 5 #[.int .i64 a0, .int .i64 a1] w fun e w' => e = .returned (.bool true) ∧ Grown w w' := by
  have bx := bounds_i64 w0
  have by1 := bounds_i64 w1
  clear hT w0 w1
  have e2 : BM.bin64 125 (wrap64 (a0 + a1)) a1 = (a0, 0) := by
    rw [BM.c_sub, BM.wrap_sub, show a0 + a1 - a1 = a0 from by omega, BM.wrap_id a0 bx]
  have e4 := BM.roll_back64 a0 a1 bx
  by_cases hz : a1 = 0
  · subst hz
    obtain ⟨d1, d2, d3, d4⟩ := BM.c_div0 a0 0 rfl
    exact zero a0 _ _ (BM.c_add _ _) e2 (BM.c_rotl _ _) e4 d1 d3 d2 d4 w
  have u1 := BM.c_divu a0 a1 hz
  have u2 := BM.c_remu a0 a1 hz
  have s2 := BM.c_rems a0 a1 hz
  by_cases ho : a0 = -9223372036854775808 ∧ a1 = -1
  · obtain ⟨rfl, rfl⟩ := ho
    exact overs (by show _ = _; decide +kernel) (by show _ = _; decide +kernel) (by show _ = _; decide +kernel) (by show _ = _; decide +kernel) (by show _ = _; decide +kernel) (by show _ = _; decide +kernel) (by show _ = _; decide +kernel) (by show _ = _; decide +kernel) w
  have s1 := BM.c_divs a0 a1 hz ho
  exact plain a0 a1 _ _ _ _ _ _ hz by1 (BM.c_add _ _) e2 (BM.c_rotl _ _) e4 s1 s2 u1 u2 (BM.div_back_s64 a0 a1 bx) (BM.div_back_u64 a0 a1 bx) w

set_option maxRecDepth 100000 in
theorem lifted (os : Os) (started : os.Started) (H : Type) (enc : TypeId × Value → H) :
    ReturnsInHanded {} Tryd.checked os 5 .any (fun w args => (Rows.i64RulesSpec.pre enc Tryd.prog Tryd.f5 [] false w args ∧ laidMetH Tryd.prog tabs w) ∧ sizedMet enc Tryd.prog Tryd.f5 (OpenSpec.ofChange Rows.i64RulesSpec) false w args)
      (Rows.i64RulesSpec.post enc Tryd.prog Tryd.f5 false true false false) := by
  refine returnsInHanded_of_change_and (C := Tryd.checked) (X := fun w _ => laidMetH Tryd.prog tabs w) (fun _ _ _ hh h => h.of_heap hh) own started (by kernel_rfl) Tryd.func5
    (ChangeSpec.witness_shaped (enc := enc) (C := Tryd.checked) (os := os) (X := fun w _ => laidMetH Tryd.prog tabs w) false (World.doorLaid Tryd.prog 400 os) #[.int .i64 0, .int .i64 0] 8 rfl (World.shaped_of_RefB (by kernel_rfl) (by kernel_rfl)) (by kernel_rfl) (by kernel_rfl) (by kernel_rfl) (door_met os _)) ?_
  intro W base args ds gs before hval0 hW _ _ hL _
  have hval : ∀ (j : Nat) t v, Tryd.f5.params[j]? = some t → args[j]? = some v → Value.okWide Tryd.prog W .any base t v := hval0
  have hW' := hW
  obtain ⟨p, q, hA0, hV, rfl, hfz, hnd⟩ := hW
  have hA : DataW.TrodAll enc Tryd.prog W 0 (fun _ => true) true Tryd.f5.params.toList args.toList ds p := hA0
  rw [Tryd.params5] at hA hval
  obtain ⟨v0, vs0, d0, ds0, p0, q0, hargs, rfl, rfl, h0, r0⟩ := trodAll_cons hA
  obtain ⟨v1, vs1, d1, ds1, p1, q1, rfl, rfl, rfl, h1, r1⟩ := trodAll_cons r0
  obtain ⟨rfl, rfl, rfl⟩ := trodAll_nil r1
  obtain rfl : args = #[v0, v1] := by cases args; simp_all
  obtain ⟨rfl, rfl⟩ := trodVars_none hV
  obtain ⟨a0, rfl, rfl, rfl, w0⟩ := open_int Tryd.underlying3 (hval 0 3 v0 rfl rfl) h0
  obtain ⟨a1, rfl, rfl, rfl, w1⟩ := open_int Tryd.underlying3 (hval 1 3 v1 rfl rfl) h1
  clear hA0 hval0
  simp only [List.append_nil] at hW'
  refine (walk a0 a1 w0 w1 W (of_laid hL)).mono fun e W' ⟨he, hg⟩ => ?_
  subst he
  exact ⟨_, rfl, post_of_same (pa := []) (pv := []) hW' (fun _ _ _ => (trodAll_cons_mk (shut_bool Tryd.underlying4 _) trodAll_mk0)) (fun sp _ => (trodAll_cons_mk (shut_int Tryd.underlying3 w0) (trodAll_cons_mk (shut_int Tryd.underlying3 w1) trodAll_mk0))) (fun _ _ => rfl) rfl
    (hg.frame _) hg.2.1 (ok_one (by kernel_rfl) rfl (okWide_bool_mk Tryd.underlying4 _))⟩

theorem over : Rows.i64RulesRow.holds Tryd.pinned (OpenSpec.ofChange Rows.i64RulesSpec) :=
  OpenClaim.holds_of_wide 5 Tryd.f5 rfl rfl rfl rfl rfl rfl rfl ⟨rfl, rfl, rfl, rfl, rfl⟩ rfl rfl rfl rfl rfl (by kernel_rfl) Tryd.func5 (by kernel_rfl)
    (of_decide_eq_true (by kernel_rfl)) (by unfold Func.isWrapper; first | (rw [if_pos (by decide +kernel)]; kernel_rfl) | (rw [if_neg (by decide +kernel)]; exact ⟨rfl, rfl⟩))
    (fun os started H enc _ => lifted os started H enc)

theorem row_holds : Rows.I64RulesSaid := over

theorem card_holds : Rows.I64RulesCardSaid :=
  Claim7.holds_tied_plain_at .later [] [.data, .data] true (true, "2ebdc143f2b4abfbe67d11490afdcbc72c2e3198a97a59044c44f84c43a9fa4b") false
    row_holds (fun _ h => by cases h) (by kernel_rfl) (fun _ h => by cases h) i64Rules_row_tie rfl ⟨rfl, rfl⟩ (by kernel_rfl) rfl
    (fun f fn hf hfn => by
      obtain rfl : f = 5 := Option.some.inj ((show Tryd.prog.funcNamed Rows.i64RulesRow.func = some 5 by kernel_rfl).symm.trans hf) |>.symm
      obtain rfl : fn = Tryd.f5 := (Option.some.inj (Tryd.func5.symm.trans hfn)).symm
      exact ⟨by kernel_rfl, fun j t ht => by
        rw [Tryd.params5] at ht
        have hm : t ∈ [3, 3] := by simpa using Array.mem_of_getElem? ht
        have hall : ([3, 3].all fun u => !Tryd.prog.wantsStandIn u) = true := by kernel_rfl
        exact (show Tryd.prog.wantsStandIn t = false by simpa using List.all_eq_true.1 hall t hm)⟩)
    (by kernel_rfl)
end Go.Proofs.YtjolnfipacpjgaaDoor.i64Rules
namespace Go.Proofs.YtjolnfipacpjgaaDoor
theorem i64Rules_holds : Rows.I64RulesCardSaid := i64Rules.card_holds
#print axioms i64Rules_holds
end Go.Proofs.YtjolnfipacpjgaaDoor

