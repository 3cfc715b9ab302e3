/- 'I32Rules' of package peloruslaw2 returns true at every input: a division and its rest make the number; differences undo sums; rolls undo one another. -/
import Derived.Test.YtdcmiahgmkkdoaaDoorI32
import Derived.Test.YtdcmiahgmkkdoaaDoorILaw
import Derived.Test.YtdcmiahgmkkdoaaDoorLaid
import Derived.Test.YtdcmiahgmkkdoaaDoorTie
import Derived.Test.YtdcmiahgmkkdoaaDoorCards
import Derived.SevenTiedAt
import Derived.LoopN
namespace Go.Proofs.YtdcmiahgmkkdoaaDoor.i32Rules
open Go.ChangeShapes Go.WideShapes Go.ChangeAt Go.RowKit
set_option linter.unusedVariables false

set_option maxRecDepth 100000 in
set_option maxHeartbeats 2000000 in
theorem zero (a b x s r : Int) (hx : bits .and .i64 a 4294967295 = x) (hy : bits .and .i64 b 4294967295 = 0) (r1 : Hid (BM.bin32 106 x 0 = (s, 0))) (r2 : Hid (BM.bin32 107 s 0 = (x, 0))) (r3 : Hid (BM.bin32 119 x 0 = (r, 0))) (r4 : Hid (BM.bin32 120 r 0 = (x, 0))) (r5 : Hid (BM.bin32 109 x 0 = (0, 201))) (r6 : Hid (BM.bin32 111 x 0 = (0, 201))) (r7 : Hid (BM.bin32 110 x 0 = (0, 201))) (r8 : Hid (BM.bin32 112 x 0 = (0, 201))) (w : World) :
    Calls Tryd.prog 5 #[.int .i64 a, .int .i64 b] w fun e w' => e = .returned (.bool true) ∧ Grown w w' := by
  go_enter Tryd.func5, Tryd.ntmps5
  go_wp2_with fail
  refine (awake_any _).mono ?_
  rintro e w' ⟨rfl, n0, rfl⟩
  go_wp2_with fail
  refine (bin_eq r1.out _).mono ?_
  rintro e w' ⟨rfl, rfl⟩
  go_wp2_with fail
  refine (bin_eq r2.out _).mono ?_
  rintro e w' ⟨rfl, rfl⟩
  go_wp2_with fail
  refine (bin_eq r3.out _).mono ?_
  rintro e w' ⟨rfl, rfl⟩
  go_wp2_with fail
  refine (bin_eq r4.out _).mono ?_
  rintro e w' ⟨rfl, rfl⟩
  go_wp2
  refine wp_loop_rounds 3 ?_
  rw [rounds_succ]
  go_wp2_with fail
  refine (bin_eq r5.out _).mono ?_
  rintro e w' ⟨rfl, rfl⟩
  go_wp2_with fail
  refine (bin_eq r6.out _).mono ?_
  rintro e w' ⟨rfl, rfl⟩
  go_wp2_with (go_at_call 13; refine (num_any _ _).mono ?_; rintro e w' ⟨rfl, rfl⟩)
  rw [rounds_succ]
  go_wp2_with fail
  refine (bin_eq r7.out _).mono ?_
  rintro e w' ⟨rfl, rfl⟩
  go_wp2_with fail
  refine (bin_eq r8.out _).mono ?_
  rintro e w' ⟨rfl, rfl⟩
  go_wp2_with (go_at_call 13; refine (num_any _ _).mono ?_; rintro e w' ⟨rfl, rfl⟩)
  rw [rounds_succ]
  go_wp2
  go_ret
  exact ⟨rfl, grown_drewN _ _⟩
set_option maxRecDepth 100000 in
set_option maxHeartbeats 2000000 in
theorem overs (a b : Int) (hx : bits .and .i64 a 4294967295 = 2147483648) (hy : bits .and .i64 b 4294967295 = 4294967295) (r1 : Hid (BM.bin32 106 2147483648 4294967295 = (2147483647, 0))) (r2 : Hid (BM.bin32 107 2147483647 4294967295 = (2147483648, 0))) (r3 : Hid (BM.bin32 119 2147483648 4294967295 = (1073741824, 0))) (r4 : Hid (BM.bin32 120 1073741824 4294967295 = (2147483648, 0))) (r5 : Hid (BM.bin32 109 2147483648 4294967295 = (0, 202))) (r6 : Hid (BM.bin32 111 2147483648 4294967295 = (0, 0))) (r7 : Hid (BM.bin32 110 2147483648 4294967295 = (0, 0))) (r8 : Hid (BM.bin32 112 2147483648 4294967295 = (2147483648, 0))) (r9 : Hid (BM.bin32 108 0 4294967295 = (0, 0))) (r10 : Hid (BM.bin32 106 0 2147483648 = (2147483648, 0))) (w : World) :
    Calls Tryd.prog 5 #[.int .i64 a, .int .i64 b] w fun e w' => e = .returned (.bool true) ∧ Grown w w' := by
  go_enter Tryd.func5, Tryd.ntmps5
  go_wp2_with fail
  refine (awake_any _).mono ?_
  rintro e w' ⟨rfl, n0, rfl⟩
  go_wp2_with fail
  refine (bin_eq r1.out _).mono ?_
  rintro e w' ⟨rfl, rfl⟩
  go_wp2_with fail
  refine (bin_eq r2.out _).mono ?_
  rintro e w' ⟨rfl, rfl⟩
  go_wp2_with fail
  refine (bin_eq r3.out _).mono ?_
  rintro e w' ⟨rfl, rfl⟩
  go_wp2_with fail
  refine (bin_eq r4.out _).mono ?_
  rintro e w' ⟨rfl, rfl⟩
  go_wp2
  refine wp_loop_rounds 3 ?_
  rw [rounds_succ]
  go_wp2_with fail
  refine (bin_eq r5.out _).mono ?_
  rintro e w' ⟨rfl, rfl⟩
  go_wp2_with fail
  refine (bin_eq r6.out _).mono ?_
  rintro e w' ⟨rfl, rfl⟩
  go_wp2_with (go_at_call 13; refine (num_any _ _).mono ?_; rintro e w' ⟨rfl, rfl⟩)
  rw [rounds_succ]
  go_wp2_with fail
  refine (bin_eq r7.out _).mono ?_
  rintro e w' ⟨rfl, rfl⟩
  go_wp2_with fail
  refine (bin_eq r8.out _).mono ?_
  rintro e w' ⟨rfl, rfl⟩
  go_wp2_with fail
  refine (num_any _ _).mono ?_
  rintro e w' ⟨rfl, rfl⟩
  go_wp2_with fail
  refine (num_any _ _).mono ?_
  rintro e w' ⟨rfl, rfl⟩
  go_wp2_with fail
  refine (bin_eq r9.out _).mono ?_
  rintro e w' ⟨rfl, rfl⟩
  go_wp2_with fail
  refine (bin_eq r10.out _).mono ?_
  rintro e w' ⟨rfl, rfl⟩
  go_wp2_with (go_at_call 13; refine (num_any _ _).mono ?_; rintro e w' ⟨rfl, rfl⟩)
  rw [rounds_succ]
  go_wp2
  go_ret
  exact ⟨rfl, grown_drewN _ _⟩
set_option maxRecDepth 100000 in
set_option maxHeartbeats 2000000 in
theorem plain (a b x y s r : Int) (hx : bits .and .i64 a 4294967295 = x) (hy : bits .and .i64 b 4294967295 = y) (r1 : Hid (BM.bin32 106 x y = (s, 0))) (r2 : Hid (BM.bin32 107 s y = (x, 0))) (r3 : Hid (BM.bin32 119 x y = (r, 0))) (r4 : Hid (BM.bin32 120 r y = (x, 0))) (q0 m0 p0 q1 m1 p1 : Int) (h0 : ¬ y = 0) (r5 : Hid (BM.bin32 109 x y = (q0, 0))) (r6 : Hid (BM.bin32 111 x y = (m0, 0))) (r11 : Hid (BM.bin32 108 q0 y = (p0, 0))) (r12 : Hid (BM.bin32 106 p0 m0 = (x, 0))) (r7 : Hid (BM.bin32 110 x y = (q1, 0))) (r8 : Hid (BM.bin32 112 x y = (m1, 0))) (r9 : Hid (BM.bin32 108 q1 y = (p1, 0))) (r10 : Hid (BM.bin32 106 p1 m1 = (x, 0))) (w : World) :
    Calls Tryd.prog 5 #[.int .i64 a, .int .i64 b] w fun e w' => e = .returned (.bool true) ∧ Grown w w' := by
  go_enter Tryd.func5, Tryd.ntmps5
  go_wp2_with fail
  refine (awake_any _).mono ?_
  rintro e w' ⟨rfl, n0, rfl⟩
  go_wp2_with fail
  refine (bin_eq r1.out _).mono ?_
  rintro e w' ⟨rfl, rfl⟩
  go_wp2_with fail
  refine (bin_eq r2.out _).mono ?_
  rintro e w' ⟨rfl, rfl⟩
  go_wp2_with fail
  refine (bin_eq r3.out _).mono ?_
  rintro e w' ⟨rfl, rfl⟩
  go_wp2_with fail
  refine (bin_eq r4.out _).mono ?_
  rintro e w' ⟨rfl, rfl⟩
  go_wp2
  refine wp_loop_rounds 3 ?_
  rw [rounds_succ]
  go_wp2_with fail
  refine (bin_eq r5.out _).mono ?_
  rintro e w' ⟨rfl, rfl⟩
  go_wp2_with fail
  refine (bin_eq r6.out _).mono ?_
  rintro e w' ⟨rfl, rfl⟩
  go_wp2_with fail
  refine (num_any _ _).mono ?_
  rintro e w' ⟨rfl, rfl⟩
  go_wp2_with fail
  refine (num_any _ _).mono ?_
  rintro e w' ⟨rfl, rfl⟩
  go_wp2_with fail
  refine (bin_eq r11.out _).mono ?_
  rintro e w' ⟨rfl, rfl⟩
  go_wp2_with fail
  refine (bin_eq r12.out _).mono ?_
  rintro e w' ⟨rfl, rfl⟩
  go_wp2_with (go_at_call 13; refine (num_any _ _).mono ?_; rintro e w' ⟨rfl, rfl⟩)
  rw [rounds_succ]
  go_wp2_with fail
  refine (bin_eq r7.out _).mono ?_
  rintro e w' ⟨rfl, rfl⟩
  go_wp2_with fail
  refine (bin_eq r8.out _).mono ?_
  rintro e w' ⟨rfl, rfl⟩
  go_wp2_with fail
  refine (num_any _ _).mono ?_
  rintro e w' ⟨rfl, rfl⟩
  go_wp2_with fail
  refine (num_any _ _).mono ?_
  rintro e w' ⟨rfl, rfl⟩
  go_wp2_with fail
  refine (bin_eq r9.out _).mono ?_
  rintro e w' ⟨rfl, rfl⟩
  go_wp2_with fail
  refine (bin_eq r10.out _).mono ?_
  rintro e w' ⟨rfl, rfl⟩
  go_wp2_with (go_at_call 13; refine (num_any _ _).mono ?_; rintro e w' ⟨rfl, rfl⟩)
  rw [rounds_succ]
  go_wp2
  go_ret
  exact ⟨rfl, grown_drewN _ _⟩

theorem walk (a0 : Int) (a1 : Int) (w0 : (Lit.int .i64 a0).wf = true) (w1 : (Lit.int .i64 a1).wf = true) (w : World) (hT : Tab 0 Lib.deBruijn32tab w ∧ Tab 1 Lib.deBruijn64tab w) :
    Calls Tryd.prog 5 #[.int .i64 a0, .int .i64 a1] w fun e w' => e = .returned (.bool true) ∧ Grown w w' := by
  obtain ⟨x, hx, x0, x1⟩ : ∃ x : Int, a0 % 4294967296 = x ∧ 0 ≤ x ∧ x < 4294967296 := ⟨a0 % 4294967296, rfl, by omega, by omega⟩
  obtain ⟨y, hy, y0, y1⟩ : ∃ y : Int, a1 % 4294967296 = y ∧ 0 ≤ y ∧ y < 4294967296 := ⟨a1 % 4294967296, rfl, by omega, by omega⟩
  have ex : bits .and .i64 a0 4294967295 = x := by rw [BM.and32, hx]
  have ey : bits .and .i64 a1 4294967295 = y := by rw [BM.and32, hy]
  have xl : x % 4294967296 = x := by omega
  have yl : y % 4294967296 = y := by omega
  clear hT
  have e2 : BM.bin32 107 ((x + y) % 4294967296) y = (x, 0) := by
    rw [BM.b_sub]; congr 1; omega
  have e4 : BM.bin32 120 (BM.rotl 32 (x % 4294967296).toNat (y % 32).toNat : Nat) y = (x, 0) := BM.roll_back x y x0 x1
  by_cases hz : y = 0
  · subst hz
    obtain ⟨d1, d2, d3, d4⟩ := BM.b_div0 x 0 rfl
    exact zero a0 a1 x _ _ ex ey (BM.b_add _ _) e2 (BM.b_rotl _ _) e4 d1 d3 d2 d4 w
  have hz' : y % 4294967296 ≠ 0 := by rw [yl]; exact hz
  have u1 := BM.b_divu x y hz'
  have u2 := BM.b_remu x y hz'
  rw [xl, yl] at u1 u2
  have s2 := BM.b_rems x y hz'
  by_cases ho : BM.sg x = -2147483648 ∧ BM.sg y = -1
  · have sx := BM.sg_cases x
    have sy := BM.sg_cases y
    obtain rfl : x = 2147483648 := by omega
    obtain rfl : y = 4294967295 := by omega
    exact overs a0 a1 ex ey (by show _ = _; decide +kernel) (by show _ = _; decide +kernel) (by show _ = _; decide +kernel) (by show _ = _; decide +kernel) (by show _ = _; decide +kernel) (by show _ = _; decide +kernel) (by show _ = _; decide +kernel) (by show _ = _; decide +kernel) (by show _ = _; decide +kernel) (by show _ = _; decide +kernel) w
  have s1 := BM.b_divs x y hz' ho
  refine plain a0 a1 x y _ _ ex ey (BM.b_add _ _) e2 (BM.b_rotl _ _) e4 _ _ _ _ _ _ hz s1 s2 (BM.b_mul _ _) ?_ u1 u2 (BM.b_mul _ _) ?_ w
  · show _ = _
    rw [BM.b_add]
    rw [BM.div_back_s (BM.sg x) (BM.sg y) x y (by rw [BM.sg_mod, xl]) (by rw [BM.sg_mod, yl])]
  · show _ = _
    rw [BM.b_add]
    rw [BM.div_back_u x y ⟨x0, x1⟩]

set_option maxRecDepth 100000 in
theorem lifted (os : Os) (started : os.Started) (H : Type) (enc : TypeId × Value → H) :
    ReturnsInHanded {} Tryd.checked os 5 .any (fun w args => (Rows.i32RulesSpec.pre enc Tryd.prog Tryd.f5 [] false w args ∧ laidMetH Tryd.prog tabs w) ∧ sizedMet enc Tryd.prog Tryd.f5 (OpenSpec.ofChange Rows.i32RulesSpec) false w args)
      (Rows.i32RulesSpec.post enc Tryd.prog Tryd.f5 false true false false) := by
  refine returnsInHanded_of_change_and (C := Tryd.checked) (X := fun w _ => laidMetH Tryd.prog tabs w) (fun _ _ _ hh h => h.of_heap hh) own started (by kernel_rfl) Tryd.func5
    (ChangeSpec.witness_shaped (enc := enc) (C := Tryd.checked) (os := os) (X := fun w _ => laidMetH Tryd.prog tabs w) false (World.doorLaid Tryd.prog 400 os) #[.int .i64 0, .int .i64 0] 8 rfl (World.shaped_of_RefB (by kernel_rfl) (by kernel_rfl)) (by kernel_rfl) (by kernel_rfl) (by kernel_rfl) (door_met os _)) ?_
  intro W base args ds gs before hval0 hW _ _ hL _
  have hval : ∀ (j : Nat) t v, Tryd.f5.params[j]? = some t → args[j]? = some v → Value.okWide Tryd.prog W .any base t v := hval0
  have hW' := hW
  obtain ⟨p, q, hA0, hV, rfl, hfz, hnd⟩ := hW
  have hA : DataW.TrodAll enc Tryd.prog W 0 (fun _ => true) true Tryd.f5.params.toList args.toList ds p := hA0
  rw [Tryd.params5] at hA hval
  obtain ⟨v0, vs0, d0, ds0, p0, q0, hargs, rfl, rfl, h0, r0⟩ := trodAll_cons hA
  obtain ⟨v1, vs1, d1, ds1, p1, q1, rfl, rfl, rfl, h1, r1⟩ := trodAll_cons r0
  obtain ⟨rfl, rfl, rfl⟩ := trodAll_nil r1
  obtain rfl : args = #[v0, v1] := by cases args; simp_all
  obtain ⟨rfl, rfl⟩ := trodVars_none hV
  obtain ⟨a0, rfl, rfl, rfl, w0⟩ := open_int Tryd.underlying3 (hval 0 3 v0 rfl rfl) h0
  obtain ⟨a1, rfl, rfl, rfl, w1⟩ := open_int Tryd.underlying3 (hval 1 3 v1 rfl rfl) h1
  clear hA0 hval0
  simp only [List.append_nil] at hW'
  refine (walk a0 a1 w0 w1 W (of_laid hL)).mono fun e W' ⟨he, hg⟩ => ?_
  subst he
  exact ⟨_, rfl, post_of_same (pa := []) (pv := []) hW' (fun _ _ _ => (trodAll_cons_mk (shut_bool Tryd.underlying4 _) trodAll_mk0)) (fun sp _ => (trodAll_cons_mk (shut_int Tryd.underlying3 w0) (trodAll_cons_mk (shut_int Tryd.underlying3 w1) trodAll_mk0))) (fun _ _ => rfl) rfl
    (hg.frame _) hg.2.1 (ok_one (by kernel_rfl) rfl (okWide_bool_mk Tryd.underlying4 _))⟩

theorem over : Rows.i32RulesRow.holds Tryd.pinned (OpenSpec.ofChange Rows.i32RulesSpec) :=
  OpenClaim.holds_of_wide 5 Tryd.f5 rfl rfl rfl rfl rfl rfl rfl ⟨rfl, rfl, rfl, rfl, rfl⟩ rfl rfl rfl rfl rfl (by kernel_rfl) Tryd.func5 (by kernel_rfl)
    (of_decide_eq_true (by kernel_rfl)) (by unfold Func.isWrapper; first | (rw [if_pos (by decide +kernel)]; kernel_rfl) | (rw [if_neg (by decide +kernel)]; exact ⟨rfl, rfl⟩))
    (fun os started H enc _ => lifted os started H enc)

theorem row_holds : Rows.I32RulesSaid := over

theorem card_holds : Rows.I32RulesCardSaid :=
  Claim7.holds_tied_plain_at .later [] [.data, .data] true (true, "03aaa95249fb4af9e6912b7fb28c194595348c44959a030161ef470846f6dc32") false
    row_holds (fun _ h => by cases h) (by kernel_rfl) (fun _ h => by cases h) i32Rules_row_tie rfl ⟨rfl, rfl⟩ (by kernel_rfl) rfl
    (fun f fn hf hfn => by
      obtain rfl : f = 5 := Option.some.inj ((show Tryd.prog.funcNamed Rows.i32RulesRow.func = some 5 by kernel_rfl).symm.trans hf) |>.symm
      obtain rfl : fn = Tryd.f5 := (Option.some.inj (Tryd.func5.symm.trans hfn)).symm
      exact ⟨by kernel_rfl, fun j t ht => by
        rw [Tryd.params5] at ht
        have hm : t ∈ [3, 3] := by simpa using Array.mem_of_getElem? ht
        have hall : ([3, 3].all fun u => !Tryd.prog.wantsStandIn u) = true := by kernel_rfl
        exact (show Tryd.prog.wantsStandIn t = false by simpa using List.all_eq_true.1 hall t hm)⟩)
    (by kernel_rfl)
end Go.Proofs.YtdcmiahgmkkdoaaDoor.i32Rules
namespace Go.Proofs.YtdcmiahgmkkdoaaDoor
theorem i32Rules_holds : Rows.I32RulesCardSaid := i32Rules.card_holds
#print axioms i32Rules_holds
end Go.Proofs.YtdcmiahgmkkdoaaDoor

