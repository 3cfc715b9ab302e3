/- 'I32Signs' of package peloruslaw2 returns true at every input: a division with sign is the one without, of the absolute values, with the sign put on. -/
import Derived.Test.YtdcmiahgmkkdoabDoorI32
import Derived.Test.YtdcmiahgmkkdoabDoorILaw
import Derived.Test.YtdcmiahgmkkdoabDoorLaid
import Derived.Test.YtdcmiahgmkkdoabDoorTie
import Derived.Test.YtdcmiahgmkkdoabDoorCards
import Derived.SevenTiedAt
namespace Go.Proofs.YtdcmiahgmkkdoabDoor.i32Signs
open Go.ChangeShapes Go.WideShapes Go.ChangeAt Go.RowKit
set_option linter.unusedVariables false

set_option maxRecDepth 100000 in
set_option maxHeartbeats 2000000 in
theorem zero (a b x : Int) (hx : bits .and .i64 a 4294967295 = x) (hy : bits .and .i64 b 4294967295 = 0) (r1 : Hid (BM.bin32 109 x 0 = (0, 201))) (w : World) :
    Calls Tryd.prog 5 #[.int .i64 a, .int .i64 b] w fun e w' => e = .returned (.bool true) ∧ Grown w w' := by
  go_enter Tryd.func5, Tryd.ntmps5
  go_wp2_with fail
  refine (awake_any _).mono ?_
  rintro e w' ⟨rfl, n0, rfl⟩
  go_wp2_with fail
  refine (bin_eq r1.out _).mono ?_
  rintro e w' ⟨rfl, rfl⟩
  go_wp2_with (go_at_call 8; refine (num_any _ _).mono ?_; rintro e w' ⟨rfl, rfl⟩)
  go_ret
  exact ⟨rfl, grown_drewN _ _⟩
set_option maxRecDepth 100000 in
set_option maxHeartbeats 2000000 in
theorem overs (a b x y : Int) (hx : bits .and .i64 a 4294967295 = x) (hy : bits .and .i64 b 4294967295 = y) (r1 : Hid (BM.bin32 109 x y = (0, 202))) (w : World) :
    Calls Tryd.prog 5 #[.int .i64 a, .int .i64 b] w fun e w' => e = .returned (.bool true) ∧ Grown w w' := by
  go_enter Tryd.func5, Tryd.ntmps5
  go_wp2_with fail
  refine (awake_any _).mono ?_
  rintro e w' ⟨rfl, n0, rfl⟩
  go_wp2_with fail
  refine (bin_eq r1.out _).mono ?_
  rintro e w' ⟨rfl, rfl⟩
  go_wp2_with (go_at_call 8; refine (num_any _ _).mono ?_; rintro e w' ⟨rfl, rfl⟩)
  go_ret
  exact ⟨rfl, grown_drewN _ _⟩
set_option maxRecDepth 100000 in
set_option maxHeartbeats 2000000 in
theorem c00 (a b x y p q : Int) (X Y Q : Int) (hx : bits .and .i64 a 4294967295 = x) (hy : bits .and .i64 b 4294967295 = y) (r1 : Hid (BM.bin32 109 x y = (p, 0))) (r2 : Hid (BM.bin32 72 x 0 = (0, 0))) (r3 : Hid (BM.bin32 72 y 0 = (0, 0))) (r6 : Hid (BM.bin32 110 x y = (q, 0))) (t1 : (p == q) = true) (w : World) :
    Calls Tryd.prog 5 #[.int .i64 a, .int .i64 b] w fun e w' => e = .returned (.bool true) ∧ Grown w w' := by
  go_enter Tryd.func5, Tryd.ntmps5
  go_wp2_with fail
  refine (awake_any _).mono ?_
  rintro e w' ⟨rfl, n0, rfl⟩
  go_wp2_with fail
  refine (bin_eq r1.out _).mono ?_
  rintro e w' ⟨rfl, rfl⟩
  go_wp2_with fail
  refine (num_any _ _).mono ?_
  rintro e w' ⟨rfl, rfl⟩
  go_wp2_with fail
  refine (bin_eq r2.out _).mono ?_
  rintro e w' ⟨rfl, rfl⟩
  go_wp2_with fail
  refine (bin_eq r3.out _).mono ?_
  rintro e w' ⟨rfl, rfl⟩
  go_wp2_with fail
  refine (bin_eq r6.out _).mono ?_
  rintro e w' ⟨rfl, rfl⟩
  go_wp2_with (go_at_call 8; refine (num_any _ _).mono ?_; rintro e w' ⟨rfl, rfl⟩)
  go_ret
  exact ⟨rfl, grown_drewN _ _⟩
set_option maxRecDepth 100000 in
set_option maxHeartbeats 2000000 in
theorem c01 (a b x y p q : Int) (X Y Q : Int) (hx : bits .and .i64 a 4294967295 = x) (hy : bits .and .i64 b 4294967295 = y) (r1 : Hid (BM.bin32 109 x y = (p, 0))) (r2 : Hid (BM.bin32 72 x 0 = (0, 0))) (r3 : Hid (BM.bin32 72 y 0 = (1, 0))) (r5 : Hid (BM.bin32 107 0 y = (Y, 0))) (r6 : Hid (BM.bin32 110 x Y = (q, 0))) (r7 : Hid (BM.bin32 107 0 q = (Q, 0))) (t1 : (p == Q) = true) (w : World) :
    Calls Tryd.prog 5 #[.int .i64 a, .int .i64 b] w fun e w' => e = .returned (.bool true) ∧ Grown w w' := by
  go_enter Tryd.func5, Tryd.ntmps5
  go_wp2_with fail
  refine (awake_any _).mono ?_
  rintro e w' ⟨rfl, n0, rfl⟩
  go_wp2_with fail
  refine (bin_eq r1.out _).mono ?_
  rintro e w' ⟨rfl, rfl⟩
  go_wp2_with fail
  refine (num_any _ _).mono ?_
  rintro e w' ⟨rfl, rfl⟩
  go_wp2_with fail
  refine (bin_eq r2.out _).mono ?_
  rintro e w' ⟨rfl, rfl⟩
  go_wp2_with fail
  refine (bin_eq r3.out _).mono ?_
  rintro e w' ⟨rfl, rfl⟩
  go_wp2_with fail
  refine (bin_eq r5.out _).mono ?_
  rintro e w' ⟨rfl, rfl⟩
  go_wp2_with fail
  refine (bin_eq r6.out _).mono ?_
  rintro e w' ⟨rfl, rfl⟩
  go_wp2_with fail
  refine (bin_eq r7.out _).mono ?_
  rintro e w' ⟨rfl, rfl⟩
  go_wp2_with (go_at_call 8; refine (num_any _ _).mono ?_; rintro e w' ⟨rfl, rfl⟩)
  go_ret
  exact ⟨rfl, grown_drewN _ _⟩
set_option maxRecDepth 100000 in
set_option maxHeartbeats 2000000 in
theorem c10 (a b x y p q : Int) (X Y Q : Int) (hx : bits .and .i64 a 4294967295 = x) (hy : bits .and .i64 b 4294967295 = y) (r1 : Hid (BM.bin32 109 x y = (p, 0))) (r2 : Hid (BM.bin32 72 x 0 = (1, 0))) (r3 : Hid (BM.bin32 72 y 0 = (0, 0))) (r4 : Hid (BM.bin32 107 0 x = (X, 0))) (r6 : Hid (BM.bin32 110 X y = (q, 0))) (r7 : Hid (BM.bin32 107 0 q = (Q, 0))) (t1 : (p == Q) = true) (w : World) :
    Calls Tryd.prog 5 #[.int .i64 a, .int .i64 b] w fun e w' => e = .returned (.bool true) ∧ Grown w w' := by
  go_enter Tryd.func5, Tryd.ntmps5
  go_wp2_with fail
  refine (awake_any _).mono ?_
  rintro e w' ⟨rfl, n0, rfl⟩
  go_wp2_with fail
  refine (bin_eq r1.out _).mono ?_
  rintro e w' ⟨rfl, rfl⟩
  go_wp2_with fail
  refine (num_any _ _).mono ?_
  rintro e w' ⟨rfl, rfl⟩
  go_wp2_with fail
  refine (bin_eq r2.out _).mono ?_
  rintro e w' ⟨rfl, rfl⟩
  go_wp2_with fail
  refine (bin_eq r3.out _).mono ?_
  rintro e w' ⟨rfl, rfl⟩
  go_wp2_with fail
  refine (bin_eq r4.out _).mono ?_
  rintro e w' ⟨rfl, rfl⟩
  go_wp2_with fail
  refine (bin_eq r6.out _).mono ?_
  rintro e w' ⟨rfl, rfl⟩
  go_wp2_with fail
  refine (bin_eq r7.out _).mono ?_
  rintro e w' ⟨rfl, rfl⟩
  go_wp2_with (go_at_call 8; refine (num_any _ _).mono ?_; rintro e w' ⟨rfl, rfl⟩)
  go_ret
  exact ⟨rfl, grown_drewN _ _⟩
set_option maxRecDepth 100000 in
set_option maxHeartbeats 2000000 in
theorem c11 (a b x y p q : Int) (X Y Q : Int) (hx : bits .and .i64 a 4294967295 = x) (hy : bits .and .i64 b 4294967295 = y) (r1 : Hid (BM.bin32 109 x y = (p, 0))) (r2 : Hid (BM.bin32 72 x 0 = (1, 0))) (r3 : Hid (BM.bin32 72 y 0 = (1, 0))) (r4 : Hid (BM.bin32 107 0 x = (X, 0))) (r5 : Hid (BM.bin32 107 0 y = (Y, 0))) (r6 : Hid (BM.bin32 110 X Y = (q, 0))) (t1 : (p == q) = true) (w : World) :
    Calls Tryd.prog 5 #[.int .i64 a, .int .i64 b] w fun e w' => e = .returned (.bool true) ∧ Grown w w' := by
  go_enter Tryd.func5, Tryd.ntmps5
  go_wp2_with fail
  refine (awake_any _).mono ?_
  rintro e w' ⟨rfl, n0, rfl⟩
  go_wp2_with fail
  refine (bin_eq r1.out _).mono ?_
  rintro e w' ⟨rfl, rfl⟩
  go_wp2_with fail
  refine (num_any _ _).mono ?_
  rintro e w' ⟨rfl, rfl⟩
  go_wp2_with fail
  refine (bin_eq r2.out _).mono ?_
  rintro e w' ⟨rfl, rfl⟩
  go_wp2_with fail
  refine (bin_eq r3.out _).mono ?_
  rintro e w' ⟨rfl, rfl⟩
  go_wp2_with fail
  refine (bin_eq r4.out _).mono ?_
  rintro e w' ⟨rfl, rfl⟩
  go_wp2_with fail
  refine (bin_eq r5.out _).mono ?_
  rintro e w' ⟨rfl, rfl⟩
  go_wp2_with fail
  refine (bin_eq r6.out _).mono ?_
  rintro e w' ⟨rfl, rfl⟩
  go_wp2_with (go_at_call 8; refine (num_any _ _).mono ?_; rintro e w' ⟨rfl, rfl⟩)
  go_ret
  exact ⟨rfl, grown_drewN _ _⟩

theorem walk (a0 : Int) (a1 : Int) (w0 : (Lit.int .i64 a0).wf = true) (w1 : (Lit.int .i64 a1).wf = true) (w : World) (hT : Tab 0 Lib.deBruijn32tab w ∧ Tab 1 Lib.deBruijn64tab w) :
    Calls Tryd.prog 5 #[.int .i64 a0, .int .i64 a1] w fun e w' => e = .returned (.bool true) ∧ Grown w w' := by
  obtain ⟨x, hx, x0, x1⟩ : ∃ x : Int, a0 % 4294967296 = x ∧ 0 ≤ x ∧ x < 4294967296 := ⟨a0 % 4294967296, rfl, by omega, by omega⟩
  obtain ⟨y, hy, y0, y1⟩ : ∃ y : Int, a1 % 4294967296 = y ∧ 0 ≤ y ∧ y < 4294967296 := ⟨a1 % 4294967296, rfl, by omega, by omega⟩
  have ex : bits .and .i64 a0 4294967295 = x := by rw [BM.and32, hx]
  have ey : bits .and .i64 a1 4294967295 = y := by rw [BM.and32, hy]
  have xl : x % 4294967296 = x := by omega
  have yl : y % 4294967296 = y := by omega
  clear hT
  by_cases hz : y = 0
  · subst hz
    exact zero a0 a1 x ex ey (BM.b_div0 x 0 rfl).1 w
  have hz' : y % 4294967296 ≠ 0 := by rw [yl]; exact hz
  by_cases ho : BM.sg x = -2147483648 ∧ BM.sg y = -1
  · exact overs a0 a1 x y ex ey (BM.b_over x y hz' ho) w
  have hd := BM.b_divs x y hz' ho
  have sx := BM.sg_cases x
  have sy := BM.sg_cases y
  rw [xl] at sx
  rw [yl] at sy
  have nx : 2147483648 ≤ x → (0 - x) % 4294967296 = 4294967296 - x := by omega
  have ny : 2147483648 ≤ y → (0 - y) % 4294967296 = 4294967296 - y := by omega
  rcases sx with ⟨ex1, lx⟩ | ⟨ex1, lx⟩
  · have fx := BM.neg_no x (by omega)
    rcases sy with ⟨ey1, ly⟩ | ⟨ey1, ly⟩
    · have fy := BM.neg_no y (by omega)
      refine c00 a0 a1 x y _ _ 0 0 0 ex ey hd fx fy (BM.b_divu x y hz') ?_ w
      rw [ex1, ey1, xl, yl, (BM.signs x y x y x0 (by omega) (Or.inl rfl) (Or.inl rfl)).1 ⟨rfl, rfl⟩]
      exact BM.low_quo x y ⟨x0, x1⟩ (by omega)
    · have fy := BM.neg_yes y (by omega)
      have hY : (4294967296 - y) % 4294967296 = 4294967296 - y := by omega
      refine c01 a0 a1 x y _ _ 0 (4294967296 - y) _ ex ey hd fx fy (by show _ = _; rw [BM.b_sub, ny ly]) (BM.b_divu x _ (by omega)) (BM.b_sub _ _) ?_ w
      rw [ex1, ey1, xl, hY, (BM.signs x (y - 4294967296) x (4294967296 - y) x0 (by omega) (Or.inl rfl) (Or.inr (by omega))).2.1 ⟨rfl, by omega⟩, Int.zero_sub]
      exact beq_self_eq_true _
  · have fx := BM.neg_yes x (by omega)
    have hX : (4294967296 - x) % 4294967296 = 4294967296 - x := by omega
    rcases sy with ⟨ey1, ly⟩ | ⟨ey1, ly⟩
    · have fy := BM.neg_no y (by omega)
      refine c10 a0 a1 x y _ _ (4294967296 - x) 0 _ ex ey hd fx fy (by show _ = _; rw [BM.b_sub, nx lx]) (BM.b_divu _ y hz') (BM.b_sub _ _) ?_ w
      rw [ex1, ey1, yl, hX, (BM.signs (x - 4294967296) y (4294967296 - x) y (by omega) (by omega) (Or.inr (by omega)) (Or.inl rfl)).2.2.1 ⟨by omega, rfl⟩, Int.zero_sub]
      exact beq_self_eq_true _
    · have fy := BM.neg_yes y (by omega)
      have hY : (4294967296 - y) % 4294967296 = 4294967296 - y := by omega
      refine c11 a0 a1 x y _ _ (4294967296 - x) (4294967296 - y) 0 ex ey hd fx fy (by show _ = _; rw [BM.b_sub, nx lx]) (by show _ = _; rw [BM.b_sub, ny ly]) (BM.b_divu _ _ (by omega)) ?_ w
      rw [ex1, ey1, hX, hY, (BM.signs (x - 4294967296) (y - 4294967296) (4294967296 - x) (4294967296 - y) (by omega) (by omega) (Or.inr (by omega)) (Or.inr (by omega))).2.2.2 ⟨by omega, by omega⟩]
      exact BM.low_quo _ _ ⟨by omega, by omega⟩ (by omega)

set_option maxRecDepth 100000 in
theorem lifted (os : Os) (started : os.Started) (H : Type) (enc : TypeId × Value → H) :
    ReturnsInHanded {} Tryd.checked os 5 .any (fun w args => (Rows.i32SignsSpec.pre enc Tryd.prog Tryd.f5 [] false w args ∧ laidMetH Tryd.prog tabs w) ∧ sizedMet enc Tryd.prog Tryd.f5 (OpenSpec.ofChange Rows.i32SignsSpec) false w args)
      (Rows.i32SignsSpec.post enc Tryd.prog Tryd.f5 false true false false) := by
  refine returnsInHanded_of_change_and (C := Tryd.checked) (X := fun w _ => laidMetH Tryd.prog tabs w) (fun _ _ _ hh h => h.of_heap hh) own started (by kernel_rfl) Tryd.func5
    (ChangeSpec.witness_shaped (enc := enc) (C := Tryd.checked) (os := os) (X := fun w _ => laidMetH Tryd.prog tabs w) false (World.doorLaid Tryd.prog 400 os) #[.int .i64 0, .int .i64 0] 8 rfl (World.shaped_of_RefB (by kernel_rfl) (by kernel_rfl)) (by kernel_rfl) (by kernel_rfl) (by kernel_rfl) (door_met os _)) ?_
  intro W base args ds gs before hval0 hW _ _ hL _
  have hval : ∀ (j : Nat) t v, Tryd.f5.params[j]? = some t → args[j]? = some v → Value.okWide Tryd.prog W .any base t v := hval0
  have hW' := hW
  obtain ⟨p, q, hA0, hV, rfl, hfz, hnd⟩ := hW
  have hA : DataW.TrodAll enc Tryd.prog W 0 (fun _ => true) true Tryd.f5.params.toList args.toList ds p := hA0
  rw [Tryd.params5] at hA hval
  obtain ⟨v0, vs0, d0, ds0, p0, q0, hargs, rfl, rfl, h0, r0⟩ := trodAll_cons hA
  obtain ⟨v1, vs1, d1, ds1, p1, q1, rfl, rfl, rfl, h1, r1⟩ := trodAll_cons r0
  obtain ⟨rfl, rfl, rfl⟩ := trodAll_nil r1
  obtain rfl : args = #[v0, v1] := by cases args; simp_all
  obtain ⟨rfl, rfl⟩ := trodVars_none hV
  obtain ⟨a0, rfl, rfl, rfl, w0⟩ := open_int Tryd.underlying3 (hval 0 3 v0 rfl rfl) h0
  obtain ⟨a1, rfl, rfl, rfl, w1⟩ := open_int Tryd.underlying3 (hval 1 3 v1 rfl rfl) h1
  clear hA0 hval0
  simp only [List.append_nil] at hW'
  refine (walk a0 a1 w0 w1 W (of_laid hL)).mono fun e W' ⟨he, hg⟩ => ?_
  subst he
  exact ⟨_, rfl, post_of_same (pa := []) (pv := []) hW' (fun _ _ _ => (trodAll_cons_mk (shut_bool Tryd.underlying4 _) trodAll_mk0)) (fun sp _ => (trodAll_cons_mk (shut_int Tryd.underlying3 w0) (trodAll_cons_mk (shut_int Tryd.underlying3 w1) trodAll_mk0))) (fun _ _ => rfl) rfl
    (hg.frame _) hg.2.1 (ok_one (by kernel_rfl) rfl (okWide_bool_mk Tryd.underlying4 _))⟩

theorem over : Rows.i32SignsRow.holds Tryd.pinned (OpenSpec.ofChange Rows.i32SignsSpec) :=
  OpenClaim.holds_of_wide 5 Tryd.f5 rfl rfl rfl rfl rfl rfl rfl ⟨rfl, rfl, rfl, rfl, rfl⟩ rfl rfl rfl rfl rfl (by kernel_rfl) Tryd.func5 (by kernel_rfl)
    (of_decide_eq_true (by kernel_rfl)) (by unfold Func.isWrapper; first | (rw [if_pos (by decide +kernel)]; kernel_rfl) | (rw [if_neg (by decide +kernel)]; exact ⟨rfl, rfl⟩))
    (fun os started H enc _ => lifted os started H enc)

theorem row_holds : Rows.I32SignsSaid := over

theorem card_holds : Rows.I32SignsCardSaid :=
  Claim7.holds_tied_plain_at .later [] [.data, .data] true (true, "81248f1b6c8ddbf2d173da93f4ace5a498ce79495c5525198b2d1d1e98a0ebf2") false
    row_holds (fun _ h => by cases h) (by kernel_rfl) (fun _ h => by cases h) i32Signs_row_tie rfl ⟨rfl, rfl⟩ (by kernel_rfl) rfl
    (fun f fn hf hfn => by
      obtain rfl : f = 5 := Option.some.inj ((show Tryd.prog.funcNamed Rows.i32SignsRow.func = some 5 by kernel_rfl).symm.trans hf) |>.symm
      obtain rfl : fn = Tryd.f5 := (Option.some.inj (Tryd.func5.symm.trans hfn)).symm
      exact ⟨by kernel_rfl, fun j t ht => by
        rw [Tryd.params5] at ht
        have hm : t ∈ [3, 3] := by simpa using Array.mem_of_getElem? ht
        have hall : ([3, 3].all fun u => !Tryd.prog.wantsStandIn u) = true := by kernel_rfl
        exact (show Tryd.prog.wantsStandIn t = false by simpa using List.all_eq_true.1 hall t hm)⟩)
    (by kernel_rfl)
end Go.Proofs.YtdcmiahgmkkdoabDoor.i32Signs
namespace Go.Proofs.YtdcmiahgmkkdoabDoor
theorem i32Signs_holds : Rows.I32SignsCardSaid := i32Signs.card_holds
#print axioms i32Signs_holds
end Go.Proofs.YtdcmiahgmkkdoabDoor

