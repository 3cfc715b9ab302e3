/- 'I64Signs' of package peloruslaw3 returns true at every input: a division with sign is the one without, of the absolute values, with the sign put on. -/
import Derived.Test.YtjolnfipacpjgabDoorI64
import Derived.Test.YtjolnfipacpjgabDoorLaid
import Derived.Test.YtjolnfipacpjgabDoorTie
import Derived.Test.YtjolnfipacpjgabDoorCards
import Derived.SevenTiedAt
namespace Go.Proofs.YtjolnfipacpjgabDoor.i64Signs
open Go.ChangeShapes Go.WideShapes Go.ChangeAt Go.RowKit
set_option linter.unusedVariables false

set_option maxRecDepth 100000 in
set_option maxHeartbeats 2000000 in
theorem zero (x : Int) (r1 : Hid (BM.bin64 127 x 0 = (0, 301))) (w : World) :
    Calls Tryd.prog 5 #[.int .i64 x, .int .i64 0] w fun e w' => e = .returned (.bool true) ∧ Grown w w' := by
  go_enter Tryd.func5, Tryd.ntmps5
  go_wp2_with fail
  refine (awake_any _).mono ?_
  rintro e w' ⟨rfl, n0, rfl⟩
  go_wp2_with fail
  refine (bin_eq (by decide) r1.out _).mono ?_
  rintro e w' ⟨rfl, rfl⟩
  go_wp2_with (go_at_call 8; refine (num_any _ _).mono ?_; rintro e w' ⟨rfl, rfl⟩)
  go_ret
  exact ⟨rfl, grown_drewN _ _⟩
set_option maxRecDepth 100000 in
set_option maxHeartbeats 2000000 in
theorem overs (x y : Int) (r1 : Hid (BM.bin64 127 x y = (0, 302))) (w : World) :
    Calls Tryd.prog 5 #[.int .i64 x, .int .i64 y] w fun e w' => e = .returned (.bool true) ∧ Grown w w' := by
  go_enter Tryd.func5, Tryd.ntmps5
  go_wp2_with fail
  refine (awake_any _).mono ?_
  rintro e w' ⟨rfl, n0, rfl⟩
  go_wp2_with fail
  refine (bin_eq (by decide) r1.out _).mono ?_
  rintro e w' ⟨rfl, rfl⟩
  go_wp2_with (go_at_call 8; refine (num_any _ _).mono ?_; rintro e w' ⟨rfl, rfl⟩)
  go_ret
  exact ⟨rfl, grown_drewN _ _⟩
set_option maxRecDepth 100000 in
set_option maxHeartbeats 2000000 in
theorem c00 (x y p q X Y Q : Int) (r1 : Hid (BM.bin64 127 x y = (p, 0))) (r2 : Hid (BM.bin64 83 x 0 = (0, 0))) (r3 : Hid (BM.bin64 83 y 0 = (0, 0))) (hr : Hid (-9223372036854775808 ≤ y ∧ y ≤ 9223372036854775807)) (r6 : Hid (BM.bin64 128 x y = (q, 0))) (t1 : (p == q) = true) (w : World) :
    Calls Tryd.prog 5 #[.int .i64 x, .int .i64 y] w fun e w' => e = .returned (.bool true) ∧ Grown w w' := by
  go_enter Tryd.func5, Tryd.ntmps5
  go_wp2_with fail
  refine (awake_any _).mono ?_
  rintro e w' ⟨rfl, n0, rfl⟩
  go_wp2_with fail
  refine (bin_eq (by decide) r1.out _).mono ?_
  rintro e w' ⟨rfl, rfl⟩
  go_wp2_with fail
  refine (num_any _ _).mono ?_
  rintro e w' ⟨rfl, rfl⟩
  go_wp2_with fail
  refine (bin_eq (by decide) r2.out _).mono ?_
  rintro e w' ⟨rfl, rfl⟩
  go_wp2_with fail
  refine (bin_eq (by decide) r3.out _).mono ?_
  rintro e w' ⟨rfl, rfl⟩
  go_wp2_with fail
  refine (bin_eqd hr.out r6.out _).mono ?_
  rintro e w' ⟨rfl, n6, rfl⟩
  go_wp2_with (go_at_call 8; refine (num_any _ _).mono ?_; rintro e w' ⟨rfl, rfl⟩)
  go_ret
  exact ⟨rfl, grown_drewN _ _⟩
set_option maxRecDepth 100000 in
set_option maxHeartbeats 2000000 in
theorem c01 (x y p q X Y Q : Int) (r1 : Hid (BM.bin64 127 x y = (p, 0))) (r2 : Hid (BM.bin64 83 x 0 = (0, 0))) (r3 : Hid (BM.bin64 83 y 0 = (1, 0))) (r5 : Hid (BM.bin64 125 0 y = (Y, 0))) (hr : Hid (-9223372036854775808 ≤ Y ∧ Y ≤ 9223372036854775807)) (r6 : Hid (BM.bin64 128 x Y = (q, 0))) (r7 : Hid (BM.bin64 125 0 q = (Q, 0))) (t1 : (p == Q) = true) (w : World) :
    Calls Tryd.prog 5 #[.int .i64 x, .int .i64 y] w fun e w' => e = .returned (.bool true) ∧ Grown w w' := by
  go_enter Tryd.func5, Tryd.ntmps5
  go_wp2_with fail
  refine (awake_any _).mono ?_
  rintro e w' ⟨rfl, n0, rfl⟩
  go_wp2_with fail
  refine (bin_eq (by decide) r1.out _).mono ?_
  rintro e w' ⟨rfl, rfl⟩
  go_wp2_with fail
  refine (num_any _ _).mono ?_
  rintro e w' ⟨rfl, rfl⟩
  go_wp2_with fail
  refine (bin_eq (by decide) r2.out _).mono ?_
  rintro e w' ⟨rfl, rfl⟩
  go_wp2_with fail
  refine (bin_eq (by decide) r3.out _).mono ?_
  rintro e w' ⟨rfl, rfl⟩
  go_wp2_with fail
  refine (bin_eq (by decide) r5.out _).mono ?_
  rintro e w' ⟨rfl, rfl⟩
  go_wp2_with fail
  refine (bin_eqd hr.out r6.out _).mono ?_
  rintro e w' ⟨rfl, n6, rfl⟩
  go_wp2_with fail
  refine (bin_eq (by decide) r7.out _).mono ?_
  rintro e w' ⟨rfl, rfl⟩
  go_wp2_with (go_at_call 8; refine (num_any _ _).mono ?_; rintro e w' ⟨rfl, rfl⟩)
  go_ret
  exact ⟨rfl, grown_drewN _ _⟩
set_option maxRecDepth 100000 in
set_option maxHeartbeats 2000000 in
theorem c10 (x y p q X Y Q : Int) (r1 : Hid (BM.bin64 127 x y = (p, 0))) (r2 : Hid (BM.bin64 83 x 0 = (1, 0))) (r3 : Hid (BM.bin64 83 y 0 = (0, 0))) (r4 : Hid (BM.bin64 125 0 x = (X, 0))) (hr : Hid (-9223372036854775808 ≤ y ∧ y ≤ 9223372036854775807)) (r6 : Hid (BM.bin64 128 X y = (q, 0))) (r7 : Hid (BM.bin64 125 0 q = (Q, 0))) (t1 : (p == Q) = true) (w : World) :
    Calls Tryd.prog 5 #[.int .i64 x, .int .i64 y] w fun e w' => e = .returned (.bool true) ∧ Grown w w' := by
  go_enter Tryd.func5, Tryd.ntmps5
  go_wp2_with fail
  refine (awake_any _).mono ?_
  rintro e w' ⟨rfl, n0, rfl⟩
  go_wp2_with fail
  refine (bin_eq (by decide) r1.out _).mono ?_
  rintro e w' ⟨rfl, rfl⟩
  go_wp2_with fail
  refine (num_any _ _).mono ?_
  rintro e w' ⟨rfl, rfl⟩
  go_wp2_with fail
  refine (bin_eq (by decide) r2.out _).mono ?_
  rintro e w' ⟨rfl, rfl⟩
  go_wp2_with fail
  refine (bin_eq (by decide) r3.out _).mono ?_
  rintro e w' ⟨rfl, rfl⟩
  go_wp2_with fail
  refine (bin_eq (by decide) r4.out _).mono ?_
  rintro e w' ⟨rfl, rfl⟩
  go_wp2_with fail
  refine (bin_eqd hr.out r6.out _).mono ?_
  rintro e w' ⟨rfl, n6, rfl⟩
  go_wp2_with fail
  refine (bin_eq (by decide) r7.out _).mono ?_
  rintro e w' ⟨rfl, rfl⟩
  go_wp2_with (go_at_call 8; refine (num_any _ _).mono ?_; rintro e w' ⟨rfl, rfl⟩)
  go_ret
  exact ⟨rfl, grown_drewN _ _⟩
set_option maxRecDepth 100000 in
set_option maxHeartbeats 2000000 in
theorem c11 (x y p q X Y Q : Int) (r1 : Hid (BM.bin64 127 x y = (p, 0))) (r2 : Hid (BM.bin64 83 x 0 = (1, 0))) (r3 : Hid (BM.bin64 83 y 0 = (1, 0))) (r4 : Hid (BM.bin64 125 0 x = (X, 0))) (r5 : Hid (BM.bin64 125 0 y = (Y, 0))) (hr : Hid (-9223372036854775808 ≤ Y ∧ Y ≤ 9223372036854775807)) (r6 : Hid (BM.bin64 128 X Y = (q, 0))) (t1 : (p == q) = true) (w : World) :
    Calls Tryd.prog 5 #[.int .i64 x, .int .i64 y] w fun e w' => e = .returned (.bool true) ∧ Grown w w' := by
  go_enter Tryd.func5, Tryd.ntmps5
  go_wp2_with fail
  refine (awake_any _).mono ?_
  rintro e w' ⟨rfl, n0, rfl⟩
  go_wp2_with fail
  refine (bin_eq (by decide) r1.out _).mono ?_
  rintro e w' ⟨rfl, rfl⟩
  go_wp2_with fail
  refine (num_any _ _).mono ?_
  rintro e w' ⟨rfl, rfl⟩
  go_wp2_with fail
  refine (bin_eq (by decide) r2.out _).mono ?_
  rintro e w' ⟨rfl, rfl⟩
  go_wp2_with fail
  refine (bin_eq (by decide) r3.out _).mono ?_
  rintro e w' ⟨rfl, rfl⟩
  go_wp2_with fail
  refine (bin_eq (by decide) r4.out _).mono ?_
  rintro e w' ⟨rfl, rfl⟩
  go_wp2_with fail
  refine (bin_eq (by decide) r5.out _).mono ?_
  rintro e w' ⟨rfl, rfl⟩
  go_wp2_with fail
  refine (bin_eqd hr.out r6.out _).mono ?_
  rintro e w' ⟨rfl, n6, rfl⟩
  go_wp2_with (go_at_call 8; refine (num_any _ _).mono ?_; rintro e w' ⟨rfl, rfl⟩)
  go_ret
  exact ⟨rfl, grown_drewN _ _⟩

theorem walk (a0 : Int) (a1 : Int) (w0 : (Lit.int .i64 a0).wf = true) (w1 : (Lit.int .i64 a1).wf = true) (w : World) (hT : Tab 0 Lib.deBruijn32tab w ∧ Tab 1 Lib.deBruijn64tab w) :
    Calls Tryd.prog 5 #[.int .i64 a0, .int .i64 a1] w fun e w' => e = .returned (.bool true) ∧ Grown w w' := by
  have bx := bounds_i64 w0
  have by1 := bounds_i64 w1
  clear hT
  by_cases hz : a1 = 0
  · subst hz
    exact zero a0 (BM.c_div0 a0 0 rfl).1 w
  by_cases ho : a0 = -9223372036854775808 ∧ a1 = -1
  · exact overs a0 a1 (BM.c_over a0 a1 hz ho) w
  have hd := BM.c_divs a0 a1 hz ho
  rcases Int.lt_or_le a0 0 with lx | lx
  · have fx := BM.neg_yes64 a0 lx
    have ux := BM.uu_neg a0 lx bx
    rcases Int.lt_or_le a1 0 with ly | ly
    · have fy := BM.neg_yes64 a1 ly
      have uy := BM.uu_neg a1 ly by1
      refine c11 a0 a1 _ _ _ _ 0 hd fx fy (BM.c_sub _ _) (BM.c_sub _ _) (BM.wrap_in _) (BM.c_divu _ _ (BM.neg_ne a1 ly by1)) ?_ w
      rw [ux, uy, (BM.signs a0 a1 (-a0) (-a1) (by omega) (by omega) (Or.inr (by omega)) (Or.inr (by omega))).2.2.2 ⟨by omega, by omega⟩]
      exact beq_self_eq_true _
    · have fy := BM.neg_no64 a1 ly
      have uy := BM.uu_pos a1 ly by1
      refine c10 a0 a1 _ _ _ 0 _ hd fx fy (BM.c_sub _ _) by1 (BM.c_divu _ _ hz) (BM.c_sub _ _) ?_ w
      rw [ux, uy, (BM.signs a0 a1 (-a0) a1 (by omega) (by omega) (Or.inr (by omega)) (Or.inl rfl)).2.2.1 ⟨by omega, rfl⟩, BM.wrap_sub', Int.zero_sub]
      exact beq_self_eq_true _
  · have fx := BM.neg_no64 a0 lx
    have ux := BM.uu_pos a0 lx bx
    rcases Int.lt_or_le a1 0 with ly | ly
    · have fy := BM.neg_yes64 a1 ly
      have uy := BM.uu_neg a1 ly by1
      refine c01 a0 a1 _ _ 0 _ _ hd fx fy (BM.c_sub _ _) (BM.wrap_in _) (BM.c_divu _ _ (BM.neg_ne a1 ly by1)) (BM.c_sub _ _) ?_ w
      rw [ux, uy, (BM.signs a0 a1 a0 (-a1) lx (by omega) (Or.inl rfl) (Or.inr (by omega))).2.1 ⟨rfl, by omega⟩, BM.wrap_sub', Int.zero_sub]
      exact beq_self_eq_true _
    · have fy := BM.neg_no64 a1 ly
      have uy := BM.uu_pos a1 ly by1
      refine c00 a0 a1 _ _ 0 0 0 hd fx fy by1 (BM.c_divu _ _ hz) ?_ w
      rw [ux, uy, (BM.signs a0 a1 a0 a1 lx (by omega) (Or.inl rfl) (Or.inl rfl)).1 ⟨rfl, rfl⟩]
      exact beq_self_eq_true _

set_option maxRecDepth 100000 in
theorem lifted (os : Os) (started : os.Started) (H : Type) (enc : TypeId × Value → H) :
    ReturnsInHanded {} Tryd.checked os 5 .any (fun w args => (Rows.i64SignsSpec.pre enc Tryd.prog Tryd.f5 [] false w args ∧ laidMetH Tryd.prog tabs w) ∧ sizedMet enc Tryd.prog Tryd.f5 (OpenSpec.ofChange Rows.i64SignsSpec) false w args)
      (Rows.i64SignsSpec.post enc Tryd.prog Tryd.f5 false true false false) := by
  refine returnsInHanded_of_change_and (C := Tryd.checked) (X := fun w _ => laidMetH Tryd.prog tabs w) (fun _ _ _ hh h => h.of_heap hh) own started (by kernel_rfl) Tryd.func5
    (ChangeSpec.witness_shaped (enc := enc) (C := Tryd.checked) (os := os) (X := fun w _ => laidMetH Tryd.prog tabs w) false (World.doorLaid Tryd.prog 400 os) #[.int .i64 0, .int .i64 0] 8 rfl (World.shaped_of_RefB (by kernel_rfl) (by kernel_rfl)) (by kernel_rfl) (by kernel_rfl) (by kernel_rfl) (door_met os _)) ?_
  intro W base args ds gs before hval0 hW _ _ hL _
  have hval : ∀ (j : Nat) t v, Tryd.f5.params[j]? = some t → args[j]? = some v → Value.okWide Tryd.prog W .any base t v := hval0
  have hW' := hW
  obtain ⟨p, q, hA0, hV, rfl, hfz, hnd⟩ := hW
  have hA : DataW.TrodAll enc Tryd.prog W 0 (fun _ => true) true Tryd.f5.params.toList args.toList ds p := hA0
  rw [Tryd.params5] at hA hval
  obtain ⟨v0, vs0, d0, ds0, p0, q0, hargs, rfl, rfl, h0, r0⟩ := trodAll_cons hA
  obtain ⟨v1, vs1, d1, ds1, p1, q1, rfl, rfl, rfl, h1, r1⟩ := trodAll_cons r0
  obtain ⟨rfl, rfl, rfl⟩ := trodAll_nil r1
  obtain rfl : args = #[v0, v1] := by cases args; simp_all
  obtain ⟨rfl, rfl⟩ := trodVars_none hV
  obtain ⟨a0, rfl, rfl, rfl, w0⟩ := open_int Tryd.underlying3 (hval 0 3 v0 rfl rfl) h0
  obtain ⟨a1, rfl, rfl, rfl, w1⟩ := open_int Tryd.underlying3 (hval 1 3 v1 rfl rfl) h1
  clear hA0 hval0
  simp only [List.append_nil] at hW'
  refine (walk a0 a1 w0 w1 W (of_laid hL)).mono fun e W' ⟨he, hg⟩ => ?_
  subst he
  exact ⟨_, rfl, post_of_same (pa := []) (pv := []) hW' (fun _ _ _ => (trodAll_cons_mk (shut_bool Tryd.underlying4 _) trodAll_mk0)) (fun sp _ => (trodAll_cons_mk (shut_int Tryd.underlying3 w0) (trodAll_cons_mk (shut_int Tryd.underlying3 w1) trodAll_mk0))) (fun _ _ => rfl) rfl
    (hg.frame _) hg.2.1 (ok_one (by kernel_rfl) rfl (okWide_bool_mk Tryd.underlying4 _))⟩

theorem over : Rows.i64SignsRow.holds Tryd.pinned (OpenSpec.ofChange Rows.i64SignsSpec) :=
  OpenClaim.holds_of_wide 5 Tryd.f5 rfl rfl rfl rfl rfl rfl rfl ⟨rfl, rfl, rfl, rfl, rfl⟩ rfl rfl rfl rfl rfl (by kernel_rfl) Tryd.func5 (by kernel_rfl)
    (of_decide_eq_true (by kernel_rfl)) (by unfold Func.isWrapper; first | (rw [if_pos (by decide +kernel)]; kernel_rfl) | (rw [if_neg (by decide +kernel)]; exact ⟨rfl, rfl⟩))
    (fun os started H enc _ => lifted os started H enc)

theorem row_holds : Rows.I64SignsSaid := over

theorem card_holds : Rows.I64SignsCardSaid :=
  Claim7.holds_tied_plain_at .later [] [.data, .data] true (true, "ed7db2eddbd7e302792604a516b8434e370b64c360d87d30f7410cf47a96c261") false
    row_holds (fun _ h => by cases h) (by kernel_rfl) (fun _ h => by cases h) i64Signs_row_tie rfl ⟨rfl, rfl⟩ (by kernel_rfl) rfl
    (fun f fn hf hfn => by
      obtain rfl : f = 5 := Option.some.inj ((show Tryd.prog.funcNamed Rows.i64SignsRow.func = some 5 by kernel_rfl).symm.trans hf) |>.symm
      obtain rfl : fn = Tryd.f5 := (Option.some.inj (Tryd.func5.symm.trans hfn)).symm
      exact ⟨by kernel_rfl, fun j t ht => by
        rw [Tryd.params5] at ht
        have hm : t ∈ [3, 3] := by simpa using Array.mem_of_getElem? ht
        have hall : ([3, 3].all fun u => !Tryd.prog.wantsStandIn u) = true := by kernel_rfl
        exact (show Tryd.prog.wantsStandIn t = false by simpa using List.all_eq_true.1 hall t hm)⟩)
    (by kernel_rfl)
end Go.Proofs.YtjolnfipacpjgabDoor.i64Signs
namespace Go.Proofs.YtjolnfipacpjgabDoor
theorem i64Signs_holds : Rows.I64SignsCardSaid := i64Signs.card_holds
#print axioms i64Signs_holds
end Go.Proofs.YtjolnfipacpjgabDoor

