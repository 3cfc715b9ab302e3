/- 'I32Logic' of package peloruslaw2 returns true at every input: and, or, exclusive or, by one another. -/
import Derived.Test.YtdcmiahgmkkdoaaDoorI32
import Derived.Test.YtdcmiahgmkkdoaaDoorILaw
import Derived.Test.YtdcmiahgmkkdoaaDoorLaid
import Derived.Test.YtdcmiahgmkkdoaaDoorTie
import Derived.Test.YtdcmiahgmkkdoaaDoorCards
import Derived.SevenTiedAt
namespace Go.Proofs.YtdcmiahgmkkdoaaDoor.i32Logic
open Go.ChangeShapes Go.WideShapes Go.ChangeAt Go.RowKit
set_option linter.unusedVariables false

set_option maxRecDepth 100000 in
set_option maxHeartbeats 2000000 in
theorem core (a b x y p q r s t u v : Int) (hx : bits .and .i64 a 4294967295 = x) (hy : bits .and .i64 b 4294967295 = y)
    (r1 : Hid (BM.bin32 113 x y = (p, 0))) (r2 : Hid (BM.bin32 114 x y = (q, 0))) (r3 : Hid (BM.bin32 115 x y = (r, 0))) (r4 : Hid (BM.bin32 115 r y = (s, 0))) (r5 : Hid (BM.bin32 106 p q = (t, 0))) (r6 : Hid (BM.bin32 106 x y = (u, 0))) (r7 : Hid (BM.bin32 107 q p = (v, 0)))
    (t1 : (s == x) = true) (t2 : (t == u) = true) (t3 : (v == r) = true) (t4 : bits .andNot .i64 p x = 0) (t5 : bits .andNot .i64 x q = 0) (w : World) :
    Calls Tryd.prog 8 #[.int .i64 a, .int .i64 b] w fun e w' => e = .returned (.bool true) ∧ Grown w w' := by
  go_enter Tryd.func8, Tryd.ntmps8
  go_wp2_with fail
  refine (awake_any _).mono ?_
  rintro e w' ⟨rfl, n0, rfl⟩
  go_wp2_with fail
  refine (bin_eq r1.out _).mono ?_
  rintro e w' ⟨rfl, rfl⟩
  go_wp2_with fail
  refine (bin_eq r2.out _).mono ?_
  rintro e w' ⟨rfl, rfl⟩
  go_wp2_with fail
  refine (bin_eq r3.out _).mono ?_
  rintro e w' ⟨rfl, rfl⟩
  go_wp2_with fail
  refine (bin_eq r4.out _).mono ?_
  rintro e w' ⟨rfl, rfl⟩
  go_wp2_with fail
  refine (bin_eq r5.out _).mono ?_
  rintro e w' ⟨rfl, rfl⟩
  go_wp2_with fail
  refine (bin_eq r6.out _).mono ?_
  rintro e w' ⟨rfl, rfl⟩
  go_wp2_with fail
  refine (bin_eq r7.out _).mono ?_
  rintro e w' ⟨rfl, rfl⟩
  go_wp2
  go_ret
  exact ⟨rfl, grown_drewN _ _⟩

theorem walk (a0 : Int) (a1 : Int) (w0 : (Lit.int .i64 a0).wf = true) (w1 : (Lit.int .i64 a1).wf = true) (w : World) (hT : Tab 0 Lib.deBruijn32tab w ∧ Tab 1 Lib.deBruijn64tab w) :
    Calls Tryd.prog 8 #[.int .i64 a0, .int .i64 a1] w fun e w' => e = .returned (.bool true) ∧ Grown w w' := by
  obtain ⟨X, hX, hXl⟩ : ∃ X : Nat, a0 % 4294967296 = (X : Int) ∧ X < 2 ^ 32 := ⟨(a0 % 4294967296).toNat, by omega, by omega⟩
  obtain ⟨Y, hY, hYl⟩ : ∃ Y : Nat, a1 % 4294967296 = (Y : Int) ∧ Y < 2 ^ 32 := ⟨(a1 % 4294967296).toNat, by omega, by omega⟩
  have tx : ∀ Z : Nat, Z < 2 ^ 32 → ((Z : Int) % 4294967296).toNat = Z := by intro Z h; omega
  have lr : X ^^^ Y < 2 ^ 32 := Nat.xor_lt_two_pow hXl hYl
  have lp : X &&& Y < 2 ^ 32 := Nat.and_lt_two_pow X hYl
  have lq : X ||| Y < 2 ^ 32 := Nat.or_lt_two_pow hXl hYl
  obtain ⟨hs, hd⟩ := BM.and_or_add X Y
  refine core a0 a1 X Y (X &&& Y : Nat) (X ||| Y : Nat) (X ^^^ Y : Nat) X _ _ _ (by rw [BM.and32, hX]) (by rw [BM.and32, hY]) (by rw [BM.b_and, tx X hXl, tx Y hYl]; rfl) (by rw [BM.b_or, tx X hXl, tx Y hYl]; rfl) (by rw [BM.b_xor, tx X hXl, tx Y hYl]; rfl)
    (by rw [BM.b_xor, tx _ lr, tx Y hYl, BM.xor_back]; rfl) (BM.b_add _ _) (BM.b_add _ _) (BM.b_sub _ _) (beq_self_eq_true _) ?_ ?_ ?_ ?_ w
  · clear hT; generalize X &&& Y = p at *; generalize X ||| Y = q at *; generalize X ^^^ Y = r at *; rw [beq_iff_eq]; congr 1; omega
  · clear hT; generalize X &&& Y = p at *; generalize X ||| Y = q at *; generalize X ^^^ Y = r at *; rw [beq_iff_eq]; omega
  · exact BM.andNot_sub _ _ (by rw [BM.u_of _ lp, BM.u_of _ hXl]; exact BM.and_sub X Y)
  · exact BM.andNot_sub _ _ (by rw [BM.u_of _ hXl, BM.u_of _ lq]; exact BM.sub_or X Y)

set_option maxRecDepth 100000 in
theorem lifted (os : Os) (started : os.Started) (H : Type) (enc : TypeId × Value → H) :
    ReturnsInHanded {} Tryd.checked os 8 .any (fun w args => (Rows.i32LogicSpec.pre enc Tryd.prog Tryd.f8 [] false w args ∧ laidMetH Tryd.prog tabs w) ∧ sizedMet enc Tryd.prog Tryd.f8 (OpenSpec.ofChange Rows.i32LogicSpec) false w args)
      (Rows.i32LogicSpec.post enc Tryd.prog Tryd.f8 false true false false) := by
  refine returnsInHanded_of_change_and (C := Tryd.checked) (X := fun w _ => laidMetH Tryd.prog tabs w) (fun _ _ _ hh h => h.of_heap hh) own started (by kernel_rfl) Tryd.func8
    (ChangeSpec.witness_shaped (enc := enc) (C := Tryd.checked) (os := os) (X := fun w _ => laidMetH Tryd.prog tabs w) false (World.doorLaid Tryd.prog 400 os) #[.int .i64 0, .int .i64 0] 8 rfl (World.shaped_of_RefB (by kernel_rfl) (by kernel_rfl)) (by kernel_rfl) (by kernel_rfl) (by kernel_rfl) (door_met os _)) ?_
  intro W base args ds gs before hval0 hW _ _ hL _
  have hval : ∀ (j : Nat) t v, Tryd.f8.params[j]? = some t → args[j]? = some v → Value.okWide Tryd.prog W .any base t v := hval0
  have hW' := hW
  obtain ⟨p, q, hA0, hV, rfl, hfz, hnd⟩ := hW
  have hA : DataW.TrodAll enc Tryd.prog W 0 (fun _ => true) true Tryd.f8.params.toList args.toList ds p := hA0
  rw [Tryd.params8] at hA hval
  obtain ⟨v0, vs0, d0, ds0, p0, q0, hargs, rfl, rfl, h0, r0⟩ := trodAll_cons hA
  obtain ⟨v1, vs1, d1, ds1, p1, q1, rfl, rfl, rfl, h1, r1⟩ := trodAll_cons r0
  obtain ⟨rfl, rfl, rfl⟩ := trodAll_nil r1
  obtain rfl : args = #[v0, v1] := by cases args; simp_all
  obtain ⟨rfl, rfl⟩ := trodVars_none hV
  obtain ⟨a0, rfl, rfl, rfl, w0⟩ := open_int Tryd.underlying3 (hval 0 3 v0 rfl rfl) h0
  obtain ⟨a1, rfl, rfl, rfl, w1⟩ := open_int Tryd.underlying3 (hval 1 3 v1 rfl rfl) h1
  clear hA0 hval0
  simp only [List.append_nil] at hW'
  refine (walk a0 a1 w0 w1 W (of_laid hL)).mono fun e W' ⟨he, hg⟩ => ?_
  subst he
  exact ⟨_, rfl, post_of_same (pa := []) (pv := []) hW' (fun _ _ _ => (trodAll_cons_mk (shut_bool Tryd.underlying4 _) trodAll_mk0)) (fun sp _ => (trodAll_cons_mk (shut_int Tryd.underlying3 w0) (trodAll_cons_mk (shut_int Tryd.underlying3 w1) trodAll_mk0))) (fun _ _ => rfl) rfl
    (hg.frame _) hg.2.1 (ok_one (by kernel_rfl) rfl (okWide_bool_mk Tryd.underlying4 _))⟩

theorem over : Rows.i32LogicRow.holds Tryd.pinned (OpenSpec.ofChange Rows.i32LogicSpec) :=
  OpenClaim.holds_of_wide 8 Tryd.f8 rfl rfl rfl rfl rfl rfl rfl ⟨rfl, rfl, rfl, rfl, rfl⟩ rfl rfl rfl rfl rfl (by kernel_rfl) Tryd.func8 (by kernel_rfl)
    (of_decide_eq_true (by kernel_rfl)) (by unfold Func.isWrapper; first | (rw [if_pos (by decide +kernel)]; kernel_rfl) | (rw [if_neg (by decide +kernel)]; exact ⟨rfl, rfl⟩))
    (fun os started H enc _ => lifted os started H enc)

theorem row_holds : Rows.I32LogicSaid := over

theorem card_holds : Rows.I32LogicCardSaid :=
  Claim7.holds_tied_plain_at .later [] [.data, .data] true (true, "03aaa95249fb4af9e6912b7fb28c194595348c44959a030161ef470846f6dc32") false
    row_holds (fun _ h => by cases h) (by kernel_rfl) (fun _ h => by cases h) i32Logic_row_tie rfl ⟨rfl, rfl⟩ (by kernel_rfl) rfl
    (fun f fn hf hfn => by
      obtain rfl : f = 8 := Option.some.inj ((show Tryd.prog.funcNamed Rows.i32LogicRow.func = some 8 by kernel_rfl).symm.trans hf) |>.symm
      obtain rfl : fn = Tryd.f8 := (Option.some.inj (Tryd.func8.symm.trans hfn)).symm
      exact ⟨by kernel_rfl, fun j t ht => by
        rw [Tryd.params8] at ht
        have hm : t ∈ [3, 3] := by simpa using Array.mem_of_getElem? ht
        have hall : ([3, 3].all fun u => !Tryd.prog.wantsStandIn u) = true := by kernel_rfl
        exact (show Tryd.prog.wantsStandIn t = false by simpa using List.all_eq_true.1 hall t hm)⟩)
    (by kernel_rfl)
end Go.Proofs.YtdcmiahgmkkdoaaDoor.i32Logic
namespace Go.Proofs.YtdcmiahgmkkdoaaDoor
theorem i32Logic_holds : Rows.I32LogicCardSaid := i32Logic.card_holds
#print axioms i32Logic_holds
end Go.Proofs.YtdcmiahgmkkdoaaDoor

