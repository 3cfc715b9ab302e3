/- 'I64Shifts' of package peloruslaw3 returns true at every input: shifts are products and quotients by powers of two; only the low bits of how far count. -/
import Derived.Test.YtjolnfipacpjgabDoorI64
import Derived.Test.YtjolnfipacpjgabDoorLaid
import Derived.Test.YtjolnfipacpjgabDoorTie
import Derived.Test.YtjolnfipacpjgabDoorCards
import Derived.SevenTiedAt
namespace Go.Proofs.YtjolnfipacpjgabDoor.i64Shifts
open Go.ChangeShapes Go.WideShapes Go.ChangeAt Go.RowKit
set_option linter.unusedVariables false

set_option maxRecDepth 100000 in
set_option maxHeartbeats 2000000 in
theorem core (x by1 more m P T p q r s t u v y z : Int) (K : Nat) (hK : K < 64) (hP : (2 : Int) ^ K = P) (hT : wrap64 P = T) (hk : bits .and .i64 by1 63 = (K : Int)) (hm : bits .and .i64 more 1023 = m) (m0 : 0 ≤ m) (m1 : m ≤ 1023) (hTr : Hid (-9223372036854775808 ≤ T ∧ T ≤ 9223372036854775807))
    (r1 : Hid (BM.bin64 134 x K = (p, 0))) (r2 : Hid (BM.bin64 126 x T = (q, 0))) (r3 : Hid (BM.bin64 136 x K = (r, 0))) (r4 : Hid (BM.bin64 128 x T = (s, 0))) (r5 : Hid (BM.bin64 134 x (K + m * 64) = (t, 0))) (r6 : Hid (BM.bin64 135 x (K + m * 64) = (u, 0))) (r7 : Hid (BM.bin64 135 x K = (v, 0))) (r8 : Hid (BM.bin64 137 x (K + m * 64) = (y, 0))) (r9 : Hid (BM.bin64 137 x K = (z, 0)))
    (t1 : (p == q) = true) (t2 : (r == s) = true) (t3 : (t == p) = true) (t4 : (u == v) = true) (t5 : (y == z) = true) (w : World) :
    Calls Tryd.prog 3 #[.int .i64 x, .int .i64 by1, .int .i64 more] w fun e w' => e = .returned (.bool true) ∧ Grown w w' := by
  go_enter Tryd.func3, Tryd.ntmps3
  go_wp2_with fail
  refine (awake_any _).mono ?_
  rintro e w' ⟨rfl, n0, rfl⟩
  go_wp2_with fail
  refine (bin_eq (by decide) r1.out _).mono ?_
  rintro e w' ⟨rfl, rfl⟩
  go_wp2_with fail
  refine (bin_eq (by decide) r2.out _).mono ?_
  rintro e w' ⟨rfl, rfl⟩
  go_wp2_with fail
  refine (bin_eq (by decide) r3.out _).mono ?_
  rintro e w' ⟨rfl, rfl⟩
  go_wp2_with fail
  refine (bin_eqd hTr.out r4.out _).mono ?_
  rintro e w' ⟨rfl, n4, rfl⟩
  go_wp2_with fail
  refine (bin_eq (by decide) r5.out _).mono ?_
  rintro e w' ⟨rfl, rfl⟩
  go_wp2_with fail
  refine (bin_eq (by decide) r6.out _).mono ?_
  rintro e w' ⟨rfl, rfl⟩
  go_wp2_with fail
  refine (bin_eq (by decide) r7.out _).mono ?_
  rintro e w' ⟨rfl, rfl⟩
  go_wp2_with fail
  refine (bin_eq (by decide) r8.out _).mono ?_
  rintro e w' ⟨rfl, rfl⟩
  go_wp2_with fail
  refine (bin_eq (by decide) r9.out _).mono ?_
  rintro e w' ⟨rfl, rfl⟩
  go_wp2_with (go_at_call 8; refine (num_any _ _).mono ?_; rintro e w' ⟨rfl, rfl⟩)
  go_ret
  exact ⟨rfl, grown_drewN _ _⟩

theorem far64 (K : Nat) (m : Int) (hK : K < 64) : (((K : Int) + m * 64) % 64).toNat = K ∧ ((K : Int) % 64).toNat = K := by omega

theorem walk (a0 : Int) (a1 : Int) (a2 : Int) (w0 : (Lit.int .i64 a0).wf = true) (w1 : (Lit.int .i64 a1).wf = true) (w2 : (Lit.int .i64 a2).wf = true) (w : World) (hT : Tab 0 Lib.deBruijn32tab w ∧ Tab 1 Lib.deBruijn64tab w) :
    Calls Tryd.prog 3 #[.int .i64 a0, .int .i64 a1, .int .i64 a2] w fun e w' => e = .returned (.bool true) ∧ Grown w w' := by
  obtain ⟨K, hK, hKl⟩ : ∃ K : Nat, a1 % 64 = (K : Int) ∧ K < 64 := ⟨(a1 % 64).toNat, by omega, by omega⟩
  obtain ⟨m, hm, m0, m1⟩ : ∃ m : Int, a2 % 1024 = m ∧ 0 ≤ m ∧ m ≤ 1023 := ⟨a2 % 1024, rfl, by omega, by omega⟩
  obtain ⟨f1, f2⟩ := far64 K m hKl
  refine core a0 a1 a2 m _ _ _ _ _ _ _ _ _ _ _ K hKl rfl rfl (by rw [BM.and63, hK]) (by rw [BM.and1023, hm]) m0 m1 (BM.wrap_in _)
    (BM.c_shl _ _) (BM.c_mul _ _) (BM.c_shr _ _) (BM.c_divu _ _ (BM.pow_ne K hKl)) (BM.c_shl _ _) (BM.c_sar _ _) (BM.c_sar _ _) (BM.c_rotl _ _) (BM.c_rotl _ _) ?_ ?_ ?_ ?_ ?_ w
  · rw [f2, BM.wrap_mul']; exact beq_self_eq_true _
  · rw [f2, BM.uu_pow K hKl]; exact beq_self_eq_true _
  · rw [f1, f2]; exact beq_self_eq_true _
  · rw [f1, f2]; exact beq_self_eq_true _
  · rw [f1, f2]; exact beq_self_eq_true _

set_option maxRecDepth 100000 in
theorem lifted (os : Os) (started : os.Started) (H : Type) (enc : TypeId × Value → H) :
    ReturnsInHanded {} Tryd.checked os 3 .any (fun w args => (Rows.i64ShiftsSpec.pre enc Tryd.prog Tryd.f3 [] false w args ∧ laidMetH Tryd.prog tabs w) ∧ sizedMet enc Tryd.prog Tryd.f3 (OpenSpec.ofChange Rows.i64ShiftsSpec) false w args)
      (Rows.i64ShiftsSpec.post enc Tryd.prog Tryd.f3 false true false false) := by
  refine returnsInHanded_of_change_and (C := Tryd.checked) (X := fun w _ => laidMetH Tryd.prog tabs w) (fun _ _ _ hh h => h.of_heap hh) own started (by kernel_rfl) Tryd.func3
    (ChangeSpec.witness_shaped (enc := enc) (C := Tryd.checked) (os := os) (X := fun w _ => laidMetH Tryd.prog tabs w) false (World.doorLaid Tryd.prog 400 os) #[.int .i64 0, .int .i64 0, .int .i64 0] 8 rfl (World.shaped_of_RefB (by kernel_rfl) (by kernel_rfl)) (by kernel_rfl) (by kernel_rfl) (by kernel_rfl) (door_met os _)) ?_
  intro W base args ds gs before hval0 hW _ _ hL _
  have hval : ∀ (j : Nat) t v, Tryd.f3.params[j]? = some t → args[j]? = some v → Value.okWide Tryd.prog W .any base t v := hval0
  have hW' := hW
  obtain ⟨p, q, hA0, hV, rfl, hfz, hnd⟩ := hW
  have hA : DataW.TrodAll enc Tryd.prog W 0 (fun _ => true) true Tryd.f3.params.toList args.toList ds p := hA0
  rw [Tryd.params3] at hA hval
  obtain ⟨v0, vs0, d0, ds0, p0, q0, hargs, rfl, rfl, h0, r0⟩ := trodAll_cons hA
  obtain ⟨v1, vs1, d1, ds1, p1, q1, rfl, rfl, rfl, h1, r1⟩ := trodAll_cons r0
  obtain ⟨v2, vs2, d2, ds2, p2, q2, rfl, rfl, rfl, h2, r2⟩ := trodAll_cons r1
  obtain ⟨rfl, rfl, rfl⟩ := trodAll_nil r2
  obtain rfl : args = #[v0, v1, v2] := by cases args; simp_all
  obtain ⟨rfl, rfl⟩ := trodVars_none hV
  obtain ⟨a0, rfl, rfl, rfl, w0⟩ := open_int Tryd.underlying3 (hval 0 3 v0 rfl rfl) h0
  obtain ⟨a1, rfl, rfl, rfl, w1⟩ := open_int Tryd.underlying3 (hval 1 3 v1 rfl rfl) h1
  obtain ⟨a2, rfl, rfl, rfl, w2⟩ := open_int Tryd.underlying3 (hval 2 3 v2 rfl rfl) h2
  clear hA0 hval0
  simp only [List.append_nil] at hW'
  refine (walk a0 a1 a2 w0 w1 w2 W (of_laid hL)).mono fun e W' ⟨he, hg⟩ => ?_
  subst he
  exact ⟨_, rfl, post_of_same (pa := []) (pv := []) hW' (fun _ _ _ => (trodAll_cons_mk (shut_bool Tryd.underlying4 _) trodAll_mk0)) (fun sp _ => (trodAll_cons_mk (shut_int Tryd.underlying3 w0) (trodAll_cons_mk (shut_int Tryd.underlying3 w1) (trodAll_cons_mk (shut_int Tryd.underlying3 w2) trodAll_mk0)))) (fun _ _ => rfl) rfl
    (hg.frame _) hg.2.1 (ok_one (by kernel_rfl) rfl (okWide_bool_mk Tryd.underlying4 _))⟩

theorem over : Rows.i64ShiftsRow.holds Tryd.pinned (OpenSpec.ofChange Rows.i64ShiftsSpec) :=
  OpenClaim.holds_of_wide 3 Tryd.f3 rfl rfl rfl rfl rfl rfl rfl ⟨rfl, rfl, rfl, rfl, rfl⟩ rfl rfl rfl rfl rfl (by kernel_rfl) Tryd.func3 (by kernel_rfl)
    (of_decide_eq_true (by kernel_rfl)) (by unfold Func.isWrapper; first | (rw [if_pos (by decide +kernel)]; kernel_rfl) | (rw [if_neg (by decide +kernel)]; exact ⟨rfl, rfl⟩))
    (fun os started H enc _ => lifted os started H enc)

theorem row_holds : Rows.I64ShiftsSaid := over

theorem card_holds : Rows.I64ShiftsCardSaid :=
  Claim7.holds_tied_plain_at .later [] [.data, .data] true (true, "ed7db2eddbd7e302792604a516b8434e370b64c360d87d30f7410cf47a96c261") false
    row_holds (fun _ h => by cases h) (by kernel_rfl) (fun _ h => by cases h) i64Shifts_row_tie rfl ⟨rfl, rfl⟩ (by kernel_rfl) rfl
    (fun f fn hf hfn => by
      obtain rfl : f = 3 := Option.some.inj ((show Tryd.prog.funcNamed Rows.i64ShiftsRow.func = some 3 by kernel_rfl).symm.trans hf) |>.symm
      obtain rfl : fn = Tryd.f3 := (Option.some.inj (Tryd.func3.symm.trans hfn)).symm
      exact ⟨by kernel_rfl, fun j t ht => by
        rw [Tryd.params3] at ht
        have hm : t ∈ [3, 3, 3] := by simpa using Array.mem_of_getElem? ht
        have hall : ([3, 3, 3].all fun u => !Tryd.prog.wantsStandIn u) = true := by kernel_rfl
        exact (show Tryd.prog.wantsStandIn t = false by simpa using List.all_eq_true.1 hall t hm)⟩)
    (by kernel_rfl)
end Go.Proofs.YtjolnfipacpjgabDoor.i64Shifts
namespace Go.Proofs.YtjolnfipacpjgabDoor
theorem i64Shifts_holds : Rows.I64ShiftsCardSaid := i64Shifts.card_holds
#print axioms i64Shifts_holds
end Go.Proofs.YtjolnfipacpjgabDoor

