/- 'I64Counts' of package peloruslaw3 returns true at every input: noughts above and below and ones are those of the number turned by rolls and shifts. -/
import Derived.Test.YtjolnfipacpjgabDoorI64
import Derived.Test.YtjolnfipacpjgabDoorLaid
import Derived.Test.YtjolnfipacpjgabDoorTie
import Derived.Test.YtjolnfipacpjgabDoorCards
import Derived.SevenTiedAt
namespace Go.Proofs.YtjolnfipacpjgabDoor.i64Counts
open Go.ChangeShapes Go.WideShapes Go.ChangeAt Go.RowKit
set_option linter.unusedVariables false

set_option maxRecDepth 100000 in
set_option maxHeartbeats 2000000 in
theorem core (x by1 k r p c d up dn : Int) (hk : bits .and .i64 by1 63 = k) (r1 : Hid (BM.bin64 137 x k = (r, 0))) (r2 : Hid (BM.un64 123 x = (p, 0))) (r3 : Hid (BM.un64 123 r = (p, 0))) (r4 : Hid (BM.un64 121 x = (c, 0))) (r5 : Hid (BM.un64 122 x = (d, 0))) (r6 : Hid (BM.un64 80 x = (0, 0))) (r7 : Hid (BM.bin64 134 x c = (up, 0))) (r8 : Hid (BM.bin64 136 x d = (dn, 0))) (r9 : Hid (BM.un64 121 up = (0, 0))) (r10 : Hid (BM.un64 122 dn = (0, 0)))
    (x0 : ¬ x = 0) (c0 : 0 ≤ c) (c1 : c ≤ 64) (d0 : 0 ≤ d) (d1 : d ≤ 64) (t1 : 1 ≤ p) (t2 : p ≤ 64 - c - d) (w : World) (hT : Tab 1 Lib.deBruijn64tab w) :
    Calls Tryd.prog 4 #[.int .i64 x, .int .i64 by1] w fun e w' => e = .returned (.bool true) ∧ Grown w w' := by
  have C : Hid (Tab 1 Lib.deBruijn64tab w) := hT
  clear hT
  go_enter Tryd.func4, Tryd.ntmps4
  go_wp2_with fail
  refine (awake_any _).mono ?_
  rintro e w' ⟨rfl, n0, rfl⟩
  go_wp2_with fail
  refine (bin_eq (by decide) r1.out _).mono ?_
  rintro e w' ⟨rfl, rfl⟩
  go_wp2_with fail
  refine (un_eq r2.out _ (C.out.drew _)).mono ?_
  rintro e w' ⟨rfl, rfl⟩
  go_wp2_with fail
  refine (un_eq r3.out _ (C.out.drew _)).mono ?_
  rintro e w' ⟨rfl, rfl⟩
  go_wp2_with fail
  refine (un_eq r4.out _ (C.out.drew _)).mono ?_
  rintro e w' ⟨rfl, rfl⟩
  go_wp2_with fail
  refine (un_eq r5.out _ (C.out.drew _)).mono ?_
  rintro e w' ⟨rfl, rfl⟩
  go_wp2_with fail
  refine (un_eq r6.out _ (C.out.drew _)).mono ?_
  rintro e w' ⟨rfl, rfl⟩
  go_wp2_with fail
  refine (bin_eq (by decide) r7.out _).mono ?_
  rintro e w' ⟨rfl, rfl⟩
  go_wp2_with fail
  refine (bin_eq (by decide) r8.out _).mono ?_
  rintro e w' ⟨rfl, rfl⟩
  go_wp2_with fail
  refine (un_eq r9.out _ (C.out.drew _)).mono ?_
  rintro e w' ⟨rfl, rfl⟩
  go_wp2_with fail
  refine (un_eq r10.out _ (C.out.drew _)).mono ?_
  rintro e w' ⟨rfl, rfl⟩
  go_wp2
  go_ret
  exact ⟨rfl, grown_drewN _ _⟩

set_option maxRecDepth 100000 in
set_option maxHeartbeats 2000000 in
theorem nil (by1 k : Int) (hk : bits .and .i64 by1 63 = k) (r1 : Hid (BM.bin64 137 0 k = (0, 0))) (r2 : Hid (BM.un64 123 0 = (0, 0))) (r3 : Hid (BM.un64 121 0 = (64, 0))) (r4 : Hid (BM.un64 122 0 = (64, 0))) (r5 : Hid (BM.un64 80 0 = (1, 0))) (w : World) (hT : Tab 1 Lib.deBruijn64tab w) :
    Calls Tryd.prog 4 #[.int .i64 0, .int .i64 by1] w fun e w' => e = .returned (.bool true) ∧ Grown w w' := by
  have C : Hid (Tab 1 Lib.deBruijn64tab w) := hT
  clear hT
  go_enter Tryd.func4, Tryd.ntmps4
  go_wp2_with fail
  refine (awake_any _).mono ?_
  rintro e w' ⟨rfl, n0, rfl⟩
  go_wp2_with fail
  refine (bin_eq (by decide) r1.out _).mono ?_
  rintro e w' ⟨rfl, rfl⟩
  go_wp2_with fail
  refine (un_eq r2.out _ (C.out.drew _)).mono ?_
  rintro e w' ⟨rfl, rfl⟩
  go_wp2_with fail
  refine (un_eq r2.out _ (C.out.drew _)).mono ?_
  rintro e w' ⟨rfl, rfl⟩
  go_wp2_with fail
  refine (un_eq r3.out _ (C.out.drew _)).mono ?_
  rintro e w' ⟨rfl, rfl⟩
  go_wp2_with fail
  refine (un_eq r4.out _ (C.out.drew _)).mono ?_
  rintro e w' ⟨rfl, rfl⟩
  go_wp2_with fail
  refine (un_eq r5.out _ (C.out.drew _)).mono ?_
  rintro e w' ⟨rfl, rfl⟩
  go_wp2
  go_ret
  exact ⟨rfl, grown_drewN _ _⟩

theorem walk (a0 : Int) (a1 : Int) (w0 : (Lit.int .i64 a0).wf = true) (w1 : (Lit.int .i64 a1).wf = true) (w : World) (hT : Tab 0 Lib.deBruijn32tab w ∧ Tab 1 Lib.deBruijn64tab w) :
    Calls Tryd.prog 4 #[.int .i64 a0, .int .i64 a1] w fun e w' => e = .returned (.bool true) ∧ Grown w w' := by
  have hx := bounds_i64 w0
  by_cases hz : a0 = 0
  · subst hz
    refine nil a1 _ rfl ?_ (by show _ = _; decide +kernel) (by show _ = _; decide +kernel) (by show _ = _; decide +kernel) (by show _ = _; decide +kernel) w hT.2
    show _ = _
    rw [BM.c_rotl, show (BM.uu 0).toNat = 0 from by decide +kernel, BM.rotl_nil, BM.wrap_nil]
  · obtain ⟨X, hXl, eX, enX, _⟩ := BM.nat64 a0
    have hXz : X ≠ 0 := by
      intro h; rw [h] at eX; exact hz ((BM.uu_zero a0 hx).1 eX)
    obtain ⟨K, hK, hKl⟩ : ∃ K : Nat, a1 % 64 = (K : Int) ∧ K < 64 := ⟨(a1 % 64).toNat, by omega, by omega⟩
    have lr := BM.rotl_lt 64 X K (Nat.le_of_lt hKl) hXl
    have hbl := Lib.bitLen_le X 64 (by decide) hXl
    have hb1 := BM.bitLen_pos64 X hXz hXl
    obtain ⟨_, _, hq⟩ := BM.low_one 64 X hXz hXl
    obtain ⟨p0, q0, q1, t4, t5⟩ := BM.ends 64 X (by decide) hXz hXl _ _ _ rfl rfl rfl
    have hpp := BM.pop_pos64 X hXz hXl
    refine core a0 a1 K (wrap64 (BM.rotl 64 X K : Nat)) (Lib.popAux 64 X : Nat) (64 - (Lib.bitLen X : Int)) (Lib.ctz 64 X : Nat) _ _ (by rw [BM.and63, hK]) ?_ ?_ ?_ ?_ ?_ ?_ (BM.c_shl _ _) (BM.c_shr _ _) ?_ ?_ hz p0 (by omega) q0 (by omega) (by omega) t5 w hT.2
    · show _ = _
      rw [BM.c_rotl, enX, show ((K : Int) % 64).toNat = K from by omega]
    · show _ = _
      rw [BM.v_pop, enX]
    · show _ = _
      rw [BM.v_pop, (BM.of_wrap _ lr).2, BM.rotl_pop 64 X K (Nat.le_of_lt hKl) hXl]
    · show _ = _
      rw [BM.v_clz, enX]
    · show _ = _
      rw [BM.v_ctz, enX]
    · show _ = _
      rw [BM.v_eqz, show (a0 == 0) = false from by simpa using hz]
      rfl
    · show _ = _
      rw [BM.v_clz, BM.up_nat64 a0 X (Lib.bitLen X) hXl eX hb1 hbl, BM.bitLen_up64 X hXz hXl]
      rfl
    · show _ = _
      rw [BM.v_ctz, BM.down_nat64 a0 X (Lib.ctz 64 X) hXl eX hq, BM.ctz_down64 X hXz hXl]
      rfl

set_option maxRecDepth 100000 in
theorem lifted (os : Os) (started : os.Started) (H : Type) (enc : TypeId × Value → H) :
    ReturnsInHanded {} Tryd.checked os 4 .any (fun w args => (Rows.i64CountsSpec.pre enc Tryd.prog Tryd.f4 [] false w args ∧ laidMetH Tryd.prog tabs w) ∧ sizedMet enc Tryd.prog Tryd.f4 (OpenSpec.ofChange Rows.i64CountsSpec) false w args)
      (Rows.i64CountsSpec.post enc Tryd.prog Tryd.f4 false true false false) := by
  refine returnsInHanded_of_change_and (C := Tryd.checked) (X := fun w _ => laidMetH Tryd.prog tabs w) (fun _ _ _ hh h => h.of_heap hh) own started (by kernel_rfl) Tryd.func4
    (ChangeSpec.witness_shaped (enc := enc) (C := Tryd.checked) (os := os) (X := fun w _ => laidMetH Tryd.prog tabs w) false (World.doorLaid Tryd.prog 400 os) #[.int .i64 0, .int .i64 0] 8 rfl (World.shaped_of_RefB (by kernel_rfl) (by kernel_rfl)) (by kernel_rfl) (by kernel_rfl) (by kernel_rfl) (door_met os _)) ?_
  intro W base args ds gs before hval0 hW _ _ hL _
  have hval : ∀ (j : Nat) t v, Tryd.f4.params[j]? = some t → args[j]? = some v → Value.okWide Tryd.prog W .any base t v := hval0
  have hW' := hW
  obtain ⟨p, q, hA0, hV, rfl, hfz, hnd⟩ := hW
  have hA : DataW.TrodAll enc Tryd.prog W 0 (fun _ => true) true Tryd.f4.params.toList args.toList ds p := hA0
  rw [Tryd.params4] at hA hval
  obtain ⟨v0, vs0, d0, ds0, p0, q0, hargs, rfl, rfl, h0, r0⟩ := trodAll_cons hA
  obtain ⟨v1, vs1, d1, ds1, p1, q1, rfl, rfl, rfl, h1, r1⟩ := trodAll_cons r0
  obtain ⟨rfl, rfl, rfl⟩ := trodAll_nil r1
  obtain rfl : args = #[v0, v1] := by cases args; simp_all
  obtain ⟨rfl, rfl⟩ := trodVars_none hV
  obtain ⟨a0, rfl, rfl, rfl, w0⟩ := open_int Tryd.underlying3 (hval 0 3 v0 rfl rfl) h0
  obtain ⟨a1, rfl, rfl, rfl, w1⟩ := open_int Tryd.underlying3 (hval 1 3 v1 rfl rfl) h1
  clear hA0 hval0
  simp only [List.append_nil] at hW'
  refine (walk a0 a1 w0 w1 W (of_laid hL)).mono fun e W' ⟨he, hg⟩ => ?_
  subst he
  exact ⟨_, rfl, post_of_same (pa := []) (pv := []) hW' (fun _ _ _ => (trodAll_cons_mk (shut_bool Tryd.underlying4 _) trodAll_mk0)) (fun sp _ => (trodAll_cons_mk (shut_int Tryd.underlying3 w0) (trodAll_cons_mk (shut_int Tryd.underlying3 w1) trodAll_mk0))) (fun _ _ => rfl) rfl
    (hg.frame _) hg.2.1 (ok_one (by kernel_rfl) rfl (okWide_bool_mk Tryd.underlying4 _))⟩

theorem over : Rows.i64CountsRow.holds Tryd.pinned (OpenSpec.ofChange Rows.i64CountsSpec) :=
  OpenClaim.holds_of_wide 4 Tryd.f4 rfl rfl rfl rfl rfl rfl rfl ⟨rfl, rfl, rfl, rfl, rfl⟩ rfl rfl rfl rfl rfl (by kernel_rfl) Tryd.func4 (by kernel_rfl)
    (of_decide_eq_true (by kernel_rfl)) (by unfold Func.isWrapper; first | (rw [if_pos (by decide +kernel)]; kernel_rfl) | (rw [if_neg (by decide +kernel)]; exact ⟨rfl, rfl⟩))
    (fun os started H enc _ => lifted os started H enc)

theorem row_holds : Rows.I64CountsSaid := over

theorem card_holds : Rows.I64CountsCardSaid :=
  Claim7.holds_tied_plain_at .later [] [.data, .data] true (true, "ed7db2eddbd7e302792604a516b8434e370b64c360d87d30f7410cf47a96c261") false
    row_holds (fun _ h => by cases h) (by kernel_rfl) (fun _ h => by cases h) i64Counts_row_tie rfl ⟨rfl, rfl⟩ (by kernel_rfl) rfl
    (fun f fn hf hfn => by
      obtain rfl : f = 4 := Option.some.inj ((show Tryd.prog.funcNamed Rows.i64CountsRow.func = some 4 by kernel_rfl).symm.trans hf) |>.symm
      obtain rfl : fn = Tryd.f4 := (Option.some.inj (Tryd.func4.symm.trans hfn)).symm
      exact ⟨by kernel_rfl, fun j t ht => by
        rw [Tryd.params4] at ht
        have hm : t ∈ [3, 3] := by simpa using Array.mem_of_getElem? ht
        have hall : ([3, 3].all fun u => !Tryd.prog.wantsStandIn u) = true := by kernel_rfl
        exact (show Tryd.prog.wantsStandIn t = false by simpa using List.all_eq_true.1 hall t hm)⟩)
    (by kernel_rfl)
end Go.Proofs.YtjolnfipacpjgabDoor.i64Counts
namespace Go.Proofs.YtjolnfipacpjgabDoor
theorem i64Counts_holds : Rows.I64CountsCardSaid := i64Counts.card_holds
#print axioms i64Counts_holds
end Go.Proofs.YtjolnfipacpjgabDoor

