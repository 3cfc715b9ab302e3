/- 'BitsPowers' of package peloruslaw1 returns true at every input: of a power of two all counts are known, and rolled it is another one. -/
import Derived.Test.YtojfhjpimpfkiaaDoorLaid
import Derived.Test.YtojfhjpimpfkiaaDoorTie
import Derived.Test.YtojfhjpimpfkiaaDoorCards
import Derived.SevenTiedAt
namespace Go.Proofs.YtojfhjpimpfkiaaDoor.bitsPowers
open Go.ChangeShapes Go.WideShapes Go.ChangeAt Go.RowKit
set_option linter.unusedVariables false

set_option maxHeartbeats 1000000 in
theorem core32 (a0 a1 X Y : Int) (n m : Nat) (hn : n < 32) (hm : m < 32) (e0 : (IntKind.u64.wrap a0).tmod 32 = (n : Int)) (e1 : bits .and .i64 a1 31 = (m : Int)) (eX : wrap64 (2 ^ n) = X)
    (r1 : (Lib.bitLen (X % 4294967296).toNat : Int) = (n : Int) + 1) (r2 : (Lib.ctz 32 (X % 4294967296).toNat : Int) = (n : Int)) (r3 : (Lib.popAux 32 (X % 4294967296).toNat : Int) = 1) (r4 : ((BM.rotl 32 (X % 4294967296).toNat (a1 % 32).toNat : Nat) : Int) = Y)
    (r5 : (Lib.ctz 32 (Y % 4294967296).toNat : Int) = ((n : Int) + m) % 32) (w : World) (hT : Tab 0 Lib.deBruijn32tab w) :
    Calls Tryd.prog 5 #[.int .i64 a0, .int .i64 a1, .bool false] w fun e w' => e = .returned (.bool true) ∧ Grown w w' := by
  have C : Hid (Tab 0 Lib.deBruijn32tab w) := hT
  clear hT
  go_enter Tryd.func5, Tryd.ntmps5
  go_wp2_with fail
  refine (awake_any _).mono ?_
  rintro e w' ⟨rfl, n0, rfl⟩
  go_wp2_with fail
  refine (clz_32 X _).mono ?_
  rintro e w' ⟨rfl, rfl⟩
  rw [r1]
  go_wp2_with fail
  refine (ctz_32 X _ (C.out.drew _)).mono ?_
  rintro e w' ⟨rfl, rfl⟩
  rw [r2]
  go_wp2_with fail
  refine (pop_32 X _).mono ?_
  rintro e w' ⟨rfl, n1, rfl⟩
  rw [r3]
  go_wp2_with fail
  refine (rot_32 X a1 _).mono ?_
  rintro e w' ⟨rfl, rfl⟩
  rw [r4]
  go_wp2_with fail
  refine (ctz_32 Y _ (C.out.drew _)).mono ?_
  rintro e w' ⟨rfl, rfl⟩
  rw [r5]
  go_wp2_with (go_at_call 18; refine (num_any _ _).mono ?_; rintro e w' ⟨rfl, rfl⟩)
  go_ret
  exact ⟨rfl, grown_drewN _ _⟩
theorem tab32 : ∀ n m : Fin 32, (Lib.bitLen ((wrap64 (2 ^ n.val)) % 4294967296).toNat : Int) = (n.val : Int) + 1 ∧ (Lib.ctz 32 ((wrap64 (2 ^ n.val)) % 4294967296).toNat : Int) = (n.val : Int) ∧ (Lib.popAux 32 ((wrap64 (2 ^ n.val)) % 4294967296).toNat : Int) = 1 := by decide +kernel
def rolled32 (n m : Nat) : Int := ((BM.rotl 32 ((wrap64 (2 ^ n)) % 4294967296).toNat m : Nat) : Int)
theorem roll32 : ∀ n m : Fin 32, (Lib.ctz 32 ((rolled32 n.val m.val) % 4294967296).toNat : Int) = ((n.val : Int) + m.val) % 32 := by decide +kernel
theorem walk32 (a0 a1 : Int) (w : World) (hT : Tab 0 Lib.deBruijn32tab w) :
    Calls Tryd.prog 5 #[.int .i64 a0, .int .i64 a1, .bool false] w fun e w' => e = .returned (.bool true) ∧ Grown w w' := by
  have hu := u64_pos a0
  have e0 : (IntKind.u64.wrap a0).tmod 32 = ((IntKind.u64.wrap a0 % 32).toNat : Int) := by
    rw [Int.tmod_eq_emod_of_nonneg hu.1]; omega
  have e1 : bits .and .i64 a1 31 = ((a1 % 32).toNat : Int) := by rw [BM.and31]; omega
  have h1 : (IntKind.u64.wrap a0 % 32).toNat < 32 := by omega
  have h2 : (a1 % 32).toNat < 32 := by omega
  have t := tab32 ⟨_, h1⟩ ⟨_, h2⟩
  have r := roll32 ⟨_, h1⟩ ⟨_, h2⟩
  exact core32 a0 a1 _ _ _ _ h1 h2 e0 e1 rfl t.1 t.2.1 t.2.2 rfl r w hT

set_option maxHeartbeats 1000000 in
theorem core64 (a0 a1 X Y : Int) (n m : Nat) (hn : n < 64) (hm : m < 64) (e0 : (IntKind.u64.wrap a0).tmod 64 = (n : Int)) (e1 : bits .and .i64 a1 63 = (m : Int)) (eX : wrap64 (2 ^ n) = X)
    (r1 : (Lib.bitLen (IntKind.u64.wrap X).toNat : Int) = (n : Int) + 1) (r2 : (Lib.ctz 64 (IntKind.u64.wrap X).toNat : Int) = (n : Int)) (r3 : (Lib.popAux 64 (IntKind.u64.wrap X).toNat : Int) = 1) (r4 : wrap64 ((BM.rotl 64 (IntKind.u64.wrap X).toNat (a1 % 64).toNat : Nat) : Int) = Y)
    (r5 : (Lib.ctz 64 (IntKind.u64.wrap Y).toNat : Int) = ((n : Int) + m) % 64) (w : World) (hT : Tab 1 Lib.deBruijn64tab w) :
    Calls Tryd.prog 5 #[.int .i64 a0, .int .i64 a1, .bool true] w fun e w' => e = .returned (.bool true) ∧ Grown w w' := by
  have C : Hid (Tab 1 Lib.deBruijn64tab w) := hT
  clear hT
  go_enter Tryd.func5, Tryd.ntmps5
  go_wp2_with fail
  refine (awake_any _).mono ?_
  rintro e w' ⟨rfl, n0, rfl⟩
  go_wp2_with fail
  refine (clz_64 X _).mono ?_
  rintro e w' ⟨rfl, rfl⟩
  rw [r1]
  go_wp2_with fail
  refine (ctz_64 X _ (C.out.drew _)).mono ?_
  rintro e w' ⟨rfl, rfl⟩
  rw [r2]
  go_wp2_with fail
  refine (pop_64 X _).mono ?_
  rintro e w' ⟨rfl, rfl⟩
  rw [r3]
  go_wp2_with fail
  refine (rot_64 X a1 _).mono ?_
  rintro e w' ⟨rfl, rfl⟩
  rw [r4]
  go_wp2_with fail
  refine (ctz_64 Y _ (C.out.drew _)).mono ?_
  rintro e w' ⟨rfl, rfl⟩
  rw [r5]
  go_wp2_with (go_at_call 18; refine (num_any _ _).mono ?_; rintro e w' ⟨rfl, rfl⟩)
  go_ret
  exact ⟨rfl, grown_drewN _ _⟩
theorem tab64 : ∀ n m : Fin 64, (Lib.bitLen (IntKind.u64.wrap (wrap64 (2 ^ n.val))).toNat : Int) = (n.val : Int) + 1 ∧ (Lib.ctz 64 (IntKind.u64.wrap (wrap64 (2 ^ n.val))).toNat : Int) = (n.val : Int) ∧ (Lib.popAux 64 (IntKind.u64.wrap (wrap64 (2 ^ n.val))).toNat : Int) = 1 := by decide +kernel
def rolled64 (n m : Nat) : Int := wrap64 ((BM.rotl 64 (IntKind.u64.wrap (wrap64 (2 ^ n))).toNat m : Nat) : Int)
theorem roll64 : ∀ n m : Fin 64, (Lib.ctz 64 (IntKind.u64.wrap (rolled64 n.val m.val)).toNat : Int) = ((n.val : Int) + m.val) % 64 := by decide +kernel
theorem walk64 (a0 a1 : Int) (w : World) (hT : Tab 1 Lib.deBruijn64tab w) :
    Calls Tryd.prog 5 #[.int .i64 a0, .int .i64 a1, .bool true] w fun e w' => e = .returned (.bool true) ∧ Grown w w' := by
  have hu := u64_pos a0
  have e0 : (IntKind.u64.wrap a0).tmod 64 = ((IntKind.u64.wrap a0 % 64).toNat : Int) := by
    rw [Int.tmod_eq_emod_of_nonneg hu.1]; omega
  have e1 : bits .and .i64 a1 63 = ((a1 % 64).toNat : Int) := by rw [BM.and63]; omega
  have h1 : (IntKind.u64.wrap a0 % 64).toNat < 64 := by omega
  have h2 : (a1 % 64).toNat < 64 := by omega
  have t := tab64 ⟨_, h1⟩ ⟨_, h2⟩
  have r := roll64 ⟨_, h1⟩ ⟨_, h2⟩
  exact core64 a0 a1 _ _ _ _ h1 h2 e0 e1 rfl t.1 t.2.1 t.2.2 rfl r w hT

theorem walk (a0 : Int) (a1 : Int) (a2 : Bool) (w0 : (Lit.int .i64 a0).wf = true) (w1 : (Lit.int .i64 a1).wf = true) (w : World) (hT : Tab 0 Lib.deBruijn32tab w ∧ Tab 1 Lib.deBruijn64tab w) :
    Calls Tryd.prog 5 #[.int .i64 a0, .int .i64 a1, .bool a2] w fun e w' => e = .returned (.bool true) ∧ Grown w w' := by
  cases a2
  · exact walk32 a0 a1 w hT.1
  · exact walk64 a0 a1 w hT.2

set_option maxRecDepth 100000 in
theorem lifted (os : Os) (started : os.Started) (H : Type) (enc : TypeId × Value → H) :
    ReturnsInHanded {} Tryd.checked os 5 .any (fun w args => (Rows.bitsPowersSpec.pre enc Tryd.prog Tryd.f5 [] false w args ∧ laidMetH Tryd.prog tabs w) ∧ sizedMet enc Tryd.prog Tryd.f5 (OpenSpec.ofChange Rows.bitsPowersSpec) false w args)
      (Rows.bitsPowersSpec.post enc Tryd.prog Tryd.f5 false true false false) := by
  refine returnsInHanded_of_change_and (C := Tryd.checked) (X := fun w _ => laidMetH Tryd.prog tabs w) (fun _ _ _ hh h => h.of_heap hh) own started (by kernel_rfl) Tryd.func5
    (ChangeSpec.witness_shaped (enc := enc) (C := Tryd.checked) (os := os) (X := fun w _ => laidMetH Tryd.prog tabs w) false (World.doorLaid Tryd.prog 400 os) #[.int .i64 0, .int .i64 0, .bool false] 8 rfl (World.shaped_of_RefB (by kernel_rfl) (by kernel_rfl)) (by kernel_rfl) (by kernel_rfl) (by kernel_rfl) (door_met os _)) ?_
  intro W base args ds gs before hval0 hW _ _ hL _
  have hval : ∀ (j : Nat) t v, Tryd.f5.params[j]? = some t → args[j]? = some v → Value.okWide Tryd.prog W .any base t v := hval0
  have hW' := hW
  obtain ⟨p, q, hA0, hV, rfl, hfz, hnd⟩ := hW
  have hA : DataW.TrodAll enc Tryd.prog W 0 (fun _ => true) true Tryd.f5.params.toList args.toList ds p := hA0
  rw [Tryd.params5] at hA hval
  obtain ⟨v0, vs0, d0, ds0, p0, q0, hargs, rfl, rfl, h0, r0⟩ := trodAll_cons hA
  obtain ⟨v1, vs1, d1, ds1, p1, q1, rfl, rfl, rfl, h1, r1⟩ := trodAll_cons r0
  obtain ⟨v2, vs2, d2, ds2, p2, q2, rfl, rfl, rfl, h2, r2⟩ := trodAll_cons r1
  obtain ⟨rfl, rfl, rfl⟩ := trodAll_nil r2
  obtain rfl : args = #[v0, v1, v2] := by cases args; simp_all
  obtain ⟨rfl, rfl⟩ := trodVars_none hV
  obtain ⟨a0, rfl, rfl, rfl, w0⟩ := open_int Tryd.underlying3 (hval 0 3 v0 rfl rfl) h0
  obtain ⟨a1, rfl, rfl, rfl, w1⟩ := open_int Tryd.underlying3 (hval 1 3 v1 rfl rfl) h1
  obtain ⟨a2, rfl, rfl, rfl⟩ := open_bool Tryd.underlying4 (hval 2 4 v2 rfl rfl) h2
  clear hA0 hval0
  simp only [List.append_nil] at hW'
  refine (walk a0 a1 a2 w0 w1 W (of_laid hL)).mono fun e W' ⟨he, hg⟩ => ?_
  subst he
  exact ⟨_, rfl, post_of_same (pa := []) (pv := []) hW' (fun _ _ _ => (trodAll_cons_mk (shut_bool Tryd.underlying4 _) trodAll_mk0)) (fun sp _ => (trodAll_cons_mk (shut_int Tryd.underlying3 w0) (trodAll_cons_mk (shut_int Tryd.underlying3 w1) (trodAll_cons_mk (shut_bool Tryd.underlying4 _) trodAll_mk0)))) (fun _ _ => rfl) rfl
    (hg.frame _) hg.2.1 (ok_one (by kernel_rfl) rfl (okWide_bool_mk Tryd.underlying4 _))⟩

theorem over : Rows.bitsPowersRow.holds Tryd.pinned (OpenSpec.ofChange Rows.bitsPowersSpec) :=
  OpenClaim.holds_of_wide 5 Tryd.f5 rfl rfl rfl rfl rfl rfl rfl ⟨rfl, rfl, rfl, rfl, rfl⟩ rfl rfl rfl rfl rfl (by kernel_rfl) Tryd.func5 (by kernel_rfl)
    (of_decide_eq_true (by kernel_rfl)) (by unfold Func.isWrapper; first | (rw [if_pos (by decide +kernel)]; kernel_rfl) | (rw [if_neg (by decide +kernel)]; exact ⟨rfl, rfl⟩))
    (fun os started H enc _ => lifted os started H enc)

theorem row_holds : Rows.BitsPowersSaid := over

theorem card_holds : Rows.BitsPowersCardSaid :=
  Claim7.holds_tied_plain_at .later [] [.data, .data] true (true, "8a9db70321aaf070d5e9b4a6db6bee6f3ba930786013acb7dcb2f39f3288ac9d") false
    row_holds (fun _ h => by cases h) (by kernel_rfl) (fun _ h => by cases h) bitsPowers_row_tie rfl ⟨rfl, rfl⟩ (by kernel_rfl) rfl
    (fun f fn hf hfn => by
      obtain rfl : f = 5 := Option.some.inj ((show Tryd.prog.funcNamed Rows.bitsPowersRow.func = some 5 by kernel_rfl).symm.trans hf) |>.symm
      obtain rfl : fn = Tryd.f5 := (Option.some.inj (Tryd.func5.symm.trans hfn)).symm
      exact ⟨by kernel_rfl, fun j t ht => by
        rw [Tryd.params5] at ht
        have hm : t ∈ [3, 3, 4] := by simpa using Array.mem_of_getElem? ht
        have hall : ([3, 3, 4].all fun u => !Tryd.prog.wantsStandIn u) = true := by kernel_rfl
        exact (show Tryd.prog.wantsStandIn t = false by simpa using List.all_eq_true.1 hall t hm)⟩)
    (by kernel_rfl)
end Go.Proofs.YtojfhjpimpfkiaaDoor.bitsPowers
namespace Go.Proofs.YtojfhjpimpfkiaaDoor
theorem bitsPowers_holds : Rows.BitsPowersCardSaid := bitsPowers.card_holds
#print axioms bitsPowers_holds
end Go.Proofs.YtojfhjpimpfkiaaDoor

