/- 'MemoryBack' of package peloruslaw8 returns true at every three ints: what is stored is loaded, byte by byte the lowest first, and beside it nothing is turned. No condition. -/
import Derived.Test.YtbbjbgbpjhhcoaaDoorML
import Derived.Test.YtbbjbgbpjhhcoaaDoorCards
import Derived.Test.YtbbjbgbpjhhcoaaDoorTie
import Derived.LoopTactic
import Derived.OpenShut
set_option linter.unusedVariables false
set_option linter.unusedSimpArgs false
set_option maxRecDepth 100000
set_option maxHeartbeats 8000000
namespace Go.Proofs.YtbbjbgbpjhhcoaaDoor.memoryBack
open Go.ChangeShapes Go.WideShapes Go.ChangeAt Go.RowKit Go.BY
theorem bk_y (a : Nat) (x : Int) (h : -9223372036854775808 ≤ x ∧ x ≤ 9223372036854775807) : lv (ldAt 1).1 (ldAt 1).2.1 (ldAt 1).2.2 (wd (put (fun _ => 0) a (stAt 1) (ux x)) a (ldAt 1).1) = x := by
  show lv 8 false true (wd (put (fun _ => 0) a 8 (ux x)) a 8) = x
  rw [wd_put _ _ _ _ _ (by omega)]
  simp only [lv, ux, wrap64, Bool.false_eq_true, if_false, if_true]
  omega
theorem bk_d (a o : Nat) (x : Int) (d k : Nat) (hk : (ldAt k).2 = (false, false)) (h4 : (ldAt k).1 ≤ 4) (hd : d + (ldAt k).1 ≤ 8) :
    lv (ldAt k).1 (ldAt k).2.1 (ldAt k).2.2 (wd (put (fun _ => 0) (a + o) (stAt 1) (ux x)) (a + (o + d)) (ldAt k).1) = ((ux x / 256 ^ d % 256 ^ (ldAt k).1 : Nat) : Int) := by
  rw [← Nat.add_assoc, wd_at _ _ _ _ _ _ (show d + (ldAt k).1 ≤ stAt 1 from hd), hk]
  have h1 : 256 ^ (ldAt k).1 ≤ 4294967296 := Nat.le_trans (Nat.pow_le_pow_right (by decide) h4) (by decide)
  have h2 : ux x / 256 ^ d % 256 ^ (ldAt k).1 < 256 ^ (ldAt k).1 := Nat.mod_lt _ (Nat.pow_pos (by decide))
  simp only [lv, wrap64, Bool.false_eq_true, if_false]
  omega
theorem bk_lo (a o : Nat) (x : Int) : lv (ldAt 0).1 (ldAt 0).2.1 (ldAt 0).2.2 (wd (put (fun _ => 0) (a + o) (stAt 1) (ux x)) (a + o) (ldAt 0).1) = x % 4294967296 := by
  have e := bk_d a o x 0 0 rfl (by decide) (by decide)
  rw [Nat.add_zero] at e
  rw [e]
  show (((ux x / 1 % 4294967296 : Nat)) : Int) = _
  unfold ux; omega
theorem bk_hi (a o : Nat) (x : Int) : lv (ldAt 0).1 (ldAt 0).2.1 (ldAt 0).2.2 (wd (put (fun _ => 0) (a + o) (stAt 1) (ux x)) (a + (o + 4)) (ldAt 0).1) = x / 4294967296 % 4294967296 := by
  rw [bk_d a o x 4 0 rfl (by decide) (by decide)]
  show (((ux x / 4294967296 % 4294967296 : Nat)) : Int) = _
  unfold ux; omega
theorem bk_b (a o : Nat) (x : Int) (i : Nat) (hi : i < 8) : lv (ldAt 5).1 (ldAt 5).2.1 (ldAt 5).2.2 (wd (put (fun _ => 0) (a + o) (stAt 1) (ux x)) (a + (o + i)) (ldAt 5).1) = x / 2 ^ (8 * i) % 256 := by
  rw [bk_d a o x i 5 rfl (by decide) (show i + 1 ≤ 8 from hi)]
  show (((ux x / 256 ^ i % 256 : Nat)) : Int) = _
  unfold ux
  rcases (by omega : i = 0 ∨ i = 1 ∨ i = 2 ∨ i = 3 ∨ i = 4 ∨ i = 5 ∨ i = 6 ∨ i = 7) with rfl | rfl | rfl | rfl | rfl | rfl | rfl | rfl <;> simp only [Nat.reducePow, Nat.reduceMul, Int.reducePow] <;> omega
theorem bk_8 (a o : Nat) (x : Int) : lv (ldAt 5).1 (ldAt 5).2.1 (ldAt 5).2.2 (wd (put (fun _ => 0) (a + o) (stAt 1) (ux x)) (a + (o + 8)) (ldAt 5).1) = 0 := by
  rw [wd_off _ _ _ _ _ _ (Or.inr (by rw [← Nat.add_assoc]; exact Nat.le_refl _)), wd_zero]
  decide +kernel
theorem and_ff (y : Int) : bits .and .i64 y 255 = y % 256 := by
  rw [show (255 : Int) = ((2 ^ 8 : Nat) - 1 : Int) by decide, BM.and_mask y 8 (by decide)]; rfl
theorem core (at_ off x : Int) (hx : Hid (-9223372036854775808 ≤ x ∧ x ≤ 9223372036854775807)) (w : World) (hT : Hid (Tabs w)) :
    Calls Tryd.prog 4 #[.int .i64 at_, .int .i64 off, .int .i64 x] w fun e w' => e = .returned (.bool true) ∧ Later w w' := by
  obtain ⟨a, ha, hal⟩ : ∃ a : Nat, bits .and .i64 at_ 32767 = (a : Int) ∧ a < 32768 := ⟨(at_ % 32768).toNat, by rw [show (32767 : Int) = ((2 ^ 15 : Nat) - 1 : Int) by decide, BM.and_mask at_ 15 (by decide)]; omega, by omega⟩
  obtain ⟨o, ho, hol⟩ : ∃ a : Nat, bits .and .i64 off 16383 = (a : Int) ∧ a < 16384 := ⟨(off % 16384).toNat, by rw [show (16383 : Int) = ((2 ^ 14 : Nat) - 1 : Int) by decide, BM.and_mask off 14 (by decide)]; omega, by omega⟩
  go_enter Tryd.func4, Tryd.ntmps4
  go_wp2_with fail
  refine (awake_any w _ hT (Lz _)).mono ?_
  rintro e w1 ⟨rfl, h1⟩
  replace h1 : Hid (Later w w1) := h1
  go_wp2_with fail
  refine (st_new w _ hT.out (h1.out.trans (by repeat first | exact Lz _ | apply La | apply Ld)) 1 1 1 1 (by decide) (Or.inr ⟨by decide, by decide, by decide⟩)).mono ?_
  rintro e w2 ⟨p, rfl, S2⟩
  go_wp2_with fail
  refine (st_store_in S2 1 a o x (by decide) (by omega) (by omega) (show a + o + 8 ≤ 1 * 65536 by omega)).mono ?_
  rintro e w3 ⟨rfl, S3⟩
  clear S2
  go_wp2_with fail
  refine (st_load_v S3 1 a o _ _ _ x rfl rfl rfl (by decide) (by omega) (by omega) (show a + o + 8 ≤ 1 * 65536 by omega) (bk_y _ _ hx.out)).mono ?_
  rintro e w4 ⟨rfl, S4⟩
  clear S3
  go_wp2_with fail
  refine (st_load_v S4 0 a o _ _ _ (x % 4294967296) rfl rfl rfl (by decide) (by omega) (by omega) (show a + o + 4 ≤ 1 * 65536 by omega) (bk_lo _ _ _)).mono ?_
  rintro e w5 ⟨rfl, S5⟩
  clear S4
  go_wp2_with fail
  refine (st_load_v S5 0 a (o + 4) _ _ _ (x / 4294967296 % 4294967296) rfl rfl rfl (by decide) (by omega) (by omega) (show a + (o + 4) + 4 ≤ 1 * 65536 by omega) (bk_hi _ _ _)).mono ?_
  rintro e w6 ⟨rfl, S6⟩
  clear S5
  have hm1 := BM.and32 x
  have hm2 := BM.and32 (x / 4294967296)
  go_wp2
  generalize hF : put (fun _ => 0) (a + o) (stAt 1) (ux x) = F at S6
  replace hF : Hid (put (fun _ => 0) (a + o) (stAt 1) (ux x) = F) := hF
  go_loopw [18] (fun i wr => ∃ j : Nat, j ≤ 8 ∧ i = .int .i64 (j : Nat) ∧ St w wr p 1 1 F) (fun i _ => 8 - (intOf i).toNat)
  case atStart => exact ⟨0, Nat.zero_le _, rfl, S6⟩
  case round =>
    obtain ⟨j, hj, rfl, SR⟩ := hrel
    clear S6
    by_cases hlt : j < 8
    · have hm3 := and_ff (x / 2 ^ (8 * j))
      go_wp2_with fail
      refine (st_load_v SR 5 a (o + j) _ _ _ (x / 2 ^ (8 * j) % 256) rfl rfl rfl (by decide) (by omega) (by omega) (show a + (o + j) + 1 ≤ 1 * 65536 by omega) (by rw [← hF.out]; exact bk_b _ _ _ _ hlt)).mono ?_
      rintro e w7 ⟨rfl, S7⟩
      go_wp2
      go_roundw
      case rel => exact ⟨j + 1, by omega, by go_num, S7⟩
      case measure => simp [intOf]; omega
    · have hje : j = 8 := by omega
      subst hje
      go_wp2_with fail
      refine (st_load_v SR 5 a (o + 8) _ _ _ 0 rfl rfl rfl (by decide) (by omega) (by omega) (show a + (o + 8) + 1 ≤ 1 * 65536 by omega) (by rw [← hF.out]; exact bk_8 _ _ _)).mono ?_
      rintro e w7 ⟨rfl, S7⟩
      go_wp2_with (first | (go_at_call 11; refine (num_any _ _).mono ?_; rintro e w' ⟨rfl, rfl⟩) | (go_at_call 23; refine (st_all S7).mono ?_; rintro e w' ⟨s, rfl, rfl, hs, hS⟩))
      go_ret
      exact ⟨rfl, S7.ltr⟩
theorem walk (a0 : Int) (a1 : Int) (a2 : Int) (w0 : (Lit.int .i64 a0).wf = true) (w1 : (Lit.int .i64 a1).wf = true) (w2 : (Lit.int .i64 a2).wf = true) (w : World) (hT : Tabs w) :
    Calls Tryd.prog 4 #[.int .i64 a0, .int .i64 a1, .int .i64 a2] w fun e w' => e = .returned (.bool true) ∧ Grown w w' :=
  (core a0 a1 a2 (bounds_i64 w2) w hT).mono (fun e w' h => ⟨h.1, h.2.grown⟩)

set_option maxRecDepth 100000 in
theorem lifted (os : Os) (started : os.Started) (H : Type) (enc : TypeId × Value → H) :
    ReturnsInHanded {} Tryd.checked os 4 .any (fun w args => (Rows.memoryBackSpec.pre enc Tryd.prog Tryd.f4 [] false w args ∧ laidMetH Tryd.prog tabs w) ∧ sizedMet enc Tryd.prog Tryd.f4 (OpenSpec.ofChange Rows.memoryBackSpec) false w args)
      (Rows.memoryBackSpec.post enc Tryd.prog Tryd.f4 false true false false) := by
  refine returnsInHanded_of_change_and (C := Tryd.checked) (X := fun w _ => laidMetH Tryd.prog tabs w) (fun _ _ _ hh h => h.of_heap hh) own started (by kernel_rfl) Tryd.func4
    (ChangeSpec.witness_shaped (enc := enc) (C := Tryd.checked) (os := os) (X := fun w _ => laidMetH Tryd.prog tabs w) false (World.doorLaid Tryd.prog 400 os) #[.int .i64 0, .int .i64 0, .int .i64 0] 8 rfl (World.shaped_of_RefB (by kernel_rfl) (by kernel_rfl)) (by kernel_rfl) (by kernel_rfl) (by kernel_rfl) (door_met os _)) ?_
  intro W base args ds gs before hval0 hW _ _ hL _
  have hval : ∀ (j : Nat) t v, Tryd.f4.params[j]? = some t → args[j]? = some v → Value.okWide Tryd.prog W .any base t v := hval0
  have hW' := hW
  obtain ⟨p, q, hA0, hV, rfl, hfz, hnd⟩ := hW
  have hA : DataW.TrodAll enc Tryd.prog W 0 (fun _ => true) true Tryd.f4.params.toList args.toList ds p := hA0
  rw [Tryd.params4] at hA hval
  obtain ⟨v0, vs0, d0, ds0, p0, q0, hargs, rfl, rfl, h0, r0⟩ := trodAll_cons hA
  obtain ⟨v1, vs1, d1, ds1, p1, q1, rfl, rfl, rfl, h1, r1⟩ := trodAll_cons r0
  obtain ⟨v2, vs2, d2, ds2, p2, q2, rfl, rfl, rfl, h2, r2⟩ := trodAll_cons r1
  obtain ⟨rfl, rfl, rfl⟩ := trodAll_nil r2
  obtain rfl : args = #[v0, v1, v2] := by cases args; simp_all
  obtain ⟨rfl, rfl⟩ := trodVars_none hV
  obtain ⟨a0, rfl, rfl, rfl, w0⟩ := open_int Tryd.underlying3 (hval 0 3 v0 rfl rfl) h0
  obtain ⟨a1, rfl, rfl, rfl, w1⟩ := open_int Tryd.underlying3 (hval 1 3 v1 rfl rfl) h1
  obtain ⟨a2, rfl, rfl, rfl, w2⟩ := open_int Tryd.underlying3 (hval 2 3 v2 rfl rfl) h2
  clear hA0 hval0
  simp only [List.append_nil] at hW'
  refine (walk a0 a1 a2 w0 w1 w2 W (of_laid hL)).mono fun e W' ⟨he, hg⟩ => ?_
  subst he
  exact ⟨_, rfl, post_of_same (pa := []) (pv := []) hW' (fun _ _ _ => (trodAll_cons_mk (shut_bool Tryd.underlying4 _) trodAll_mk0)) (fun sp _ => (trodAll_cons_mk (shut_int Tryd.underlying3 w0) (trodAll_cons_mk (shut_int Tryd.underlying3 w1) (trodAll_cons_mk (shut_int Tryd.underlying3 w2) trodAll_mk0)))) (fun _ _ => rfl) rfl
    (hg.frame _) hg.2.1 (ok_one (by kernel_rfl) rfl (okWide_bool_mk Tryd.underlying4 _))⟩

theorem over : Rows.memoryBackRow.holds Tryd.pinned (OpenSpec.ofChange Rows.memoryBackSpec) :=
  OpenClaim.holds_of_wide 4 Tryd.f4 rfl rfl rfl rfl rfl rfl rfl ⟨rfl, rfl, rfl, rfl, rfl⟩ rfl rfl rfl rfl rfl (by kernel_rfl) Tryd.func4 (by kernel_rfl)
    (of_decide_eq_true (by kernel_rfl)) (by unfold Func.isWrapper; first | (rw [if_pos (by decide +kernel)]; kernel_rfl) | (rw [if_neg (by decide +kernel)]; exact ⟨rfl, rfl⟩))
    (fun os started H enc _ => lifted os started H enc)

theorem row_holds : Rows.MemoryBackSaid := over

theorem card_holds : Rows.MemoryBackCardSaid :=
  Claim7.holds_tied_plain_at .later [] [.data] true (true, "18417c4c36e59d634bb1d7bc2a46973f3e80d886067ccc57eeafcee2dfb5387b") false
    row_holds (fun _ h => by cases h) (by kernel_rfl) (fun _ h => by cases h) memoryBack_row_tie rfl ⟨rfl, rfl⟩ (by kernel_rfl) rfl
    (fun f fn hf hfn => by
      obtain rfl : f = 4 := Option.some.inj ((show Tryd.prog.funcNamed Rows.memoryBackRow.func = some 4 by kernel_rfl).symm.trans hf) |>.symm
      obtain rfl : fn = Tryd.f4 := (Option.some.inj (Tryd.func4.symm.trans hfn)).symm
      exact ⟨by kernel_rfl, fun j t ht => by
        rw [Tryd.params4] at ht
        have hm : t ∈ [3, 3, 3] := by simpa using Array.mem_of_getElem? ht
        have hall : ([3, 3, 3].all fun u => !Tryd.prog.wantsStandIn u) = true := by kernel_rfl
        exact (show Tryd.prog.wantsStandIn t = false by simpa using List.all_eq_true.1 hall t hm)⟩)
    (by kernel_rfl)
end Go.Proofs.YtbbjbgbpjhhcoaaDoor.memoryBack
namespace Go.Proofs.YtbbjbgbpjhhcoaaDoor
theorem memoryBack_holds : Rows.MemoryBackCardSaid := memoryBack.card_holds
#print axioms memoryBack_holds
end Go.Proofs.YtbbjbgbpjhhcoaaDoor

