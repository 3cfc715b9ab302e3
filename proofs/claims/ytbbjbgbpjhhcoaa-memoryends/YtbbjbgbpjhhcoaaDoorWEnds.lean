/- 'MemoryEnds' of package peloruslaw8 returns true at every two ints: the last place that each operation may reach is reached, one behind it is not, and no address wraps. No condition. -/
import Derived.Test.YtbbjbgbpjhhcoaaDoorML
import Derived.Test.YtbbjbgbpjhhcoaaDoorMK
import Derived.Test.YtbbjbgbpjhhcoaaDoorCards
import Derived.Test.YtbbjbgbpjhhcoaaDoorTie
import Derived.LoopTactic
import Derived.OpenShut
set_option linter.unusedVariables false
set_option linter.unusedSimpArgs false
set_option maxRecDepth 100000
set_option maxHeartbeats 8000000
namespace Go.Proofs.YtbbjbgbpjhhcoaaDoor.memoryEnds
open Go.ChangeShapes Go.WideShapes Go.ChangeAt Go.RowKit Go.BY
def szN (r : Nat) : Nat := if r < 14 then (ldAt r).1 else stAt (r - 14)
theorem sz_facts (r : Nat) (hr : r < 23) : 1 ≤ szN r ∧ szN r ≤ 8 := by revert r; decide
theorem st_store_v {w0 w : World} {p q : Nat} {top : Int} {f : Nat → Nat} (h : St w0 w p q top f) (k a o : Nat) (op ai oi x : Int) (hop : op = ((54 + k : Nat) : Int)) (ha : ai = (a : Int)) (ho : oi = (o : Int)) (hk : k < 9) (h1 : a < 4294967296) (h2 : o < 4294967296) (hfit : a + o + stAt k ≤ q * 65536) :
    Calls Tryd.prog 13 #[.pointer (some ⟨p, 0, none⟩), .int .i64 op, .int .i64 ai, .int .i64 oi, .int .i64 x] w fun e w' => e = .returned (.int .i64 0) ∧ ∃ f', St w0 w' p q top f' := by
  subst hop ha ho
  exact (st_store_in h k a o x hk h1 h2 hfit).mono fun e w' hh => ⟨hh.1, _, hh.2⟩
theorem st_store_x {w0 w : World} {p q : Nat} {top : Int} {f : Nat → Nat} (h : St w0 w p q top f) (k a o : Nat) (op ai oi x : Int) (hop : op = ((54 + k : Nat) : Int)) (ha : ai = (a : Int)) (ho : oi = (o : Int)) (hk : k < 9) (h1 : a < 4294967296) (h2 : o < 4294967296) (hfit : ¬ a + o + stAt k ≤ q * 65536) :
    Calls Tryd.prog 13 #[.pointer (some ⟨p, 0, none⟩), .int .i64 op, .int .i64 ai, .int .i64 oi, .int .i64 x] w fun e w' => e = .returned (.int .i64 801) ∧ St w0 w' p q top f := by
  subst hop ha ho
  exact st_store_out h k a o x hk h1 h2 hfit
theorem core (op at_ : Int) (w : World) (hT : Hid (Tabs w)) :
    Calls Tryd.prog 5 #[.int .i64 op, .int .i64 at_] w fun e w' => e = .returned (.bool true) ∧ Later w w' := by
  obtain ⟨r, hr, hrl⟩ : ∃ r : Nat, (IntKind.u64.wrap op).tmod 23 = (r : Int) ∧ r < 23 := by
    have h0 : 0 ≤ IntKind.u64.wrap op := by rw [IntKind.wrap_u64]; omega
    refine ⟨((IntKind.u64.wrap op).tmod 23).toNat, ?_, ?_⟩ <;> rw [Int.tmod_eq_emod_of_nonneg h0] <;> omega
  obtain ⟨s, hs⟩ : ∃ s, s = szN r := ⟨_, rfl⟩
  have hs8 : 1 ≤ s ∧ s ≤ 8 := by rw [hs]; exact sz_facts r hrl
  replace hs : Hid (s = szN r) := hs
  obtain ⟨a, ha, hal⟩ : ∃ a : Nat, (IntKind.u64.wrap at_).tmod (65536 - (s : Int) + 1) = (a : Int) ∧ a + s ≤ 65536 := by
    have h0 : 0 ≤ IntKind.u64.wrap at_ := by rw [IntKind.wrap_u64]; omega
    have h1 := Int.emod_nonneg (IntKind.u64.wrap at_) (show 65536 - (s : Int) + 1 ≠ 0 by omega)
    have h2 := Int.emod_lt_of_pos (IntKind.u64.wrap at_) (show 0 < 65536 - (s : Int) + 1 by omega)
    refine ⟨((IntKind.u64.wrap at_).tmod (65536 - (s : Int) + 1)).toNat, ?_, ?_⟩ <;> rw [Int.tmod_eq_emod_of_nonneg h0] <;> omega
  go_enter Tryd.func5, Tryd.ntmps5
  go_wp2_with fail
  refine (awake_any w _ hT (Lz _)).mono ?_
  rintro e w1 ⟨rfl, h1⟩
  replace h1 : Hid (Later w w1) := h1
  go_wp2_with fail
  refine (st_new w _ hT.out (h1.out.trans (by repeat first | exact Lz _ | apply La | apply Ld)) 1 (-1) 1 1 (by decide) (Or.inl ⟨by decide, by decide⟩)).mono ?_
  rintro e w2 ⟨p, rfl, S2⟩
  go_wp2_with fail
  refine (sz_any r hrl _ (s : Int) rfl (by rw [hs.out]; rfl) _).mono ?_
  rintro e w3 ⟨rfl, h3⟩
  have S3 := S2.later h3
  replace h3 : Hid True := trivial
  clear S2
  by_cases h14 : r < 14
  · have hsk : Hid (s = (ldAt r).1) := by rw [hs.out]; unfold szN; rw [if_pos h14]; exact rfl
    have h54 : 40 + (r : Int) < 54 := by omega
    go_wp2_with fail
    refine (st_load_v S3 r a (65536 - s - a) _ _ _ _ rfl rfl (by omega) h14 (by omega) (by omega) (by have := hsk.out; omega) rfl).mono ?_
    generalize lv (ldAt r).1 (ldAt r).2.1 (ldAt r).2.2 _ = R
    rintro e w4 ⟨rfl, S4⟩
    go_wp2_with fail
    refine (st_load_x S4 r a (65536 - s - a + 1) _ _ _ rfl rfl (by omega) h14 (by omega) (by omega) (by have := hsk.out; omega)).mono ?_
    rintro e w5 ⟨rfl, S5⟩
    go_wp2_with fail
    refine (st_load_x S5 r 4294967295 a _ _ _ rfl rfl (by omega) h14 (by omega) (by omega) (by have := hsk.out; omega)).mono ?_
    rintro e w6 ⟨rfl, S6⟩
    go_wp2_with fail
    refine (st_load_x S6 r a 4294967295 _ _ _ rfl rfl (by omega) h14 (by omega) (by omega) (by have := hsk.out; omega)).mono ?_
    rintro e w7 ⟨rfl, S7⟩
    clear S3 S4 S5 S6
    go_wp2_with (go_at_call 11; refine (num_any _ _).mono ?_; rintro e w' ⟨rfl, rfl⟩)
    go_ret
    exact ⟨rfl, S7.ltr⟩
  · have hsk : Hid (s = stAt (r - 14)) := by rw [hs.out]; unfold szN; rw [if_neg h14]; exact rfl
    have h54 : ¬ 40 + (r : Int) < 54 := by omega
    go_wp2_with fail
    refine (st_store_v S3 (r - 14) a (65536 - s - a) _ _ _ _ (by omega) rfl (by omega) (by omega) (by omega) (by omega) (by have := hsk.out; omega)).mono ?_
    rintro e w4 ⟨rfl, f4, S4⟩
    go_wp2_with fail
    refine (st_store_x S4 (r - 14) a (65536 - s - a + 1) _ _ _ _ (by omega) rfl (by omega) (by omega) (by omega) (by omega) (by have := hsk.out; omega)).mono ?_
    rintro e w5 ⟨rfl, S5⟩
    go_wp2_with fail
    refine (st_store_x S5 (r - 14) 4294967295 a _ _ _ _ (by omega) rfl (by omega) (by omega) (by omega) (by omega) (by have := hsk.out; omega)).mono ?_
    rintro e w6 ⟨rfl, S6⟩
    clear S3 S4 S5
    go_wp2_with (go_at_call 11; refine (num_any _ _).mono ?_; rintro e w' ⟨rfl, rfl⟩)
    go_ret
    exact ⟨rfl, S6.ltr⟩
theorem walk (a0 : Int) (a1 : Int) (w0 : (Lit.int .i64 a0).wf = true) (w1 : (Lit.int .i64 a1).wf = true) (w : World) (hT : Tabs w) :
    Calls Tryd.prog 5 #[.int .i64 a0, .int .i64 a1] w fun e w' => e = .returned (.bool true) ∧ Grown w w' :=
  (core a0 a1 w hT).mono (fun e w' h => ⟨h.1, h.2.grown⟩)

set_option maxRecDepth 100000 in
theorem lifted (os : Os) (started : os.Started) (H : Type) (enc : TypeId × Value → H) :
    ReturnsInHanded {} Tryd.checked os 5 .any (fun w args => (Rows.memoryEndsSpec.pre enc Tryd.prog Tryd.f5 [] false w args ∧ laidMetH Tryd.prog tabs w) ∧ sizedMet enc Tryd.prog Tryd.f5 (OpenSpec.ofChange Rows.memoryEndsSpec) false w args)
      (Rows.memoryEndsSpec.post enc Tryd.prog Tryd.f5 false true false false) := by
  refine returnsInHanded_of_change_and (C := Tryd.checked) (X := fun w _ => laidMetH Tryd.prog tabs w) (fun _ _ _ hh h => h.of_heap hh) own started (by kernel_rfl) Tryd.func5
    (ChangeSpec.witness_shaped (enc := enc) (C := Tryd.checked) (os := os) (X := fun w _ => laidMetH Tryd.prog tabs w) false (World.doorLaid Tryd.prog 400 os) #[.int .i64 0, .int .i64 0] 8 rfl (World.shaped_of_RefB (by kernel_rfl) (by kernel_rfl)) (by kernel_rfl) (by kernel_rfl) (by kernel_rfl) (door_met os _)) ?_
  intro W base args ds gs before hval0 hW _ _ hL _
  have hval : ∀ (j : Nat) t v, Tryd.f5.params[j]? = some t → args[j]? = some v → Value.okWide Tryd.prog W .any base t v := hval0
  have hW' := hW
  obtain ⟨p, q, hA0, hV, rfl, hfz, hnd⟩ := hW
  have hA : DataW.TrodAll enc Tryd.prog W 0 (fun _ => true) true Tryd.f5.params.toList args.toList ds p := hA0
  rw [Tryd.params5] at hA hval
  obtain ⟨v0, vs0, d0, ds0, p0, q0, hargs, rfl, rfl, h0, r0⟩ := trodAll_cons hA
  obtain ⟨v1, vs1, d1, ds1, p1, q1, rfl, rfl, rfl, h1, r1⟩ := trodAll_cons r0
  obtain ⟨rfl, rfl, rfl⟩ := trodAll_nil r1
  obtain rfl : args = #[v0, v1] := by cases args; simp_all
  obtain ⟨rfl, rfl⟩ := trodVars_none hV
  obtain ⟨a0, rfl, rfl, rfl, w0⟩ := open_int Tryd.underlying3 (hval 0 3 v0 rfl rfl) h0
  obtain ⟨a1, rfl, rfl, rfl, w1⟩ := open_int Tryd.underlying3 (hval 1 3 v1 rfl rfl) h1
  clear hA0 hval0
  simp only [List.append_nil] at hW'
  refine (walk a0 a1 w0 w1 W (of_laid hL)).mono fun e W' ⟨he, hg⟩ => ?_
  subst he
  exact ⟨_, rfl, post_of_same (pa := []) (pv := []) hW' (fun _ _ _ => (trodAll_cons_mk (shut_bool Tryd.underlying4 _) trodAll_mk0)) (fun sp _ => (trodAll_cons_mk (shut_int Tryd.underlying3 w0) (trodAll_cons_mk (shut_int Tryd.underlying3 w1) trodAll_mk0))) (fun _ _ => rfl) rfl
    (hg.frame _) hg.2.1 (ok_one (by kernel_rfl) rfl (okWide_bool_mk Tryd.underlying4 _))⟩

theorem over : Rows.memoryEndsRow.holds Tryd.pinned (OpenSpec.ofChange Rows.memoryEndsSpec) :=
  OpenClaim.holds_of_wide 5 Tryd.f5 rfl rfl rfl rfl rfl rfl rfl ⟨rfl, rfl, rfl, rfl, rfl⟩ rfl rfl rfl rfl rfl (by kernel_rfl) Tryd.func5 (by kernel_rfl)
    (of_decide_eq_true (by kernel_rfl)) (by unfold Func.isWrapper; first | (rw [if_pos (by decide +kernel)]; kernel_rfl) | (rw [if_neg (by decide +kernel)]; exact ⟨rfl, rfl⟩))
    (fun os started H enc _ => lifted os started H enc)

theorem row_holds : Rows.MemoryEndsSaid := over

theorem card_holds : Rows.MemoryEndsCardSaid :=
  Claim7.holds_tied_plain_at .later [] [.data] true (true, "18417c4c36e59d634bb1d7bc2a46973f3e80d886067ccc57eeafcee2dfb5387b") false
    row_holds (fun _ h => by cases h) (by kernel_rfl) (fun _ h => by cases h) memoryEnds_row_tie rfl ⟨rfl, rfl⟩ (by kernel_rfl) rfl
    (fun f fn hf hfn => by
      obtain rfl : f = 5 := Option.some.inj ((show Tryd.prog.funcNamed Rows.memoryEndsRow.func = some 5 by kernel_rfl).symm.trans hf) |>.symm
      obtain rfl : fn = Tryd.f5 := (Option.some.inj (Tryd.func5.symm.trans hfn)).symm
      exact ⟨by kernel_rfl, fun j t ht => by
        rw [Tryd.params5] at ht
        have hm : t ∈ [3, 3] := by simpa using Array.mem_of_getElem? ht
        have hall : ([3, 3].all fun u => !Tryd.prog.wantsStandIn u) = true := by kernel_rfl
        exact (show Tryd.prog.wantsStandIn t = false by simpa using List.all_eq_true.1 hall t hm)⟩)
    (by kernel_rfl)
end Go.Proofs.YtbbjbgbpjhhcoaaDoor.memoryEnds
namespace Go.Proofs.YtbbjbgbpjhhcoaaDoor
theorem memoryEnds_holds : Rows.MemoryEndsCardSaid := memoryEnds.card_holds
#print axioms memoryEnds_holds
end Go.Proofs.YtbbjbgbpjhhcoaaDoor

