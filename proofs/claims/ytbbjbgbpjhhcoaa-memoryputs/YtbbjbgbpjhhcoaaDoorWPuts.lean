/- 'MemoryPuts' of package peloruslaw8 returns true at every int and every string: bytes that are put lie where they must, or nowhere. No condition. -/
import Derived.Test.YtbbjbgbpjhhcoaaDoorML
import Derived.Test.YtbbjbgbpjhhcoaaDoorCards
import Derived.Test.YtbbjbgbpjhhcoaaDoorTie
import Derived.LoopTactic
import Derived.OpenShut
import Derived.ChangeMaps5
import Derived.ShutString
set_option linter.unusedVariables false
set_option linter.unusedSimpArgs false
set_option maxRecDepth 100000
set_option maxHeartbeats 8000000
namespace Go.Proofs.YtbbjbgbpjhhcoaaDoor.memoryPuts
open Go.ChangeShapes Go.WideShapes Go.ChangeAt Go.RowKit Go.BY
theorem got (f : Nat → Nat) (a : Nat) (t : ByteArray) (h : a + t.size ≤ 65536) : (strOf (lay f a t) (1 * 65536)).extract a (a + t.size) = t := by
  apply ByteArray.ext
  rw [ByteArray.data_extract]
  apply Array.ext_getElem?
  intro i
  simp only [Array.getElem?_extract, strOf, Nat.one_mul]
  by_cases hi : i < t.size
  · have hi2 : i < t.data.size := hi
    rw [if_pos (by simp; omega)]
    have h3 : a + i < 65536 := by omega
    simp [h3, lay, hi, hi2]
  · have hi2 : t.data.size ≤ i := by have : t.data.size = t.size := rfl; omega
    rw [if_neg (by simp; omega), Array.getElem?_eq_none hi2]
theorem got0 (j : Nat) (h : j < (strOf (fun _ => 0) (1 * 65536)).size) : (strOf (fun _ => 0) (1 * 65536))[j] = 0 := by
  simp [strOf, ByteArray.getElem_eq_getElem_data]
theorem sl_eq (u : ByteArray) (a n : Nat) (h : a + n ≤ u.size) (w : World) : (Instr.slice 9 (.string u) (some (.int .i64 (a : Int))) (some (.int .i64 ((a : Int) + (n : Int)))) none).run Tryd.prog w = .ok (.string (u.extract a (a + n))) w := by
  have ht := Tryd.underlying9
  have h1 : (a : Int) ≤ (a : Int) + (n : Int) := by omega
  have h2 : (a : Int) + (n : Int) ≤ (u.size : Int) := by omega
  have h3 : (0 : Int) ≤ (a : Int) + (n : Int) := by omega
  have h4 : ((a : Int) + (n : Int)).toNat = a + n := by omega
  simp [Instr.slice, run_underlying ht, Instr.sliceBounds, run_sliceBound, sliced, h1, h2, h3, h4]
theorem cut_t (s : ByteArray) : ∃ t, (t = if s.size ≤ 1000 then s else s.extract 0 1000) ∧ t.size ≤ 1000 := by
  refine ⟨_, rfl, ?_⟩
  split
  · assumption
  · rw [ByteArray.size_extract]; omega
theorem core (at_ : Int) (s : ByteArray) (hb : -9223372036854775808 ≤ at_ ∧ at_ ≤ 9223372036854775807) (w : World) (hT : Hid (Tabs w)) :
    Calls Tryd.prog 8 #[.int .i64 at_, .string s] w fun e w' => e = .returned (.bool true) ∧ Later w w' := by
  go_enter Tryd.func8, Tryd.ntmps8
  go_wp2_with fail
  refine (awake_any w _ hT (Lz _)).mono ?_
  rintro e w1 ⟨rfl, h1⟩
  replace h1 : Hid (Later w w1) := h1
  obtain ⟨t, ht, htl⟩ := cut_t s
  by_cases hl : s.size ≤ 1000
  all_goals
    first | rw [if_pos hl] at ht | rw [if_neg hl] at ht
    go_wp2_with fail
    rw [← ht]
    clear ht hl
    refine (st_new w _ hT.out (h1.out.trans (by repeat first | exact Lz _ | apply La | apply Ld)) 1 (-1) 1 1 (by decide) (Or.inl ⟨by decide, by decide⟩)).mono ?_
    rintro e w2 ⟨p, rfl, S2⟩
    clear h1
    by_cases hf : 0 ≤ at_ ∧ at_ + t.size ≤ 65536
    · obtain ⟨a, rfl⟩ := Int.eq_ofNat_of_zero_le hf.1
      have ha : a + t.size ≤ 65536 := by omega
      have hd : (a : Int) ≤ 65536 - (t.size : Int) := by omega
      clear hf hb
      go_wp2_with fail
      refine (st_put_ok S2 a t (by omega)).mono ?_
      rintro e w3 ⟨rfl, S3⟩
      clear S2
      go_wp2_with fail
      refine (st_all S3).mono ?_
      rintro e w4 ⟨u, rfl, rfl, hu, hU⟩
      have hx : u.extract a (a + t.size) = t := by rw [hU.out]; exact got _ a t ha
      have hsl := sl_eq u a t.size (by omega)
      rw [hx] at hsl
      clear hx
      go_wp2_with (go_at_call 11; refine (num_any _ _).mono ?_; rintro e w' ⟨rfl, rfl⟩)
      go_ret
      exact ⟨rfl, S3.ltr⟩
    · have hn : at_ < 0 ∨ (0 ≤ at_ ∧ ¬ at_ ≤ 65536 - (t.size : Int)) := by omega
      go_wp2_with fail
      refine (st_put_bad S2 at_ t hb (by omega) (by omega)).mono ?_
      rintro e w3 ⟨rfl, rfl⟩
      clear hb hf
      go_wp2_with fail
      refine (st_all S2).mono ?_
      rintro e w4 ⟨u, rfl, rfl, hu, hU⟩
      have hz : ∀ (j : Nat) (h : j < u.size), u[j] = 0 := by rw [hU.out]; exact got0
      obtain ⟨B, hB, hB2⟩ : ∃ B, u.size = B ∧ B ≤ 70000 := ⟨_, hu, by omega⟩
      clear hu hU
      rcases hn with hn | ⟨hn, hn2⟩
      all_goals
        try have hn3 : decide (at_ ≤ 65536 - (t.size : Int)) = false := decide_eq_false (by clear hn; omega)
        go_wp2
        go_loopw [11] (fun i wr => ∃ j : Nat, j ≤ B + 997 ∧ i = .int .i64 (j : Nat) ∧ wr = w4) (fun i _ => B + 997 - (intOf i).toNat)
        case atStart => exact ⟨0, Nat.zero_le _, rfl, rfl⟩
        case round =>
          obtain ⟨j, hj, rfl, rfl⟩ := hrel
          by_cases hlt : j < B
          · have hz' := hz j (by omega)
            clear hz
            go_wp2
            go_roundw
            case rel => exact ⟨j + 997, by omega, by go_num, trivial⟩
            case measure => simp [intOf]; omega
          · clear hz
            go_wp2_with (go_at_call 11; refine (num_any _ _).mono ?_; rintro e w' ⟨rfl, rfl⟩)
            go_ret
            exact ⟨rfl, S2.ltr⟩
theorem walk (a0 : Int) (s1 : ByteArray) (w0 : (Lit.int .i64 a0).wf = true) (_ : s1.size ≤ maxLen) (w : World) (hT : Tabs w) :
    Calls Tryd.prog 8 #[.int .i64 a0, .string s1] w fun e w' => e = .returned (.bool true) ∧ Grown w w' :=
  (core a0 s1 (bounds_i64 w0) w hT).mono (fun e w' h => ⟨h.1, h.2.grown⟩)

set_option maxRecDepth 100000 in
theorem lifted (os : Os) (started : os.Started) (H : Type) (enc : TypeId × Value → H) :
    ReturnsInHanded {} Tryd.checked os 8 .any (fun w args => (Rows.memoryPutsSpec.pre enc Tryd.prog Tryd.f8 [] false w args ∧ laidMetH Tryd.prog tabs w) ∧ sizedMet enc Tryd.prog Tryd.f8 (OpenSpec.ofChange Rows.memoryPutsSpec) false w args)
      (Rows.memoryPutsSpec.post enc Tryd.prog Tryd.f8 false true false false) := by
  refine returnsInHanded_of_change_and (C := Tryd.checked) (X := fun w _ => laidMetH Tryd.prog tabs w) (fun _ _ _ hh h => h.of_heap hh) own started (by kernel_rfl) Tryd.func8
    (ChangeSpec.witness_shaped (enc := enc) (C := Tryd.checked) (os := os) (X := fun w _ => laidMetH Tryd.prog tabs w) false (World.doorLaid Tryd.prog 400 os) #[.int .i64 0, .string ⟨#[]⟩] 8 rfl (World.shaped_of_RefB (by kernel_rfl) (by kernel_rfl)) (by kernel_rfl) (by kernel_rfl) (by kernel_rfl) (door_met os _)) ?_
  intro W base args ds gs before hval0 hW _ _ hL _
  have hval : ∀ (j : Nat) t v, Tryd.f8.params[j]? = some t → args[j]? = some v → Value.okWide Tryd.prog W .any base t v := hval0
  have hW' := hW
  obtain ⟨p, q, hA0, hV, rfl, hfz, hnd⟩ := hW
  have hA : DataW.TrodAll enc Tryd.prog W 0 (fun _ => true) true Tryd.f8.params.toList args.toList ds p := hA0
  rw [Tryd.params8] at hA hval
  obtain ⟨v0, vs0, d0, ds0, p0, q0, hargs, rfl, rfl, h0, r0⟩ := trodAll_cons hA
  obtain ⟨v1, vs1, d1, ds1, p1, q1, rfl, rfl, rfl, h1, r1⟩ := trodAll_cons r0
  obtain ⟨rfl, rfl, rfl⟩ := trodAll_nil r1
  obtain rfl : args = #[v0, v1] := by cases args; simp_all
  obtain ⟨rfl, rfl⟩ := trodVars_none hV
  obtain ⟨a0, rfl, rfl, rfl, w0⟩ := open_int Tryd.underlying3 (hval 0 3 v0 rfl rfl) h0
  obtain ⟨a1, rfl, rfl, rfl, w1⟩ := ChangeMaps.open_string Tryd.underlying9 (hval 1 9 v1 rfl rfl) h1
  clear hA0 hval0
  simp only [List.append_nil] at hW'
  refine (walk a0 a1 w0 w1 W (of_laid hL)).mono fun e W' ⟨he, hg⟩ => ?_
  subst he
  exact ⟨_, rfl, post_of_same (pa := []) (pv := []) hW' (fun _ _ _ => (trodAll_cons_mk (shut_bool Tryd.underlying4 _) trodAll_mk0)) (fun sp _ => (trodAll_cons_mk (shut_int Tryd.underlying3 w0) (trodAll_cons_mk (ChangeMaps.shut_string Tryd.underlying9 w1) trodAll_mk0))) (fun _ _ => rfl) rfl
    (hg.frame _) hg.2.1 (ok_one (by kernel_rfl) rfl (okWide_bool_mk Tryd.underlying4 _))⟩

theorem over : Rows.memoryPutsRow.holds Tryd.pinned (OpenSpec.ofChange Rows.memoryPutsSpec) :=
  OpenClaim.holds_of_wide 8 Tryd.f8 rfl rfl rfl rfl rfl rfl rfl ⟨rfl, rfl, rfl, rfl, rfl⟩ rfl rfl rfl rfl rfl (by kernel_rfl) Tryd.func8 (by kernel_rfl)
    (of_decide_eq_true (by kernel_rfl)) (by unfold Func.isWrapper; first | (rw [if_pos (by decide +kernel)]; kernel_rfl) | (rw [if_neg (by decide +kernel)]; exact ⟨rfl, rfl⟩))
    (fun os started H enc _ => lifted os started H enc)

theorem row_holds : Rows.MemoryPutsSaid := over

theorem card_holds : Rows.MemoryPutsCardSaid :=
  Claim7.holds_tied_plain_at .later [] [.data] true (true, "18417c4c36e59d634bb1d7bc2a46973f3e80d886067ccc57eeafcee2dfb5387b") false
    row_holds (fun _ h => by cases h) (by kernel_rfl) (fun _ h => by cases h) memoryPuts_row_tie rfl ⟨rfl, rfl⟩ (by kernel_rfl) rfl
    (fun f fn hf hfn => by
      obtain rfl : f = 8 := Option.some.inj ((show Tryd.prog.funcNamed Rows.memoryPutsRow.func = some 8 by kernel_rfl).symm.trans hf) |>.symm
      obtain rfl : fn = Tryd.f8 := (Option.some.inj (Tryd.func8.symm.trans hfn)).symm
      exact ⟨by kernel_rfl, fun j t ht => by
        rw [Tryd.params8] at ht
        have hm : t ∈ [3, 9] := by simpa using Array.mem_of_getElem? ht
        have hall : ([3, 9].all fun u => !Tryd.prog.wantsStandIn u) = true := by kernel_rfl
        exact (show Tryd.prog.wantsStandIn t = false by simpa using List.all_eq_true.1 hall t hm)⟩)
    (by kernel_rfl)
end Go.Proofs.YtbbjbgbpjhhcoaaDoor.memoryPuts
namespace Go.Proofs.YtbbjbgbpjhhcoaaDoor
theorem memoryPuts_holds : Rows.MemoryPutsCardSaid := memoryPuts.card_holds
#print axioms memoryPuts_holds
end Go.Proofs.YtbbjbgbpjhhcoaaDoor
