/- 'TraceOrder' of package peloruslaw11 returns true at every two ints: answers come one by one, each once; a call is written down whatever follows. No condition. -/
import Derived.Test.YtlckiipkndipiaaUX
import Derived.Test.YtlckiipkndipiaaMath
import Derived.LoopTactic
import Derived.OpenShut
set_option linter.unusedVariables false
set_option linter.unusedSimpArgs false
set_option maxRecDepth 100000
set_option maxHeartbeats 8000000
namespace Go.Proofs.Ytlckiipkndipiaa.traceOrder
open Go.ChangeShapes Go.WideShapes Go.ChangeAt Go.RowKit
/-- the answers: one value each, of 64 bits -/
def hu (i : Nat) : Vl := (1, fun _ => 126, fun _ => 100 + (i : Int))
def ar (i : Nat) : Vl := (1, fun _ => 127, fun _ => (i : Int))
/-- the host behind j calls, of k answers -/
def St (k j : Nat) (s : Hs) : Prop := s.1 = k - j ∧ (∀ i, i < k - j → s.2.1 i = hu (j + i)) ∧ s.2.2.1 = j ∧ ∀ i, i < j → s.2.2.2.1 i = (i : Int) ∧ s.2.2.2.2 i = ar i
theorem st_next {k j : Nat} {s : Hs} (h : St k j s) : St k (j + 1) (cS s (j : Int) (ar j)) := by
  obtain ⟨n, f, m, c, a⟩ := s
  obtain ⟨h1, h2, h3, h4⟩ := h
  simp only at h1 h2 h3 h4
  subst h3
  unfold cS
  rw [if_neg (by omega)]
  refine ⟨?_, fun i hi => ?_, rfl, fun i hi => ?_⟩
  · show n - 1 = k - (m + 1)
    omega
  · show (if n = 0 then f else fun i => f (i + 1)) i = hu (m + 1 + i)
    rw [if_neg (by omega), h2 (i + 1) (by omega)]
    congr 1
    omega
  · show ups c m (m : Int) i = i ∧ ups a m (ar m) i = ar i
    unfold ups
    by_cases him : i = m
    · rw [if_pos him, if_pos him, him]; exact ⟨rfl, rfl⟩
    · rw [if_neg him, if_neg him]; exact h4 i (by omega)
theorem st_e {k j : Nat} {s : Hs} (h : St k j s) (hj : j < k) : cE s (j : Int) 1 (fun _ => 126) = 0 ∧ cV s (j : Int) 1 (fun _ => 126) = hu j := by
  obtain ⟨n, f, m, c, a⟩ := s
  obtain ⟨h1, h2, h3, h4⟩ := h
  simp only at h1 h2 h3 h4
  have h0 := h2 0 (by omega)
  have e1 : cE (n, f, m, c, a) (j : Int) 1 (fun _ => 126) = 0 := by
    unfold cE
    rw [if_neg (by omega), if_neg (by show ¬ n = 0; omega)]
    refine if_pos ?_
    show fit 1 (f 0).1 (fun _ => 126) (f 0).2.1 (f 0).2.2 = true
    rw [h0]
    simp [fit, fitP, hu, may]
  refine ⟨e1, ?_⟩
  unfold cV
  rw [e1, if_pos rfl]
  exact h0
theorem st_m {k j : Nat} {s : Hs} (h : St k j s) (hj : ¬ j < k) : cE s (j : Int) 1 (fun _ => 126) = 1101 ∧ cV s (j : Int) 1 (fun _ => 126) = nov := by
  have e1 : cE s (j : Int) 1 (fun _ => 126) = 1101 := by
    unfold cE
    rw [if_neg (by omega), if_pos (by have := h.1; omega)]
  exact ⟨e1, by unfold cV; rw [e1]; rfl⟩
theorem at_4 (x : Int) : ∃ k : Nat, bits .and .i64 x 15 = (k : Int) ∧ k < 16 := ⟨(x % 16).toNat, by rw [show (15 : Int) = ((2 ^ 4 : Nat) - 1 : Int) by decide, BM.and_mask x 4 (by decide)]; omega, by omega⟩
theorem at_5 (x : Int) : ∃ k : Nat, bits .and .i64 x 31 = (k : Int) ∧ k < 32 := ⟨(x % 32).toNat, by rw [show (31 : Int) = ((2 ^ 5 : Nat) - 1 : Int) by decide, BM.and_mask x 5 (by decide)]; omega, by omega⟩
theorem core (many calls : Int) (w : World) :
    Calls Try.prog 4 #[.int .i64 many, .int .i64 calls] w fun e w' => e = .returned (.bool true) ∧ Later w w' := by
  obtain ⟨k, hk, hkl⟩ := at_4 many
  obtain ⟨m, hm, hml⟩ := at_5 calls
  go_enter Try.func4, Try.ntmps4
  go_wp2_with fail
  refine (awake_any _).mono ?_
  rintro e w1 ⟨rfl, l1⟩
  go_wp2_with fail
  go_loopw [7, 8] (fun v i wr => ∃ (j : Nat) (lab : Nat → Nat), j ≤ k ∧ i = .int .i64 (j : Nat) ∧ Later w wr ∧ ∃ L, Fld lab 20 wr w.heap.size 27 1 v j L ∧ Ans lab 21 wr w.heap.size L j hu) (fun v i _ => k - (intOf i).toNat)
  case atStart => exact ⟨0, fun _ => 99, Nat.zero_le _, rfl, l1, [], ⟨World.ownsRow_nil _ _ _ _, fun g hg => by cases hg⟩, fun i hi => by omega⟩
  case round =>
    clear l1
    obtain ⟨ia, hi1, hi2, hi3, hi4⟩ := ans_parts
    obtain ⟨j, lab, hj, rfl, hL, L, F1, F2⟩ := hrel
    obtain ⟨Av, cv, rfl⟩ : ∃ A cap, _ = Value.slice A j cap := by
      rcases F1.1.2 with ⟨e, h0⟩ | ⟨g, cap', cur, e, _⟩
      · subst h0; exact ⟨none, 0, e⟩
      · exact ⟨_, _, e⟩
    by_cases hlt : j < k
    · have hl1 : (j : Int) < (k : Int) := by omega
      have hlen : L.length = j := by have := F1.1.1; omega
      have L2 : Later wr (wr.alloc (.cells #[.int .i64 126, .int .i64 (100 + (j : Int))] 56)) := La (Lz _)
      obtain ⟨lab2, C2, hz2⟩ := Chg.fresh (lab := lab) (S := fun _ => False) L2 21
      have hv : Vin lab2 21 (wr.alloc (.cells #[.int .i64 126, .int .i64 (100 + (j : Int))] 56)) w.heap.size (.slice (some ⟨wr.heap.size, 0, none⟩) 1 1) (hu j) := ⟨_, 1, rfl, by show 1 * 16 ≤ _; decide, Or.inr ⟨wr.heap.size, 0, rfl, hz2 _ (Nat.le_refl _), hL.size, fun i hi => by
        obtain rfl : i = 0 := (by change i < 1 at hi; omega)
        exact ⟨by simp [go_sem, hu], by simp [go_sem, hu]⟩⟩⟩
      obtain ⟨g3, d3, w3, lab3, r3, F3, l3, C3⟩ := fld_more (P := Try.prog) (hL.trans L2) 22 22 27 ia (.agg #[.slice none 0 0]) 1 24 Try.underlying22 hi1 hi2 hi3 hi4 rfl (by decide) (F1.chg C2 (fun x => x)) [.slice (some ⟨wr.heap.size, 0, none⟩) 1 1] rfl (one_sl _ _ _) (by unfold maxLen; omega) (by omega)
      have A3 := ((F2.chg C2 (fun x => x)).chg C3 (by decide)).more hlen (hv.chg C3 (by decide))
      rw [ups_same] at A3
      replace r3 : Hid ((Builtin.append_ #[22, 22] 22 #[.slice Av j cv, .slice (some ⟨wr.heap.size + 1, 0, none⟩) 1 1]).run Try.prog ((wr.alloc (.cells #[.int .i64 126, .int .i64 (100 + (j : Int))] 56)).alloc (.cells #[.slice (some ⟨wr.heap.size, 0, none⟩) 1 1] 27)) = .ok (.slice (some ⟨g3, 0, none⟩) (j + 1) d3) w3) := by
        show _ = _
        simpa using r3
      replace l3 : Hid (Later w w3) := l3
      replace A3 : Hid _ := A3
      replace F3 : Hid _ := F3
      clear hv L2 C2 hz2 C3 F1 F2 hL hlen
      go_wp2_with (at_builtin; refine wpList_app rfl _ _ 22 rfl _ _ _ rfl rfl r3.out ?_)
      go_roundw
      case rel => exact ⟨j + 1, lab3, by omega, by go_num, l3.out, _, F3.out, A3.out⟩
      case measure => simp [intOf]; omega
    · have hje : j = k := by omega
      subst hje
      have hanv : Hid (Anv wr Av j hu) := by
        show Anv _ _ _ _
        by_cases h0 : j = 0
        · exact Or.inl h0
        · obtain ⟨g, rfl, _, _, _, _, _, hc⟩ := F1.at_ (by omega)
          refine Or.inr ⟨g, 0, rfl, fun i hi => ?_⟩
          obtain ⟨u, x1, x2⟩ := F2 i hi
          obtain ⟨S, c, rfl, x3, x4⟩ := x2.form
          exact ⟨S, c, by rw [Nat.zero_add]; exact hc _ _ x1, x3, x4⟩
      go_wp2_with fail
      refine (hb_new (fun _ => 99) hL Av j cv hu (by omega) hanv.out).mono ?_
      rintro e w4 ⟨p, lab4, rfl, l4, C4, H4⟩
      clear C4 l4 hanv F1 F2 hL
      have S4 : St j 0 ((j, hu, 0, (fun _ => 0), (fun _ => nov)) : Hs) := ⟨rfl, fun i _ => by rw [Nat.zero_add], rfl, fun i hi => by omega⟩
      generalize ((j, hu, 0, (fun _ => 0), (fun _ => nov)) : Hs) = s4 at *
      go_wp2_with fail
      go_loopw [10] (fun i wr => ∃ (q : Nat) (lab : Nat → Nat) (s : Hs), q ≤ m ∧ i = .int .i64 (q : Nat) ∧ Hb w wr lab p s ∧ St j q s) (fun i _ => m - (intOf i).toNat)
      case atStart => exact ⟨0, lab4, s4, Nat.zero_le _, rfl, H4, S4⟩
      case round =>
        clear H4 S4
        obtain ⟨q, lab, s, hq, rfl, H5, S5⟩ := hrel
        by_cases hqm : q < m
        · have hl2 : (q : Int) < (m : Int) := by omega
          go_wp2_with fail
          have V6 := val_lit (wr.alloc (.cells #[.int .i64 126] 3)) 127 (q : Int) (wr.heap.size + 1) (by simp)
          have L6 : Later wr ((wr.alloc (.cells #[.int .i64 126] 3)).alloc (.cells #[.int .i64 127, .int .i64 (q : Int)] 56)) := (by repeat first | exact Lz _ | apply La | apply Lv | apply Ld | apply Ln)
          have r6 : ((wr.alloc (.cells #[.int .i64 126] 3)).alloc (.cells #[.int .i64 127, .int .i64 (q : Int)] 56)).cell? ⟨wr.heap.size, 0, none⟩ = some (.int .i64 126) := by simp [go_sem]
          generalize (wr.alloc (.cells #[.int .i64 126] 3)).alloc (.cells #[.int .i64 127, .int .i64 (q : Int)] 56) = w6 at *
          obtain ⟨lab6, C6, hz6⟩ := Chg.fresh (lab := lab) (S := fun _ => False) L6 99
          have H6 := H5.chg C6 (H5.1.trans L6) (fun _ _ x => x)
          have R6 : Lq lab6 w6 (some ⟨wr.heap.size, 0, none⟩) 1 (fun _ => 126) := Or.inr ⟨_, 0, rfl, by rw [hz6 _ (Nat.le_refl _)]; decide, fun i hi => by obtain rfl : i = 0 := (by omega); exact r6⟩
          clear H5 L6 C6 hz6 r6
          by_cases hqj : q < j
          · obtain ⟨e1, e2⟩ := st_e S5 hqj
            have S7 : Hid (St j (q + 1) (cS s (q : Int) (ar q))) := st_next S5
            refine (hb_call H6 (q : Int) none _ _ 0 0 1 1 1 (ar q) (fun _ => 126) (by have := S5.2.2.1; omega) (by show 1 * 16 ≤ _; decide) V6 R6 0 (hu q) _ e1 e2 rfl).mono ?_
            rintro e w7 ⟨A7, c7, lab7, rfl, H7, C7, Q7⟩
            obtain ⟨g7, ⟨rfl, T7, M7, F7, R7, hM7, hF7⟩, _⟩ := Q7.resolve_left (by show ¬ 1 = 0; decide)
            have b7 : w7.cell? ⟨g7, 1, none⟩ = some (.int .i64 (100 + (q : Int))) := by
              have x1 := R7.cell (i := 1) (by change 1 * 2 ≤ M7 at hM7; omega)
              rw [(hF7 0 (by show 0 < 1; decide)).2] at x1
              exact x1
            have hl3 : (q : Int) < (j : Int) := by omega
            replace H7 : Hid (Hb w w7 lab7 p (cS s (q : Int) (ar q))) := H7
            clear H6 R6 V6 S5 e1 e2 C7 Q7 R7 hF7 hM7
            simp only [show (hu q).1 = 1 from rfl]
            go_wp2_with (go_at_call 14; refine (num_any _ _).mono ?_; rintro e w' ⟨rfl, hw⟩; obtain rfl : w7 = w' := hw.symm)
            go_roundw
            case rel => exact ⟨q + 1, lab7, _, by omega, by go_num, H7.out, S7.out⟩
            case measure => simp [intOf]; omega
          · obtain ⟨e1, e2⟩ := st_m S5 hqj
            have S7 : Hid (St j (q + 1) (cS s (q : Int) (ar q))) := st_next S5
            refine (hb_call H6 (q : Int) none _ _ 0 0 1 1 1 (ar q) (fun _ => 126) (by have := S5.2.2.1; omega) (by show 1 * 16 ≤ _; decide) V6 R6 1101 nov _ e1 e2 rfl).mono ?_
            rintro e w7 ⟨A7, c7, lab7, rfl, H7, C7, _⟩
            have hl3 : ¬ (q : Int) < (j : Int) := by omega
            have hl4 : decide (q < j) = false := decide_eq_false hqj
            have hl5 : j ≤ q := by omega
            replace H7 : Hid (Hb w w7 lab7 p (cS s (q : Int) (ar q))) := H7
            clear H6 R6 V6 S5 e1 e2 C7
            simp only [show nov.1 = 0 from rfl]
            go_wp2_with (go_at_call 14; refine (num_any _ _).mono ?_; rintro e w' ⟨rfl, hw⟩; obtain rfl : w7 = w' := hw.symm)
            go_roundw
            case rel => exact ⟨q + 1, lab7, _, by omega, by go_num, H7.out, S7.out⟩
            case measure => simp [intOf]; omega
        · have hqe : q = m := by omega
          subst hqe
          obtain ⟨s1, s2, s3, s5⟩ := S5
          have hlf : Hid (∀ W, Later wr W → Calls Try.prog 15 #[.pointer (some ⟨p, 0, none⟩)] W fun e w' => e = .returned (.int .i64 ((j - q : Nat) : Int)) ∧ Later W w') := fun W hl => by
            have := hleft_any lab W _ p s (H5.later hl).2
            rwa [s1] at this
          go_wp2_with fail
          refine (htrace_any lab wr _ p s H5.2 (by omega)).mono ?_
          rintro e w8 ⟨A8, c8, rfl, l8, lab8, C8, R8⟩
          rw [s3] at R8 ⊢
          have L8 : Hid (Later wr w8) := l8
          have hrow : Hid (q = 0 ∨ ∃ g, A8 = some ⟨g, 0, none⟩ ∧ ∀ i, i < q → w8.cell? ⟨g, i * 2, none⟩ = some (.int .i64 (i : Int)) ∧ ∃ gi ci, w8.cell? ⟨g, i * 2 + 1, none⟩ = some (.slice (some ⟨gi, 0, none⟩) 1 ci) ∧ w8.cell? ⟨gi, 1, none⟩ = some (.int .i64 (i : Int))) := by
            show _ ∨ _
            rcases R8 with R8 | ⟨g, rfl, _, _, R8⟩
            · exact Or.inl R8
            · refine Or.inr ⟨g, rfl, fun i hi => ?_⟩
              obtain ⟨x1, x2, S, cs, x3, x4⟩ := R8 i hi
              rw [(s5 i hi).1] at x1
              rw [(s5 i hi).2] at x3 x4
              rcases x4 with x4 | x4 | ⟨gi, ⟨rfl, T7, M7, F7, R7, hM7, hF7⟩, _⟩
              · omega
              · exact absurd x4 (by show ¬ 1 = 0; decide)
              · refine ⟨x1, gi, cs, x3, ?_⟩
                have y1 := R7.cell (i := 1) (by change 1 * 2 ≤ M7 at hM7; omega)
                rw [(hF7 0 (by show 0 < 1; decide)).2] at y1
                exact y1
          have hlf8 : Hid (∀ W, Later w8 W → Calls Try.prog 15 #[.pointer (some ⟨p, 0, none⟩)] W fun e w' => e = .returned (.int .i64 ((j - q : Nat) : Int)) ∧ Later W w') := fun W hl => hlf.out W (l8.trans hl)
          have L80 : Hid (Later w w8) := H5.1.trans l8
          clear hlf L8 H5
          clear R8 C8 l8 s1 s2 s3 s5
          go_wp2_with fail
          go_loopw [14] (fun i wr => ∃ u : Nat, u ≤ q ∧ i = .int .i64 (u : Nat) ∧ wr = w8) (fun i _ => q - (intOf i).toNat)
          case atStart => exact ⟨0, Nat.zero_le _, rfl, rfl⟩
          case round =>
            obtain ⟨u, hu1, rfl, hw8⟩ := hrel
            obtain rfl : w8 = wr := hw8.symm
            by_cases huq : u < q
            · have hl3 : (u : Int) < (q : Int) := by omega
              obtain ⟨g, rfl, hg⟩ := hrow.out.resolve_left (by omega)
              obtain ⟨x1, gi, ci, x2, x3⟩ := hg u huq
              clear hg
              go_wp2
              go_roundw
              case rel => exact ⟨u + 1, by omega, by go_num, trivial⟩
              case measure => simp [intOf]; omega
            · have hue : u = q := by omega
              subst hue
              by_cases hju : u < j
              · have hlf9 : Hid (∀ W, Later w8 W → Calls Try.prog 15 #[.pointer (some ⟨p, 0, none⟩)] W fun e w' => e = .returned (.int .i64 ((j : Int) - (u : Int))) ∧ Later W w') := fun W hl => by
                  have := hlf8.out W hl
                  rwa [show ((j - u : Nat) : Int) = (j : Int) - (u : Int) by omega] at this
                have hp : 0 < (j : Int) - (u : Int) := by omega
                go_wp2_with (go_at_call 15; refine (hlf9.out _ (Lz _)).mono ?_; rintro e w9 ⟨rfl, l9⟩; have L9 : Hid (Later w w9) := L80.out.trans l9; clear l9)
                all_goals first | (exfalso; omega) | (go_ret; exact ⟨rfl, L9.out⟩)
              · have hlf9 : Hid (∀ W, Later w8 W → Calls Try.prog 15 #[.pointer (some ⟨p, 0, none⟩)] W fun e w' => e = .returned (.int .i64 0) ∧ Later W w') := fun W hl => by
                  have := hlf8.out W hl
                  rwa [show ((j - u : Nat) : Int) = 0 by omega] at this
                have hp : ¬ 0 < (j : Int) - (u : Int) := by omega
                go_wp2_with (go_at_call 15; refine (hlf9.out _ (Lz _)).mono ?_; rintro e w9 ⟨rfl, l9⟩; have L9 : Hid (Later w w9) := L80.out.trans l9; clear l9)
                all_goals first | (exfalso; omega) | (go_ret; exact ⟨rfl, L9.out⟩)
theorem walk (a0 : Int) (a1 : Int) (w0 : (Lit.int .i64 a0).wf = true) (w1 : (Lit.int .i64 a1).wf = true) (w : World) :
    Calls Try.prog 4 #[.int .i64 a0, .int .i64 a1] w fun e w' => e = .returned (.bool true) ∧ Grown w w' :=
  (core a0 a1 w).mono (fun e w' h => ⟨h.1, h.2.grown⟩)

/-! ### THE ROW's STEP: WRITTEN OUT: LEAVE IT -/
set_option maxRecDepth 100000 in
theorem lifted (os : Os) (started : os.Started) (H : Type) (enc : TypeId × Value → H) :
    ReturnsInHanded {} Try.checked os 4 .any (Rows.traceOrderSpec.pre6 enc Try.prog Try.f4 Rows.traceOrderRow.domain false) (Rows.traceOrderSpec.post enc Try.prog Try.f4 false true false false) := by
  refine returnsInHanded_of_change (C := Try.checked) own started (by kernel_rfl) Try.func4
    (ChangeSpec.witness6 (enc := enc) (C := Try.checked) false ⟨#[], #[.int .i64 0, .int .i64 0], []⟩ 8 (by kernel_rfl) (by kernel_rfl) (by kernel_rfl) (by kernel_rfl)) ?_
  intro W base args ds gs before hval0 hW hcnd _
  have hval : ∀ (j : Nat) t v, Try.f4.params[j]? = some t → args[j]? = some v → Value.okWide Try.prog W .any base t v := hval0
  have hW' := hW
  obtain ⟨p, q, hA0, hV, rfl, hfz, hnd⟩ := hW
  have hA : DataW.TrodAll enc Try.prog W 0 (fun _ => true) true Try.f4.params.toList args.toList ds p := hA0
  rw [Try.params4] at hA hval
  obtain ⟨v0, vs0, d0, ds0, p0, q0, hargs, rfl, rfl, h0, r0⟩ := trodAll_cons hA
  obtain ⟨v1, vs1, d1, ds1, p1, q1, rfl, rfl, rfl, h1, r1⟩ := trodAll_cons r0
  obtain ⟨rfl, rfl, rfl⟩ := trodAll_nil r1
  obtain rfl : args = #[v0, v1] := by cases args; simp_all
  obtain ⟨rfl, rfl⟩ := trodVars_none hV
  obtain ⟨a0, rfl, rfl, rfl, w0⟩ := open_int Try.underlying3 (hval 0 3 v0 rfl rfl) h0
  obtain ⟨a1, rfl, rfl, rfl, w1⟩ := open_int Try.underlying3 (hval 1 3 v1 rfl rfl) h1
  clear hA0 hval0
  simp only [List.append_nil] at hW'
  refine (walk a0 a1 w0 w1 W).mono fun e W' ⟨he, hg⟩ => ?_
  subst he
  exact ⟨_, rfl, post_of_same (pa := []) (pv := []) hW' (fun _ _ _ => (trodAll_cons_mk (shut_bool Try.underlying4 _) trodAll_mk0)) (fun sp _ => (trodAll_cons_mk (shut_int Try.underlying3 w0) (trodAll_cons_mk (shut_int Try.underlying3 w1) trodAll_mk0))) (fun _ _ => rfl) rfl
    (hg.frame _) hg.2.1 (ok_one (by kernel_rfl) rfl (okWide_bool_mk Try.underlying4 _))⟩

theorem over : Rows.traceOrderRow.holds Try.pinned (OpenSpec.ofChange Rows.traceOrderSpec) :=
  OpenClaim.holds_of_wide 4 Try.f4 rfl rfl rfl rfl rfl rfl rfl ⟨rfl, rfl, rfl, rfl, rfl⟩ rfl rfl rfl rfl rfl (by kernel_rfl) Try.func4 (by kernel_rfl)
    (of_decide_eq_true (by kernel_rfl)) (by unfold Func.isWrapper; first | (rw [if_pos (by decide +kernel)]; kernel_rfl) | (rw [if_neg (by decide +kernel)]; exact ⟨rfl, rfl⟩))
    (fun os started H enc _ => lifted os started H enc)

theorem proved : Rows.TraceOrderSaid := over
end Go.Proofs.Ytlckiipkndipiaa.traceOrder
namespace Go.Proofs.Ytlckiipkndipiaa
theorem traceOrder_holds : Rows.TraceOrderSaid := traceOrder.proved
#print axioms traceOrder_holds
end Go.Proofs.Ytlckiipkndipiaa

