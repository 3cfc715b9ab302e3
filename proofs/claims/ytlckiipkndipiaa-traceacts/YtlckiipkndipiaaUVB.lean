/- Over this seat's translation: fits (package trace), by slices.EqualFunc. -/
import Derived.Test.YtlckiipkndipiaaUVA
set_option linter.unusedVariables false
set_option linter.unusedSimpArgs false
set_option maxRecDepth 100000
set_option maxHeartbeats 4000000
namespace Go.Proofs.Ytlckiipkndipiaa
open Go.RowKit
theorem fit1_any (t b r : Int) (q : Bool) (hq : Hid ((decide (t = r) && may t b) = q)) (w : World) :
    Calls Try.prog 26 #[.agg #[.int .i64 t, .int .i64 b], .int .i64 r] w fun e w' => e = .returned (.bool q) ∧ Later w w' := by
  by_cases h : t = r
  · subst h
    have hm : Hid (may t b = q) := by
      have h2 := hq.out
      simp only [decide_true, Bool.true_and] at h2
      exact h2
    clear hq
    go_enter Try.func26, Try.ntmps26
    go_wp2_with (go_at_call 27; refine (maybe_all _ _ q hm _).mono ?_; rintro e w1 ⟨rfl, h1⟩)
    go_ret
    exact ⟨rfl, Later.trans (by repeat first | exact Lz _ | apply La | apply Lv | apply Ld | apply Ln) h1⟩
  · have hqf : q = false := by
      have h2 := hq.out
      rw [decide_eq_false h] at h2
      exact h2.symm
    subst hqf
    clear hq
    replace h : (t == r) = false := beq_eq_false_iff_ne.2 h
    go_enter Try.func26, Try.ntmps26
    go_wp2
    go_ret
    exact ⟨rfl, by repeat first | exact Lz _ | apply La | apply Lv | apply Ld | apply Ln⟩
theorem eqf_len (R A : Option Addr) (m n c d : Nat) (F : Value) (h : ¬ m = n) (w : World) :
    Calls Try.prog 25 #[.slice A n d, .slice R m c, F] w fun e w' => e = .returned (.bool false) ∧ Later w w' := by
  have h1 : ((n : Int) != (m : Int)) = true := by simp; omega
  clear h
  go_enter Try.func25, Try.ntmps25
  go_wp2
  go_ret
  exact ⟨rfl, Lz _⟩
theorem eqf_zero (R A : Option Addr) (c d : Nat) (F : Value) (w : World) :
    Calls Try.prog 25 #[.slice A 0 d, .slice R 0 c, F] w fun e w' => e = .returned (.bool true) ∧ Later w w' := by
  go_enter Try.func25, Try.ntmps25
  go_wp2
  refine wp_loop_rounds 1 ?_
  rw [rounds_succ]
  go_wp2
  go_ret
  exact ⟨rfl, Lz _⟩
theorem eqf_yes (g1 o1 g2 o2 n c d : Nat) (hn : n ≤ 9223372036854775807) (r t b : Nat → Int) (w : World) (h1 : Hid (∀ j, j < n → w.cell? ⟨g1, o1 + j, none⟩ = some (.int .i64 (r j)))) (h2 : Hid (∀ j, j < n → w.cell? ⟨g2, o2 + j * 2, none⟩ = some (.int .i64 (t j)) ∧ w.cell? ⟨g2, o2 + j * 2 + 1, none⟩ = some (.int .i64 (b j)))) (hf : Hid (∀ i, i < n → t i = r i ∧ may (t i) (b i) = true)) :
    Calls Try.prog 25 #[.slice (some ⟨g2, o2, none⟩) n d, .slice (some ⟨g1, o1, none⟩) n c, .func (Fn.func 26) #[] #[]] w fun e w' => e = .returned (.bool true) ∧ Later w w' := by
  go_enter Try.func25, Try.ntmps25
  go_wp2_with fail
  go_loopw [17] (fun i wr => ∃ j : Nat, j ≤ n ∧ i = .int .i64 (j : Nat) ∧ Later w wr) (fun i _ => n - (intOf i).toNat)
  case atStart => exact ⟨0, Nat.zero_le _, rfl, Lz _⟩
  case round =>
    obtain ⟨j, hj, rfl, hL⟩ := hrel
    by_cases hlt : j < n
    · have a0 := hL.cell_of (h1.out j hlt)
      have b0 := hL.cell_of (h2.out j hlt).1
      have b1 := hL.cell_of (h2.out j hlt).2
      have la := cell_lt a0
      have lb := cell_lt b0
      have hl1 : (j : Int) < (n : Int) := by omega
      have e2 : Hid ((decide (t j = r j) && may (t j) (b j)) = true) := by
        obtain ⟨e1, e2⟩ := hf.out j hlt
        show _ = _
        rw [decide_eq_true e1, e2]
        rfl
      replace hL : Hid (Later w wr) := hL
      go_wp2_with (go_at_call 26; refine (fit1_any _ _ _ true e2 _).mono ?_; rintro e w1 ⟨rfl, l1⟩; have L1 : Hid (Later w w1) := hL.out.trans (Later.trans (by repeat first | exact Lz _ | apply La | apply Lv | apply Ld | apply Ln) l1); clear l1)
      go_roundw
      case rel => exact ⟨j + 1, by omega, by go_num, L1.out⟩
      case measure => simp [intOf]; omega
    · have hje : j = n := by omega
      subst hje
      replace hL : Hid (Later w wr) := hL
      go_wp2
      go_ret
      exact ⟨rfl, hL.out⟩
theorem eqf_no (g1 o1 g2 o2 n c d : Nat) (hn : n ≤ 9223372036854775807) (r t b : Nat → Int) (w : World) (h1 : Hid (∀ j, j < n → w.cell? ⟨g1, o1 + j, none⟩ = some (.int .i64 (r j)))) (h2 : Hid (∀ j, j < n → w.cell? ⟨g2, o2 + j * 2, none⟩ = some (.int .i64 (t j)) ∧ w.cell? ⟨g2, o2 + j * 2 + 1, none⟩ = some (.int .i64 (b j)))) (i0 : Nat) (hi0 : i0 < n) (hb : Hid (¬ (t i0 = r i0 ∧ may (t i0) (b i0) = true))) (hf : Hid (∀ i, i < i0 → t i = r i ∧ may (t i) (b i) = true)) :
    Calls Try.prog 25 #[.slice (some ⟨g2, o2, none⟩) n d, .slice (some ⟨g1, o1, none⟩) n c, .func (Fn.func 26) #[] #[]] w fun e w' => e = .returned (.bool false) ∧ Later w w' := by
  go_enter Try.func25, Try.ntmps25
  go_wp2_with fail
  go_loopw [17] (fun i wr => ∃ j : Nat, j ≤ i0 ∧ i = .int .i64 (j : Nat) ∧ Later w wr) (fun i _ => n - (intOf i).toNat)
  case atStart => exact ⟨0, Nat.zero_le _, rfl, Lz _⟩
  case round =>
    obtain ⟨j, hj, rfl, hL⟩ := hrel
    have a0 := hL.cell_of (h1.out j (by omega))
    have b0 := hL.cell_of (h2.out j (by omega)).1
    have b1 := hL.cell_of (h2.out j (by omega)).2
    have la := cell_lt a0
    have lb := cell_lt b0
    have hl1 : (j : Int) < (n : Int) := by omega
    replace hL : Hid (Later w wr) := hL
    by_cases hlt : j < i0
    · have e2 : Hid ((decide (t j = r j) && may (t j) (b j)) = true) := by
        obtain ⟨e1, e2⟩ := hf.out j hlt
        show _ = _
        rw [decide_eq_true e1, e2]
        rfl
      go_wp2_with (go_at_call 26; refine (fit1_any _ _ _ true e2 _).mono ?_; rintro e w1 ⟨rfl, l1⟩; have L1 : Hid (Later w w1) := hL.out.trans (Later.trans (by repeat first | exact Lz _ | apply La | apply Lv | apply Ld | apply Ln) l1); clear l1)
      go_roundw
      case rel => exact ⟨j + 1, by omega, by go_num, L1.out⟩
      case measure => simp [intOf]; omega
    · have hje : j = i0 := by omega
      subst hje
      have e2 : Hid ((decide (t j = r j) && may (t j) (b j)) = false) := by
        show _ = _
        by_cases e1 : t j = r j
        · rw [decide_eq_true e1]
          cases hm : may (t j) (b j)
          · rfl
          · exact absurd ⟨e1, hm⟩ hb.out
        · rw [decide_eq_false e1]
          rfl
      go_wp2_with (go_at_call 26; refine (fit1_any _ _ _ false e2 _).mono ?_; rintro e w1 ⟨rfl, l1⟩; have L1 : Hid (Later w w1) := hL.out.trans (Later.trans (by repeat first | exact Lz _ | apply La | apply Lv | apply Ld | apply Ln) l1); clear l1)
      go_ret
      exact ⟨rfl, L1.out⟩
theorem eqf_any (R A : Option Addr) (m n c d : Nat) (hn : n ≤ 9223372036854775807) (r t b : Nat → Int) (w : World) (h1 : Lst w R m r) (h2 : Vst w A n t b) :
    Calls Try.prog 25 #[.slice A n d, .slice R m c, .func (Fn.func 26) #[] #[]] w fun e w' => e = .returned (.bool (fit m n r t b)) ∧ Later w w' := by
  by_cases hm : m = n
  · subst hm
    rw [show fit m m r t b = fitP r t b m by unfold fit; rw [decide_eq_true rfl]; rfl]
    by_cases h0 : m = 0
    · subst h0
      exact eqf_zero R A c d _ w
    · obtain ⟨g1, o1, rfl, k1⟩ := h1.resolve_left h0
      obtain ⟨g2, o2, rfl, k2⟩ := h2.resolve_left h0
      cases hf : fitP r t b m
      · obtain ⟨i0, hi, hb, hj⟩ := fitP_no hf
        exact eqf_no g1 o1 g2 o2 m c d hn r t b w k1 k2 i0 hi hb hj
      · exact eqf_yes g1 o1 g2 o2 m c d hn r t b w k1 k2 (fitP_yes hf)
  · rw [show fit m n r t b = false by unfold fit; rw [decide_eq_false hm]; rfl]
    exact eqf_len R A m n c d _ hm w
theorem fits_any (R A : Option Addr) (m n c d : Nat) (hn : n ≤ 9223372036854775807) (r t b : Nat → Int) (w : World) (h1 : Hid (Lst w R m r)) (h2 : Hid (Vst w A n t b)) (q : Bool) (hq : Hid (fit m n r t b = q)) :
    Calls Try.prog 23 #[.slice A n d, .slice R m c] w fun e w' => e = .returned (.bool q) ∧ Later w w' := by
  have h : Hid (∀ W, Later w W → Calls Try.prog 25 #[.slice A n d, .slice R m c, .func (Fn.func 26) #[] #[]] W fun e w' => e = .returned (.bool q) ∧ Later W w') := fun W hl => by rw [← hq.out]; exact eqf_any R A m n c d hn r t b W (h1.out.later hl) (h2.out.later hl)
  clear h1 h2 hq
  go_enter Try.func23, Try.ntmps23
  go_wp2_with (go_at_call 25; refine (h.out _ (by repeat first | exact Lz _ | apply La | apply Lv | apply Ld | apply Ln)).mono ?_; rintro e w1 ⟨rfl, l1⟩; have L1 : Hid (Later w w1) := Later.trans (by repeat first | exact Lz _ | apply La | apply Lv | apply Ld | apply Ln) l1; clear l1)
  go_ret
  exact ⟨rfl, L1.out⟩
end Go.Proofs.Ytlckiipkndipiaa
