/- Over this seat's translation: the document's Fit; what is heard held against each other (sameHeard of package peloruslaw11). -/
import Derived.Test.YtlckiipkndipiaaUM
set_option linter.unusedVariables false
set_option linter.unusedSimpArgs false
set_option maxRecDepth 100000
set_option maxHeartbeats 4000000
namespace Go.Proofs.Ytlckiipkndipiaa
open Go.RowKit
/-- values are of these types, each such that it may be -/
def fitP (r t b : Nat → Int) : Nat → Bool
  | 0 => true
  | k + 1 => fitP r t b k && (decide (t k = r k) && may (t k) (b k))
def fit (m n : Nat) (r t b : Nat → Int) : Bool := decide (m = n) && fitP r t b n
theorem fitP_yes {r t b : Nat → Int} : ∀ {n : Nat}, fitP r t b n = true → ∀ i, i < n → t i = r i ∧ may (t i) (b i) = true
  | 0, _, i, hi => by omega
  | n + 1, h, i, hi => by
    simp only [fitP, Bool.and_eq_true, decide_eq_true_eq] at h
    by_cases hin : i = n
    · subst hin; exact h.2
    · exact fitP_yes h.1 i (by omega)
theorem fitP_no {r t b : Nat → Int} : ∀ {n : Nat}, fitP r t b n = false → ∃ i, i < n ∧ ¬ (t i = r i ∧ may (t i) (b i) = true) ∧ ∀ j, j < i → t j = r j ∧ may (t j) (b j) = true
  | 0, h => by cases h
  | n + 1, h => by
    by_cases hn : fitP r t b n = true
    · refine ⟨n, by omega, fun hc => ?_, fun j hj => fitP_yes hn j hj⟩
      simp [fitP, hn, hc.1, hc.2] at h
      rw [← hc.1] at h
      rw [h] at hc
      exact absurd hc.2 (by decide)
    · obtain ⟨i, hi, h2⟩ := fitP_no (by simpa using hn)
      exact ⟨i, by omega, h2⟩
theorem fit_len (R A : Option Addr) (m n c d : Nat) (h : ¬ m = n) (w : World) :
    Calls Try.prog 24 #[.slice R m c, .slice A n d] w fun e w' => e = .returned (.bool false) ∧ Later w w' := by
  have h1 : ((m : Int) != (n : Int)) = true := by simp; omega
  clear h
  go_enter Try.func24, Try.ntmps24
  go_wp2
  go_ret
  exact ⟨rfl, Lz _⟩
theorem fit_zero (R A : Option Addr) (c d : Nat) (w : World) :
    Calls Try.prog 24 #[.slice R 0 c, .slice A 0 d] w fun e w' => e = .returned (.bool true) ∧ Later w w' := by
  go_enter Try.func24, Try.ntmps24
  go_wp2
  refine wp_loop_rounds 1 ?_
  rw [rounds_succ]
  go_wp2
  go_ret
  exact ⟨rfl, Lz _⟩
theorem fit_yes (g1 o1 g2 o2 n c d : Nat) (hn : n ≤ 9223372036854775807) (r t b : Nat → Int) (w : World) (h1 : Hid (∀ j, j < n → w.cell? ⟨g1, o1 + j, none⟩ = some (.int .i64 (r j)))) (h2 : Hid (∀ j, j < n → w.cell? ⟨g2, o2 + j * 2, none⟩ = some (.int .i64 (t j)) ∧ w.cell? ⟨g2, o2 + j * 2 + 1, none⟩ = some (.int .i64 (b j)))) (hf : Hid (∀ i, i < n → t i = r i ∧ may (t i) (b i) = true)) :
    Calls Try.prog 24 #[.slice (some ⟨g1, o1, none⟩) n c, .slice (some ⟨g2, o2, none⟩) n d] w fun e w' => e = .returned (.bool true) ∧ Later w w' := by
  go_enter Try.func24, Try.ntmps24
  go_wp2_with fail
  go_loopw [5] (fun i wr => ∃ j : Nat, j ≤ n ∧ i = .int .i64 (j : Nat) ∧ Later w wr) (fun i _ => n - (intOf i).toNat)
  case atStart => exact ⟨0, Nat.zero_le _, rfl, Lz _⟩
  case round =>
    obtain ⟨j, hj, rfl, hL⟩ := hrel
    by_cases hlt : j < n
    · have a0 := hL.cell_of (h1.out j hlt)
      have b0 := hL.cell_of (h2.out j hlt).1
      have b1 := hL.cell_of (h2.out j hlt).2
      have la := cell_lt a0
      have lb := cell_lt b0
      have hl1 : (j : Int) < (n : Int) := by omega
      obtain ⟨e1, e2⟩ := hf.out j hlt
      rw [← e1] at a0
      replace e2 : Hid (may (t j) (b j) = true) := e2
      replace hL : Hid (Later w wr) := hL
      clear e1
      go_wp2
      refine wp_region_quiet_far (by kernel_rfl) (by kernel_rfl) ?_
      repeat (go_big_quiet_step ((go_at_call 28; exact Calls.far_of (valmay_any _ _ true e2 _))))
      refine wpQuiet_nil ?_
      rintro _ ⟨⟨bs, d⟩, rfl⟩
      go_wp2
      go_roundw
      case rel => exact ⟨j + 1, by omega, by go_num, hL.out.trans (Lv (Lz _))⟩
      case measure => simp [intOf]; omega
    · have hje : j = n := by omega
      subst hje
      replace hL : Hid (Later w wr) := hL
      go_wp2
      go_ret
      exact ⟨rfl, hL.out⟩
theorem fit_no (g1 o1 g2 o2 n c d : Nat) (hn : n ≤ 9223372036854775807) (r t b : Nat → Int) (w : World) (h1 : Hid (∀ j, j < n → w.cell? ⟨g1, o1 + j, none⟩ = some (.int .i64 (r j)))) (h2 : Hid (∀ j, j < n → w.cell? ⟨g2, o2 + j * 2, none⟩ = some (.int .i64 (t j)) ∧ w.cell? ⟨g2, o2 + j * 2 + 1, none⟩ = some (.int .i64 (b j)))) (i0 : Nat) (hi0 : i0 < n) (hb : Hid (¬ (t i0 = r i0 ∧ may (t i0) (b i0) = true))) (hf : Hid (∀ i, i < i0 → t i = r i ∧ may (t i) (b i) = true)) :
    Calls Try.prog 24 #[.slice (some ⟨g1, o1, none⟩) n c, .slice (some ⟨g2, o2, none⟩) n d] w fun e w' => e = .returned (.bool false) ∧ Later w w' := by
  go_enter Try.func24, Try.ntmps24
  go_wp2_with fail
  go_loopw [5] (fun i wr => ∃ j : Nat, j ≤ i0 ∧ i = .int .i64 (j : Nat) ∧ Later w wr) (fun i _ => n - (intOf i).toNat)
  case atStart => exact ⟨0, Nat.zero_le _, rfl, Lz _⟩
  case round =>
    obtain ⟨j, hj, rfl, hL⟩ := hrel
    have a0 := hL.cell_of (h1.out j (by omega))
    have b0 := hL.cell_of (h2.out j (by omega)).1
    have b1 := hL.cell_of (h2.out j (by omega)).2
    have la := cell_lt a0
    have lb := cell_lt b0
    have hl1 : (j : Int) < (n : Int) := by omega
    replace hL : Hid (Later w wr) := hL
    by_cases hlt : j < i0
    · obtain ⟨e1, e2⟩ := hf.out j hlt
      rw [← e1] at a0
      replace e2 : Hid (may (t j) (b j) = true) := e2
      clear e1
      go_wp2
      refine wp_region_quiet_far (by kernel_rfl) (by kernel_rfl) ?_
      repeat (go_big_quiet_step ((go_at_call 28; exact Calls.far_of (valmay_any _ _ true e2 _))))
      refine wpQuiet_nil ?_
      rintro _ ⟨⟨bs, d⟩, rfl⟩
      go_wp2
      go_roundw
      case rel => exact ⟨j + 1, by omega, by go_num, hL.out.trans (Lv (Lz _))⟩
      case measure => simp [intOf]; omega
    · have hje : j = i0 := by omega
      subst hje
      by_cases e1 : t j = r j
      · rw [← e1] at a0
        have e2 : Hid (may (t j) (b j) = false) := by
          show _ = _
          cases hm : may (t j) (b j)
          · rfl
          · exact absurd ⟨e1, hm⟩ hb.out
        clear e1
        go_wp2
        refine wp_region_quiet_far (by kernel_rfl) (by kernel_rfl) ?_
        repeat (go_big_quiet_step ((go_at_call 28; exact Calls.far_of (valmay_any _ _ false e2 _))))
        refine wpQuiet_nil ?_
        rintro _ ⟨⟨bs, d⟩, rfl⟩
        go_wp2
        go_ret
        exact ⟨rfl, hL.out.trans (Lv (Lz _))⟩
      · have e2 : (t j != r j) = true := by simpa using e1
        clear e1
        go_wp2
        refine wp_region_quiet_far (by kernel_rfl) (by kernel_rfl) ?_
        repeat (go_big_quiet_step (fail))
        refine wpQuiet_nil ?_
        rintro _ ⟨⟨bs, d⟩, rfl⟩
        go_wp2
        go_ret
        exact ⟨rfl, hL.out.trans (Lv (Lz _))⟩
theorem fit_any (R A : Option Addr) (m n c d : Nat) (hn : n ≤ 9223372036854775807) (r t b : Nat → Int) (w : World) (h1 : Lst w R m r) (h2 : Vst w A n t b) :
    Calls Try.prog 24 #[.slice R m c, .slice A n d] w fun e w' => e = .returned (.bool (fit m n r t b)) ∧ Later w w' := by
  by_cases hm : m = n
  · subst hm
    rw [show fit m m r t b = fitP r t b m by unfold fit; rw [decide_eq_true rfl]; rfl]
    by_cases h0 : m = 0
    · subst h0
      exact fit_zero R A c d w
    · obtain ⟨g1, o1, rfl, k1⟩ := h1.resolve_left h0
      obtain ⟨g2, o2, rfl, k2⟩ := h2.resolve_left h0
      cases hf : fitP r t b m
      · obtain ⟨i0, hi, hb, hj⟩ := fitP_no hf
        exact fit_no g1 o1 g2 o2 m c d hn r t b w k1 k2 i0 hi hb hj
      · exact fit_yes g1 o1 g2 o2 m c d hn r t b w k1 k2 (fitP_yes hf)
  · rw [show fit m n r t b = false by unfold fit; rw [decide_eq_false hm]; rfl]
    exact fit_len R A m n c d hm w
end Go.Proofs.Ytlckiipkndipiaa
