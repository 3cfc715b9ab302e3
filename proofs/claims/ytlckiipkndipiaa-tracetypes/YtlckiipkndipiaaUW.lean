/- What Trace answers, as the law spoils it; the lent answers. -/
import Derived.Test.YtlckiipkndipiaaUU
set_option linter.unusedVariables false
set_option linter.unusedSimpArgs false
set_option maxRecDepth 100000
set_option maxHeartbeats 4000000
namespace Go.Proofs.Ytlckiipkndipiaa
open Go.RowKit
/-- a list of what was heard, new: its row of label 95, its i-th list of label 1000 + i; those from k on as they were -/
def Trc (lab : Nat → Nat) (w : World) (B : Nat) (A : Option Addr) (m : Nat) (c : Nat → Int) (a : Nat → Vl) (k : Nat) : Prop := m = 0 ∨ ∃ g, A = some ⟨g, 0, none⟩ ∧ lab g = 95 ∧ B ≤ g ∧ ∀ i, i < m → w.cell? ⟨g, i * 2, none⟩ = some (.int .i64 (c i)) ∧ (a i).1 * 16 ≤ 140737488351232 ∧ ∃ S cs, w.cell? ⟨g, i * 2 + 1, none⟩ = some (.slice S (a i).1 cs) ∧ (i < k ∨ (a i).1 = 0 ∨ ∃ gi, Rv w S (a i) gi ∧ lab gi = 1000 + i ∧ B ≤ gi)
theorem Trc.hv {lab : Nat → Nat} {w : World} {B : Nat} {A : Option Addr} {m : Nat} {c : Nat → Int} {a : Nat → Vl} (h : Trc lab w B A m c a 0) : Hv w A m c a := by
  rcases h with h | ⟨g, rfl, _, _, h⟩
  · exact Or.inl h
  · refine Or.inr ⟨g, 0, rfl, fun i hi => ?_⟩
    obtain ⟨h1, h2, S, cs, h3, h4⟩ := h i hi
    refine ⟨by rw [Nat.zero_add]; exact h1, h2, S, cs, by rw [Nat.zero_add]; exact h3, ?_⟩
    rcases h4 with h4 | h4 | ⟨gi, h4, _⟩
    · omega
    · exact Or.inl h4
    · exact h4.vst
theorem Trc.chg {lab lab' : Nat → Nat} {S : Nat → Prop} {w w' : World} {B : Nat} {A : Option Addr} {m : Nat} {c : Nat → Int} {a : Nat → Vl} {k : Nat} (k' : Nat) (h : Trc lab w B A m c a k) (hc : Chg lab S w w' lab') (hk : k ≤ k') (hs : ¬ S 95 ∧ ∀ i, k' ≤ i → ¬ S (1000 + i)) : Trc lab' w' B A m c a k' := by
  rcases h with h | ⟨g, rfl, hg, hB, h⟩
  · exact Or.inl h
  · by_cases h0 : m = 0
    · exact Or.inl h0
    · have hgs : ¬ S (lab g) := by rw [hg]; exact hs.1
      refine Or.inr ⟨g, rfl, by rw [hc.lab_eq hgs (h 0 (by omega)).1]; exact hg, hB, fun i hi => ?_⟩
      obtain ⟨h1, h2, T, cs, h3, h4⟩ := h i hi
      refine ⟨hc.cell hgs h1, h2, T, cs, hc.cell hgs h3, ?_⟩
      by_cases hik : i < k'
      · exact Or.inl hik
      · rcases h4 with h4 | h4 | ⟨gi, h4, h5, h6⟩
        · omega
        · exact Or.inr (Or.inl h4)
        · have := h4.chg hc (by rw [h5]; exact hs.2 i (by omega))
          exact Or.inr (Or.inr ⟨gi, this.1, by rw [this.2]; exact h5, h6⟩)
/-- the lent answers: their row of label 20, the i-th list of label 100 + i; those from k on as they were lent -/
def Len (lab : Nat → Nat) (w : World) (B : Nat) (v : Value) (n : Nat) (f : Nat → Vl) (k : Nat) : Prop := ∃ L, Fld lab 20 w B 27 1 v n L ∧ ∀ i, i < n → ∃ g cap, L[i]? = some (.slice (some ⟨g, 0, none⟩) (f i).1 cap) ∧ (i < k ∨ Lnt lab (100 + i) w B g cap (f i))
theorem Len.chg {lab lab' : Nat → Nat} {S : Nat → Prop} {w w' : World} {B : Nat} {v : Value} {n : Nat} {f : Nat → Vl} {k : Nat} (k' : Nat) (h : Len lab w B v n f k) (hc : Chg lab S w w' lab') (hk : k ≤ k') (hs : ¬ S 20 ∧ ∀ i, k' ≤ i → ¬ S (100 + i)) : Len lab' w' B v n f k' := by
  obtain ⟨L, h1, h2⟩ := h
  refine ⟨L, h1.chg hc hs.1, fun i hi => ?_⟩
  obtain ⟨g, cap, h3, h4⟩ := h2 i hi
  refine ⟨g, cap, h3, ?_⟩
  by_cases hik : i < k'
  · exact Or.inl hik
  · rcases h4 with h4 | h4
    · omega
    · exact Or.inr (h4.chg hc (hs.2 i (by omega)))
theorem Len.anv {lab : Nat → Nat} {w : World} {B : Nat} {A : Option Addr} {n cap : Nat} {f : Nat → Vl} (h : Len lab w B (.slice A n cap) n f 0) : Anv w A n f := by
  obtain ⟨L, h1, h2⟩ := h
  by_cases h0 : n = 0
  · exact Or.inl h0
  · obtain ⟨g, rfl, _, _, _, _, _, hc⟩ := h1.at_ (by omega)
    refine Or.inr ⟨g, 0, rfl, fun i hi => ?_⟩
    obtain ⟨gi, ci, h3, h4⟩ := h2 i hi
    have h5 := h4.resolve_left (by omega)
    exact ⟨_, ci, by rw [Nat.zero_add]; exact hc _ _ h3, h5.2.1, h5.rv.1.vst⟩
theorem Len.form {lab : Nat → Nat} {w : World} {B : Nat} {v : Value} {n : Nat} {f : Nat → Vl} {k : Nat} (h : Len lab w B v n f k) : ∃ A cap, v = .slice A n cap := by
  obtain ⟨L, h1, _⟩ := h
  rcases h1.1.2 with ⟨e, h0⟩ | ⟨g, cap', cur, e, _⟩
  · subst h0; exact ⟨none, 0, e⟩
  · exact ⟨_, _, e⟩
/-- one lent list more -/
theorem len_more {lab : Nat → Nat} {w0 w : World} {v : Value} {n g cap : Nat} {f : Nat → Vl} (hL : Later w0 w) (h : Len lab w w0.heap.size v n f 0) (hl : Lnt lab (100 + n) w w0.heap.size g cap (f n)) (hn : (n + 1) * 24 ≤ 140737488351232) :
    ∃ g2 d2 w2 lab2, (Builtin.append_ #[22, 22] 22 #[v, .slice (some ⟨w.heap.size, 0, none⟩) 1 1]).run Try.prog (w.alloc (.cells #[.slice (some ⟨g, 0, none⟩) (f n).1 cap] 27)) = .ok (.slice (some ⟨g2, 0, none⟩) (n + 1) d2) w2 ∧ Later w0 w2 ∧ Chg lab (· = 20) w w2 lab2 ∧ Len lab2 w2 w0.heap.size (.slice (some ⟨g2, 0, none⟩) (n + 1) d2) (n + 1) f 0 := by
  obtain ⟨ia, hi1, hi2, hi3, hi4⟩ := ans_parts
  obtain ⟨L, h1, h2⟩ := h
  obtain ⟨g2, d2, w2, lab2, r2, F2, l2, C2⟩ := fld_more (P := Try.prog) hL 22 22 27 ia (.agg #[.slice none 0 0]) 1 24 Try.underlying22 hi1 hi2 hi3 hi4 rfl (by decide) h1 [.slice (some ⟨g, 0, none⟩) (f n).1 cap] rfl (one_sl _ _ _) (by unfold maxLen; omega) (by omega)
  refine ⟨g2, d2, w2, lab2, r2, l2, C2, _, F2, fun i hi => ?_⟩
  have hlen : L.length = n := by have := h1.1.1; omega
  by_cases hin : i = n
  · subst hin
    exact ⟨g, cap, by rw [List.getElem?_append_right (by omega)]; simp [hlen], Or.inr (hl.chg C2 (by omega))⟩
  · obtain ⟨gi, ci, h3, h4⟩ := h2 i (by omega)
    exact ⟨gi, ci, by rw [List.getElem?_append_left (by omega)]; exact h3, Or.inr ((h4.resolve_left (by omega)).chg C2 (by omega))⟩
theorem len_none (lab : Nat → Nat) (w : World) (B : Nat) (f : Nat → Vl) : Len lab w B (.slice none 0 0) 0 f 0 := ⟨[], ⟨World.ownsRow_nil _ _ _ _, fun g hg => by cases hg⟩, fun i hi => by omega⟩
theorem Len.at_ {lab : Nat → Nat} {w : World} {B : Nat} {A : Option Addr} {n cap : Nat} {f : Nat → Vl} {k : Nat} (h : Len lab w B (.slice A n cap) n f k) (i : Nat) (hi : i < n) : ∃ gr g ci, A = some ⟨gr, 0, none⟩ ∧ w.cell? ⟨gr, i, none⟩ = some (.slice (some ⟨g, 0, none⟩) (f i).1 ci) ∧ (i < k ∨ Lnt lab (100 + i) w B g ci (f i)) := by
  obtain ⟨L, h1, h2⟩ := h
  obtain ⟨g, rfl, _, _, _, _, _, hc⟩ := h1.at_ (by omega)
  obtain ⟨gi, ci, h3, h4⟩ := h2 i hi
  exact ⟨g, gi, ci, rfl, hc _ _ h3, h4⟩
end Go.Proofs.Ytlckiipkndipiaa
