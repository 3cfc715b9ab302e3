/- Lists of lists of values: an answer's, what was heard; the document's host as a struct of two such lists. -/
import Derived.Test.YtlckiipkndipiaaUN
set_option linter.unusedVariables false
set_option linter.unusedSimpArgs false
set_option maxRecDepth 100000
set_option maxHeartbeats 4000000
namespace Go.Proofs.Ytlckiipkndipiaa
open Go.RowKit
/-- a list of values: how many, types, bits -/
abbrev Vl : Type := Nat × (Nat → Int) × (Nat → Int)
/-- a list that stands in a block of a label -/
def Vin (lab : Nat → Nat) (tag : Nat) (w : World) (B : Nat) (u : Value) (l : Vl) : Prop := ∃ A cap, u = .slice A l.1 cap ∧ l.1 * 16 ≤ 140737488351232 ∧ (l.1 = 0 ∨ ∃ g o, A = some ⟨g, o, none⟩ ∧ lab g = tag ∧ B ≤ g ∧ ∀ j, j < l.1 → w.cell? ⟨g, o + j * 2, none⟩ = some (.int .i64 (l.2.1 j)) ∧ w.cell? ⟨g, o + j * 2 + 1, none⟩ = some (.int .i64 (l.2.2 j)))
section
variable {lab lab' : Nat → Nat} {S : Nat → Prop} {w w' : World} {B tag : Nat} {u : Value} {l : Vl}
theorem Vin.chg (h : Vin lab tag w B u l) (hc : Chg lab S w w' lab') (hs : ¬ S tag) : Vin lab' tag w' B u l := by
  obtain ⟨A, cap, rfl, h0, h1⟩ := h
  refine ⟨A, cap, rfl, h0, ?_⟩
  rcases h1 with h1 | ⟨g, o, rfl, h2, h3, h4⟩
  · exact Or.inl h1
  · by_cases hz : l.1 = 0
    · exact Or.inl hz
    · have hlt := cell_lt (h4 0 (by omega)).1
      exact Or.inr ⟨g, o, rfl, by rw [(hc.2 g hlt (by rw [h2]; exact hs)).1]; exact h2, h3, fun j hj => ⟨hc.cell (by rw [h2]; exact hs) (h4 j hj).1, hc.cell (by rw [h2]; exact hs) (h4 j hj).2⟩⟩
theorem Vin.vst {A : Option Addr} {n cap : Nat} (h : Vin lab tag w B (.slice A n cap) l) : n = l.1 ∧ l.1 * 16 ≤ 140737488351232 ∧ Vst w A l.1 l.2.1 l.2.2 := by
  obtain ⟨A', cap', e, h0, h1⟩ := h
  cases e
  refine ⟨rfl, h0, ?_⟩
  rcases h1 with h1 | ⟨g, o, rfl, h2, h3, h4⟩
  · exact Or.inl h1
  · exact Or.inr ⟨g, o, rfl, h4⟩
theorem Vin.form (h : Vin lab tag w B u l) : ∃ A cap, u = .slice A l.1 cap ∧ l.1 * 16 ≤ 140737488351232 ∧ Vst w A l.1 l.2.1 l.2.2 := by
  obtain ⟨A, cap, rfl, h0, h1⟩ := id h
  exact ⟨A, cap, rfl, h0, h.vst.2.2⟩
theorem vin_own {g cap : Nat} (h : w.ownsRow B 56 2 (.slice (some ⟨g, 0, none⟩) l.1 cap) l.1 (vs l.2.1 l.2.2 l.1)) (h0 : l.1 * 16 ≤ 140737488351232) (hl : lab g = tag) : Vin lab tag w B (.slice (some ⟨g, 0, none⟩) l.1 cap) l := by
  refine ⟨_, _, rfl, h0, Or.inr ⟨g, 0, rfl, hl, (owns_base h).1, fun j hj => ⟨?_, ?_⟩⟩⟩
  · rw [Nat.zero_add]; exact owns_cell h (vs_0 _ _ _ j hj)
  · rw [Nat.zero_add]; exact owns_cell h (vs_1 _ _ _ j hj)
end
def pr2 (a b : Value) : Nat → Value := fun i => if i = 0 then a else b
theorem str_p0 {lab : Nat → Nat} {tag : Nat} {w : World} {B p : Nat} {T : TypeId} {a b v : Value} (h : Str lab tag w B p T 2 (fun j => if j = 0 then v else pr2 a b j)) : Str lab tag w B p T 2 (pr2 v b) := by
  refine ⟨h.1.congr fun i hi => ?_, h.2⟩
  match i, hi with
  | 0, _ => rfl
  | 1, _ => rfl
theorem str_p1 {lab : Nat → Nat} {tag : Nat} {w : World} {B p : Nat} {T : TypeId} {a b v : Value} (h : Str lab tag w B p T 2 (fun j => if j = 1 then v else pr2 a b j)) : Str lab tag w B p T 2 (pr2 a v) := by
  refine ⟨h.1.congr fun i hi => ?_, h.2⟩
  match i, hi with
  | 0, _ => rfl
  | 1, _ => rfl
/-- a row's elements are lists: answers (one cell each), what was heard (two) -/
def Ans (lab : Nat → Nat) (tag : Nat) (w : World) (B : Nat) (L : List Value) (n : Nat) (f : Nat → Vl) : Prop := ∀ i, i < n → ∃ u, L[i]? = some u ∧ Vin lab tag w B u (f i)
def Hrd (lab : Nat → Nat) (tag : Nat) (w : World) (B : Nat) (L : List Value) (m : Nat) (c : Nat → Int) (a : Nat → Vl) : Prop := ∀ i, i < m → L[i * 2]? = some (.int .i64 (c i)) ∧ ∃ u, L[i * 2 + 1]? = some u ∧ Vin lab tag w B u (a i)
theorem Ans.chg {lab lab' : Nat → Nat} {S : Nat → Prop} {w w' : World} {B tag n : Nat} {L : List Value} {f : Nat → Vl} (h : Ans lab tag w B L n f) (hc : Chg lab S w w' lab') (hs : ¬ S tag) : Ans lab' tag w' B L n f := fun i hi => by
  obtain ⟨u, h1, h2⟩ := h i hi
  exact ⟨u, h1, h2.chg hc hs⟩
theorem Hrd.chg {lab lab' : Nat → Nat} {S : Nat → Prop} {w w' : World} {B tag m : Nat} {L : List Value} {c : Nat → Int} {a : Nat → Vl} (h : Hrd lab tag w B L m c a) (hc : Chg lab S w w' lab') (hs : ¬ S tag) : Hrd lab' tag w' B L m c a := fun i hi => by
  obtain ⟨h0, u, h1, h2⟩ := h i hi
  exact ⟨h0, u, h1, h2.chg hc hs⟩
def ups {α : Type} (f : Nat → α) (k : Nat) (x : α) : Nat → α := fun i => if i = k then x else f i
theorem Ans.more {lab : Nat → Nat} {w : World} {B tag n : Nat} {L : List Value} {f : Nat → Vl} {u : Value} {l : Vl} (h : Ans lab tag w B L n f) (hL : L.length = n) (hu : Vin lab tag w B u l) : Ans lab tag w B (L ++ [u]) (n + 1) (ups f n l) := fun i hi => by
  unfold ups
  by_cases hin : i = n
  · rw [if_pos hin]
    exact ⟨u, by rw [List.getElem?_append_right (by omega)]; simp [hL, hin], hu⟩
  · obtain ⟨v, h1, h2⟩ := h i (by omega)
    rw [if_neg hin]
    exact ⟨v, by rw [List.getElem?_append_left (by omega)]; exact h1, h2⟩
theorem Hrd.more {lab : Nat → Nat} {w : World} {B tag m : Nat} {L : List Value} {c : Nat → Int} {a : Nat → Vl} {x : Int} {u : Value} {l : Vl} (h : Hrd lab tag w B L m c a) (hL : L.length = m * 2) (hu : Vin lab tag w B u l) : Hrd lab tag w B (L ++ [.int .i64 x, u]) (m + 1) (ups c m x) (ups a m l) := fun i hi => by
  unfold ups
  by_cases hin : i = m
  · subst hin
    rw [if_pos rfl, if_pos rfl]
    exact ⟨by rw [List.getElem?_append_right (by omega)]; simp [hL], u, by rw [List.getElem?_append_right (by omega), hL, Nat.add_sub_cancel_left]; rfl, hu⟩
  · obtain ⟨h0, v, h1, h2⟩ := h i (by omega)
    rw [if_neg hin, if_neg hin]
    exact ⟨by rw [List.getElem?_append_left (by omega)]; exact h0, v, by rw [List.getElem?_append_left (by omega)]; exact h1, h2⟩
theorem Ans.tail {lab : Nat → Nat} {w : World} {B tag n : Nat} {L : List Value} {f : Nat → Vl} (h : Ans lab tag w B L (n + 1) f) : Ans lab tag w B L.tail n (fun i => f (i + 1)) := fun i hi => by
  obtain ⟨v, h1, h2⟩ := h (i + 1) (by omega)
  exact ⟨v, by rw [List.getElem?_tail]; exact h1, h2⟩
/-- the document's host: labels 10 to 14 -/
def Dh (lab : Nat → Nat) (w : World) (B p n : Nat) (f : Nat → Vl) (m : Nat) (c : Nat → Int) (a : Nat → Vl) : Prop :=
  n * 24 ≤ 140737488351232 ∧ ∃ A1 c1 A2 c2 L1 L2, Str lab 10 w B p 48 2 (pr2 (.slice A1 n c1) (.slice A2 m c2)) ∧ Fld lab 11 w B 27 1 (.slice A1 n c1) n L1 ∧ Fld lab 13 w B 52 2 (.slice A2 m c2) m L2 ∧ Ans lab 12 w B L1 n f ∧ Hrd lab 14 w B L2 m c a
theorem Dh.chg {lab lab' : Nat → Nat} {S : Nat → Prop} {w w' : World} {B p n m : Nat} {f : Nat → Vl} {c : Nat → Int} {a : Nat → Vl} (h : Dh lab w B p n f m c a) (hc : Chg lab S w w' lab') (hs : ∀ k, 10 ≤ k → k < 15 → ¬ S k) : Dh lab' w' B p n f m c a := by
  obtain ⟨h0, A1, c1, A2, c2, L1, L2, h1, h2, h3, h4, h5⟩ := h
  exact ⟨h0, A1, c1, A2, c2, L1, L2, h1.chg hc (hs _ (by decide) (by decide)), h2.chg hc (hs _ (by decide) (by decide)), h3.chg hc (hs _ (by decide) (by decide)), h4.chg hc (hs _ (by decide) (by decide)), h5.chg hc (hs _ (by decide) (by decide))⟩
theorem Dh.later {lab : Nat → Nat} {w w' : World} {B p n m : Nat} {f : Nat → Vl} {c : Nat → Int} {a : Nat → Vl} (h : Dh lab w B p n f m c a) (hl : Later w w') : Dh lab w' B p n f m c a := h.chg (S := fun _ => False) (Chg.of_later hl) (fun _ _ _ x => x)
theorem info_ans : (Try.prog.info? 27).map (fun i => (i.zero, i.size, i.bytes)) = some (some (.agg #[.slice none 0 0]), 1, 24) := by kernel_rfl
theorem ans_parts : ∃ i, Try.prog.info? 27 = some i ∧ i.zero = some (.agg #[.slice none 0 0]) ∧ i.size = 1 ∧ i.bytes = 24 := by
  have h := info_ans
  cases hh : Try.prog.info? 27 with
  | none => rw [hh] at h; cases h
  | some i =>
    rw [hh] at h
    simp only [Option.map_some, Option.some.injEq, Prod.mk.injEq] at h
    exact ⟨i, rfl, h⟩
theorem info_hrd : (Try.prog.info? 52).map (fun i => (i.zero, i.size, i.bytes)) = some (some (.agg #[.int .i64 0, .slice none 0 0]), 2, 32) := by kernel_rfl
theorem hrd_parts : ∃ i, Try.prog.info? 52 = some i ∧ i.zero = some (.agg #[.int .i64 0, .slice none 0 0]) ∧ i.size = 2 ∧ i.bytes = 32 := by
  have h := info_hrd
  cases hh : Try.prog.info? 52 with
  | none => rw [hh] at h; cases h
  | some i =>
    rw [hh] at h
    simp only [Option.map_some, Option.some.injEq, Prod.mk.injEq] at h
    exact ⟨i, rfl, h⟩
theorem one_sl (A : Option Addr) (n c : Nat) : ∀ u ∈ [Value.slice A n c], u.oneCell' = true := by
  intro u hu
  simp only [List.mem_cons, List.not_mem_nil, or_false] at hu
  subst hu
  rfl
theorem one_hd (x : Int) (A : Option Addr) (n c : Nat) : ∀ u ∈ [Value.int .i64 x, Value.slice A n c], u.oneCell' = true := by
  intro u hu
  simp only [List.mem_cons, List.not_mem_nil, or_false] at hu
  rcases hu with rfl | rfl <;> rfl
end Go.Proofs.Ytlckiipkndipiaa
