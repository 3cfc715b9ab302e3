/- What a host's calls answer and leave, as functions; lists spoiled; lists that stay. -/
import Derived.Test.YtlckiipkndipiaaUS
set_option linter.unusedVariables false
set_option linter.unusedSimpArgs false
set_option maxRecDepth 100000
set_option maxHeartbeats 4000000
namespace Go.Proofs.Ytlckiipkndipiaa
open Go.RowKit
/-- a host: answers left, what was heard -/
abbrev Hs : Type := Nat × (Nat → Vl) × Nat × (Nat → Int) × (Nat → Vl)
def nov : Vl := (0, fun _ => 0, fun _ => 0)
def cE (s : Hs) (x : Int) (mr : Nat) (r : Nat → Int) : Int := if x < 0 then 1100 else if s.1 = 0 then 1101 else if fit mr (s.2.1 0).1 r (s.2.1 0).2.1 (s.2.1 0).2.2 = true then 0 else 1102
def cV (s : Hs) (x : Int) (mr : Nat) (r : Nat → Int) : Vl := if cE s x mr r = 0 then s.2.1 0 else nov
def cS (s : Hs) (x : Int) (l : Vl) : Hs := if x < 0 then s else (s.1 - 1, (if s.1 = 0 then s.2.1 else fun i => s.2.1 (i + 1)), s.2.2.1 + 1, ups s.2.2.2.1 s.2.2.1 x, ups s.2.2.2.2 s.2.2.1 l)
/-- a list of ints in a block of none of the hosts' labels -/
def Lq (lab : Nat → Nat) (w : World) (R : Option Addr) (m : Nat) (r : Nat → Int) : Prop := m = 0 ∨ ∃ g o, R = some ⟨g, o, none⟩ ∧ 15 ≤ lab g ∧ ∀ j, j < m → w.cell? ⟨g, o + j, none⟩ = some (.int .i64 (r j))
theorem Lq.chg {lab lab' : Nat → Nat} {S : Nat → Prop} {w w' : World} {R : Option Addr} {m : Nat} {r : Nat → Int} (h : Lq lab w R m r) (hc : Chg lab S w w' lab') (hs : ∀ k, S k → k < 15) : Lq lab' w' R m r := by
  rcases h with h | ⟨g, o, rfl, h1, h2⟩
  · exact Or.inl h
  · by_cases h0 : m = 0
    · exact Or.inl h0
    · have hl := hc.lab_eq (fun x => by have := hs _ x; omega) (h2 0 (by omega))
      exact Or.inr ⟨g, o, rfl, by rw [hl]; exact h1, fun j hj => hc.cell (fun x => by have := hs _ x; omega) (h2 j hj)⟩
theorem Lq.lk {lab : Nat → Nat} {w : World} {R : Option Addr} {m : Nat} {r : Nat → Int} (h : Lq lab w R m r) : Lk lab w R m r := by
  rcases h with h | ⟨g, o, rfl, h1, h2⟩
  · exact Or.inl h
  · exact Or.inr ⟨g, o, rfl, by unfold hid; omega, h2⟩
theorem Lq.lst {lab : Nat → Nat} {w : World} {R : Option Addr} {m : Nat} {r : Nat → Int} (h : Lq lab w R m r) : Lst w R m r := h.lk.lst
/-- a list of values at the head of a row -/
def Rv (w : World) (A : Option Addr) (l : Vl) (g : Nat) : Prop := A = some ⟨g, 0, none⟩ ∧ ∃ T M F, w.rowIs g T M F ∧ l.1 * 2 ≤ M ∧ ∀ i, i < l.1 → F (i * 2) = .int .i64 (l.2.1 i) ∧ F (i * 2 + 1) = .int .i64 (l.2.2 i)
theorem Rv.vst {w : World} {A : Option Addr} {l : Vl} {g : Nat} (h : Rv w A l g) : Vst w A l.1 l.2.1 l.2.2 := by
  obtain ⟨rfl, T, M, F, hr, hm, hF⟩ := h
  refine Or.inr ⟨g, 0, rfl, fun j hj => ?_⟩
  have h1 := hr.cell (i := j * 2) (by omega)
  have h2 := hr.cell (i := j * 2 + 1) (by omega)
  rw [(hF j hj).1] at h1
  rw [(hF j hj).2] at h2
  rw [Nat.zero_add]
  exact ⟨h1, h2⟩
theorem Rv.lt {w : World} {A : Option Addr} {l : Vl} {g : Nat} (h : Rv w A l g) : g < w.heap.size := by
  obtain ⟨_, T, M, F, hr, _⟩ := h
  exact hr.lt
theorem Rv.chg {lab lab' : Nat → Nat} {S : Nat → Prop} {w w' : World} {A : Option Addr} {l : Vl} {g : Nat} (h : Rv w A l g) (hc : Chg lab S w w' lab') (hs : ¬ S (lab g)) : Rv w' A l g ∧ lab' g = lab g := by
  have hl := h.lt
  obtain ⟨hA, T, M, F, hr, h2⟩ := h
  exact ⟨⟨hA, T, M, F, hr.of_block (hc.2 g hr.lt hs).2, h2⟩, (hc.2 g hl hs).1⟩
/-- spoiled: only that row turned -/
theorem spoil_zero (A : Option Addr) (c : Nat) (w : World) :
    Calls Try.prog 10 #[.slice A 0 c] w fun e w' => e = .returned (.tuple #[]) ∧ w' = w := by
  go_enter Try.func10, Try.ntmps10
  go_wp2
  refine wp_loop_rounds 1 ?_
  rw [rounds_succ]
  go_wp2
  go_end0
  exact ⟨rfl, rfl⟩
/-- what spoiling a list does: blocks of its label alone change, and stay rows of ints -/
theorem spoil_rv {lab : Nat → Nat} {w0 w : World} {A : Option Addr} {l : Vl} {c tag : Nat} (hL : Later w0 w) (h : l.1 = 0 ∨ ∃ g, Rv w A l g ∧ lab g = tag ∧ w0.heap.size ≤ g) (hb : l.1 * 16 ≤ 140737488351232) :
    Calls Try.prog 10 #[.slice A l.1 c] w fun e w' => e = .returned (.tuple #[]) ∧ Later w0 w' ∧ Chg lab (· = tag) w w' lab := by
  by_cases h0 : l.1 = 0
  · rw [h0]
    refine (spoil_zero A c w).mono ?_
    rintro e w' ⟨rfl, rfl⟩
    exact ⟨rfl, hL, Chg.of_later (Lz _)⟩
  · obtain ⟨g, ⟨rfl, T, M, F, hr, hm, hF⟩, ht, hg⟩ := h.resolve_left h0
    refine (spoilv_any g c l.1 M T F l.2.1 l.2.2 (by omega) hm w hr (fun i hi => (hF i hi).2)).mono ?_
    rintro e w' ⟨rfl, hT⟩
    exact ⟨rfl, hL.turned hr hg hT, hT.size, fun k hk hs => ⟨rfl, hT.block (fun e => hs (by rw [e]; exact ht)) hk⟩⟩
/-- a lent list: the values and two marks behind them, in a block of a label -/
def Lnt (lab : Nat → Nat) (tag : Nat) (w : World) (B : Nat) (g cap : Nat) (l : Vl) : Prop := l.1 + 2 ≤ cap ∧ l.1 * 16 ≤ 140737488351232 ∧ Fld lab tag w B 56 2 (.slice (some ⟨g, 0, none⟩) (l.1 + 2) cap) (l.1 + 2) (vs l.2.1 l.2.2 l.1 ++ mk4)
theorem Lnt.chg {lab lab' : Nat → Nat} {S : Nat → Prop} {w w' : World} {B tag g cap : Nat} {l : Vl} (h : Lnt lab tag w B g cap l) (hc : Chg lab S w w' lab') (hs : ¬ S tag) : Lnt lab' tag w' B g cap l := ⟨h.1, h.2.1, h.2.2.chg hc hs⟩
theorem Lnt.rv {lab : Nat → Nat} {tag : Nat} {w : World} {B g cap : Nat} {l : Vl} (h : Lnt lab tag w B g cap l) : Rv w (some ⟨g, 0, none⟩) l g ∧ lab g = tag ∧ B ≤ g := by
  obtain ⟨h1, h2, h3⟩ := h
  obtain ⟨g', e, hb, hl, ht, hc, ⟨cur, hcur, hsz⟩, hcell⟩ := h3.at_ (by omega)
  cases e
  refine ⟨⟨rfl, 56, cap * 2, fun i => cur.getD i (.int .i64 0), ⟨cur, hcur, hsz, fun i hi => by simp [Array.getD, hsz, hi]⟩, by omega, fun i hi => ?_⟩, ht, hb⟩
  have k0 := hcell (i * 2) _ (by rw [List.getElem?_append_left (by rw [vs_len]; omega)]; exact vs_0 _ _ _ i hi)
  have k1 := hcell (i * 2 + 1) _ (by rw [List.getElem?_append_left (by rw [vs_len]; omega)]; exact vs_1 _ _ _ i hi)
  rw [cell_of_row _ _ _ _ _ _ hcur] at k0 k1
  exact ⟨by simp [Array.getD_eq_getD_getElem?, k0], by simp [Array.getD_eq_getD_getElem?, k1]⟩
theorem kept_lnt {lab : Nat → Nat} {tag : Nat} {w : World} {B g cap : Nat} {l : Vl} (h : Lnt lab tag w B g cap l) (A : Option Addr) (c : Nat) (hA : Vst w A l.1 l.2.1 l.2.2) :
    Calls Try.prog 9 #[.slice (some ⟨g, 0, none⟩) l.1 cap, .slice A l.1 c] w fun e w' => e = .returned (.bool true) ∧ Later w w' :=
  keptv_any g cap l.1 c l.2.1 l.2.2 A h.2.1 h.1 w (fun j u hu => owns_cell h.2.2.1 hu) hA
theorem lend_lnt {lab : Nat → Nat} (tag : Nat) {w0 w : World} (hL : Later w0 w) (A : Option Addr) (c : Nat) (l : Vl) (hb : l.1 * 16 ≤ 140737488351232) (hA : Vst w A l.1 l.2.1 l.2.2) :
    Calls Try.prog 6 #[.slice A l.1 c] w fun e w' => ∃ g cap, e = .returned (.slice (some ⟨g, 0, none⟩) l.1 cap) ∧ Later w w' ∧ w.heap.size ≤ g ∧ ∃ lab', Chg lab (fun _ => False) w w' lab' ∧ Lnt lab' tag w' w0.heap.size g cap l := by
  refine (lendv_any A l.1 c l.2.1 l.2.2 w hb hA).mono ?_
  rintro e w' ⟨g, cap, rfl, hc, ho, hl⟩
  obtain ⟨lab', C, hz⟩ := Chg.fresh (lab := lab) (S := fun _ => False) (later_of hl) tag
  have hg := (owns_base ho.out).1
  refine ⟨g, cap, rfl, hl, hg, lab', C, hc, hb, own_base ho.out hL.size, fun g' hg' => ?_⟩
  obtain rfl : g = g' := Option.some.inj hg'
  exact hz g hg
def DhS (lab : Nat → Nat) (w : World) (B p : Nat) (s : Hs) : Prop := Dh lab w B p s.1 s.2.1 s.2.2.1 s.2.2.2.1 s.2.2.2.2
/-- the document's Call -/
theorem rcall_any (lab : Nat → Nat) (w0 w : World) (p : Nat) (s : Hs) (x : Int) (P R X : Option Addr) (mp cp mr cr cx : Nat) (l : Vl) (r : Nat → Int) (hL : Later w0 w) (h : DhS lab w w0.heap.size p s) (hm : s.2.2.1 < 1000000) (hb : l.1 * 16 ≤ 140737488351232) (hX : Vst w X l.1 l.2.1 l.2.2) (hR : Lq lab w R mr r) :
    Calls Try.prog 12 #[.pointer (some ⟨p, 0, none⟩), .int .i64 x, .agg #[.slice P mp cp, .slice R mr cr], .slice X l.1 cx] w fun e w' => ∃ A cap, e = .returned (.tuple #[.slice A (cV s x mr r).1 cap, .int .i64 (cE s x mr r)]) ∧ Later w0 w' ∧ Vst w' A (cV s x mr r).1 (cV s x mr r).2.1 (cV s x mr r).2.2 ∧ (∀ g o, A = some ⟨g, o, none⟩ → w.heap.size ≤ g) ∧ ∃ lab', Chg lab hid w w' lab' ∧ (∀ g o, A = some ⟨g, o, none⟩ → lab' g = 99) ∧ DhS lab' w' w0.heap.size p (cS s x l) := by
  obtain ⟨n, f, m, c, a⟩ := s
  by_cases hx : x < 0
  · have e1 : cE (n, f, m, c, a) x mr r = 1100 := if_pos hx
    have e2 : cV (n, f, m, c, a) x mr r = nov := by unfold cV; rw [e1]; rfl
    have e3 : cS (n, f, m, c, a) x l = (n, f, m, c, a) := if_pos hx
    rw [e1, e2, e3]
    refine (rcall_form w p x hx P R X mp cp mr cr l.1 cx).mono ?_
    rintro e w' ⟨rfl, hl⟩
    exact ⟨none, 0, rfl, hL.trans hl, Or.inl rfl, fun g o e => (by cases e), lab, Chg.of_later hl, fun g o e => (by cases e), h.later hl⟩
  · by_cases hn : n = 0
    · have e1 : cE (n, f, m, c, a) x mr r = 1101 := by unfold cE; rw [if_neg hx]; exact if_pos hn
      have e2 : cV (n, f, m, c, a) x mr r = nov := by unfold cV; rw [e1]; rfl
      have e3 : cS (n, f, m, c, a) x l = (0, f, m + 1, ups c m x, ups a m l) := by subst hn; unfold cS; rw [if_neg hx]; rfl
      rw [e1, e2, e3]
      refine (rcall_missing lab w0 w p n m f c a x hx P R X mp cp mr cr cx l hL h hm hb hX hn).mono ?_
      rintro e w' ⟨rfl, h1, lab', h2, h3⟩
      exact ⟨none, 0, rfl, h1, Or.inl rfl, fun g o e => (by cases e), lab', h2, fun g o e => (by cases e), h3⟩
    · obtain ⟨k, rfl⟩ : ∃ k, n = k + 1 := ⟨n - 1, by omega⟩
      have e3 : cS (k + 1, f, m, c, a) x l = (k, (fun i => f (i + 1)), m + 1, ups c m x, ups a m l) := by unfold cS; rw [if_neg hx]; rfl
      cases hf : fit mr (f 0).1 r (f 0).2.1 (f 0).2.2
      · have e1 : cE (k + 1, f, m, c, a) x mr r = 1102 := by unfold cE; rw [if_neg hx, if_neg (Nat.succ_ne_zero k)]; exact if_neg (by show ¬ fit mr (f 0).1 r (f 0).2.1 (f 0).2.2 = true; rw [hf]; decide)
        have e2 : cV (k + 1, f, m, c, a) x mr r = nov := by unfold cV; rw [e1]; rfl
        rw [e1, e2, e3]
        refine (rcall_type lab w0 w p k m f c a x hx P R X mp cp mr cr cx l hL h hm r hR.lk hf hb hX).mono ?_
        rintro e w' ⟨rfl, h1, lab', h2, h3⟩
        exact ⟨none, 0, rfl, h1, Or.inl rfl, fun g o e => (by cases e), lab', h2, fun g o e => (by cases e), h3⟩
      · have e1 : cE (k + 1, f, m, c, a) x mr r = 0 := by unfold cE; rw [if_neg hx, if_neg (Nat.succ_ne_zero k)]; exact if_pos hf
        have e2 : cV (k + 1, f, m, c, a) x mr r = f 0 := by unfold cV; rw [e1]; rfl
        rw [e1, e2, e3]
        refine (rcall_ok lab w0 w p k m f c a x hx P R X mp cp mr cr cx l hL h hm r hR.lk hf hb hX).mono ?_
        rintro e w' ⟨g, cap, rfl, h0, h4, h1, lab', h2, h5, h3⟩
        exact ⟨_, cap, rfl, h1, h0, fun g' o e => (by cases e; exact h4), lab', h2, fun g' o e => (by cases e; exact h5), h3⟩
end Go.Proofs.Ytlckiipkndipiaa
