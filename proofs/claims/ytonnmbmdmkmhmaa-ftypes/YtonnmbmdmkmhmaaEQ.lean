/- Over this seat's translation: structs being appended to a row of one's own, all that they hold in blocks without a mark. -/
import Derived.Test.YtonnmbmdmkmhmaaEA
import Derived.Test.YtonnmbmdmkmhmaaXP
set_option linter.unusedVariables false
set_option linter.unusedSimpArgs false
set_option maxRecDepth 100000
set_option maxHeartbeats 4000000
namespace Go.Proofs.Ytonnmbmdmkmhmaa
open Go.RowKit
/-- a block from a bound on, without a mark -/
def Zf (B : Nat) (W : World) (k : Nat) : Prop := B ≤ k ∧ Nf W k
section
variable {S S' Z Z' : Nat → Prop} {w w' w'' W W' : World}
theorem nfof {k : Nat} (h : W'.heap[k]? = W.heap[k]?) (hn : Nf W k) : Nf W' k := fun i => (World.frozen?_of_block (w := W) (a := ⟨k, i, none⟩) h).trans (hn i)
theorem nfrow {k : Nat} {cur : Array Value} {e : TypeId} (h : W.heap[k]? = some (.cells cur e (0, 0))) : Nf W k := fun i => by simp [World.frozen?, h]
theorem zfmv {B B' : Nat} (hB : B' ≤ B) (hs : ∀ k, B ≤ k → k < W.heap.size → W'.heap[k]? = W.heap[k]?) : ∀ k, Zf B W k → k < W.heap.size → Zf B' W' k ∧ W'.heap[k]? = W.heap[k]? := fun k hk hl => ⟨⟨Nat.le_trans hB hk.1, nfof (hs k hk.1 hl) hk.2⟩, hs k hk.1 hl⟩
theorem zflt {B B' : Nat} (hB : B' ≤ B) (hl : Later W W') : ∀ k, Zf B W k → k < W.heap.size → Zf B' W' k ∧ W'.heap[k]? = W.heap[k]? := zfmv hB fun k _ h => hl.block h
theorem zfof {B B' k : Nat} (hk : Zf B W k) (hB : B' ≤ k) (e : W'.heap[k]? = W.heap[k]?) : Zf B' W' k ∧ W'.heap[k]? = W.heap[k]? := ⟨⟨hB, nfof e hk.2⟩, e⟩
/-- structs being appended to a row of one's own -/
def Mn {α : Type} (f : α → List Fd) (B : Nat) (e : TypeId) (k : Nat) (w : World) (v : Value) (xs : List α) : Prop := ∃ (Z : Nat → Prop) (L : List Value), (∀ j, Z j → B ≤ j ∧ j < w.heap.size ∧ Nf w j) ∧ (∀ g, v.ownBlock = some g → ¬ Z g) ∧ w.ownsRow B e k v xs.length L ∧ itc Z w (xs.flatMap f) L
variable {α : Type} {f : α → List Fd} {B : Nat} {e t : TypeId} {k by_ : Nat} {v : Value} {xs : List α}
theorem Mn.start (w : World) : Mn f B e k w (.slice none 0 0) ([] : List α) := ⟨fun _ => False, [], fun _ h => h.elim, fun _ h => (by cases h), World.ownsRow_nil _ _ _ _, rfl⟩
theorem Mn.form (h : Mn f B e k w v xs) : ∃ A cap, v = .slice A xs.length cap := by
  obtain ⟨Z, L, _, _, h2, _⟩ := h
  rcases h2.2 with ⟨e, h0⟩ | ⟨g, cap', cur, e, _⟩
  · rw [h0]; exact ⟨none, 0, e⟩
  · exact ⟨_, _, e⟩
theorem Mn.keep (h : Mn f B e k w v xs) (hs : w.heap.size ≤ w'.heap.size) (hk : ∀ j, B ≤ j → j < w.heap.size → w'.heap[j]? = w.heap[j]?) : Mn f B e k w' v xs := by
  obtain ⟨Z, L, h1, h2, h3, h4⟩ := h
  exact ⟨Z, L, fun j hj => ⟨(h1 j hj).1, Nat.lt_of_lt_of_le (h1 j hj).2.1 hs, nfof (hk j (h1 j hj).1 (h1 j hj).2.1) (h1 j hj).2.2⟩, h2, owns_keep h3 hk, h4.move fun j hj hl => ⟨hj, hk j (h1 j hj).1 hl⟩⟩
theorem Mn.wr (h : Mn f B e k w v xs) (hw : Wr S w w') (hS : ∀ j, S j → j < B) : Mn f B e k w' v xs := h.keep hw.size fun j hj hl => hw.block j hl (fun x => by have := hS j x; omega)
theorem Mn.later (h : Mn f B e k w v xs) (hl : Later w w') : Mn f B e k w' v xs := h.keep hl.size fun j _ hj => hl.block hj
theorem Mn.rt {A : Option Addr} {n cap : Nat} (h : Mn f B e k w (.slice A n cap) xs) : Rt f (Zf B w) w A xs := by
  obtain ⟨Z, L, h1, h2, h3, h4⟩ := h
  rcases h3.2 with ⟨e, h0⟩ | ⟨g, cap', cur, e, hB, hC, _⟩
  · exact Or.inl (List.length_eq_zero_iff.1 h0)
  · injection e with e1 e2 e3
    subst e1 e2 e3
    exact Or.inr ⟨g, 0, L, rfl, ⟨hB, nfrow hC⟩, fun j u hu => by rw [Nat.zero_add]; exact owns_cell h3 hu, h4.move fun j hj hl => ⟨⟨(h1 j hj).1, (h1 j hj).2.2⟩, rfl⟩⟩
/-- one struct more: behind what was read since -/
theorem Mn.more {w0 : World} (h : Mn f B e k w0 v xs) (hT : Ti t e k by_) (ty : TypeId) (hB : B ≤ w0.heap.size) (hs : w0.heap.size ≤ w.heap.size) (hk : ∀ j, B ≤ j → j < w0.heap.size → w.heap[j]? = w0.heap[j]?) (x : α) (hf : (f x).length = k) (c : List Value) (hc : itc (Zf w0.heap.size w) w (f x) c) (hn : (xs.length + 1) * by_ ≤ 140737488355328) (h63 : xs.length + 1 ≤ 1000000000) :
    ∃ g cap w', (Builtin.append_ #[t, t] ty #[v, .slice (some ⟨w.heap.size, 0, none⟩) 1 1]).run Try.prog (w.alloc (.cells c.toArray e)) = .ok (.slice (some ⟨g, 0, none⟩) (xs.length + 1) cap) w' ∧ Mn f B e k w' (.slice (some ⟨g, 0, none⟩) (xs.length + 1) cap) (xs ++ [x]) ∧ Wr (B ≤ ·) w w' := by
  obtain ⟨ht, h0, i, z, hi, hz, hi1, hi2, hz1⟩ := hT
  obtain ⟨Z, L, h1, h2, h3, h4⟩ := h.keep hs hk
  obtain ⟨W, hW, hL, hcut⟩ := cut_later w B (Nat.le_trans hB hs)
  subst hW
  have hlt : ∀ g, v.ownBlock = some g → g < w0.heap.size := fun g hg => by
    obtain ⟨_, _, _, _, h5, _⟩ := h
    exact (h5.lt g hg).2
  have hF : Fld (fun j => if v.ownBlock = some j then 0 else 5) 0 w W.heap.size e k v xs.length L := ⟨h3, fun g hg => if_pos hg⟩
  obtain ⟨g, cap, w', lab', r, F, l, C⟩ := fld_more (P := Try.prog) hL t ty e i z k by_ ht hi hz hi1 hi2 hz1 h0 hF c (by rw [hc.length, hf]) hc.one (by unfold maxLen; omega) hn
  have hold : ∀ j, (Z j ∨ (w0.heap.size ≤ j ∧ j < w.heap.size ∧ Nf w j)) → j < w.heap.size ∧ v.ownBlock ≠ some j ∧ Nf w j := fun j hj => by
    rcases hj with hj | hj
    · exact ⟨(h1 j hj).2.1, fun x => h2 j x hj, (h1 j hj).2.2⟩
    · exact ⟨hj.2.1, fun x => by have := hlt j x; omega, hj.2.2⟩
  have hkeep : ∀ j, (Z j ∨ (w0.heap.size ≤ j ∧ j < w.heap.size ∧ Nf w j)) → lab' j = 5 ∧ w'.heap[j]? = w.heap[j]? := fun j hj => by
    obtain ⟨a, b, _⟩ := hold j hj
    have := C.2 j a (by show ¬ (if v.ownBlock = some j then 0 else 5) = 0; rw [if_neg b]; decide)
    exact ⟨by rw [this.1]; exact if_neg b, this.2⟩
  refine ⟨g, cap, w', r, ⟨fun j => Z j ∨ (w0.heap.size ≤ j ∧ j < w.heap.size ∧ Nf w j), L ++ c, fun j hj => ?_, fun g' hg' hz' => ?_, ?_, ?_⟩, hcut w' l C.1⟩
  · have := (hold j hj).1
    refine ⟨?_, Nat.lt_of_lt_of_le this C.1, nfof (hkeep j hj).2 (hold j hj).2.2⟩
    rcases hj with hj | hj
    · exact (h1 j hj).1
    · omega
  · have := F.2 g' hg'
    have h5 := (hkeep g' hz').1
    omega
  · rw [List.length_append]
    exact F.1
  · rw [List.flatMap_append]
    refine itc.app (h4.move fun j hj hl => ⟨Or.inl hj, (hkeep j (Or.inl hj)).2⟩) ?_
    rw [List.flatMap_cons, List.flatMap_nil, List.append_nil]
    exact hc.move fun j hj hl => ⟨Or.inr ⟨hj.1, hl, hj.2⟩, (hkeep j (Or.inr ⟨hj.1, hl, hj.2⟩)).2⟩
end
end Go.Proofs.Ytonnmbmdmkmhmaa
