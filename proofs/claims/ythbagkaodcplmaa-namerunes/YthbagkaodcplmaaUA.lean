/- Rows of a call's own, told apart by labels: a label for each row of an object, new blocks labelled as they are laid. -/
import Derived.Test.YthbagkaodcplmaaNA
import Derived.Deep.RegionLaw
import Derived.Deep.RegionHeldLaw
set_option linter.unusedVariables false
namespace Go
open Go.RowKit

/-- blocks are as they were, and their labels, but those of some labels -/
def Chg (lab : Nat → Nat) (S : Nat → Prop) (w w' : World) (lab' : Nat → Nat) : Prop := w.heap.size ≤ w'.heap.size ∧ ∀ k, k < w.heap.size → ¬ S (lab k) → lab' k = lab k ∧ w'.heap[k]? = w.heap[k]?
section
variable {lab lab' lab'' : Nat → Nat} {S S' : Nat → Prop} {w w' w'' : World} {tag t2 : Nat} {B p : Nat} {e T : TypeId} {size : Nat} {v : Value} {n : Nat} {L : List Value} {F : Nat → Value}
theorem Chg.trans (h : Chg lab S w w' lab') (h2 : Chg lab' S w' w'' lab'') : Chg lab S w w'' lab'' := by
  refine ⟨Nat.le_trans h.1 h2.1, fun k hk hs => ?_⟩
  obtain ⟨a1, a2⟩ := h.2 k hk hs
  obtain ⟨b1, b2⟩ := h2.2 k (Nat.lt_of_lt_of_le hk h.1) (by rw [a1]; exact hs)
  exact ⟨b1.trans a1, b2.trans a2⟩
theorem Chg.wide (h : Chg lab S w w' lab') (hs : ∀ k, S k → S' k) : Chg lab S' w w' lab' := ⟨h.1, fun k hk hn => h.2 k hk (fun x => hn (hs _ x))⟩
theorem Chg.of_later (h : Later w w') : Chg lab S w w' lab := ⟨h.size, fun k hk _ => ⟨rfl, h.block hk⟩⟩
/-- new blocks labelled -/
theorem Chg.fresh (h : Later w w') (z : Nat) : ∃ lab', Chg lab S w w' lab' ∧ ∀ k, w.heap.size ≤ k → lab' k = z := ⟨fun k => if k < w.heap.size then lab k else z, ⟨h.size, fun k hk _ => ⟨if_pos hk, h.block hk⟩⟩, fun k hk => if_neg (by omega)⟩
theorem Chg.cell (h : Chg lab S w w' lab') {k i : Nat} {v : Value} (hk : ¬ S (lab k)) (hc : w.cell? ⟨k, i, none⟩ = some v) : w'.cell? ⟨k, i, none⟩ = some v := (World.cell?_of_block (a := ⟨k, i, none⟩) (h.2 k (cell_lt hc) hk).2).trans hc
theorem Chg.lab_eq (h : Chg lab S w w' lab') {k i : Nat} {v : Value} (hk : ¬ S (lab k)) (hc : w.cell? ⟨k, i, none⟩ = some v) : lab' k = lab k := (h.2 k (cell_lt hc) hk).1
theorem Chg.lab_to (h : Chg lab S w w' lab') {k i z : Nat} {v : Value} (hz : lab k = z) (hs : ¬ S z) (hc : w.cell? ⟨k, i, none⟩ = some v) : lab' k = z := (h.lab_eq (by rw [hz]; exact hs) hc).trans hz
/-- a new block turned -/
theorem Chg.of_turned (h : Later w w') {k : Nat} (hk : w.heap.size ≤ k) (ht : Turned k w' w'') : Chg lab S w w'' lab := ⟨Nat.le_trans h.size ht.size, fun j hj _ => ⟨rfl, (ht.block (by omega) (Nat.lt_of_lt_of_le hj h.size)).trans (h.block hj)⟩⟩
/-- an owned row of a label -/
def Fld (lab : Nat → Nat) (tag : Nat) (w : World) (B : Nat) (e : TypeId) (size : Nat) (v : Value) (n : Nat) (L : List Value) : Prop := w.ownsRow B e size v n L ∧ ∀ g, v.ownBlock = some g → lab g = tag
theorem Fld.chg (h : Fld lab t2 w B e size v n L) (hc : Chg lab S w w' lab') (ht : ¬ S t2) : Fld lab' t2 w' B e size v n L := by
  refine ⟨⟨h.1.1, ?_⟩, fun g hg => ?_⟩
  · rcases h.1.2 with h2 | ⟨g, cap', cur, h2, h3, h4, h5⟩
    · exact Or.inl h2
    · refine Or.inr ⟨g, cap', cur, h2, h3, ?_, h5⟩
      rw [(hc.2 g (Array.getElem?_eq_some_iff.1 h4).1 (by rw [h.2 g (by rw [h2]; rfl)]; exact ht)).2]
      exact h4
  · rw [(hc.2 g (h.1.lt g hg).2 (by rw [h.2 g hg]; exact ht)).1]
    exact h.2 g hg
theorem Fld.at_ {A : Option Addr} {cap : Nat} (h : Fld lab tag w B e size (.slice A n cap) n L) (hn : 0 < n) : ∃ g, A = some ⟨g, 0, none⟩ ∧ B ≤ g ∧ g < w.heap.size ∧ lab g = tag ∧ n ≤ cap ∧ (∃ cur, w.heap[g]? = some (.cells cur e (0, 0)) ∧ cur.size = cap * size) ∧ ∀ j u, L[j]? = some u → w.cell? ⟨g, j, none⟩ = some u := by
  rcases h.1.2 with ⟨e, h0⟩ | ⟨g, cap', cur, e, h1, h3, h2, h4, h5, h6⟩
  · omega
  · cases e
    exact ⟨g, rfl, h1, (Array.getElem?_eq_some_iff.1 h3).1, h.2 g rfl, h2, ⟨cur, h3, h5⟩, fun j u hu => owns_cell h.1 hu⟩
/-- a struct's cells, of a label -/
def Str (lab : Nat → Nat) (tag : Nat) (w : World) (B p : Nat) (T : TypeId) (k : Nat) (F : Nat → Value) : Prop := w.rowIs p T k F ∧ B ≤ p ∧ lab p = tag
theorem Str.chg {k : Nat} (h : Str lab t2 w B p T k F) (hc : Chg lab S w w' lab') (ht : ¬ S t2) : Str lab' t2 w' B p T k F :=
  ⟨h.1.of_block (hc.2 p h.1.lt (by rw [h.2.2]; exact ht)).2, h.2.1, by rw [(hc.2 p h.1.lt (by rw [h.2.2]; exact ht)).1]; exact h.2.2⟩
theorem Str.set {k : Nat} (h : Str lab tag w B p T k F) (i : Nat) (v : Value) : Str lab tag (w.setCell ⟨p, i, none⟩ v) B p T k (fun j => if j = i then v else F j) ∧ Chg lab (· = tag) w (w.setCell ⟨p, i, none⟩ v) lab := by
  have ht : Turned p w (w.setCell ⟨p, i, none⟩ v) := (Turned.refl h.1).set h.1 i v
  refine ⟨⟨h.1.set i v, h.2.1, h.2.2⟩, ht.size, fun j hj hs => ⟨rfl, ht.block (fun e => hs (by rw [e]; exact h.2.2)) hj⟩⟩
theorem Str.ltr {W : World} {k : Nat} (h : Str lab tag w W.heap.size p T k F) (hL : Later W w) (i : Nat) (v : Value) : Later W (w.setCell ⟨p, i, none⟩ v) := hL.turned h.1 h.2.1 ((Turned.refl h.1).set h.1 i v)
/-- one cell of a row set -/
theorem Fld.set {A : Option Addr} {cap : Nat} (h : Fld lab tag w B e size (.slice A n cap) n L) (g : Nat) (hA : A = some ⟨g, 0, none⟩) (i : Nat) (v : Value) (hi : i < n * size) : Fld lab tag (w.setCell ⟨g, i, none⟩ v) B e size (.slice A n cap) n (L.set i v) ∧ Chg lab (· = tag) w (w.setCell ⟨g, i, none⟩ v) lab ∧ (∀ W : World, W.heap.size ≤ B → Later W w → Later W (w.setCell ⟨g, i, none⟩ v)) ∧ w.frozen? ⟨g, i, none⟩ = false := by
  subst hA
  rcases h.1.2 with ⟨e, h0⟩ | ⟨g', cap', cur, e, h1, h3, h2, h4, h5, h6⟩
  · cases e
  · cases e
    have hl : w.heap.size = (w.setCell ⟨g, i, none⟩ v).heap.size := by simp [World.setCell]
    have ho : ∀ k, k ≠ g → (w.setCell ⟨g, i, none⟩ v).heap[k]? = w.heap[k]? := fun k hk => by rw [setCell_setRow h3]; exact setRow_other w g k _ hk
    refine ⟨⟨⟨by rw [List.length_set]; exact h.1.1, Or.inr ⟨g, cap, cur.setIfInBounds i v, rfl, h1, by rw [setCell_setRow h3]; exact setRow_heap _ _ _ _ _ _ h3, h2, h4, by simpa using h5, ?_⟩⟩, h.2⟩, ⟨Nat.le_of_eq hl, fun k hk hs => ⟨rfl, ho k (fun e => hs (by rw [e]; exact h.2 g rfl))⟩⟩, fun W hW hL => hL.setCell v (by omega) h3, by simp [World.frozen?, h3]⟩
    rw [← h6]
    simp [List.take_set]
end
theorem Fld.relab {e : TypeId} {size n : Nat} {v : Value} {L : List Value} {lab lab' : Nat → Nat} {w : World} {B tag : Nat} (h : Fld lab tag w B e size v n L) (he : ∀ k, B ≤ k → lab' k = lab k) : Fld lab' tag w B e size v n L := ⟨h.1, fun g hg => by rw [he g (h.1.lt g hg).1]; exact h.2 g hg⟩
theorem Str.relab {p k : Nat} {T : TypeId} {F : Nat → Value} {lab lab' : Nat → Nat} {w : World} {B tag : Nat} (h : Str lab tag w B p T k F) (he : ∀ k, B ≤ k → lab' k = lab k) : Str lab' tag w B p T k F := ⟨h.1, h.2.1, by rw [he _ h.2.1]; exact h.2.2⟩
section
variable {P : Program}
/-- 'append' at a step of a region that draws its order, by its run -/
theorem step_app {ops : Array Oper} {o : Oper} {a : Act} {w w' : World} {K : Act → World → Prop} {Q : Exit → Act → World → Prop} {E : Prop} (hgd : o.guard = none) (s x : Operand) (t : TypeId)
    (ho : o.op = .call { callee := .builtin .append, args := #[s, x], argTypes := #[t, t] }) (v u r : Value) (hs : a.eval s = v) (hx : a.eval x = u) (hr : (Builtin.append_ #[t, t] o.type #[v, u]).run P w = .ok r w')
    (h : K (a.put o.dst r) w') : if Region.wanted o (yielded ops a.tmps) = true then Oper.wp P o a w K Q else E := by
  have hw : Region.wanted o (yielded ops a.tmps) = true := by simp [Region.wanted, hgd]
  rw [if_pos hw]
  unfold Oper.wp execOp
  simp only [ho, resolve, invoke, builtin, Sem.run_bind, Sem.run_pure, Result.andThen_ok, List.map_toArray, List.map_cons, List.map_nil, hs, hx, hr]
  exact h
/-- one element more, appended to an owned row -/
theorem fld_more {lab : Nat → Nat} {tag : Nat} {W w : World} (hL : Later W w) (t ty e : TypeId) (i : TypeInfo) (z : Value) (size bytes : Nat) (ht : P.underlying t = some (.slice e)) (hi : P.info? e = some i) (hz : i.zero = some z)
    (hsize : i.size = size) (hby : i.bytes = bytes) (hzs : z.cells.size = size) (hsz : 0 < size)
    {v : Value} {n : Nat} {xs : List Value} (h : Fld lab tag w W.heap.size e size v n xs) (c : List Value) (hc : c.length = size) (h1 : ∀ u ∈ c, u.oneCell' = true)
    (h63 : n + 1 ≤ maxLen) (hbytes : (n + 1) * bytes ≤ 140737488355328) :
    ∃ g cap w' lab', (Builtin.append_ #[t, t] ty #[v, .slice (some ⟨w.heap.size, 0, none⟩) 1 1]).run P (w.alloc (.cells c.toArray e)) = .ok (.slice (some ⟨g, 0, none⟩) (n + 1) cap) w' ∧ Fld lab' tag w' W.heap.size e size (.slice (some ⟨g, 0, none⟩) (n + 1) cap) (n + 1) (xs ++ c) ∧ Later W w' ∧ Chg lab (· = tag) w w' lab' := by
  have hL' : Later W (w.alloc (.cells c.toArray e)) := La hL
  have hown := h.1.alloc (.cells c.toArray e)
  have hsz2 : (w.alloc (.cells c.toArray e)).heap.size = w.heap.size + 1 := by simp
  have hnews : ∀ j u, c[j]? = some u → (w.alloc (.cells c.toArray e)).cell? ((⟨w.heap.size, 0, none⟩ : Addr).add j) = some u := fun j u hu => by
    rw [show (⟨w.heap.size, 0, none⟩ : Addr).add j = ⟨w.heap.size, j, none⟩ from by unfold Addr.add; split <;> simp_all, cell_of_row _ _ _ _ _ _ (heap_alloc_new w _)]
    simpa using hu
  obtain ⟨v', w1, hr, ho, hg, hnn⟩ := run_append_own (P := P) (w.alloc (.cells c.toArray e)) W.heap.size t ty e i z size bytes ht hi hz hsize hby hzs hsz v n xs hown ⟨w.heap.size, 0, none⟩ 1 1 c (by rw [hc, Nat.one_mul]) hnews h1 h63 hbytes hL'.size
  obtain ⟨g, cap, w', hr2, ho2, hL2⟩ := run_append_later (P := P) hL' t ty e i z size bytes ht hi hz hsize hby hzs hsz v n xs hown ⟨w.heap.size, 0, none⟩ 1 1 c (by rw [hc, Nat.one_mul]) hnews h1 h63 hbytes (by decide)
  have hgk : g < w.heap.size → v.ownBlock = some g := by
    intro hlt
    subst hsize
    subst hby
    have hsm : n + 1 ≤ 9223372036854775807 := by simp only [maxLen] at h63; omega
    rcases hown.2 with ⟨rfl, rfl⟩ | ⟨b, cap', cur, rfl, hbg, hbb, hnc, hcm, hcs, htake⟩
    · rw [run_append_nil (P := P) (w.alloc (.cells c.toArray e)) t ty e i z ht hi hz ⟨w.heap.size, 0, none⟩ 1 1 c (by rw [hc, Nat.one_mul]) hnews (by decide) (by omega) (by have := hbytes; rw [Nat.zero_add] at this; omega)] at hr2
      injection hr2 with h2 _
      simp at h2
      try omega
    · by_cases hroom : n + 1 ≤ cap'
      · rw [run_append_room (P := P) (w.alloc (.cells c.toArray e)) t ty e i ht hi b n cap' cur hbb ⟨w.heap.size, 0, none⟩ 1 1 c (by rw [hc, Nat.one_mul]) hnews h1 hroom (by rw [hc, hcs, ← Nat.succ_mul]; exact Nat.mul_le_mul_right _ hroom)] at hr2
        injection hr2 with h2 _
        simp at h2
        rw [← h2.1]; rfl
      · rw [run_append_grow (P := P) (w.alloc (.cells c.toArray e)) t ty e i z ht hi hz ⟨b, 0, none⟩ n cap' xs hown.1 (hown.cells (g := b) rfl) ⟨w.heap.size, 0, none⟩ 1 1 c (by rw [hc, Nat.one_mul]) hnews (by omega) (by omega) (growslice_fits (by omega) hbytes)] at hr2
        injection hr2 with h2 _
        simp at h2
        try omega
  rw [hr2] at hr
  injection hr with e1 e2
  subst e1 e2
  refine ⟨g, cap, w', fun k => if k < w.heap.size then lab k else tag, hr2, ⟨ho2, fun g' hg' => ?_⟩, hL2, ⟨by have := hg.size; omega, fun k hk hs => ⟨if_pos hk, ?_⟩⟩⟩
  · obtain rfl : g = g' := Option.some.inj hg'
    show (if g < w.heap.size then lab g else tag) = tag
    by_cases hlt : g < w.heap.size
    · rw [if_pos hlt]; exact h.2 g (hgk hlt)
    · rw [if_neg hlt]
  · rw [hg.block k (by omega) (fun e => hs (h.2 k e.symm))]
    exact heap_alloc_old w _ hk
end
end Go
