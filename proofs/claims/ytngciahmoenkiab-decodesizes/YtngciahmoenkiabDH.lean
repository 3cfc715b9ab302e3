/- package decode's reader: a section's content into its part of the module (fill). -/
import Derived.Test.YtngciahmoenkiabEQ
import Derived.Test.YtngciahmoenkiabDG
set_option linter.unusedVariables false
set_option linter.unusedSimpArgs false
set_option maxRecDepth 100000
set_option maxHeartbeats 4000000
namespace Go.Proofs.Ytngciahmoenkiab
open Go.RowKit
variable {q b : Nat} {w w' wr wr' : World} {v u s : ByteArray} {st st' : Sst} {a a' : Int}
variable {p : Nat} {Z : Nat → Prop} {m : Md} {L : List Value}
/-- what filling leaves -/
def Fil (Z : Nat → Prop) (q p b : Nat) (w : World) (v : ByteArray) (r : Md × Sst) (e : Ending) (w' : World) : Prop :=
  (r.2.code = 0 ∧ e = .returned (.tuple #[]) ∧ ∃ L', Wr (fun k => k = q ∨ k = p) w w' ∧ w'.rowIs q 82 2 (dF v b r.2.at_) ∧ Rl w' p 34 L' ∧ ModC (fun k => Z k ∨ Zf w.heap.size w' k) w' r.1 L')
  ∨ (¬ r.2.code = 0 ∧ e = thr r.2.code ∧ Wr (fun k => k = q ∨ k = p) w w')
theorem fil0 {xs : List (List Int × List Int)} {y : Value} (hZ : ∀ k, Z k → k ≠ q ∧ k ≠ p) (hC : ModC Z w m L) (hR : Rl w p 34 L) (hp : p < w.heap.size) (hpq : p ≠ q) (D : Ds q b w wr v a) (hy : pR fTy w.heap.size xs y wr) :
    ∃ L', Wr (fun k => k = q ∨ k = p) w (wr.setCell ⟨p, 0, none⟩ y) ∧ (wr.setCell ⟨p, 0, none⟩ y).rowIs q 82 2 (dF v b a) ∧ Rl (wr.setCell ⟨p, 0, none⟩ y) p 34 L' ∧ ModC (fun k => Z k ∨ Zf w.heap.size (wr.setCell ⟨p, 0, none⟩ y) k) (wr.setCell ⟨p, 0, none⟩ y) { m with ty := xs } L' := by
  obtain ⟨A, c, rfl, hRt⟩ := hy
  have W1 : Wr (fun k => k = q ∨ k = p) w (wr.setCell ⟨p, 0, none⟩ (.slice A xs.length c)) := (D.1.mono (fun _ _ e => Or.inl e)).set 0 _ (Or.inl (Or.inr rfl))
  have hk : ∀ k, Z k → k < w.heap.size → (Z k ∨ Zf w.heap.size (wr.setCell ⟨p, 0, none⟩ (.slice A xs.length c)) k) ∧ (wr.setCell ⟨p, 0, none⟩ (.slice A xs.length c)).heap[k]? = w.heap[k]? := fun k hk hl => ⟨Or.inl hk, W1.block k hl (fun e => by rcases e with e | e; exact (hZ k hk).1 e; exact (hZ k hk).2 e)⟩
  have hn : ∀ k, Zf w.heap.size wr k → k < wr.heap.size → (Z k ∨ Zf w.heap.size (wr.setCell ⟨p, 0, none⟩ (.slice A xs.length c)) k) ∧ (wr.setCell ⟨p, 0, none⟩ (.slice A xs.length c)).heap[k]? = wr.heap[k]? := fun k hk hl => by have e0 := fun u => Below.heap_setCell wr ⟨p, 0, none⟩ u k (fun e => by have e : k = p := e; have := hk.1; omega); exact ⟨Or.inr ⟨hk.1, nfof (e0 _) hk.2⟩, e0 _⟩
  refine ⟨L.set 0 (.slice A xs.length c), W1, D.2.of_block (Below.heap_setCell wr ⟨p, 0, none⟩ _ q (fun e => hpq (by have e : q = p := e; exact e.symm))), (Rl.wr hR D.1 hpq).set 0 _, ?_⟩
  obtain ⟨v0, v1, v2, v3, v4, v5, v6, v8, v9, v10, e, h0, h1, h2, h3, h4, h5, h6, h8, h9, h10⟩ := hC
  subst e
  exact ⟨_, v1, v2, v3, v4, v5, v6, v8, v9, v10, rfl, ⟨A, c, rfl, hRt.move (fun _ => Nat.succ_pos _) hn⟩, h1.move (fun _ => Nat.succ_pos _) hk, h2.move (fun _ => Nat.succ_pos _) hk, h3.move (fun _ => Nat.succ_pos _) hk, h4.move (fun _ => Nat.succ_pos _) hk, h5.move (fun _ => Nat.succ_pos _) hk, h6.move (fun _ => Nat.succ_pos _) hk, h8.move (fun _ => Nat.succ_pos _) hk, h9.move (fun _ => Nat.succ_pos _) hk, h10.move (fun _ => Nat.succ_pos _) hk⟩
theorem fil1 {xs : List Imp} {y : Value} (hZ : ∀ k, Z k → k ≠ q ∧ k ≠ p) (hC : ModC Z w m L) (hR : Rl w p 34 L) (hp : p < w.heap.size) (hpq : p ≠ q) (D : Ds q b w wr v a) (hy : pR fIm w.heap.size xs y wr) :
    ∃ L', Wr (fun k => k = q ∨ k = p) w (wr.setCell ⟨p, 1, none⟩ y) ∧ (wr.setCell ⟨p, 1, none⟩ y).rowIs q 82 2 (dF v b a) ∧ Rl (wr.setCell ⟨p, 1, none⟩ y) p 34 L' ∧ ModC (fun k => Z k ∨ Zf w.heap.size (wr.setCell ⟨p, 1, none⟩ y) k) (wr.setCell ⟨p, 1, none⟩ y) { m with im := xs } L' := by
  obtain ⟨A, c, rfl, hRt⟩ := hy
  have W1 : Wr (fun k => k = q ∨ k = p) w (wr.setCell ⟨p, 1, none⟩ (.slice A xs.length c)) := (D.1.mono (fun _ _ e => Or.inl e)).set 1 _ (Or.inl (Or.inr rfl))
  have hk : ∀ k, Z k → k < w.heap.size → (Z k ∨ Zf w.heap.size (wr.setCell ⟨p, 1, none⟩ (.slice A xs.length c)) k) ∧ (wr.setCell ⟨p, 1, none⟩ (.slice A xs.length c)).heap[k]? = w.heap[k]? := fun k hk hl => ⟨Or.inl hk, W1.block k hl (fun e => by rcases e with e | e; exact (hZ k hk).1 e; exact (hZ k hk).2 e)⟩
  have hn : ∀ k, Zf w.heap.size wr k → k < wr.heap.size → (Z k ∨ Zf w.heap.size (wr.setCell ⟨p, 1, none⟩ (.slice A xs.length c)) k) ∧ (wr.setCell ⟨p, 1, none⟩ (.slice A xs.length c)).heap[k]? = wr.heap[k]? := fun k hk hl => by have e0 := fun u => Below.heap_setCell wr ⟨p, 1, none⟩ u k (fun e => by have e : k = p := e; have := hk.1; omega); exact ⟨Or.inr ⟨hk.1, nfof (e0 _) hk.2⟩, e0 _⟩
  refine ⟨L.set 1 (.slice A xs.length c), W1, D.2.of_block (Below.heap_setCell wr ⟨p, 1, none⟩ _ q (fun e => hpq (by have e : q = p := e; exact e.symm))), (Rl.wr hR D.1 hpq).set 1 _, ?_⟩
  obtain ⟨v0, v1, v2, v3, v4, v5, v6, v8, v9, v10, e, h0, h1, h2, h3, h4, h5, h6, h8, h9, h10⟩ := hC
  subst e
  exact ⟨v0, _, v2, v3, v4, v5, v6, v8, v9, v10, rfl, h0.move (fun _ => Nat.succ_pos _) hk, ⟨A, c, rfl, hRt.move (fun _ => Nat.succ_pos _) hn⟩, h2.move (fun _ => Nat.succ_pos _) hk, h3.move (fun _ => Nat.succ_pos _) hk, h4.move (fun _ => Nat.succ_pos _) hk, h5.move (fun _ => Nat.succ_pos _) hk, h6.move (fun _ => Nat.succ_pos _) hk, h8.move (fun _ => Nat.succ_pos _) hk, h9.move (fun _ => Nat.succ_pos _) hk, h10.move (fun _ => Nat.succ_pos _) hk⟩
theorem fil2 {xs : List Int} {y : Value} (hZ : ∀ k, Z k → k ≠ q ∧ k ≠ p) (hC : ModC Z w m L) (hR : Rl w p 34 L) (hp : p < w.heap.size) (hpq : p ≠ q) (D : Ds q b w wr v a) (hy : pR f1 w.heap.size xs y wr) :
    ∃ L', Wr (fun k => k = q ∨ k = p) w (wr.setCell ⟨p, 2, none⟩ y) ∧ (wr.setCell ⟨p, 2, none⟩ y).rowIs q 82 2 (dF v b a) ∧ Rl (wr.setCell ⟨p, 2, none⟩ y) p 34 L' ∧ ModC (fun k => Z k ∨ Zf w.heap.size (wr.setCell ⟨p, 2, none⟩ y) k) (wr.setCell ⟨p, 2, none⟩ y) { m with fu := xs } L' := by
  obtain ⟨A, c, rfl, hRt⟩ := hy
  have W1 : Wr (fun k => k = q ∨ k = p) w (wr.setCell ⟨p, 2, none⟩ (.slice A xs.length c)) := (D.1.mono (fun _ _ e => Or.inl e)).set 2 _ (Or.inl (Or.inr rfl))
  have hk : ∀ k, Z k → k < w.heap.size → (Z k ∨ Zf w.heap.size (wr.setCell ⟨p, 2, none⟩ (.slice A xs.length c)) k) ∧ (wr.setCell ⟨p, 2, none⟩ (.slice A xs.length c)).heap[k]? = w.heap[k]? := fun k hk hl => ⟨Or.inl hk, W1.block k hl (fun e => by rcases e with e | e; exact (hZ k hk).1 e; exact (hZ k hk).2 e)⟩
  have hn : ∀ k, Zf w.heap.size wr k → k < wr.heap.size → (Z k ∨ Zf w.heap.size (wr.setCell ⟨p, 2, none⟩ (.slice A xs.length c)) k) ∧ (wr.setCell ⟨p, 2, none⟩ (.slice A xs.length c)).heap[k]? = wr.heap[k]? := fun k hk hl => by have e0 := fun u => Below.heap_setCell wr ⟨p, 2, none⟩ u k (fun e => by have e : k = p := e; have := hk.1; omega); exact ⟨Or.inr ⟨hk.1, nfof (e0 _) hk.2⟩, e0 _⟩
  refine ⟨L.set 2 (.slice A xs.length c), W1, D.2.of_block (Below.heap_setCell wr ⟨p, 2, none⟩ _ q (fun e => hpq (by have e : q = p := e; exact e.symm))), (Rl.wr hR D.1 hpq).set 2 _, ?_⟩
  obtain ⟨v0, v1, v2, v3, v4, v5, v6, v8, v9, v10, e, h0, h1, h2, h3, h4, h5, h6, h8, h9, h10⟩ := hC
  subst e
  exact ⟨v0, v1, _, v3, v4, v5, v6, v8, v9, v10, rfl, h0.move (fun _ => Nat.succ_pos _) hk, h1.move (fun _ => Nat.succ_pos _) hk, ⟨A, c, rfl, hRt.move (fun _ => Nat.succ_pos _) hn⟩, h3.move (fun _ => Nat.succ_pos _) hk, h4.move (fun _ => Nat.succ_pos _) hk, h5.move (fun _ => Nat.succ_pos _) hk, h6.move (fun _ => Nat.succ_pos _) hk, h8.move (fun _ => Nat.succ_pos _) hk, h9.move (fun _ => Nat.succ_pos _) hk, h10.move (fun _ => Nat.succ_pos _) hk⟩
theorem fil3 {xs : List (Int × Int)} {y : Value} (hZ : ∀ k, Z k → k ≠ q ∧ k ≠ p) (hC : ModC Z w m L) (hR : Rl w p 34 L) (hp : p < w.heap.size) (hpq : p ≠ q) (D : Ds q b w wr v a) (hy : pR fLi w.heap.size xs y wr) :
    ∃ L', Wr (fun k => k = q ∨ k = p) w (wr.setCell ⟨p, 3, none⟩ y) ∧ (wr.setCell ⟨p, 3, none⟩ y).rowIs q 82 2 (dF v b a) ∧ Rl (wr.setCell ⟨p, 3, none⟩ y) p 34 L' ∧ ModC (fun k => Z k ∨ Zf w.heap.size (wr.setCell ⟨p, 3, none⟩ y) k) (wr.setCell ⟨p, 3, none⟩ y) { m with ta := xs } L' := by
  obtain ⟨A, c, rfl, hRt⟩ := hy
  have W1 : Wr (fun k => k = q ∨ k = p) w (wr.setCell ⟨p, 3, none⟩ (.slice A xs.length c)) := (D.1.mono (fun _ _ e => Or.inl e)).set 3 _ (Or.inl (Or.inr rfl))
  have hk : ∀ k, Z k → k < w.heap.size → (Z k ∨ Zf w.heap.size (wr.setCell ⟨p, 3, none⟩ (.slice A xs.length c)) k) ∧ (wr.setCell ⟨p, 3, none⟩ (.slice A xs.length c)).heap[k]? = w.heap[k]? := fun k hk hl => ⟨Or.inl hk, W1.block k hl (fun e => by rcases e with e | e; exact (hZ k hk).1 e; exact (hZ k hk).2 e)⟩
  have hn : ∀ k, Zf w.heap.size wr k → k < wr.heap.size → (Z k ∨ Zf w.heap.size (wr.setCell ⟨p, 3, none⟩ (.slice A xs.length c)) k) ∧ (wr.setCell ⟨p, 3, none⟩ (.slice A xs.length c)).heap[k]? = wr.heap[k]? := fun k hk hl => by have e0 := fun u => Below.heap_setCell wr ⟨p, 3, none⟩ u k (fun e => by have e : k = p := e; have := hk.1; omega); exact ⟨Or.inr ⟨hk.1, nfof (e0 _) hk.2⟩, e0 _⟩
  refine ⟨L.set 3 (.slice A xs.length c), W1, D.2.of_block (Below.heap_setCell wr ⟨p, 3, none⟩ _ q (fun e => hpq (by have e : q = p := e; exact e.symm))), (Rl.wr hR D.1 hpq).set 3 _, ?_⟩
  obtain ⟨v0, v1, v2, v3, v4, v5, v6, v8, v9, v10, e, h0, h1, h2, h3, h4, h5, h6, h8, h9, h10⟩ := hC
  subst e
  exact ⟨v0, v1, v2, _, v4, v5, v6, v8, v9, v10, rfl, h0.move (fun _ => Nat.succ_pos _) hk, h1.move (fun _ => Nat.succ_pos _) hk, h2.move (fun _ => Nat.succ_pos _) hk, ⟨A, c, rfl, hRt.move (fun _ => Nat.succ_pos _) hn⟩, h4.move (fun _ => Nat.succ_pos _) hk, h5.move (fun _ => Nat.succ_pos _) hk, h6.move (fun _ => Nat.succ_pos _) hk, h8.move (fun _ => Nat.succ_pos _) hk, h9.move (fun _ => Nat.succ_pos _) hk, h10.move (fun _ => Nat.succ_pos _) hk⟩
theorem fil4 {xs : List (Int × Int)} {y : Value} (hZ : ∀ k, Z k → k ≠ q ∧ k ≠ p) (hC : ModC Z w m L) (hR : Rl w p 34 L) (hp : p < w.heap.size) (hpq : p ≠ q) (D : Ds q b w wr v a) (hy : pR fLi w.heap.size xs y wr) :
    ∃ L', Wr (fun k => k = q ∨ k = p) w (wr.setCell ⟨p, 4, none⟩ y) ∧ (wr.setCell ⟨p, 4, none⟩ y).rowIs q 82 2 (dF v b a) ∧ Rl (wr.setCell ⟨p, 4, none⟩ y) p 34 L' ∧ ModC (fun k => Z k ∨ Zf w.heap.size (wr.setCell ⟨p, 4, none⟩ y) k) (wr.setCell ⟨p, 4, none⟩ y) { m with me := xs } L' := by
  obtain ⟨A, c, rfl, hRt⟩ := hy
  have W1 : Wr (fun k => k = q ∨ k = p) w (wr.setCell ⟨p, 4, none⟩ (.slice A xs.length c)) := (D.1.mono (fun _ _ e => Or.inl e)).set 4 _ (Or.inl (Or.inr rfl))
  have hk : ∀ k, Z k → k < w.heap.size → (Z k ∨ Zf w.heap.size (wr.setCell ⟨p, 4, none⟩ (.slice A xs.length c)) k) ∧ (wr.setCell ⟨p, 4, none⟩ (.slice A xs.length c)).heap[k]? = w.heap[k]? := fun k hk hl => ⟨Or.inl hk, W1.block k hl (fun e => by rcases e with e | e; exact (hZ k hk).1 e; exact (hZ k hk).2 e)⟩
  have hn : ∀ k, Zf w.heap.size wr k → k < wr.heap.size → (Z k ∨ Zf w.heap.size (wr.setCell ⟨p, 4, none⟩ (.slice A xs.length c)) k) ∧ (wr.setCell ⟨p, 4, none⟩ (.slice A xs.length c)).heap[k]? = wr.heap[k]? := fun k hk hl => by have e0 := fun u => Below.heap_setCell wr ⟨p, 4, none⟩ u k (fun e => by have e : k = p := e; have := hk.1; omega); exact ⟨Or.inr ⟨hk.1, nfof (e0 _) hk.2⟩, e0 _⟩
  refine ⟨L.set 4 (.slice A xs.length c), W1, D.2.of_block (Below.heap_setCell wr ⟨p, 4, none⟩ _ q (fun e => hpq (by have e : q = p := e; exact e.symm))), (Rl.wr hR D.1 hpq).set 4 _, ?_⟩
  obtain ⟨v0, v1, v2, v3, v4, v5, v6, v8, v9, v10, e, h0, h1, h2, h3, h4, h5, h6, h8, h9, h10⟩ := hC
  subst e
  exact ⟨v0, v1, v2, v3, _, v5, v6, v8, v9, v10, rfl, h0.move (fun _ => Nat.succ_pos _) hk, h1.move (fun _ => Nat.succ_pos _) hk, h2.move (fun _ => Nat.succ_pos _) hk, h3.move (fun _ => Nat.succ_pos _) hk, ⟨A, c, rfl, hRt.move (fun _ => Nat.succ_pos _) hn⟩, h5.move (fun _ => Nat.succ_pos _) hk, h6.move (fun _ => Nat.succ_pos _) hk, h8.move (fun _ => Nat.succ_pos _) hk, h9.move (fun _ => Nat.succ_pos _) hk, h10.move (fun _ => Nat.succ_pos _) hk⟩
theorem fil5 {xs : List (Int × Bool × Fs)} {y : Value} (hZ : ∀ k, Z k → k ≠ q ∧ k ≠ p) (hC : ModC Z w m L) (hR : Rl w p 34 L) (hp : p < w.heap.size) (hpq : p ≠ q) (D : Ds q b w wr v a) (hy : pR fGl w.heap.size xs y wr) :
    ∃ L', Wr (fun k => k = q ∨ k = p) w (wr.setCell ⟨p, 5, none⟩ y) ∧ (wr.setCell ⟨p, 5, none⟩ y).rowIs q 82 2 (dF v b a) ∧ Rl (wr.setCell ⟨p, 5, none⟩ y) p 34 L' ∧ ModC (fun k => Z k ∨ Zf w.heap.size (wr.setCell ⟨p, 5, none⟩ y) k) (wr.setCell ⟨p, 5, none⟩ y) { m with gl := xs } L' := by
  obtain ⟨A, c, rfl, hRt⟩ := hy
  have W1 : Wr (fun k => k = q ∨ k = p) w (wr.setCell ⟨p, 5, none⟩ (.slice A xs.length c)) := (D.1.mono (fun _ _ e => Or.inl e)).set 5 _ (Or.inl (Or.inr rfl))
  have hk : ∀ k, Z k → k < w.heap.size → (Z k ∨ Zf w.heap.size (wr.setCell ⟨p, 5, none⟩ (.slice A xs.length c)) k) ∧ (wr.setCell ⟨p, 5, none⟩ (.slice A xs.length c)).heap[k]? = w.heap[k]? := fun k hk hl => ⟨Or.inl hk, W1.block k hl (fun e => by rcases e with e | e; exact (hZ k hk).1 e; exact (hZ k hk).2 e)⟩
  have hn : ∀ k, Zf w.heap.size wr k → k < wr.heap.size → (Z k ∨ Zf w.heap.size (wr.setCell ⟨p, 5, none⟩ (.slice A xs.length c)) k) ∧ (wr.setCell ⟨p, 5, none⟩ (.slice A xs.length c)).heap[k]? = wr.heap[k]? := fun k hk hl => by have e0 := fun u => Below.heap_setCell wr ⟨p, 5, none⟩ u k (fun e => by have e : k = p := e; have := hk.1; omega); exact ⟨Or.inr ⟨hk.1, nfof (e0 _) hk.2⟩, e0 _⟩
  refine ⟨L.set 5 (.slice A xs.length c), W1, D.2.of_block (Below.heap_setCell wr ⟨p, 5, none⟩ _ q (fun e => hpq (by have e : q = p := e; exact e.symm))), (Rl.wr hR D.1 hpq).set 5 _, ?_⟩
  obtain ⟨v0, v1, v2, v3, v4, v5, v6, v8, v9, v10, e, h0, h1, h2, h3, h4, h5, h6, h8, h9, h10⟩ := hC
  subst e
  exact ⟨v0, v1, v2, v3, v4, _, v6, v8, v9, v10, rfl, h0.move (fun _ => Nat.succ_pos _) hk, h1.move (fun _ => Nat.succ_pos _) hk, h2.move (fun _ => Nat.succ_pos _) hk, h3.move (fun _ => Nat.succ_pos _) hk, h4.move (fun _ => Nat.succ_pos _) hk, ⟨A, c, rfl, hRt.move (fun _ => Nat.succ_pos _) hn⟩, h6.move (fun _ => Nat.succ_pos _) hk, h8.move (fun _ => Nat.succ_pos _) hk, h9.move (fun _ => Nat.succ_pos _) hk, h10.move (fun _ => Nat.succ_pos _) hk⟩
theorem fil6 {xs : List (ByteArray × Int × Int)} {y : Value} (hZ : ∀ k, Z k → k ≠ q ∧ k ≠ p) (hC : ModC Z w m L) (hR : Rl w p 34 L) (hp : p < w.heap.size) (hpq : p ≠ q) (D : Ds q b w wr v a) (hy : pR fEx w.heap.size xs y wr) :
    ∃ L', Wr (fun k => k = q ∨ k = p) w (wr.setCell ⟨p, 6, none⟩ y) ∧ (wr.setCell ⟨p, 6, none⟩ y).rowIs q 82 2 (dF v b a) ∧ Rl (wr.setCell ⟨p, 6, none⟩ y) p 34 L' ∧ ModC (fun k => Z k ∨ Zf w.heap.size (wr.setCell ⟨p, 6, none⟩ y) k) (wr.setCell ⟨p, 6, none⟩ y) { m with ex := xs } L' := by
  obtain ⟨A, c, rfl, hRt⟩ := hy
  have W1 : Wr (fun k => k = q ∨ k = p) w (wr.setCell ⟨p, 6, none⟩ (.slice A xs.length c)) := (D.1.mono (fun _ _ e => Or.inl e)).set 6 _ (Or.inl (Or.inr rfl))
  have hk : ∀ k, Z k → k < w.heap.size → (Z k ∨ Zf w.heap.size (wr.setCell ⟨p, 6, none⟩ (.slice A xs.length c)) k) ∧ (wr.setCell ⟨p, 6, none⟩ (.slice A xs.length c)).heap[k]? = w.heap[k]? := fun k hk hl => ⟨Or.inl hk, W1.block k hl (fun e => by rcases e with e | e; exact (hZ k hk).1 e; exact (hZ k hk).2 e)⟩
  have hn : ∀ k, Zf w.heap.size wr k → k < wr.heap.size → (Z k ∨ Zf w.heap.size (wr.setCell ⟨p, 6, none⟩ (.slice A xs.length c)) k) ∧ (wr.setCell ⟨p, 6, none⟩ (.slice A xs.length c)).heap[k]? = wr.heap[k]? := fun k hk hl => by have e0 := fun u => Below.heap_setCell wr ⟨p, 6, none⟩ u k (fun e => by have e : k = p := e; have := hk.1; omega); exact ⟨Or.inr ⟨hk.1, nfof (e0 _) hk.2⟩, e0 _⟩
  refine ⟨L.set 6 (.slice A xs.length c), W1, D.2.of_block (Below.heap_setCell wr ⟨p, 6, none⟩ _ q (fun e => hpq (by have e : q = p := e; exact e.symm))), (Rl.wr hR D.1 hpq).set 6 _, ?_⟩
  obtain ⟨v0, v1, v2, v3, v4, v5, v6, v8, v9, v10, e, h0, h1, h2, h3, h4, h5, h6, h8, h9, h10⟩ := hC
  subst e
  exact ⟨v0, v1, v2, v3, v4, v5, _, v8, v9, v10, rfl, h0.move (fun _ => Nat.succ_pos _) hk, h1.move (fun _ => Nat.succ_pos _) hk, h2.move (fun _ => Nat.succ_pos _) hk, h3.move (fun _ => Nat.succ_pos _) hk, h4.move (fun _ => Nat.succ_pos _) hk, h5.move (fun _ => Nat.succ_pos _) hk, ⟨A, c, rfl, hRt.move (fun _ => Nat.succ_pos _) hn⟩, h8.move (fun _ => Nat.succ_pos _) hk, h9.move (fun _ => Nat.succ_pos _) hk, h10.move (fun _ => Nat.succ_pos _) hk⟩
theorem fil7 {xs : Int} {y : Value} (hZ : ∀ k, Z k → k ≠ q ∧ k ≠ p) (hC : ModC Z w m L) (hR : Rl w p 34 L) (hp : p < w.heap.size) (hpq : p ≠ q) (D : Ds q b w wr v a) (hy : pN xs y wr) :
    ∃ L', Wr (fun k => k = q ∨ k = p) w (wr.setCell ⟨p, 7, none⟩ y) ∧ (wr.setCell ⟨p, 7, none⟩ y).rowIs q 82 2 (dF v b a) ∧ Rl (wr.setCell ⟨p, 7, none⟩ y) p 34 L' ∧ ModC (fun k => Z k ∨ Zf w.heap.size (wr.setCell ⟨p, 7, none⟩ y) k) (wr.setCell ⟨p, 7, none⟩ y) { m with st := xs } L' := by
  obtain rfl : y = .int .i64 xs := hy
  have W1 : Wr (fun k => k = q ∨ k = p) w (wr.setCell ⟨p, 7, none⟩ (.int .i64 xs)) := (D.1.mono (fun _ _ e => Or.inl e)).set 7 _ (Or.inl (Or.inr rfl))
  have hk : ∀ k, Z k → k < w.heap.size → (Z k ∨ Zf w.heap.size (wr.setCell ⟨p, 7, none⟩ (.int .i64 xs)) k) ∧ (wr.setCell ⟨p, 7, none⟩ (.int .i64 xs)).heap[k]? = w.heap[k]? := fun k hk hl => ⟨Or.inl hk, W1.block k hl (fun e => by rcases e with e | e; exact (hZ k hk).1 e; exact (hZ k hk).2 e)⟩
  have hn : ∀ k, Zf w.heap.size wr k → k < wr.heap.size → (Z k ∨ Zf w.heap.size (wr.setCell ⟨p, 7, none⟩ (.int .i64 xs)) k) ∧ (wr.setCell ⟨p, 7, none⟩ (.int .i64 xs)).heap[k]? = wr.heap[k]? := fun k hk hl => by have e0 := fun u => Below.heap_setCell wr ⟨p, 7, none⟩ u k (fun e => by have e : k = p := e; have := hk.1; omega); exact ⟨Or.inr ⟨hk.1, nfof (e0 _) hk.2⟩, e0 _⟩
  refine ⟨L.set 7 (.int .i64 xs), W1, D.2.of_block (Below.heap_setCell wr ⟨p, 7, none⟩ _ q (fun e => hpq (by have e : q = p := e; exact e.symm))), (Rl.wr hR D.1 hpq).set 7 _, ?_⟩
  obtain ⟨v0, v1, v2, v3, v4, v5, v6, v8, v9, v10, e, h0, h1, h2, h3, h4, h5, h6, h8, h9, h10⟩ := hC
  subst e
  exact ⟨v0, v1, v2, v3, v4, v5, v6, v8, v9, v10, rfl, h0.move (fun _ => Nat.succ_pos _) hk, h1.move (fun _ => Nat.succ_pos _) hk, h2.move (fun _ => Nat.succ_pos _) hk, h3.move (fun _ => Nat.succ_pos _) hk, h4.move (fun _ => Nat.succ_pos _) hk, h5.move (fun _ => Nat.succ_pos _) hk, h6.move (fun _ => Nat.succ_pos _) hk, h8.move (fun _ => Nat.succ_pos _) hk, h9.move (fun _ => Nat.succ_pos _) hk, h10.move (fun _ => Nat.succ_pos _) hk⟩
theorem fil8 {xs : List (Fs × List Int)} {y : Value} (hZ : ∀ k, Z k → k ≠ q ∧ k ≠ p) (hC : ModC Z w m L) (hR : Rl w p 34 L) (hp : p < w.heap.size) (hpq : p ≠ q) (D : Ds q b w wr v a) (hy : pR fEl w.heap.size xs y wr) :
    ∃ L', Wr (fun k => k = q ∨ k = p) w (wr.setCell ⟨p, 8, none⟩ y) ∧ (wr.setCell ⟨p, 8, none⟩ y).rowIs q 82 2 (dF v b a) ∧ Rl (wr.setCell ⟨p, 8, none⟩ y) p 34 L' ∧ ModC (fun k => Z k ∨ Zf w.heap.size (wr.setCell ⟨p, 8, none⟩ y) k) (wr.setCell ⟨p, 8, none⟩ y) { m with el := xs } L' := by
  obtain ⟨A, c, rfl, hRt⟩ := hy
  have W1 : Wr (fun k => k = q ∨ k = p) w (wr.setCell ⟨p, 8, none⟩ (.slice A xs.length c)) := (D.1.mono (fun _ _ e => Or.inl e)).set 8 _ (Or.inl (Or.inr rfl))
  have hk : ∀ k, Z k → k < w.heap.size → (Z k ∨ Zf w.heap.size (wr.setCell ⟨p, 8, none⟩ (.slice A xs.length c)) k) ∧ (wr.setCell ⟨p, 8, none⟩ (.slice A xs.length c)).heap[k]? = w.heap[k]? := fun k hk hl => ⟨Or.inl hk, W1.block k hl (fun e => by rcases e with e | e; exact (hZ k hk).1 e; exact (hZ k hk).2 e)⟩
  have hn : ∀ k, Zf w.heap.size wr k → k < wr.heap.size → (Z k ∨ Zf w.heap.size (wr.setCell ⟨p, 8, none⟩ (.slice A xs.length c)) k) ∧ (wr.setCell ⟨p, 8, none⟩ (.slice A xs.length c)).heap[k]? = wr.heap[k]? := fun k hk hl => by have e0 := fun u => Below.heap_setCell wr ⟨p, 8, none⟩ u k (fun e => by have e : k = p := e; have := hk.1; omega); exact ⟨Or.inr ⟨hk.1, nfof (e0 _) hk.2⟩, e0 _⟩
  refine ⟨L.set 8 (.slice A xs.length c), W1, D.2.of_block (Below.heap_setCell wr ⟨p, 8, none⟩ _ q (fun e => hpq (by have e : q = p := e; exact e.symm))), (Rl.wr hR D.1 hpq).set 8 _, ?_⟩
  obtain ⟨v0, v1, v2, v3, v4, v5, v6, v8, v9, v10, e, h0, h1, h2, h3, h4, h5, h6, h8, h9, h10⟩ := hC
  subst e
  exact ⟨v0, v1, v2, v3, v4, v5, v6, _, v9, v10, rfl, h0.move (fun _ => Nat.succ_pos _) hk, h1.move (fun _ => Nat.succ_pos _) hk, h2.move (fun _ => Nat.succ_pos _) hk, h3.move (fun _ => Nat.succ_pos _) hk, h4.move (fun _ => Nat.succ_pos _) hk, h5.move (fun _ => Nat.succ_pos _) hk, h6.move (fun _ => Nat.succ_pos _) hk, ⟨A, c, rfl, hRt.move (fun _ => Nat.succ_pos _) hn⟩, h9.move (fun _ => Nat.succ_pos _) hk, h10.move (fun _ => Nat.succ_pos _) hk⟩
theorem fil9 {xs : List (List Int × Fs)} {y : Value} (hZ : ∀ k, Z k → k ≠ q ∧ k ≠ p) (hC : ModC Z w m L) (hR : Rl w p 34 L) (hp : p < w.heap.size) (hpq : p ≠ q) (D : Ds q b w wr v a) (hy : pR fCo w.heap.size xs y wr) :
    ∃ L', Wr (fun k => k = q ∨ k = p) w (wr.setCell ⟨p, 9, none⟩ y) ∧ (wr.setCell ⟨p, 9, none⟩ y).rowIs q 82 2 (dF v b a) ∧ Rl (wr.setCell ⟨p, 9, none⟩ y) p 34 L' ∧ ModC (fun k => Z k ∨ Zf w.heap.size (wr.setCell ⟨p, 9, none⟩ y) k) (wr.setCell ⟨p, 9, none⟩ y) { m with co := xs } L' := by
  obtain ⟨A, c, rfl, hRt⟩ := hy
  have W1 : Wr (fun k => k = q ∨ k = p) w (wr.setCell ⟨p, 9, none⟩ (.slice A xs.length c)) := (D.1.mono (fun _ _ e => Or.inl e)).set 9 _ (Or.inl (Or.inr rfl))
  have hk : ∀ k, Z k → k < w.heap.size → (Z k ∨ Zf w.heap.size (wr.setCell ⟨p, 9, none⟩ (.slice A xs.length c)) k) ∧ (wr.setCell ⟨p, 9, none⟩ (.slice A xs.length c)).heap[k]? = w.heap[k]? := fun k hk hl => ⟨Or.inl hk, W1.block k hl (fun e => by rcases e with e | e; exact (hZ k hk).1 e; exact (hZ k hk).2 e)⟩
  have hn : ∀ k, Zf w.heap.size wr k → k < wr.heap.size → (Z k ∨ Zf w.heap.size (wr.setCell ⟨p, 9, none⟩ (.slice A xs.length c)) k) ∧ (wr.setCell ⟨p, 9, none⟩ (.slice A xs.length c)).heap[k]? = wr.heap[k]? := fun k hk hl => by have e0 := fun u => Below.heap_setCell wr ⟨p, 9, none⟩ u k (fun e => by have e : k = p := e; have := hk.1; omega); exact ⟨Or.inr ⟨hk.1, nfof (e0 _) hk.2⟩, e0 _⟩
  refine ⟨L.set 9 (.slice A xs.length c), W1, D.2.of_block (Below.heap_setCell wr ⟨p, 9, none⟩ _ q (fun e => hpq (by have e : q = p := e; exact e.symm))), (Rl.wr hR D.1 hpq).set 9 _, ?_⟩
  obtain ⟨v0, v1, v2, v3, v4, v5, v6, v8, v9, v10, e, h0, h1, h2, h3, h4, h5, h6, h8, h9, h10⟩ := hC
  subst e
  exact ⟨v0, v1, v2, v3, v4, v5, v6, v8, _, v10, rfl, h0.move (fun _ => Nat.succ_pos _) hk, h1.move (fun _ => Nat.succ_pos _) hk, h2.move (fun _ => Nat.succ_pos _) hk, h3.move (fun _ => Nat.succ_pos _) hk, h4.move (fun _ => Nat.succ_pos _) hk, h5.move (fun _ => Nat.succ_pos _) hk, h6.move (fun _ => Nat.succ_pos _) hk, h8.move (fun _ => Nat.succ_pos _) hk, ⟨A, c, rfl, hRt.move (fun _ => Nat.succ_pos _) hn⟩, h10.move (fun _ => Nat.succ_pos _) hk⟩
theorem fil10 {xs : List (Fs × ByteArray)} {y : Value} (hZ : ∀ k, Z k → k ≠ q ∧ k ≠ p) (hC : ModC Z w m L) (hR : Rl w p 34 L) (hp : p < w.heap.size) (hpq : p ≠ q) (D : Ds q b w wr v a) (hy : pR fDa w.heap.size xs y wr) :
    ∃ L', Wr (fun k => k = q ∨ k = p) w (wr.setCell ⟨p, 10, none⟩ y) ∧ (wr.setCell ⟨p, 10, none⟩ y).rowIs q 82 2 (dF v b a) ∧ Rl (wr.setCell ⟨p, 10, none⟩ y) p 34 L' ∧ ModC (fun k => Z k ∨ Zf w.heap.size (wr.setCell ⟨p, 10, none⟩ y) k) (wr.setCell ⟨p, 10, none⟩ y) { m with da := xs } L' := by
  obtain ⟨A, c, rfl, hRt⟩ := hy
  have W1 : Wr (fun k => k = q ∨ k = p) w (wr.setCell ⟨p, 10, none⟩ (.slice A xs.length c)) := (D.1.mono (fun _ _ e => Or.inl e)).set 10 _ (Or.inl (Or.inr rfl))
  have hk : ∀ k, Z k → k < w.heap.size → (Z k ∨ Zf w.heap.size (wr.setCell ⟨p, 10, none⟩ (.slice A xs.length c)) k) ∧ (wr.setCell ⟨p, 10, none⟩ (.slice A xs.length c)).heap[k]? = w.heap[k]? := fun k hk hl => ⟨Or.inl hk, W1.block k hl (fun e => by rcases e with e | e; exact (hZ k hk).1 e; exact (hZ k hk).2 e)⟩
  have hn : ∀ k, Zf w.heap.size wr k → k < wr.heap.size → (Z k ∨ Zf w.heap.size (wr.setCell ⟨p, 10, none⟩ (.slice A xs.length c)) k) ∧ (wr.setCell ⟨p, 10, none⟩ (.slice A xs.length c)).heap[k]? = wr.heap[k]? := fun k hk hl => by have e0 := fun u => Below.heap_setCell wr ⟨p, 10, none⟩ u k (fun e => by have e : k = p := e; have := hk.1; omega); exact ⟨Or.inr ⟨hk.1, nfof (e0 _) hk.2⟩, e0 _⟩
  refine ⟨L.set 10 (.slice A xs.length c), W1, D.2.of_block (Below.heap_setCell wr ⟨p, 10, none⟩ _ q (fun e => hpq (by have e : q = p := e; exact e.symm))), (Rl.wr hR D.1 hpq).set 10 _, ?_⟩
  obtain ⟨v0, v1, v2, v3, v4, v5, v6, v8, v9, v10, e, h0, h1, h2, h3, h4, h5, h6, h8, h9, h10⟩ := hC
  subst e
  exact ⟨v0, v1, v2, v3, v4, v5, v6, v8, v9, _, rfl, h0.move (fun _ => Nat.succ_pos _) hk, h1.move (fun _ => Nat.succ_pos _) hk, h2.move (fun _ => Nat.succ_pos _) hk, h3.move (fun _ => Nat.succ_pos _) hk, h4.move (fun _ => Nat.succ_pos _) hk, h5.move (fun _ => Nat.succ_pos _) hk, h6.move (fun _ => Nat.succ_pos _) hk, h8.move (fun _ => Nat.succ_pos _) hk, h9.move (fun _ => Nat.succ_pos _) hk, ⟨A, c, rfl, hRt.move (fun _ => Nat.succ_pos _) hn⟩⟩
theorem fill_1 (hz : v.size ≤ 65536) (hS : Shf b v u) (hp : p < w.heap.size) (hpq : p ≠ q) (hZ : ∀ k, Z k → k ≠ q ∧ k ≠ p) (hC : ModC Z w m L) (h : w.rowIs q 82 2 (dF v b 0)) (hR : Rl w p 34 L) :
    Calls Try.prog 23 #[.pointer (some ⟨p, 0, none⟩), .int .i64 1, .pointer (some ⟨q, 0, none⟩)] w (Fil Z q p b w v ({ m with ty := (stys u ⟨0, 0⟩).1 }, (stys u ⟨0, 0⟩).2)) := by
  have hin : Sin u ⟨0, 0⟩ := ⟨Int.le_refl _, by show (0 : Int) ≤ u.size; omega⟩
  have hmf : ∀ (fn : Fn) (first cap : Array Value) (w : World), (Instr.makeFunc fn first cap).run Try.prog w = .ok (.func fn first cap) w := fun _ _ _ _ => rfl
  have hm : Hid (Calls Try.prog 29 #[.pointer (some ⟨q, 0, none⟩), .int .i64 256, .func (.func 30) #[.pointer (some ⟨q, 0, none⟩)] #[]] w (Got q b w v (pR fTy w.heap.size) (stys u ⟨0, 0⟩))) := ftypes_any 256 (by decide) (by omega) hS rfl hin w h
  have hlen := hC.len
  obtain ⟨o, ho⟩ : ∃ o, L[0]? = some o := ⟨L[0], List.getElem?_eq_getElem (by omega)⟩
  have hcell : Hid (∀ w1, Wr (· = q) w w1 → w1.cell? ⟨p, 0, none⟩ = some o ∧ w1.frozen? ⟨p, 0, none⟩ = false) := fun w1 hw => ⟨(Rl.wr hR hw hpq).cell 0 ho, (Rl.wr hR hw hpq).frozen 0⟩
  generalize stys u ⟨0, 0⟩ = K at *
  obtain ⟨xs, a1, cd1⟩ := K
  have hfin : Hid (∀ w1 y, Ds q b w w1 v a1 → pR fTy w.heap.size xs y w1 → ∃ L', Wr (fun k => k = q ∨ k = p) w (w1.setCell ⟨p, 0, none⟩ y) ∧ (w1.setCell ⟨p, 0, none⟩ y).rowIs q 82 2 (dF v b a1) ∧ Rl (w1.setCell ⟨p, 0, none⟩ y) p 34 L' ∧ ModC (fun k => Z k ∨ Zf w.heap.size (w1.setCell ⟨p, 0, none⟩ y) k) (w1.setCell ⟨p, 0, none⟩ y) { m with ty := xs } L') := fun w1 y D hy => fil0 hZ hC hR hp hpq D hy
  clear hin hC hR h hS hz hlen ho
  go_enter Try.func23, Try.ntmps23
  go_wp2_with fail
  refine hm.out.mono ?_
  clear hm
  rintro e w1 (⟨hc1, ⟨y, rfl, hy⟩, D1⟩ | ⟨hc1, rfl, W1⟩)
  · obtain rfl : cd1 = 0 := hc1
    obtain ⟨c1, f1⟩ := hcell.out w1 D1.1
    have l1 := cell_lt c1
    replace D1 : Hid (Ds q b w w1 v a1) := D1
    obtain ⟨A, c, rfl, hRt⟩ := hy
    replace hRt : Hid _ := hRt
    clear hcell
    go_wp2_with fail
    go_end0
    exact Or.inl ⟨rfl, rfl, hfin.out w1 _ D1.out ⟨A, c, rfl, hRt.out⟩⟩
  · exact ⟨rfl, Or.inr ⟨hc1, rfl, W1.mono (fun _ _ e => Or.inl e)⟩⟩
theorem fill_2 (hz : v.size ≤ 65536) (hS : Shf b v u) (hp : p < w.heap.size) (hpq : p ≠ q) (hZ : ∀ k, Z k → k ≠ q ∧ k ≠ p) (hC : ModC Z w m L) (h : w.rowIs q 82 2 (dF v b 0)) (hR : Rl w p 34 L) :
    Calls Try.prog 23 #[.pointer (some ⟨p, 0, none⟩), .int .i64 2, .pointer (some ⟨q, 0, none⟩)] w (Fil Z q p b w v ({ m with im := (simps u ⟨0, 0⟩).1 }, (simps u ⟨0, 0⟩).2)) := by
  have hin : Sin u ⟨0, 0⟩ := ⟨Int.le_refl _, by show (0 : Int) ≤ u.size; omega⟩
  have hmf : ∀ (fn : Fn) (first cap : Array Value) (w : World), (Instr.makeFunc fn first cap).run Try.prog w = .ok (.func fn first cap) w := fun _ _ _ _ => rfl
  have hm : Hid (Calls Try.prog 31 #[.pointer (some ⟨q, 0, none⟩), .int .i64 1024, .func (.func 32) #[.pointer (some ⟨q, 0, none⟩)] #[]] w (Got q b w v (pR fIm w.heap.size) (simps u ⟨0, 0⟩))) := imps_any 1024 (by decide) (by omega) hS rfl hin w h
  have hlen := hC.len
  obtain ⟨o, ho⟩ : ∃ o, L[1]? = some o := ⟨L[1], List.getElem?_eq_getElem (by omega)⟩
  have hcell : Hid (∀ w1, Wr (· = q) w w1 → w1.cell? ⟨p, 1, none⟩ = some o ∧ w1.frozen? ⟨p, 1, none⟩ = false) := fun w1 hw => ⟨(Rl.wr hR hw hpq).cell 1 ho, (Rl.wr hR hw hpq).frozen 1⟩
  generalize simps u ⟨0, 0⟩ = K at *
  obtain ⟨xs, a1, cd1⟩ := K
  have hfin : Hid (∀ w1 y, Ds q b w w1 v a1 → pR fIm w.heap.size xs y w1 → ∃ L', Wr (fun k => k = q ∨ k = p) w (w1.setCell ⟨p, 1, none⟩ y) ∧ (w1.setCell ⟨p, 1, none⟩ y).rowIs q 82 2 (dF v b a1) ∧ Rl (w1.setCell ⟨p, 1, none⟩ y) p 34 L' ∧ ModC (fun k => Z k ∨ Zf w.heap.size (w1.setCell ⟨p, 1, none⟩ y) k) (w1.setCell ⟨p, 1, none⟩ y) { m with im := xs } L') := fun w1 y D hy => fil1 hZ hC hR hp hpq D hy
  clear hin hC hR h hS hz hlen ho
  go_enter Try.func23, Try.ntmps23
  go_wp2_with fail
  refine hm.out.mono ?_
  clear hm
  rintro e w1 (⟨hc1, ⟨y, rfl, hy⟩, D1⟩ | ⟨hc1, rfl, W1⟩)
  · obtain rfl : cd1 = 0 := hc1
    obtain ⟨c1, f1⟩ := hcell.out w1 D1.1
    have l1 := cell_lt c1
    replace D1 : Hid (Ds q b w w1 v a1) := D1
    obtain ⟨A, c, rfl, hRt⟩ := hy
    replace hRt : Hid _ := hRt
    clear hcell
    go_wp2_with fail
    go_end0
    exact Or.inl ⟨rfl, rfl, hfin.out w1 _ D1.out ⟨A, c, rfl, hRt.out⟩⟩
  · exact ⟨rfl, Or.inr ⟨hc1, rfl, W1.mono (fun _ _ e => Or.inl e)⟩⟩
theorem fill_3 (hz : v.size ≤ 65536) (hS : Shf b v u) (hp : p < w.heap.size) (hpq : p ≠ q) (hZ : ∀ k, Z k → k ≠ q ∧ k ≠ p) (hC : ModC Z w m L) (h : w.rowIs q 82 2 (dF v b 0)) (hR : Rl w p 34 L) :
    Calls Try.prog 23 #[.pointer (some ⟨p, 0, none⟩), .int .i64 3, .pointer (some ⟨q, 0, none⟩)] w (Fil Z q p b w v ({ m with fu := (sfuncs u ⟨0, 0⟩).1 }, (sfuncs u ⟨0, 0⟩).2)) := by
  have hin : Sin u ⟨0, 0⟩ := ⟨Int.le_refl _, by show (0 : Int) ≤ u.size; omega⟩
  have hmf : ∀ (fn : Fn) (first cap : Array Value) (w : World), (Instr.makeFunc fn first cap).run Try.prog w = .ok (.func fn first cap) w := fun _ _ _ _ => rfl
  have hm : Hid (Calls Try.prog 33 #[.pointer (some ⟨q, 0, none⟩), .int .i64 256, .func (.func 34) #[.pointer (some ⟨q, 0, none⟩)] #[]] w (Got q b w v (pR f1 w.heap.size) (sfuncs u ⟨0, 0⟩))) := nums_any 256 (by decide) (by omega) hS rfl hin w h
  have hlen := hC.len
  obtain ⟨o, ho⟩ : ∃ o, L[2]? = some o := ⟨L[2], List.getElem?_eq_getElem (by omega)⟩
  have hcell : Hid (∀ w1, Wr (· = q) w w1 → w1.cell? ⟨p, 2, none⟩ = some o ∧ w1.frozen? ⟨p, 2, none⟩ = false) := fun w1 hw => ⟨(Rl.wr hR hw hpq).cell 2 ho, (Rl.wr hR hw hpq).frozen 2⟩
  generalize sfuncs u ⟨0, 0⟩ = K at *
  obtain ⟨xs, a1, cd1⟩ := K
  have hfin : Hid (∀ w1 y, Ds q b w w1 v a1 → pR f1 w.heap.size xs y w1 → ∃ L', Wr (fun k => k = q ∨ k = p) w (w1.setCell ⟨p, 2, none⟩ y) ∧ (w1.setCell ⟨p, 2, none⟩ y).rowIs q 82 2 (dF v b a1) ∧ Rl (w1.setCell ⟨p, 2, none⟩ y) p 34 L' ∧ ModC (fun k => Z k ∨ Zf w.heap.size (w1.setCell ⟨p, 2, none⟩ y) k) (w1.setCell ⟨p, 2, none⟩ y) { m with fu := xs } L') := fun w1 y D hy => fil2 hZ hC hR hp hpq D hy
  clear hin hC hR h hS hz hlen ho
  go_enter Try.func23, Try.ntmps23
  go_wp2_with fail
  refine hm.out.mono ?_
  clear hm
  rintro e w1 (⟨hc1, ⟨y, rfl, hy⟩, D1⟩ | ⟨hc1, rfl, W1⟩)
  · obtain rfl : cd1 = 0 := hc1
    obtain ⟨c1, f1⟩ := hcell.out w1 D1.1
    have l1 := cell_lt c1
    replace D1 : Hid (Ds q b w w1 v a1) := D1
    obtain ⟨A, c, rfl, hRt⟩ := hy
    replace hRt : Hid _ := hRt
    clear hcell
    go_wp2_with fail
    go_end0
    exact Or.inl ⟨rfl, rfl, hfin.out w1 _ D1.out ⟨A, c, rfl, hRt.out⟩⟩
  · exact ⟨rfl, Or.inr ⟨hc1, rfl, W1.mono (fun _ _ e => Or.inl e)⟩⟩
theorem fill_4 (hz : v.size ≤ 65536) (hS : Shf b v u) (hp : p < w.heap.size) (hpq : p ≠ q) (hZ : ∀ k, Z k → k ≠ q ∧ k ≠ p) (hC : ModC Z w m L) (h : w.rowIs q 82 2 (dF v b 0)) (hR : Rl w p 34 L) :
    Calls Try.prog 23 #[.pointer (some ⟨p, 0, none⟩), .int .i64 4, .pointer (some ⟨q, 0, none⟩)] w (Fil Z q p b w v ({ m with ta := (stabs u ⟨0, 0⟩).1 }, (stabs u ⟨0, 0⟩).2)) := by
  have hin : Sin u ⟨0, 0⟩ := ⟨Int.le_refl _, by show (0 : Int) ≤ u.size; omega⟩
  have hmf : ∀ (fn : Fn) (first cap : Array Value) (w : World), (Instr.makeFunc fn first cap).run Try.prog w = .ok (.func fn first cap) w := fun _ _ _ _ => rfl
  have hm : Hid (Calls Try.prog 35 #[.pointer (some ⟨q, 0, none⟩), .int .i64 1024, .func (.func 36) #[.pointer (some ⟨q, 0, none⟩)] #[]] w (Got q b w v (pR fLi w.heap.size) (stabs u ⟨0, 0⟩))) := (show Calls Try.prog 35 #[.pointer (some ⟨q, 0, none⟩), .int .i64 1024, .func (.func 36) #[.pointer (some ⟨q, 0, none⟩)] #[]] w (Got q b w v (pR fLi w.heap.size) (srep (stab u) (smany u 1024 ⟨0, 0⟩).1.toNat (smany u 1024 ⟨0, 0⟩).2)) from tabs_any 1024 (by decide) (by omega) hS rfl hin w h)
  have hlen := hC.len
  obtain ⟨o, ho⟩ : ∃ o, L[3]? = some o := ⟨L[3], List.getElem?_eq_getElem (by omega)⟩
  have hcell : Hid (∀ w1, Wr (· = q) w w1 → w1.cell? ⟨p, 3, none⟩ = some o ∧ w1.frozen? ⟨p, 3, none⟩ = false) := fun w1 hw => ⟨(Rl.wr hR hw hpq).cell 3 ho, (Rl.wr hR hw hpq).frozen 3⟩
  generalize stabs u ⟨0, 0⟩ = K at *
  obtain ⟨xs, a1, cd1⟩ := K
  have hfin : Hid (∀ w1 y, Ds q b w w1 v a1 → pR fLi w.heap.size xs y w1 → ∃ L', Wr (fun k => k = q ∨ k = p) w (w1.setCell ⟨p, 3, none⟩ y) ∧ (w1.setCell ⟨p, 3, none⟩ y).rowIs q 82 2 (dF v b a1) ∧ Rl (w1.setCell ⟨p, 3, none⟩ y) p 34 L' ∧ ModC (fun k => Z k ∨ Zf w.heap.size (w1.setCell ⟨p, 3, none⟩ y) k) (w1.setCell ⟨p, 3, none⟩ y) { m with ta := xs } L') := fun w1 y D hy => fil3 hZ hC hR hp hpq D hy
  clear hin hC hR h hS hz hlen ho
  go_enter Try.func23, Try.ntmps23
  go_wp2_with fail
  refine hm.out.mono ?_
  clear hm
  rintro e w1 (⟨hc1, ⟨y, rfl, hy⟩, D1⟩ | ⟨hc1, rfl, W1⟩)
  · obtain rfl : cd1 = 0 := hc1
    obtain ⟨c1, f1⟩ := hcell.out w1 D1.1
    have l1 := cell_lt c1
    replace D1 : Hid (Ds q b w w1 v a1) := D1
    obtain ⟨A, c, rfl, hRt⟩ := hy
    replace hRt : Hid _ := hRt
    clear hcell
    go_wp2_with fail
    go_end0
    exact Or.inl ⟨rfl, rfl, hfin.out w1 _ D1.out ⟨A, c, rfl, hRt.out⟩⟩
  · exact ⟨rfl, Or.inr ⟨hc1, rfl, W1.mono (fun _ _ e => Or.inl e)⟩⟩
theorem fill_5 (hz : v.size ≤ 65536) (hS : Shf b v u) (hp : p < w.heap.size) (hpq : p ≠ q) (hZ : ∀ k, Z k → k ≠ q ∧ k ≠ p) (hC : ModC Z w m L) (h : w.rowIs q 82 2 (dF v b 0)) (hR : Rl w p 34 L) :
    Calls Try.prog 23 #[.pointer (some ⟨p, 0, none⟩), .int .i64 5, .pointer (some ⟨q, 0, none⟩)] w (Fil Z q p b w v ({ m with me := (smems u ⟨0, 0⟩).1 }, (smems u ⟨0, 0⟩).2)) := by
  have hin : Sin u ⟨0, 0⟩ := ⟨Int.le_refl _, by show (0 : Int) ≤ u.size; omega⟩
  have hmf : ∀ (fn : Fn) (first cap : Array Value) (w : World), (Instr.makeFunc fn first cap).run Try.prog w = .ok (.func fn first cap) w := fun _ _ _ _ => rfl
  have hm : Hid (Calls Try.prog 35 #[.pointer (some ⟨q, 0, none⟩), .int .i64 1024, .func (.func 37) #[.pointer (some ⟨q, 0, none⟩)] #[]] w (Got q b w v (pR fLi w.heap.size) (smems u ⟨0, 0⟩))) := mems_any 1024 (by decide) (by omega) hS rfl hin w h
  have hlen := hC.len
  obtain ⟨o, ho⟩ : ∃ o, L[4]? = some o := ⟨L[4], List.getElem?_eq_getElem (by omega)⟩
  have hcell : Hid (∀ w1, Wr (· = q) w w1 → w1.cell? ⟨p, 4, none⟩ = some o ∧ w1.frozen? ⟨p, 4, none⟩ = false) := fun w1 hw => ⟨(Rl.wr hR hw hpq).cell 4 ho, (Rl.wr hR hw hpq).frozen 4⟩
  generalize smems u ⟨0, 0⟩ = K at *
  obtain ⟨xs, a1, cd1⟩ := K
  have hfin : Hid (∀ w1 y, Ds q b w w1 v a1 → pR fLi w.heap.size xs y w1 → ∃ L', Wr (fun k => k = q ∨ k = p) w (w1.setCell ⟨p, 4, none⟩ y) ∧ (w1.setCell ⟨p, 4, none⟩ y).rowIs q 82 2 (dF v b a1) ∧ Rl (w1.setCell ⟨p, 4, none⟩ y) p 34 L' ∧ ModC (fun k => Z k ∨ Zf w.heap.size (w1.setCell ⟨p, 4, none⟩ y) k) (w1.setCell ⟨p, 4, none⟩ y) { m with me := xs } L') := fun w1 y D hy => fil4 hZ hC hR hp hpq D hy
  clear hin hC hR h hS hz hlen ho
  go_enter Try.func23, Try.ntmps23
  go_wp2_with fail
  refine hm.out.mono ?_
  clear hm
  rintro e w1 (⟨hc1, ⟨y, rfl, hy⟩, D1⟩ | ⟨hc1, rfl, W1⟩)
  · obtain rfl : cd1 = 0 := hc1
    obtain ⟨c1, f1⟩ := hcell.out w1 D1.1
    have l1 := cell_lt c1
    replace D1 : Hid (Ds q b w w1 v a1) := D1
    obtain ⟨A, c, rfl, hRt⟩ := hy
    replace hRt : Hid _ := hRt
    clear hcell
    go_wp2_with fail
    go_end0
    exact Or.inl ⟨rfl, rfl, hfin.out w1 _ D1.out ⟨A, c, rfl, hRt.out⟩⟩
  · exact ⟨rfl, Or.inr ⟨hc1, rfl, W1.mono (fun _ _ e => Or.inl e)⟩⟩
theorem fill_6 (hz : v.size ≤ 65536) (hS : Shf b v u) (hp : p < w.heap.size) (hpq : p ≠ q) (hZ : ∀ k, Z k → k ≠ q ∧ k ≠ p) (hC : ModC Z w m L) (h : w.rowIs q 82 2 (dF v b 0)) (hR : Rl w p 34 L) :
    Calls Try.prog 23 #[.pointer (some ⟨p, 0, none⟩), .int .i64 6, .pointer (some ⟨q, 0, none⟩)] w (Fil Z q p b w v ({ m with gl := (sglos u ⟨0, 0⟩).1 }, (sglos u ⟨0, 0⟩).2)) := by
  have hin : Sin u ⟨0, 0⟩ := ⟨Int.le_refl _, by show (0 : Int) ≤ u.size; omega⟩
  have hmf : ∀ (fn : Fn) (first cap : Array Value) (w : World), (Instr.makeFunc fn first cap).run Try.prog w = .ok (.func fn first cap) w := fun _ _ _ _ => rfl
  have hm : Hid (Calls Try.prog 38 #[.pointer (some ⟨q, 0, none⟩), .int .i64 1024, .func (.func 39) #[.pointer (some ⟨q, 0, none⟩)] #[]] w (Got q b w v (pR fGl w.heap.size) (sglos u ⟨0, 0⟩))) := globs_any 1024 (by decide) (by omega) hS rfl hin w h
  have hlen := hC.len
  obtain ⟨o, ho⟩ : ∃ o, L[5]? = some o := ⟨L[5], List.getElem?_eq_getElem (by omega)⟩
  have hcell : Hid (∀ w1, Wr (· = q) w w1 → w1.cell? ⟨p, 5, none⟩ = some o ∧ w1.frozen? ⟨p, 5, none⟩ = false) := fun w1 hw => ⟨(Rl.wr hR hw hpq).cell 5 ho, (Rl.wr hR hw hpq).frozen 5⟩
  generalize sglos u ⟨0, 0⟩ = K at *
  obtain ⟨xs, a1, cd1⟩ := K
  have hfin : Hid (∀ w1 y, Ds q b w w1 v a1 → pR fGl w.heap.size xs y w1 → ∃ L', Wr (fun k => k = q ∨ k = p) w (w1.setCell ⟨p, 5, none⟩ y) ∧ (w1.setCell ⟨p, 5, none⟩ y).rowIs q 82 2 (dF v b a1) ∧ Rl (w1.setCell ⟨p, 5, none⟩ y) p 34 L' ∧ ModC (fun k => Z k ∨ Zf w.heap.size (w1.setCell ⟨p, 5, none⟩ y) k) (w1.setCell ⟨p, 5, none⟩ y) { m with gl := xs } L') := fun w1 y D hy => fil5 hZ hC hR hp hpq D hy
  clear hin hC hR h hS hz hlen ho
  go_enter Try.func23, Try.ntmps23
  go_wp2_with fail
  refine hm.out.mono ?_
  clear hm
  rintro e w1 (⟨hc1, ⟨y, rfl, hy⟩, D1⟩ | ⟨hc1, rfl, W1⟩)
  · obtain rfl : cd1 = 0 := hc1
    obtain ⟨c1, f1⟩ := hcell.out w1 D1.1
    have l1 := cell_lt c1
    replace D1 : Hid (Ds q b w w1 v a1) := D1
    obtain ⟨A, c, rfl, hRt⟩ := hy
    replace hRt : Hid _ := hRt
    clear hcell
    go_wp2_with fail
    go_end0
    exact Or.inl ⟨rfl, rfl, hfin.out w1 _ D1.out ⟨A, c, rfl, hRt.out⟩⟩
  · exact ⟨rfl, Or.inr ⟨hc1, rfl, W1.mono (fun _ _ e => Or.inl e)⟩⟩
theorem fill_7 (hz : v.size ≤ 65536) (hS : Shf b v u) (hp : p < w.heap.size) (hpq : p ≠ q) (hZ : ∀ k, Z k → k ≠ q ∧ k ≠ p) (hC : ModC Z w m L) (h : w.rowIs q 82 2 (dF v b 0)) (hR : Rl w p 34 L) :
    Calls Try.prog 23 #[.pointer (some ⟨p, 0, none⟩), .int .i64 7, .pointer (some ⟨q, 0, none⟩)] w (Fil Z q p b w v ({ m with ex := (sexps u ⟨0, 0⟩).1 }, (sexps u ⟨0, 0⟩).2)) := by
  have hin : Sin u ⟨0, 0⟩ := ⟨Int.le_refl _, by show (0 : Int) ≤ u.size; omega⟩
  have hmf : ∀ (fn : Fn) (first cap : Array Value) (w : World), (Instr.makeFunc fn first cap).run Try.prog w = .ok (.func fn first cap) w := fun _ _ _ _ => rfl
  have hm : Hid (Calls Try.prog 40 #[.pointer (some ⟨q, 0, none⟩), .int .i64 1024, .func (.func 41) #[.pointer (some ⟨q, 0, none⟩)] #[]] w (Got q b w v (pR fEx w.heap.size) (sexps u ⟨0, 0⟩))) := exps_any 1024 (by decide) (by omega) hS rfl hin w h
  have hlen := hC.len
  obtain ⟨o, ho⟩ : ∃ o, L[6]? = some o := ⟨L[6], List.getElem?_eq_getElem (by omega)⟩
  have hcell : Hid (∀ w1, Wr (· = q) w w1 → w1.cell? ⟨p, 6, none⟩ = some o ∧ w1.frozen? ⟨p, 6, none⟩ = false) := fun w1 hw => ⟨(Rl.wr hR hw hpq).cell 6 ho, (Rl.wr hR hw hpq).frozen 6⟩
  generalize sexps u ⟨0, 0⟩ = K at *
  obtain ⟨xs, a1, cd1⟩ := K
  have hfin : Hid (∀ w1 y, Ds q b w w1 v a1 → pR fEx w.heap.size xs y w1 → ∃ L', Wr (fun k => k = q ∨ k = p) w (w1.setCell ⟨p, 6, none⟩ y) ∧ (w1.setCell ⟨p, 6, none⟩ y).rowIs q 82 2 (dF v b a1) ∧ Rl (w1.setCell ⟨p, 6, none⟩ y) p 34 L' ∧ ModC (fun k => Z k ∨ Zf w.heap.size (w1.setCell ⟨p, 6, none⟩ y) k) (w1.setCell ⟨p, 6, none⟩ y) { m with ex := xs } L') := fun w1 y D hy => fil6 hZ hC hR hp hpq D hy
  clear hin hC hR h hS hz hlen ho
  go_enter Try.func23, Try.ntmps23
  go_wp2_with fail
  refine hm.out.mono ?_
  clear hm
  rintro e w1 (⟨hc1, ⟨y, rfl, hy⟩, D1⟩ | ⟨hc1, rfl, W1⟩)
  · obtain rfl : cd1 = 0 := hc1
    obtain ⟨c1, f1⟩ := hcell.out w1 D1.1
    have l1 := cell_lt c1
    replace D1 : Hid (Ds q b w w1 v a1) := D1
    obtain ⟨A, c, rfl, hRt⟩ := hy
    replace hRt : Hid _ := hRt
    clear hcell
    go_wp2_with fail
    go_end0
    exact Or.inl ⟨rfl, rfl, hfin.out w1 _ D1.out ⟨A, c, rfl, hRt.out⟩⟩
  · exact ⟨rfl, Or.inr ⟨hc1, rfl, W1.mono (fun _ _ e => Or.inl e)⟩⟩
theorem fill_8 (hz : v.size ≤ 65536) (hS : Shf b v u) (hp : p < w.heap.size) (hpq : p ≠ q) (hZ : ∀ k, Z k → k ≠ q ∧ k ≠ p) (hC : ModC Z w m L) (h : w.rowIs q 82 2 (dF v b 0)) (hR : Rl w p 34 L) :
    Calls Try.prog 23 #[.pointer (some ⟨p, 0, none⟩), .int .i64 8, .pointer (some ⟨q, 0, none⟩)] w (Fil Z q p b w v ({ m with st := (snum u ⟨0, 0⟩).1 }, (snum u ⟨0, 0⟩).2)) := by
  have hin : Sin u ⟨0, 0⟩ := ⟨Int.le_refl _, by show (0 : Int) ≤ u.size; omega⟩
  have hmf : ∀ (fn : Fn) (first cap : Array Value) (w : World), (Instr.makeFunc fn first cap).run Try.prog w = .ok (.func fn first cap) w := fun _ _ _ _ => rfl
  have hm : Hid (Calls Try.prog 34 #[.pointer (some ⟨q, 0, none⟩)] w (Got q b w v (pN) (snum u ⟨0, 0⟩))) := number_any (by omega) hS rfl hin w h
  have hlen := hC.len
  obtain ⟨o, ho⟩ : ∃ o, L[7]? = some o := ⟨L[7], List.getElem?_eq_getElem (by omega)⟩
  have hcell : Hid (∀ w1, Wr (· = q) w w1 → w1.cell? ⟨p, 7, none⟩ = some o ∧ w1.frozen? ⟨p, 7, none⟩ = false) := fun w1 hw => ⟨(Rl.wr hR hw hpq).cell 7 ho, (Rl.wr hR hw hpq).frozen 7⟩
  generalize snum u ⟨0, 0⟩ = K at *
  obtain ⟨xs, a1, cd1⟩ := K
  have hfin : Hid (∀ w1 y, Ds q b w w1 v a1 → pN xs y w1 → ∃ L', Wr (fun k => k = q ∨ k = p) w (w1.setCell ⟨p, 7, none⟩ y) ∧ (w1.setCell ⟨p, 7, none⟩ y).rowIs q 82 2 (dF v b a1) ∧ Rl (w1.setCell ⟨p, 7, none⟩ y) p 34 L' ∧ ModC (fun k => Z k ∨ Zf w.heap.size (w1.setCell ⟨p, 7, none⟩ y) k) (w1.setCell ⟨p, 7, none⟩ y) { m with st := xs } L') := fun w1 y D hy => fil7 hZ hC hR hp hpq D hy
  clear hin hC hR h hS hz hlen ho
  go_enter Try.func23, Try.ntmps23
  go_wp2_with fail
  refine hm.out.mono ?_
  clear hm
  rintro e w1 (⟨hc1, ⟨y, rfl, hy⟩, D1⟩ | ⟨hc1, rfl, W1⟩)
  · obtain rfl : cd1 = 0 := hc1
    obtain ⟨c1, f1⟩ := hcell.out w1 D1.1
    have l1 := cell_lt c1
    replace D1 : Hid (Ds q b w w1 v a1) := D1
    obtain rfl : y = .int .i64 xs := hy
    clear hcell
    go_wp2_with fail
    go_end0
    exact Or.inl ⟨rfl, rfl, hfin.out w1 _ D1.out rfl⟩
  · exact ⟨rfl, Or.inr ⟨hc1, rfl, W1.mono (fun _ _ e => Or.inl e)⟩⟩
theorem fill_9 (hz : v.size ≤ 65536) (hS : Shf b v u) (hp : p < w.heap.size) (hpq : p ≠ q) (hZ : ∀ k, Z k → k ≠ q ∧ k ≠ p) (hC : ModC Z w m L) (h : w.rowIs q 82 2 (dF v b 0)) (hR : Rl w p 34 L) :
    Calls Try.prog 23 #[.pointer (some ⟨p, 0, none⟩), .int .i64 9, .pointer (some ⟨q, 0, none⟩)] w (Fil Z q p b w v ({ m with el := (selms u ⟨0, 0⟩).1 }, (selms u ⟨0, 0⟩).2)) := by
  have hin : Sin u ⟨0, 0⟩ := ⟨Int.le_refl _, by show (0 : Int) ≤ u.size; omega⟩
  have hmf : ∀ (fn : Fn) (first cap : Array Value) (w : World), (Instr.makeFunc fn first cap).run Try.prog w = .ok (.func fn first cap) w := fun _ _ _ _ => rfl
  have hm : Hid (Calls Try.prog 42 #[.pointer (some ⟨q, 0, none⟩), .int .i64 1024, .func (.func 43) #[.pointer (some ⟨q, 0, none⟩)] #[]] w (Got q b w v (pR fEl w.heap.size) (selms u ⟨0, 0⟩))) := elems_any 1024 (by decide) (by omega) hS rfl hin w h
  have hlen := hC.len
  obtain ⟨o, ho⟩ : ∃ o, L[8]? = some o := ⟨L[8], List.getElem?_eq_getElem (by omega)⟩
  have hcell : Hid (∀ w1, Wr (· = q) w w1 → w1.cell? ⟨p, 8, none⟩ = some o ∧ w1.frozen? ⟨p, 8, none⟩ = false) := fun w1 hw => ⟨(Rl.wr hR hw hpq).cell 8 ho, (Rl.wr hR hw hpq).frozen 8⟩
  generalize selms u ⟨0, 0⟩ = K at *
  obtain ⟨xs, a1, cd1⟩ := K
  have hfin : Hid (∀ w1 y, Ds q b w w1 v a1 → pR fEl w.heap.size xs y w1 → ∃ L', Wr (fun k => k = q ∨ k = p) w (w1.setCell ⟨p, 8, none⟩ y) ∧ (w1.setCell ⟨p, 8, none⟩ y).rowIs q 82 2 (dF v b a1) ∧ Rl (w1.setCell ⟨p, 8, none⟩ y) p 34 L' ∧ ModC (fun k => Z k ∨ Zf w.heap.size (w1.setCell ⟨p, 8, none⟩ y) k) (w1.setCell ⟨p, 8, none⟩ y) { m with el := xs } L') := fun w1 y D hy => fil8 hZ hC hR hp hpq D hy
  clear hin hC hR h hS hz hlen ho
  go_enter Try.func23, Try.ntmps23
  go_wp2_with fail
  refine hm.out.mono ?_
  clear hm
  rintro e w1 (⟨hc1, ⟨y, rfl, hy⟩, D1⟩ | ⟨hc1, rfl, W1⟩)
  · obtain rfl : cd1 = 0 := hc1
    obtain ⟨c1, f1⟩ := hcell.out w1 D1.1
    have l1 := cell_lt c1
    replace D1 : Hid (Ds q b w w1 v a1) := D1
    obtain ⟨A, c, rfl, hRt⟩ := hy
    replace hRt : Hid _ := hRt
    clear hcell
    go_wp2_with fail
    go_end0
    exact Or.inl ⟨rfl, rfl, hfin.out w1 _ D1.out ⟨A, c, rfl, hRt.out⟩⟩
  · exact ⟨rfl, Or.inr ⟨hc1, rfl, W1.mono (fun _ _ e => Or.inl e)⟩⟩
theorem fill_10 (hz : v.size ≤ 65536) (hS : Shf b v u) (hp : p < w.heap.size) (hpq : p ≠ q) (hZ : ∀ k, Z k → k ≠ q ∧ k ≠ p) (hC : ModC Z w m L) (h : w.rowIs q 82 2 (dF v b 0)) (hR : Rl w p 34 L) :
    Calls Try.prog 23 #[.pointer (some ⟨p, 0, none⟩), .int .i64 10, .pointer (some ⟨q, 0, none⟩)] w (Fil Z q p b w v ({ m with co := (scodes u ⟨0, 0⟩).1 }, (scodes u ⟨0, 0⟩).2)) := by
  have hin : Sin u ⟨0, 0⟩ := ⟨Int.le_refl _, by show (0 : Int) ≤ u.size; omega⟩
  have hmf : ∀ (fn : Fn) (first cap : Array Value) (w : World), (Instr.makeFunc fn first cap).run Try.prog w = .ok (.func fn first cap) w := fun _ _ _ _ => rfl
  have hm : Hid (Calls Try.prog 44 #[.pointer (some ⟨q, 0, none⟩), .int .i64 256, .func (.func 45) #[.pointer (some ⟨q, 0, none⟩)] #[]] w (Got q b w v (pR fCo w.heap.size) (scodes u ⟨0, 0⟩))) := codes_any 256 (by decide) (by omega) hS rfl hin w h
  have hlen := hC.len
  obtain ⟨o, ho⟩ : ∃ o, L[9]? = some o := ⟨L[9], List.getElem?_eq_getElem (by omega)⟩
  have hcell : Hid (∀ w1, Wr (· = q) w w1 → w1.cell? ⟨p, 9, none⟩ = some o ∧ w1.frozen? ⟨p, 9, none⟩ = false) := fun w1 hw => ⟨(Rl.wr hR hw hpq).cell 9 ho, (Rl.wr hR hw hpq).frozen 9⟩
  generalize scodes u ⟨0, 0⟩ = K at *
  obtain ⟨xs, a1, cd1⟩ := K
  have hfin : Hid (∀ w1 y, Ds q b w w1 v a1 → pR fCo w.heap.size xs y w1 → ∃ L', Wr (fun k => k = q ∨ k = p) w (w1.setCell ⟨p, 9, none⟩ y) ∧ (w1.setCell ⟨p, 9, none⟩ y).rowIs q 82 2 (dF v b a1) ∧ Rl (w1.setCell ⟨p, 9, none⟩ y) p 34 L' ∧ ModC (fun k => Z k ∨ Zf w.heap.size (w1.setCell ⟨p, 9, none⟩ y) k) (w1.setCell ⟨p, 9, none⟩ y) { m with co := xs } L') := fun w1 y D hy => fil9 hZ hC hR hp hpq D hy
  clear hin hC hR h hS hz hlen ho
  go_enter Try.func23, Try.ntmps23
  go_wp2_with fail
  refine hm.out.mono ?_
  clear hm
  rintro e w1 (⟨hc1, ⟨y, rfl, hy⟩, D1⟩ | ⟨hc1, rfl, W1⟩)
  · obtain rfl : cd1 = 0 := hc1
    obtain ⟨c1, f1⟩ := hcell.out w1 D1.1
    have l1 := cell_lt c1
    replace D1 : Hid (Ds q b w w1 v a1) := D1
    obtain ⟨A, c, rfl, hRt⟩ := hy
    replace hRt : Hid _ := hRt
    clear hcell
    go_wp2_with fail
    go_end0
    exact Or.inl ⟨rfl, rfl, hfin.out w1 _ D1.out ⟨A, c, rfl, hRt.out⟩⟩
  · exact ⟨rfl, Or.inr ⟨hc1, rfl, W1.mono (fun _ _ e => Or.inl e)⟩⟩
theorem fill_11 (hz : v.size ≤ 65536) (hS : Shf b v u) (hp : p < w.heap.size) (hpq : p ≠ q) (hZ : ∀ k, Z k → k ≠ q ∧ k ≠ p) (hC : ModC Z w m L) (h : w.rowIs q 82 2 (dF v b 0)) (hR : Rl w p 34 L) :
    Calls Try.prog 23 #[.pointer (some ⟨p, 0, none⟩), .int .i64 11, .pointer (some ⟨q, 0, none⟩)] w (Fil Z q p b w v ({ m with da := (sdats u ⟨0, 0⟩).1 }, (sdats u ⟨0, 0⟩).2)) := by
  have hin : Sin u ⟨0, 0⟩ := ⟨Int.le_refl _, by show (0 : Int) ≤ u.size; omega⟩
  have hmf : ∀ (fn : Fn) (first cap : Array Value) (w : World), (Instr.makeFunc fn first cap).run Try.prog w = .ok (.func fn first cap) w := fun _ _ _ _ => rfl
  have hm : Hid (Calls Try.prog 46 #[.pointer (some ⟨q, 0, none⟩), .int .i64 1024, .func (.func 47) #[.pointer (some ⟨q, 0, none⟩)] #[]] w (Got q b w v (pR fDa w.heap.size) (sdats u ⟨0, 0⟩))) := datas_any hz 1024 (by decide) (by omega) hS rfl hin w h
  have hlen := hC.len
  obtain ⟨o, ho⟩ : ∃ o, L[10]? = some o := ⟨L[10], List.getElem?_eq_getElem (by omega)⟩
  have hcell : Hid (∀ w1, Wr (· = q) w w1 → w1.cell? ⟨p, 10, none⟩ = some o ∧ w1.frozen? ⟨p, 10, none⟩ = false) := fun w1 hw => ⟨(Rl.wr hR hw hpq).cell 10 ho, (Rl.wr hR hw hpq).frozen 10⟩
  generalize sdats u ⟨0, 0⟩ = K at *
  obtain ⟨xs, a1, cd1⟩ := K
  have hfin : Hid (∀ w1 y, Ds q b w w1 v a1 → pR fDa w.heap.size xs y w1 → ∃ L', Wr (fun k => k = q ∨ k = p) w (w1.setCell ⟨p, 10, none⟩ y) ∧ (w1.setCell ⟨p, 10, none⟩ y).rowIs q 82 2 (dF v b a1) ∧ Rl (w1.setCell ⟨p, 10, none⟩ y) p 34 L' ∧ ModC (fun k => Z k ∨ Zf w.heap.size (w1.setCell ⟨p, 10, none⟩ y) k) (w1.setCell ⟨p, 10, none⟩ y) { m with da := xs } L') := fun w1 y D hy => fil10 hZ hC hR hp hpq D hy
  clear hin hC hR h hS hz hlen ho
  go_enter Try.func23, Try.ntmps23
  go_wp2_with fail
  refine hm.out.mono ?_
  clear hm
  rintro e w1 (⟨hc1, ⟨y, rfl, hy⟩, D1⟩ | ⟨hc1, rfl, W1⟩)
  · obtain rfl : cd1 = 0 := hc1
    obtain ⟨c1, f1⟩ := hcell.out w1 D1.1
    have l1 := cell_lt c1
    replace D1 : Hid (Ds q b w w1 v a1) := D1
    obtain ⟨A, c, rfl, hRt⟩ := hy
    replace hRt : Hid _ := hRt
    clear hcell
    go_wp2_with fail
    go_end0
    exact Or.inl ⟨rfl, rfl, hfin.out w1 _ D1.out ⟨A, c, rfl, hRt.out⟩⟩
  · exact ⟨rfl, Or.inr ⟨hc1, rfl, W1.mono (fun _ _ e => Or.inl e)⟩⟩
theorem fill_0 (hz : v.size ≤ 65536) (hS : Shf b v u) (hp : p < w.heap.size) (hpq : p ≠ q) (hZ : ∀ k, Z k → k ≠ q ∧ k ≠ p) (hC : ModC Z w m L) (h : w.rowIs q 82 2 (dF v b 0)) (hR : Rl w p 34 L) :
    Calls Try.prog 23 #[.pointer (some ⟨p, 0, none⟩), .int .i64 0, .pointer (some ⟨q, 0, none⟩)] w (Fil Z q p b w v (m, ⟨(u.size : Int), (sname u ⟨0, 0⟩).2.code⟩)) := by
  have hm : Hid (Calls Try.prog 28 #[.pointer (some ⟨q, 0, none⟩)] w (Got q b w v pU ((), ⟨(u.size : Int), (sname u ⟨0, 0⟩).2.code⟩))) := custom_any (by omega) hS w h
  generalize (sname u ⟨0, 0⟩).2.code = cd at *
  have hfin : Hid (∀ w1, Ds q b w w1 v (u.size : Int) → ∃ L', Wr (fun k => k = q ∨ k = p) w w1 ∧ w1.rowIs q 82 2 (dF v b (u.size : Int)) ∧ Rl w1 p 34 L' ∧ ModC (fun k => Z k ∨ Zf w.heap.size w1 k) w1 m L') := fun w1 D => ⟨L, D.1.mono (fun _ _ e => Or.inl e), D.2, Rl.wr hR D.1 hpq, hC.move (fun k hk hl => ⟨Or.inl hk, D.1.block k hl (fun e => (hZ k hk).1 e)⟩)⟩
  clear hC hR h hS hz
  go_enter Try.func23, Try.ntmps23
  go_wp2_with fail
  refine hm.out.mono ?_
  clear hm
  rintro e w1 (⟨hc1, ⟨y, rfl, hy⟩, D1⟩ | ⟨hc1, rfl, W1⟩)
  · obtain rfl : cd = 0 := hc1
    replace D1 : Hid (Ds q b w w1 v (u.size : Int)) := D1
    go_wp2_with fail
    go_end0
    exact Or.inl ⟨rfl, rfl, hfin.out w1 D1.out⟩
  · exact ⟨rfl, Or.inr ⟨hc1, rfl, W1.mono (fun _ _ e => Or.inl e)⟩⟩
/-- a section's content, as it is filled in -/
def sfill (u : ByteArray) (id : Int) (m : Md) : Md × Sst := if id = 0 then (m, ⟨(u.size : Int), (sname u ⟨0, 0⟩).2.code⟩) else ssec u id m
theorem fill_any (id : Nat) (hid : id ≤ 11) (hz : v.size ≤ 65536) (hS : Shf b v u) (hp : p < w.heap.size) (hpq : p ≠ q) (hZ : ∀ k, Z k → k ≠ q ∧ k ≠ p) (hC : ModC Z w m L) (h : w.rowIs q 82 2 (dF v b 0)) (hR : Rl w p 34 L) :
    Calls Try.prog 23 #[.pointer (some ⟨p, 0, none⟩), .int .i64 (id : Int), .pointer (some ⟨q, 0, none⟩)] w (Fil Z q p b w v (sfill u (id : Int) m)) := by
  obtain rfl | rfl | rfl | rfl | rfl | rfl | rfl | rfl | rfl | rfl | rfl | rfl : id = 0 ∨ id = 1 ∨ id = 2 ∨ id = 3 ∨ id = 4 ∨ id = 5 ∨ id = 6 ∨ id = 7 ∨ id = 8 ∨ id = 9 ∨ id = 10 ∨ id = 11 := by omega
  · exact fill_0 hz hS hp hpq hZ hC h hR
  · exact fill_1 hz hS hp hpq hZ hC h hR
  · exact fill_2 hz hS hp hpq hZ hC h hR
  · exact fill_3 hz hS hp hpq hZ hC h hR
  · exact fill_4 hz hS hp hpq hZ hC h hR
  · exact fill_5 hz hS hp hpq hZ hC h hR
  · exact fill_6 hz hS hp hpq hZ hC h hR
  · exact fill_7 hz hS hp hpq hZ hC h hR
  · exact fill_8 hz hS hp hpq hZ hC h hR
  · exact fill_9 hz hS hp hpq hZ hC h hR
  · exact fill_10 hz hS hp hpq hZ hC h hR
  · exact fill_11 hz hS hp hpq hZ hC h hR
end Go.Proofs.Ytngciahmoenkiab
