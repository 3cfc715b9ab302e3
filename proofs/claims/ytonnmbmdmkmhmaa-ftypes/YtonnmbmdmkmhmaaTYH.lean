/- Rows made in a struct's fields, one struct after the other. -/
import Derived.Test.YtonnmbmdmkmhmaaTYG
import Derived.Test.YtonnmbmdmkmhmaaXQ
set_option linter.unusedVariables false
set_option linter.unusedSimpArgs false
set_option maxRecDepth 100000
set_option maxHeartbeats 4000000
namespace Go.Proofs.Ytonnmbmdmkmhmaa
open Go.RowKit
theorem own : ownKnob Try.prog.godebug = none := by kernel_rfl
theorem wf_i64 {a : Int} (h : (Lit.int .i64 a).wf = true) : -9223372036854775808 ≤ a ∧ a ≤ 9223372036854775807 := by
  simp only [Lit.wf, IntKind.min, IntKind.max, IntKind.signed, IntKind.bits, Bool.and_eq_true, decide_eq_true_eq, if_true] at h
  omega
/-- a row being made in a struct's field: of what was there only the struct turned -/
def Lf {α : Type} (f : α → List Fd) (e : TypeId) (k q j : Nat) (T : TypeId) (w wr : World) (L : List Value) (v : Value) (d : List α) : Prop := Wr (fun k => k = q) w wr ∧ Rl wr q T (L.set j v) ∧ Mk f w.heap.size e k wr v d
section
variable {q j k by_ : Nat} {L : List Value} {w wr w3 : World} {e t T : TypeId} {v : Value}
theorem Lf.start {α : Type} {f : α → List Fd} (h : Rl w q T L) (hj : L[j]? = some (.slice none 0 0)) : Lf f e k q j T w w L (.slice none 0 0) ([] : List α) := by
  refine ⟨Wr.refl _ _, ?_, Mk.start _⟩
  rwa [show L.set j (.slice none 0 0) = L from ?_]
  apply List.ext_getElem?
  intro i
  rw [List.getElem?_set]
  split
  · rename_i e
    subst e
    rw [if_pos (List.getElem?_eq_some_iff.1 hj).1, hj]
  · rfl
theorem Lf.cell {α : Type} {f : α → List Fd} {d : List α} (h : Lf f e k q j T w wr L v d) (hj : j < L.length) : wr.cell? ⟨q, j, none⟩ = some v ∧ q < wr.heap.size := ⟨h.2.1.cell j (by simp [hj]), h.2.1.lt⟩
/-- one struct more -/
theorem Lf.more {α : Type} {f : α → List Fd} {d : List α} (h : Lf f e k q j T w wr L v d) (hq : q < w.heap.size) (hj : j < L.length) (hT : Ti t e k by_) (ty : TypeId) (x : α) (hf : (f x).length = k) (c : List Value) (hn : (d.length + 1) * by_ ≤ 140737488355328) (h63 : d.length + 1 ≤ 9000000000000000000) (hl : Later wr w3) (hc : itc (wr.heap.size ≤ ·) w3 (f x) c) :
    ∃ g cap w', (Builtin.append_ #[t, t] ty #[v, .slice (some ⟨w3.heap.size, 0, none⟩) 1 1]).run Try.prog (w3.alloc (.cells c.toArray e)) = .ok (.slice (some ⟨g, 0, none⟩) (d.length + 1) cap) w' ∧ (w'.cell? ⟨q, j, none⟩ = some v ∧ w'.frozen? ⟨q, j, none⟩ = false ∧ q < w'.heap.size) ∧ Wr (w.heap.size ≤ ·) w3 w' ∧ Lf f e k q j T w (w'.setCell ⟨q, j, none⟩ (.slice (some ⟨g, 0, none⟩) (d.length + 1) cap)) L (.slice (some ⟨g, 0, none⟩) (d.length + 1) cap) (d ++ [x]) := by
  obtain ⟨hW, hL, hM⟩ := h
  obtain ⟨g, cap, w', r, M', V'⟩ := hM.more (w := w3) hT ty hW.size hl.size (fun i hi hl2 => hl.block hl2) x hf c hc hn h63
  have hv : (L.set j v)[j]? = some v := by simp [hj]
  have L4 := (hL.later hl).wr V' (fun e => by have e : w.heap.size ≤ q := e; omega)
  refine ⟨g, cap, w', r, ⟨L4.cell j hv, L4.frozen j, L4.lt⟩, V', ?_, ?_, ?_⟩
  · exact Wr.set ((hW.ltr hl).above V' (Nat.le_refl _)) j _ (Or.inl rfl)
  · have := L4.set j (.slice (some ⟨g, 0, none⟩) (d.length + 1) cap)
    rwa [List.set_set] at this
  · exact M'.wr ((Wr.refl (fun i => i < w.heap.size) w').set j _ (Or.inl hq)) (fun _ e => e)
theorem Lf.low {α : Type} {f : α → List Fd} {d : List α} (h : Lf f e k q j T w wr L v d) {w0 : World} (hl : Later w0 w) (hq : w0.heap.size ≤ q) : Later w0 wr := by
  have h1 : Wr (fun k => k = q) w0 wr := (Wr.of_later hl).trans h.1
  exact h1.later fun k e => by have e : k = q := e; omega
end
theorem and_n (x : Int) (j : Nat) (hj : j < 63) : ∃ i : Nat, bits .and .i64 x ((2 ^ j : Nat) - 1 : Int) = (i : Int) ∧ i < 2 ^ j := by
  rw [BM.and_mask x j hj]
  have h1 : 0 < ((2 ^ j : Nat) : Int) := by have := Nat.two_pow_pos j; omega
  refine ⟨(x % (2 ^ j : Nat)).toNat, ?_, ?_⟩
  · rw [Int.toNat_of_nonneg (Int.emod_nonneg _ (by omega))]
  · have := Int.emod_lt_of_pos x h1
    have := Int.emod_nonneg x (show ((2 ^ j : Nat) : Int) ≠ 0 by omega)
    omega
end Go.Proofs.Ytonnmbmdmkmhmaa
