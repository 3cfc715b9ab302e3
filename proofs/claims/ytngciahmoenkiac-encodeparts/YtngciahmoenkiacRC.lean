/- package instr's Count, over the row of instructions. -/
import Derived.Test.YtngciahmoenkiacRW
import Derived.Test.YtngciahmoenkiacIP
set_option linter.unusedVariables false
set_option linter.unusedSimpArgs false
set_option maxRecDepth 100000
set_option maxHeartbeats 8000000
namespace Go.Proofs.Ytngciahmoenkiac.rw
open Go.RowKit Go.Shelf
attribute [local go_sem] Oper.semAt_some
theorem later_bel {w w' : World} (h : Bel w.heap.size w w') : Later w w' := by
  refine ⟨w'.heap.extract w.heap.size w'.heap.size, w'.drawn - w.drawn, ?_⟩
  obtain ⟨⟨h1, h2, h3, h4, h5⟩, hd⟩ := h
  have hh : w'.heap = w.heap ++ w'.heap.extract w.heap.size w'.heap.size := by
    apply Array.ext_getElem?
    intro k
    rcases Nat.lt_or_ge k w.heap.size with hk | hk
    · rw [Array.getElem?_append_left hk, h5 k hk]
    · rw [Array.getElem?_append_right hk, Array.getElem?_extract]
      by_cases hk2 : k < w'.heap.size
      · rw [if_pos (by omega)]
        congr 1
        omega
      · rw [if_neg (by omega)]
        exact Array.getElem?_eq_none (by omega)
  have hd2 : w'.drawn = w.drawn + (w'.drawn - w.drawn) := by omega
  generalize w'.drawn - w.drawn = n at *
  clear hd
  cases w'
  simp only at h1 h2 h3 hd2 hh
  subst h1 h2 h3 hd2
  unfold World.far
  rw [← hh]
theorem bel_later {w w' : World} (h : Later w w') : Bel w.heap.size w w' := by
  have hg := h.grownBy none
  refine ⟨⟨hg.os, hg.tape, hg.output, hg.size, fun k hk => h.block hk⟩, ?_⟩
  obtain ⟨bs, n, rfl⟩ := h
  exact Nat.le_add_right _ _
/-- the document's row is this one, cut -/
def stp (k : Nk) : Stp := (k.deep, k.op, k.a, k.bo.len)
theorem al_sq : ∀ (f : Fs) (d : Int) (out : List Stp), out.length ≤ 8193 → al f d out = out ++ ((sq f d).take (8193 - out.length)).map stp
  | ⟨none⟩, d, out, h => by simp [al, sq]
  | ⟨some (op, a, b, bi, ty, ls, bo, el, r)⟩, d, out, h => by
    unfold al sq
    split
    · rename_i h1
      have e1 := al_sq bo (d + 1) (out ++ [(d, op, a, bo.len)]) (by simp; omega)
      have l1 := al_len bo (d + 1) (out ++ [(d, op, a, bo.len)]) (by simp; omega)
      have e2 := al_sq el (d + 1) _ l1.2
      have l2 := al_len el (d + 1) _ l1.2
      have e3 := al_sq r d _ l2.2
      have n1 : 8193 - (al bo (d + 1) (out ++ [(d, op, a, bo.len)])).length = 8193 - out.length - 1 - (sq bo (d + 1)).length := by rw [e1]; simp; omega
      have n2 : 8193 - (al el (d + 1) (al bo (d + 1) (out ++ [(d, op, a, bo.len)]))).length = 8193 - out.length - 1 - (sq bo (d + 1)).length - (sq el (d + 1)).length := by rw [e2, List.length_append, List.length_map, List.length_take]; omega
      rw [e3, n2, e2, n1, e1]
      rw [show 8193 - (out ++ [(d, op, a, bo.len)]).length = 8193 - out.length - 1 by simp; omega]
      obtain ⟨j, hj⟩ : ∃ j, 8193 - out.length = j + 1 := ⟨8193 - out.length - 1, by omega⟩
      rw [hj]
      simp only [Nat.add_sub_cancel, List.take_succ_cons, List.map_cons, List.take_append, List.map_append, List.append_assoc, List.singleton_append, List.cons_append, List.nil_append, stp]
    · rename_i h1
      rw [show 8193 - out.length = 0 by omega]
      simp
end Go.Proofs.Ytngciahmoenkiac.rw
