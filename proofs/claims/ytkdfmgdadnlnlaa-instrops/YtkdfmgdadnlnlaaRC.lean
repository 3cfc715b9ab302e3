/- package instr's Count, over the row of instructions. -/
import Derived.Test.YtkdfmgdadnlnlaaRW
import Derived.Test.YtkdfmgdadnlnlaaIP
set_option linter.unusedVariables false
set_option linter.unusedSimpArgs false
set_option maxRecDepth 100000
set_option maxHeartbeats 8000000
namespace Go.Proofs.Ytkdfmgdadnlnlaa.rw
open Go.RowKit Go.Shelf
attribute [local go_sem] Oper.semAt_some
theorem later_bel {w w' : World} (h : Bel w.heap.size w w') : Later w w' := by
  refine ⟨w'.heap.extract w.heap.size w'.heap.size, w'.drawn - w.drawn, ?_⟩
  obtain ⟨⟨h1, h2, h3, h4, h5⟩, hd⟩ := h
  have hh : w'.heap = w.heap ++ w'.heap.extract w.heap.size w'.heap.size := by
    apply Array.ext_getElem?
    intro k
    rcases Nat.lt_or_ge k w.heap.size with hk | hk
    · rw [Array.getElem?_append_left hk, h5 k hk]
    · rw [Array.getElem?_append_right hk, Array.getElem?_extract]
      by_cases hk2 : k < w'.heap.size
      · rw [if_pos (by omega)]
        congr 1
        omega
      · rw [if_neg (by omega)]
        exact Array.getElem?_eq_none (by omega)
  have hd2 : w'.drawn = w.drawn + (w'.drawn - w.drawn) := by omega
  generalize w'.drawn - w.drawn = n at *
  clear hd
  cases w'
  simp only at h1 h2 h3 hd2 hh
  subst h1 h2 h3 hd2
  unfold World.far
  rw [← hh]
theorem bel_later {w w' : World} (h : Later w w') : Bel w.heap.size w w' := by
  have hg := h.grownBy none
  refine ⟨⟨hg.os, hg.tape, hg.output, hg.size, fun k hk => h.block hk⟩, ?_⟩
  obtain ⟨bs, n, rfl⟩ := h
  exact Nat.le_add_right _ _
/-- the document's row is this one, cut -/
def stp (k : Nk) : Stp := (k.deep, k.op, k.a, k.bo.len)
theorem al_sq : ∀ (f : Fs) (d : Int) (out : List Stp), out.length ≤ 8193 → al f d out = out ++ ((sq f d).take (8193 - out.length)).map stp
  | ⟨none⟩, d, out, h => by simp [al, sq]
  | ⟨some (op, a, b, bi, ty, ls, bo, el, r)⟩, d, out, h => by
    unfold al sq
    split
    · rename_i h1
      have e1 := al_sq bo (d + 1) (out ++ [(d, op, a, bo.len)]) (by simp; omega)
      have l1 := al_len bo (d + 1) (out ++ [(d, op, a, bo.len)]) (by simp; omega)
      have e2 := al_sq el (d + 1) _ l1.2
      have l2 := al_len el (d + 1) _ l1.2
      have e3 := al_sq r d _ l2.2
      have n1 : 8193 - (al bo (d + 1) (out ++ [(d, op, a, bo.len)])).length = 8193 - out.length - 1 - (sq bo (d + 1)).length := by rw [e1]; simp; omega
      have n2 : 8193 - (al el (d + 1) (al bo (d + 1) (out ++ [(d, op, a, bo.len)]))).length = 8193 - out.length - 1 - (sq bo (d + 1)).length - (sq el (d + 1)).length := by rw [e2, List.length_append, List.length_map, List.length_take]; omega
      rw [e3, n2, e2, n1, e1]
      rw [show 8193 - (out ++ [(d, op, a, bo.len)]).length = 8193 - out.length - 1 by simp; omega]
      obtain ⟨j, hj⟩ : ∃ j, 8193 - out.length = j + 1 := ⟨8193 - out.length - 1, by omega⟩
      rw [hj]
      simp only [Nat.add_sub_cancel, List.take_succ_cons, List.map_cons, List.take_append, List.map_append, List.append_assoc, List.singleton_append, List.cons_append, List.nil_append, stp]
    · rename_i h1
      rw [show 8193 - out.length = 0 by omega]
      simp
theorem icount_any (f : Fs) (ho : f.Ok) (hn : f.len * 112 ≤ 140737488351232) (Z : Nat → Prop) (w : World) (A : Option Addr) (c : Nat) (hT : Tr Z w A f) :
    Calls Try.prog 13 #[.slice A f.len c] w fun e w' => e = .returned (.int .i64 ((al f 0 []).length : Nat)) ∧ Hid (Later w w') := by
  -- the blocks that matter lie in w
  have hT2 : Tr (fun k => Z k ∧ k < w.heap.size) w A f := hT.move (fun k hk hl => ⟨⟨hk, hl⟩, rfl⟩)
  have hal : (al f 0 []).length = ((sq f 0).take 8193).length := by rw [al_sq f 0 [] (by simp)]; simp
  rw [hal]
  obtain ⟨W1, hW1⟩ : ∃ W1, (w.alloc (.cells #[.int .i64 0] 3)).alloc (.cells #[.slice A f.len c] 22) = W1 := ⟨_, rfl⟩
  have hb1 : Bel w.heap.size w W1 := by rw [← hW1]; exact ((Bel.refl _ w).alloc (Nat.le_refl _) _).alloc (by simp) _
  have hs1 : W1.heap.size = w.heap.size + 2 := by rw [← hW1]; simp
  have bn : Boxed W1 w.heap.size 3 (.int .i64 0) := by rw [← hW1]; exact (Boxed.new w _ _).alloc _
  have bs : W1.heap[w.heap.size + 1]? = some (.cells #[.slice A f.len c] 22 (0, 0)) := by
    rw [← hW1]; have := World.alloc_heap_new (w.alloc (.cells #[.int .i64 0] 3)) (.cells #[.slice A f.len c] 22); rwa [World.size_alloc] at this
  have hsq : Hid (SeqBel Fence.wide 8 Try.prog 42 #[.pointer (some ⟨w.heap.size + 1, 0, none⟩)] (encs (Z := fun k => Z k ∧ k < w.heap.size) (w := w)) (fun k => k < w.heap.size) (Sx f) (Sp f) 8193 W1) :=
    row_below f ho hn A c (w.heap.size + 1) hT2 W1 (fun k hk => hk.2) hb1.size (fun k hk hl => hb1.block k hl) _ (fun k hk => hk.2) bs 8
  clear hT hT2 hal ho
  generalize f.len = n at *
  refine (callsIn_wide (n := 9)).1 ?_
  refine callsIn_of_wp_marks Try.func13 rfl trivial ?_ rfl
  simp only [Try.ntmps13, List.size_toArray, List.length_cons, List.length_nil, Nat.reduceAdd, Nat.reduceSub, Array.replicate_succ, Array.replicate_zero, List.push_toArray, List.append_toArray, List.nil_append, List.cons_append]
  gi_wp2
  refine ⟨trivial, ?_⟩
  refine (callsIn_wide.2 (row_any A n c _)).mono ?_
  rintro e w2 ⟨rfl, h2⟩
  obtain rfl : w2 = W1 := by rw [h2]; exact hW1
  clear h2 hW1
  simp only [World.size_alloc]
  gi_wp2
  refine wpIn_range_below (α := Nd (fun k => Z k ∧ k < w.heap.size) w) (w := w2) rfl (by decide) rfl trivial (enters_of Try.func42 (by kernel_rfl) rfl) hsq.out (fun k hk => by omega) (Bel.refl _ _) (fun x => rfl)
    (fun pre W => Bel w.heap.size w W ∧ Boxed W w.heap.size 3 (.int .i64 (pre.length : Nat)))
    (fun c pre W => False)
    (fun s X Y h hb => ⟨h.1.trans (hb.mono (by omega)), (hb.block _ (by omega)).trans h.2⟩)
    (fun c s X Y h hb => h)
    ⟨hb1, bn⟩
    (fun x a' W => a' = { tmps := #[.slice A n c, undef, .int .i64 0, .pointer (some ⟨w.heap.size, 0, none⟩), .slice A n c, .func (.func 42) #[] #[.pointer (some ⟨w.heap.size + 1, 0, none⟩)], .int .i64 x.k.deep, .pointer (some ⟨x.g, x.o, none⟩), undef, undef, undef], defers := [] })
    (fun x a' W r h => h)
    ?_ ?_ ?_ ?_
  · intro l pre x W K hi hz hK
    simp only [encs]
    gi_wp2
    exact hK _ _ (Bel.refl _ _) (by simp)
  · rintro l pre x a' W ⟨hlo, hbx⟩ hz rfl hlt
    have hc := hbx.cell
    have hf := hbx.frozen
    have hl := hbx.lt
    have hp : (pre.length : Int) ≤ 8193 := by omega
    have hfin : Hid (∀ v, KeptAt (fun k => k < w.heap.size) w2.heap.size W (W.setCell ⟨w.heap.size, 0, none⟩ v)) := fun v => ⟨by simp, fun k hk hl => Below.heap_setCell W ⟨w.heap.size, 0, none⟩ _ k (by intro e; rw [show k = w.heap.size from e] at hk; rcases hk with h | h <;> omega)⟩
    replace hbx : Hid _ := hbx
    clear hlt
    gi_wp2
    refine ⟨hfin.out _, hlo.setCell (p := ⟨w.heap.size, 0, none⟩) (Nat.le_refl _) _, ?_⟩
    rw [List.length_append, List.length_singleton, Int.natCast_add]
    exact Boxed.set _ hbx.out
  · rintro Dd xs W hDd hS ⟨hlo, hbx⟩ hK
    have hc := hbx.cell
    have hl := hbx.lt
    have hlen : xs.length = ((sq f 0).take 8193).length := by rw [← hS, List.length_map]
    replace hlen : Hid (xs.length = ((sq f 0).take 8193).length) := hlen
    have hlo2 : Hid (Bel w.heap.size w (W.putObj Dd (.deferred none))) := hlo.trans (below_put (by omega) _)
    clear hS
    gi_wp2
    refine ⟨by simp, .inl ⟨_, _, rfl, run_takeDeferred hK, ?_⟩⟩
    exact ⟨_, results_tmp rfl _ _ _, by rw [hlen.out]; rfl, later_bel hlo2.out⟩
  · intro Dd c pre W _ _ h
    exact h.elim
end Go.Proofs.Ytkdfmgdadnlnlaa.rw
