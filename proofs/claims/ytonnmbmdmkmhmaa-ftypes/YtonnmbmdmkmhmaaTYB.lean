/- Package ftype's range over the imports of a kind (imported, imported$1): an iterator; count, among. -/
import Derived.Test.YtonnmbmdmkmhmaaCMA
import Derived.Test.YtonnmbmdmkmhmaaFS
import Derived.Test.YtonnmbmdmkmhmaaRB
import Derived.RangeFuncNested
import Derived.RangeFuncBound
import Derived.RangeFuncCalls
import Derived.RangeFuncLeaves
import Derived.Shelf.Abstract
import Derived.Shelf.RegionOpen
import Derived.WalkKit
import Derived.OwnWalkIn
import Derived.TacticsInMore
import Derived.LoopNIn
import Derived.LoopIn
set_option linter.unusedVariables false
set_option linter.unusedSimpArgs false
set_option maxRecDepth 100000
set_option maxHeartbeats 8000000
namespace Go.Proofs.Ytonnmbmdmkmhmaa.ty
open Go.RowKit Go.Shelf
attribute [local go_sem] Oper.semAt_some
theorem room_of_none {F : Fence} (hd : F.depth = none) (k : Nat) : F.room k := fun d h => by rw [hd] at h; cases h
theorem round_any {F : Fence} (hd : F.depth = none) {m m' : Nat} {P : Program} {l : Nat} {f : FuncId} {tmps : Array Value} {assign body : Code} {w : World} {R : Ending → World → Prop}
    (h : RoundIn F m P l f tmps assign body w R) : RoundIn F m' P l f tmps assign body w R := ⟨h.1, fun c cs _ => h.2 c cs (room_of_none hd _)⟩
theorem yield_any {F : Fence} (hd : F.depth = none) {m : Nat} (m' : Nat) {P : Program} {l : Nat} {args : Array Value} {W : World} {R : Ending → World → Prop} (h : YieldAt F m P l args W R) : YieldAt F m' P l args W R := by
  obtain ⟨fn, tmps, assign, body, hy, hR⟩ := h
  exact ⟨fn, tmps, assign, body, hy, round_any hd hR⟩
theorem later_bel {w w' : World} (h : Bel w.heap.size w w') : Later w w' := by
  refine ⟨w'.heap.extract w.heap.size w'.heap.size, w'.drawn - w.drawn, ?_⟩
  obtain ⟨⟨h1, h2, h3, h4, h5⟩, hd⟩ := h
  have hh : w'.heap = w.heap ++ w'.heap.extract w.heap.size w'.heap.size := by
    apply Array.ext_getElem?
    intro k
    rcases Nat.lt_or_ge k w.heap.size with hk | hk
    · rw [Array.getElem?_append_left hk, h5 k hk]
    · rw [Array.getElem?_append_right hk, Array.getElem?_extract]
      by_cases hk2 : k < w'.heap.size
      · rw [if_pos (by omega)]
        congr 1
        omega
      · rw [if_neg (by omega)]
        exact Array.getElem?_eq_none (by omega)
  have hd2 : w'.drawn = w.drawn + (w'.drawn - w.drawn) := by omega
  generalize w'.drawn - w.drawn = n at *
  clear hd
  cases w'
  simp only at h1 h2 h3 hd2 hh
  subst h1 h2 h3 hd2
  unfold World.far
  rw [← hh]
theorem bel_later {w w' : World} (h : Later w w') : Bel w.heap.size w w' := by
  have hg := h.grownBy none
  refine ⟨⟨hg.os, hg.tape, hg.output, hg.size, fun k hk => h.block hk⟩, ?_⟩
  obtain ⟨bs, n, rfl⟩ := h
  exact Nat.le_add_right _ _
/-- an import as a value -/
def impA (x : Imp) : Value := .agg #[.string x.1, .string x.2.1, .int .i64 x.2.2.1, .int .i64 x.2.2.2.1, .bool x.2.2.2.2.1, .int .i64 x.2.2.2.2.2.1, .int .i64 x.2.2.2.2.2.2]
/-- the imports of a kind -/
def imk (l : List Imp) (k : Int) : List Imp := l.filter fun x => decide (x.2.2.1 = k)
def enc1 (x : Imp) : Array Value := #[impA x]
theorem imported_any (L : List Value) (k : Int) (w : World) : Calls Try.prog 33 #[.agg L.toArray, .int .i64 k] w fun e w' => e = .returned (.func (.func 35) #[] #[.pointer (some ⟨w.heap.size, 0, none⟩), .pointer (some ⟨w.heap.size + 1, 0, none⟩)]) ∧ w' = (w.alloc (.cells L.toArray 32)).alloc (.cells #[.int .i64 k] 3) := by
  go_enter Try.func33, Try.ntmps33
  go_wp2_with fail
  go_ret
  exact ⟨rfl, rfl⟩
theorem imp_below {Z : Nat → Prop} {w w1 : World} {A : Option Addr} {xs : List Imp} {LA : List Value} {k : Int} (m : Nat) (bm bk : Nat) (c : Nat) (hR : Rt fIm Z w A xs) (hlen : xs.length ≤ 140737488351232) (hl : Later w w1) (D : Nat → Prop) (hZD : ∀ j, Z j → D j) (hkD : D bk)
    (hm : Rl w1 bm 32 LA) (hLA : LA[1]? = some (.slice A xs.length c)) (hk : w1.cell? ⟨bk, 0, none⟩ = some (.int .i64 k)) :
    SeqBel Fence.wide m Try.prog 35 #[.pointer (some ⟨bm, 0, none⟩), .pointer (some ⟨bk, 0, none⟩)] enc1 D (fun ys => ys = imk xs k) (fun pre => pre <+: imk xs k) (xs.length + 1) w1 := by
  intro l J Jx W hbl hJ hJx hY h0
  have hL2 : ∀ j, j < w1.heap.size → W.heap[j]? = w1.heap[j]? := fun j hj => hbl.block j hj
  have c1 : W.cell? ⟨bm, 1, none⟩ = some (.slice A xs.length c) := (World.cell?_of_block (a := ⟨bm, 1, none⟩) (hL2 bm hm.lt)).trans (hm.cell 1 hLA)
  have c2 : W.cell? ⟨bk, 0, none⟩ = some (.int .i64 k) := (World.cell?_of_block (a := ⟨bk, 0, none⟩) (hL2 bk (cell_lt hk))).trans hk
  have l1 := cell_lt c1
  have l2 := cell_lt c2
  refine callsIn_of_wp Try.func35 rfl trivial ?_ rfl
  simp only [Try.ntmps35, List.size_toArray, List.length_cons, List.length_nil, Nat.reduceAdd, Nat.reduceSub, Array.replicate_succ, Array.replicate_zero, List.push_toArray, List.append_toArray, List.nil_append, List.cons_append]
  gi_wp2
  gi_loopw [9] (fun i wr => ∃ (d r : List Imp), i = .int .i64 (d.length : Nat) ∧ d ++ r = xs ∧ J (imk d k) wr ∧ W.heap.size ≤ wr.heap.size ∧ Hid (∀ j, Z j ∨ j = bk → j < W.heap.size → wr.heap[j]? = W.heap[j]?)) (fun i _ => xs.length - (intOf i).toNat)
  case atStart => exact ⟨[], xs, rfl, rfl, h0, Nat.le_refl _, fun _ _ _ => rfl⟩
  case round =>
    obtain ⟨d, r, rfl, hd, hJr, hsz, hK⟩ := hrel
    have hdl : d.length + r.length = xs.length := by rw [← hd, List.length_append]
    cases r with
    | nil =>
      have hde : d = xs := by simpa using hd
      have hl1 : ¬ (d.length : Int) < (xs.length : Int) := by rw [hde]; omega
      have hfin : Hid (J (imk xs k) wr) := by rw [hde] at hJr; exact hJr
      clear hY hJ hJx hJr hK hd hdl hde hR
      gi_wp2
      go_end0
      exact ⟨⟨_, rfl⟩, .inl hfin.out⟩
    | cons x r =>
      have hlt : d.length < xs.length := by simp at hdl; omega
      have hl1 : (d.length : Int) < (xs.length : Int) := by omega
      have hxe : xs[d.length] = x := by simp [← hd]
      obtain ⟨g, o, cl, eA, hz, hc, hi⟩ := Rt.at (f := fIm) 7 (fun _ => rfl) hR d.length hlt
      rw [hxe] at hi
      have hgl : g < w.heap.size := by
        rcases hR with h1 | ⟨g2, o2, L2, e2, _, h2, i2⟩
        · rw [h1] at hlt; exact absurd hlt (by simp)
        · rw [eA] at e2; cases e2; exact cell_lt (h2 0 _ (List.getElem?_eq_getElem (by rw [i2.length, flat_len fIm 7 (fun _ => rfl)]; omega)))
      have hw1 := hl.size
      have hw2 := hbl.size
      have hgk : wr.heap[g]? = w.heap[g]? := (hK.out g (Or.inl hz) (by omega)).trans ((hL2 g (by omega)).trans (hl.block hgl))
      have hck : wr.cell? ⟨bk, 0, none⟩ = some (.int .i64 k) := (World.cell?_of_block (a := ⟨bk, 0, none⟩) (hK.out bk (Or.inr rfl) l2)).trans c2
      have lck := cell_lt hck
      obtain ⟨x0, x1, x2, x3, x4, x5, x6⟩ := x
      obtain ⟨v0, d0, rfl, f0, v1, d1, rfl, f1, v2, d2, rfl, f2, v3, d3, rfl, f3, v4, d4, rfl, f4, v5, d5, rfl, f5, v6, d6, rfl, f6, f7⟩ := hi
      have f0 : v0 = .string x0 := f0
      have f1 : v1 = .string x1 := f1
      have f2 : v2 = .int .i64 x2 := f2
      have f3 : v3 = .int .i64 x3 := f3
      have f4 : v4 = .bool x4 := f4
      have f5 : v5 = .int .i64 x5 := f5
      have f6 : v6 = .int .i64 x6 := f6
      subst f0 f1 f2 f3 f4 f5 f6
      have hcw : ∀ j, wr.cell? ⟨g, j, none⟩ = w.cell? ⟨g, j, none⟩ := fun j => World.cell?_of_block (a := ⟨g, j, none⟩) hgk
      have e0 := (hcw _).trans (hc 0 _ rfl)
      have e1 := (hcw _).trans (hc 1 _ rfl)
      have e2 := (hcw _).trans (hc 2 _ rfl)
      have e3 := (hcw _).trans (hc 3 _ rfl)
      have e4 := (hcw _).trans (hc 4 _ rfl)
      have e5 := (hcw _).trans (hc 5 _ rfl)
      have e6 := (hcw _).trans (hc 6 _ rfl)
      simp only [Nat.add_zero] at e0
      have lg := cell_lt e0
      rw [eA]
      have hN : (d ++ [(x0, x1, x2, x3, x4, x5, x6)]) ++ r = xs := by rw [List.append_assoc]; exact hd
      obtain ⟨wa, hwa⟩ : ∃ wa, wr.alloc (.cells #[.string x0, .string x1, .int .i64 x2, .int .i64 x3, .bool x4, .int .i64 x5, .int .i64 x6] 58) = wa := ⟨_, rfl⟩
      have hba : Bel W.heap.size wr wa := by rw [← hwa]; exact (Bel.refl _ _).alloc hsz _
      have hJa : J (imk d k) wa := hJ _ _ _ hJr hba
      have hKa : Hid (∀ j, Z j ∨ j = bk → j < W.heap.size → wa.heap[j]? = W.heap[j]?) := fun j h1 h2 => (hba.block j h2).trans (hK.out j h1 h2)
      have a0 : wa.cell? ⟨wr.heap.size, 0, none⟩ = some (.string x0) := by rw [← hwa]; simp [go_sem]
      have a1 : wa.cell? ⟨wr.heap.size, 1, none⟩ = some (.string x1) := by rw [← hwa]; simp [go_sem]
      have a2 : wa.cell? ⟨wr.heap.size, 2, none⟩ = some (.int .i64 x2) := by rw [← hwa]; simp [go_sem]
      have a3 : wa.cell? ⟨wr.heap.size, 3, none⟩ = some (.int .i64 x3) := by rw [← hwa]; simp [go_sem]
      have a4 : wa.cell? ⟨wr.heap.size, 4, none⟩ = some (.bool x4) := by rw [← hwa]; simp [go_sem]
      have a5 : wa.cell? ⟨wr.heap.size, 5, none⟩ = some (.int .i64 x5) := by rw [← hwa]; simp [go_sem]
      have a6 : wa.cell? ⟨wr.heap.size, 6, none⟩ = some (.int .i64 x6) := by rw [← hwa]; simp [go_sem]
      have a7 := cell_lt a0
      have a8 : wa.cell? ⟨bk, 0, none⟩ = some (.int .i64 k) := by rw [← hwa]; exact (La (Lz wr)).cell_of hck
      have a9 := cell_lt a8
      by_cases hk2 : x2 = k
      · subst hk2
        have hik : imk (d ++ [(x0, x1, x2, x3, x4, x5, x6)]) x2 = imk d x2 ++ [(x0, x1, x2, x3, x4, x5, x6)] := by simp [imk]
        obtain ⟨fn, tmps, assign, body, hy, hRR⟩ := yield_any rfl (m - 1) (hY (imk d x2) (x0, x1, x2, x3, x4, x5, x6) wa hJa (by have := hba.size; omega) (by have := List.length_filter_le (fun x : Imp => decide (x.2.2.1 = x2)) d; unfold imk; omega))
        simp only [enc1, impA] at hy
        replace hK : Hid True := trivial
        have hJ2 : Hid (∀ W3, KeptAt D W.heap.size wa W3 → (∀ j, Z j ∨ j = bk → j < W.heap.size → W3.heap[j]? = W.heap[j]?) ∧ W.heap.size ≤ W3.heap.size) := fun W3 hk3 => ⟨fun j h1 h2 => (hk3.same j (Or.inl (h1.elim (hZD j) (fun e => by rw [e]; exact hkD))) (Nat.lt_of_lt_of_le h2 (Nat.le_trans hsz (by rw [← hwa]; simp)))).trans (hKa.out j h1 h2), Nat.le_trans (Nat.le_trans hsz (by rw [← hwa]; simp)) hk3.size⟩
        have hfx : Hid (∀ W3, Jx (imk d x2 ++ [(x0, x1, x2, x3, x4, x5, x6)]) W3 → ∃ pre, pre <+: imk xs x2 ∧ Jx pre W3) := fun W3 h3 => ⟨_, ⟨imk r x2, by rw [← hN, ← hik]; simp [imk]⟩, h3⟩
        have hnx : Hid (∀ W3, J (imk d x2 ++ [(x0, x1, x2, x3, x4, x5, x6)]) W3 → J (imk (d ++ [(x0, x1, x2, x3, x4, x5, x6)]) x2) W3) := fun W3 h3 => by rw [hik]; exact h3
        replace hN : Hid _ := hN
        clear hc hcw hgk hR eA hY hJ hJx hJr hK hJa hik hd hxe hZD hkD hL2 hba hKa
        gi_wp2
        refine ⟨fun h => (by cases h), ?_⟩
        refine hRR.mono ?_
        clear hRR hy
        rintro e W3 ⟨hkp, (⟨rfl, hJ3⟩ | ⟨rfl, hJx3⟩)⟩
        · obtain ⟨hK3, hs3⟩ := hJ2.out W3 hkp
          have hn3 := hnx.out W3 hJ3
          replace hK3 : Hid _ := hK3
          clear hJ2 hnx hfx hkp hJ3
          gi_wp2
          refine ⟨⟨d ++ [(x0, x1, x2, x3, x4, x5, x6)], r, by simp, hN.out, hn3, hs3, hK3⟩, ?_⟩
          simp [intOf]
          omega
        · have hfin := hfx.out W3 hJx3
          replace hfin : Hid _ := hfin
          clear hJ2 hnx hfx hkp hJx3
          gi_wp2
          exact bodyPost_ret (results_none rfl _ _ _) rfl ⟨⟨_, rfl⟩, .inr hfin.out⟩
      · have hik : imk (d ++ [(x0, x1, x2, x3, x4, x5, x6)]) k = imk d k := by simp [imk, hk2]
        have hnx : Hid (J (imk (d ++ [(x0, x1, x2, x3, x4, x5, x6)]) k) wa) := by rw [hik]; exact hJa
        have hsa : W.heap.size ≤ wa.heap.size := by have := hba.size; omega
        replace hN : Hid _ := hN
        have hb : (x2 == k) = false := beq_eq_false_iff_ne.2 hk2
        clear hc hcw hgk hR eA hY hJ hJx hJr hK hJa hik hd hxe hZD hkD hL2 hba
        gi_wp2
        refine ⟨fun _ h => (by cases h), ?_⟩
        gi_wp2
        refine ⟨⟨d ++ [(x0, x1, x2, x3, x4, x5, x6)], r, by simp, hN.out, hnx.out, hsa, hKa⟩, ?_⟩
        simp [intOf]
        omega
end Go.Proofs.Ytonnmbmdmkmhmaa.ty
