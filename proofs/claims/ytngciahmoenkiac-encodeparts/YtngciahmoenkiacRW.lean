/- The row of instructions as package instr goes over it (row, row$1, walk.list): an iterator over a tree, with a count of its own. -/
import Derived.Test.YtngciahmoenkiacXD
import Derived.Test.YtngciahmoenkiacRB
import Derived.RangeFuncNested
import Derived.RangeFuncBound
import Derived.RangeFuncCalls
import Derived.RangeFuncLeaves
import Derived.Shelf.Abstract
import Derived.Shelf.RegionOpen
import Derived.WalkKit
import Derived.OwnWalkIn
import Derived.TacticsInMore
import Derived.LoopNIn
import Derived.LoopIn
set_option linter.unusedVariables false
set_option linter.unusedSimpArgs false
set_option maxRecDepth 100000
set_option maxHeartbeats 8000000
namespace Go.Proofs.Ytngciahmoenkiac.rw
open Go.RowKit Go.Shelf
attribute [local go_sem] Oper.semAt_some
theorem run_store_func {P : Program} {w : World} {a : Addr} {m : Mode} (f : Fn) (x y : Array Value) : (store a (.func f x y) m).run P w = stored P w a (.func f x y) m := run_store P w a _ m rfl
attribute [local go_sem] run_store_func
theorem room_of_none {F : Fence} (hd : F.depth = none) (k : Nat) : F.room k := fun d h => by rw [hd] at h; cases h
theorem round_any {F : Fence} (hd : F.depth = none) {m m' : Nat} {P : Program} {l : Nat} {f : FuncId} {tmps : Array Value} {assign body : Code} {w : World} {R : Ending → World → Prop}
    (h : RoundIn F m P l f tmps assign body w R) : RoundIn F m' P l f tmps assign body w R := ⟨h.1, fun c cs _ => h.2 c cs (room_of_none hd _)⟩
theorem yield_any {F : Fence} (hd : F.depth = none) {m : Nat} (m' : Nat) {P : Program} {l : Nat} {args : Array Value} {W : World} {R : Ending → World → Prop} (h : YieldAt F m P l args W R) : YieldAt F m' P l args W R := by
  obtain ⟨fn, tmps, assign, body, hy, hR⟩ := h
  exact ⟨fn, tmps, assign, body, hy, round_any hd hR⟩
/-- an instruction met, with its depth -/
structure Nk where
  deep : Int
  op : Int
  a : Int
  b : Int
  bi : Int
  ty : Int
  ls : List Int
  bo : Fs
  el : Fs
/-- each instruction of a list, itself ahead of its lists -/
def sq : Fs → Int → List Nk
  | ⟨none⟩, _ => []
  | ⟨some (op, a, b, bi, ty, ls, bo, el, r)⟩, d => ⟨d, op, a, b, bi, ty, ls, bo, el⟩ :: (sq bo (d + 1) ++ (sq el (d + 1) ++ sq r d))
/-- an instruction's cells -/
def NodeAt (Z : Nat → Prop) (w : World) (g o : Nat) (k : Nk) : Prop := ∃ LA lc B bc E ec,
    w.cell? ⟨g, o, none⟩ = some (.int .i64 k.op) ∧ w.cell? ⟨g, o + 1, none⟩ = some (.int .i64 k.a) ∧ w.cell? ⟨g, o + 2, none⟩ = some (.int .i64 k.b) ∧ w.cell? ⟨g, o + 3, none⟩ = some (.int .i64 k.bi) ∧ w.cell? ⟨g, o + 4, none⟩ = some (.int .i64 k.ty) ∧
    w.cell? ⟨g, o + 5, none⟩ = some (.slice LA k.ls.length lc) ∧ w.cell? ⟨g, o + 6, none⟩ = some (.slice B k.bo.len bc) ∧ w.cell? ⟨g, o + 7, none⟩ = some (.slice E k.el.len ec) ∧ Lq Z w LA k.ls ∧ Tr Z w B k.bo ∧ Tr Z w E k.el
/-- what comes: an instruction where it lies -/
structure Nd (Z : Nat → Prop) (w : World) where
  k : Nk
  g : Nat
  o : Nat
  hz : Z g
  ok : (Fs.cons k.op k.a k.b k.bi k.ty k.ls k.bo k.el .nil).Ok
  at_ : NodeAt Z w g o k
def key {Z : Nat → Prop} {w : World} (x : Nd Z w) : Nk := x.k
def encs {Z : Nat → Prop} {w : World} (x : Nd Z w) : Array Value := #[.int .i64 x.k.deep, .pointer (some ⟨x.g, x.o, none⟩)]
/-- the walk's own block: how many may come yet, to whom -/
def Bw (W : World) (b l : Nat) (n : Int) : Prop := W.heap[b]? = some (.cells #[.int .i64 n, .func (.yield l) #[] #[]] 129 (0, 0))
/-- what the tree lies in is as it was -/
def Kz (Z : Nat → Prop) (w W : World) : Prop := ∀ k, Z k → k < w.heap.size → W.heap[k]? = w.heap[k]?
variable {Z : Nat → Prop} {w : World}
/-- how a walk over a list ends -/
def WLp (f : Fs) (deep : Int) (b l : Nat) (J Jx : List (Nd Z w) → World → Prop) (pre : List (Nd Z w)) (W1 : World) (e : Ending) (W' : World) : Prop :=
    (e = .returned (.bool true) ∧ ∃ xs, xs.map key = sq f deep ∧ (pre ++ xs).length ≤ 8193 ∧ J (pre ++ xs) W' ∧ Bw W' b l (8193 - ((pre ++ xs).length : Int)) ∧ Kz Z w W' ∧ W1.heap.size ≤ W'.heap.size) ∨
    (e = .returned (.bool false) ∧ ((∃ xs, xs.map key <+: sq f deep ∧ (pre ++ xs).length = 8193 ∧ J (pre ++ xs) W') ∨ (∃ xs, xs.map key <+: sq f deep ∧ (pre ++ xs).length ≤ 8193 ∧ Jx (pre ++ xs) W')))
/-- what a walk over a list makes -/
def WL (Z : Nat → Prop) (w : World) (f : Fs) : Prop := ∀ (A : Option Addr) (c : Nat) (deep : Int) (b l : Nat) (D : Nat → Prop) (J Jx : List (Nd Z w) → World → Prop) (W0 : World) (m : Nat),
  (∀ k, Z k → D k) → (∀ k, Z k → k < W0.heap.size) → W0.heap.size ≤ b → 
  (∀ s A C, J s A → Bel W0.heap.size A C → J s C) →
  (∀ pre x W1, J pre W1 → W0.heap.size ≤ W1.heap.size → pre.length < 8193 → YieldAt Fence.wide m Try.prog l (encs x) W1 fun e W' =>
      KeptAt D W0.heap.size W1 W' ∧ ((e = .returned (.bool true) ∧ J (pre ++ [x]) W') ∨ (e = .returned (.bool false) ∧ Jx (pre ++ [x]) W'))) →
  Tr Z w A f → ∀ (n : Nat) (pre : List (Nd Z w)) (W1 : World), Bw W1 b l (8193 - (pre.length : Int)) → pre.length ≤ 8193 → W0.heap.size ≤ W1.heap.size → J pre W1 → Kz Z w W1 → 0 ≤ deep → deep ≤ pre.length →
  CallsIn Fence.wide n Try.prog 71 #[.pointer (some ⟨b, 0, none⟩), .slice A f.len c, .int .i64 deep] W1 (WLp f deep b l J Jx pre W1)
theorem Bw.cell {W : World} {b l : Nat} {n : Int} (h : Bw W b l n) : W.cell? ⟨b, 0, none⟩ = some (.int .i64 n) ∧ W.cell? ⟨b, 1, none⟩ = some (.func (.yield l) #[] #[]) ∧ W.frozen? ⟨b, 0, none⟩ = false ∧ b < W.heap.size := by
  have h' : W.heap[b]? = some (.cells #[.int .i64 n, .func (.yield l) #[] #[]] 129 (0, 0)) := h
  refine ⟨?_, ?_, ?_, (Array.getElem?_eq_some_iff.1 h').1⟩
  · simp [World.cell?, h']
  · simp [World.cell?, h']
  · simp [World.frozen?, h']
theorem Bw.set {W : World} {b l : Nat} {n : Int} (h : Bw W b l n) (x : Int) : Bw (W.setCell ⟨b, 0, none⟩ (.int .i64 x)) b l x := by
  have h' : W.heap[b]? = some (.cells #[.int .i64 n, .func (.yield l) #[] #[]] 129 (0, 0)) := h
  have hb := (Array.getElem?_eq_some_iff.1 h').1
  show (W.setCell ⟨b, 0, none⟩ (.int .i64 x)).heap[b]? = _
  have h2 := (Array.getElem?_eq_some_iff.1 h').2
  simp [World.setCell, hb, Array.getElem_modify, h2]
theorem pfx_a {T : Type} {a p q y s : List T} {k : T} (h : a ++ k :: (p ++ q) = s) (hy : y <+: p) : a ++ (k :: y) <+: s := by
  obtain ⟨t, rfl⟩ := hy
  rw [← h]
  exact ⟨t ++ q, by simp⟩
theorem pfx_b {T : Type} {a p q r y z s : List T} {k : T} (h : a ++ k :: (p ++ (q ++ r)) = s) (hy : y = p) (hz : z <+: q) : a ++ (k :: (y ++ z)) <+: s := by
  obtain ⟨t, rfl⟩ := hz
  subst hy
  rw [← h]
  exact ⟨t ++ r, by simp⟩
theorem pfx_c {T : Type} {a p q r y z s : List T} {k : T} (h : a ++ k :: (p ++ (q ++ r)) = s) (hy : y = p) (hz : z = q) : (a ++ (k :: (y ++ z))) ++ r = s := by
  subst hy hz
  rw [← h]
  simp
theorem app3 {T : Type} (a b : List T) (x : T) (c d : List T) : a ++ b ++ [x] ++ c ++ d = a ++ (b ++ (x :: (c ++ d))) := by simp
theorem app2 {T : Type} (a b : List T) (x : T) (c : List T) : a ++ b ++ [x] ++ c = a ++ (b ++ (x :: c)) := by simp
theorem wl_round (k : Nat) (f : Fs) (IH : ∀ f' : Fs, f'.sz ≤ k → f'.Ok → f'.len * 112 ≤ 140737488351232 → WL Z w f') (hk : f.sz ≤ k + 1) (ho : f.Ok) (hn : f.len * 112 ≤ 140737488351232) : WL Z w f := by
  intro A c deep b l D J Jx W0 m hZD hZ0 hb0 hJ hY hT nn pre W1 hB hp8 hsz hJ1 hK1 hd0 hd1
  replace hT : Hid (Tr Z w A f) := hT
  replace IH : Hid (∀ f' : Fs, f'.sz ≤ k → f'.Ok → f'.len * 112 ≤ 140737488351232 → WL Z w f') := IH
  replace ho : Hid f.Ok := ho
  obtain ⟨n, hn2⟩ : ∃ n, n = f.len := ⟨_, rfl⟩
  rw [← hn2] at hn ⊢
  replace hn2 : Hid (n = f.len) := hn2
  replace hk : Hid (f.sz ≤ k + 1) := hk
  have hdd : deep ≤ 8193 := by omega
  replace hd1 : Hid (deep ≤ pre.length) := hd1
  replace hB : Hid (Bw W1 b l (8193 - (pre.length : Int))) := hB
  replace hp8 : Hid (pre.length ≤ 8193) := hp8
  replace hZD : Hid (∀ k, Z k → D k) := hZD
  replace hZ0 : Hid (∀ k, Z k → k < W0.heap.size) := hZ0
  replace hJ : Hid (∀ s A C, J s A → Bel W0.heap.size A C → J s C) := hJ
  replace hJ1 : Hid (J pre W1) := hJ1
  replace hK1 : Hid (Kz Z w W1) := hK1
  replace hY : Hid (∀ pre x W1, J pre W1 → W0.heap.size ≤ W1.heap.size → pre.length < 8193 → YieldAt Fence.wide m Try.prog l (encs x) W1 fun e W' =>
      KeptAt D W0.heap.size W1 W' ∧ ((e = .returned (.bool true) ∧ J (pre ++ [x]) W') ∨ (e = .returned (.bool false) ∧ Jx (pre ++ [x]) W'))) := hY
  refine callsIn_of_wp Try.func71 rfl trivial ?_ rfl
  simp only [Try.ntmps71, List.size_toArray, List.length_cons, List.length_nil, Nat.reduceAdd, Nat.reduceSub, Array.replicate_succ, Array.replicate_zero, List.push_toArray, List.append_toArray, List.nil_append, List.cons_append]
  gi_wp2
  gi_loopw [11] (fun i wr => ∃ (d r : Fs) (xs : List (Nd Z w)), i = .int .i64 (d.len : Nat) ∧ d.app r = f ∧ r.Ok ∧ r.sz ≤ k + 1 ∧ xs.map key ++ sq r deep = sq f deep ∧ (pre ++ xs).length ≤ 8193 ∧ J (pre ++ xs) wr ∧ Bw wr b l (8193 - ((pre ++ xs).length : Int)) ∧ Kz Z w wr ∧ W1.heap.size ≤ wr.heap.size) (fun i _ => n - (intOf i).toNat)
  case atStart => exact ⟨.nil, f, [], rfl, rfl, ho.out, hk.out, by simp, by simpa using hp8.out, by simpa using hJ1.out, by simpa using hB.out, hK1.out, Nat.le_refl _⟩
  case round =>
    obtain ⟨d, r, xs, rfl, hf, hok, hsk, hsq, hl8, hJs, hBs, hKs, hss⟩ := hrel
    cases r using Fs.split with
    | nil =>
      have hd : d = f := by rw [← hf, Fs.app_nil]
      have hl : ¬ (d.len : Int) < (n : Int) := by rw [hn2.out, hd]; omega
      have hfin : Hid (WLp f deep b l J Jx pre W1 (.returned (.bool true)) wr) := Or.inl ⟨rfl, xs, by simpa [sq] using hsq, hl8, hJs, hBs, hKs, hss⟩
      clear hok hsk hsq hl8 hJs hBs hKs hf hd
      gi_wp2
      go_ret
      exact hfin.out
    | cons op a b_ bi ty ls bo el r =>
      have hlen : d.len + r.len + 1 = n := by rw [hn2.out, ← hf, Fs.len_app]; simp only [Fs.len]; omega
      have hl : (d.len : Int) < (n : Int) := by omega
      have hne : f ≠ .nil := by rw [← hf]; cases d using Fs.split <;> simp [Fs.app]
      obtain ⟨g, o, rfl, hZg, hA⟩ := (show Tr Z w A f from hT).at hne
      rw [← hf] at hA
      obtain ⟨LA, lc, B, bc, E, ec, e0, e1, e2, e3, e4, e5, e6, e7, hLs, hTB, hTE, _⟩ := hA.drop.head
      have hgl : g < w.heap.size := cell_lt e0
      have hkb : ∀ (W : World), Kz Z w W → ∀ j, W.cell? ⟨g, j, none⟩ = w.cell? ⟨g, j, none⟩ := fun W hW j => World.cell?_of_block (a := ⟨g, j, none⟩) (hW g hZg hgl)
      obtain ⟨K, hKe⟩ : ∃ K : Int, K = 8193 - ((pre ++ xs).length : Int) := ⟨_, rfl⟩
      rw [← hKe] at hBs
      obtain ⟨c0, c1, cf, cb⟩ := hBs.cell
      by_cases hfull : (pre ++ xs).length = 8193
      · have hK0 : K = 0 := by omega
        subst hK0
        have hfin : Hid (WLp f deep b l J Jx pre W1 (.returned (.bool false)) wr) := Or.inr ⟨rfl, Or.inl ⟨xs, ⟨_, hsq⟩, hfull, hJs⟩⟩
        clear hok hsk hsq hl8 hJs hBs hKs hf hA hLs hTB hTE hKe hfull
        gi_wp2
        refine ⟨fun _ h => (by cases h), ?_⟩
        gi_wp2
        go_ret
        exact hfin.out
      have hK0 : ¬ K = 0 := by omega
      have hK1 : 1 ≤ K := by omega
      have hK2 : K ≤ 8193 := by omega
      replace hKe : Hid (K = 8193 - ((pre ++ xs).length : Int)) := hKe
      replace hfull : Hid (¬ (pre ++ xs).length = 8193) := hfull
      replace hl8 : Hid ((pre ++ xs).length ≤ 8193) := hl8
      obtain ⟨⟨_, _, _, _, _, _⟩, o1, o2, o3, o4, o5, o6⟩ := hok
      obtain ⟨x, hx⟩ : ∃ x : Nd Z w, x.k = ⟨deep, op, a, b_, bi, ty, ls, bo, el⟩ ∧ x.g = g ∧ x.o = o + d.len * 8 := ⟨⟨⟨deep, op, a, b_, bi, ty, ls, bo, el⟩, g, o + d.len * 8, hZg, ⟨⟨by assumption, by assumption, by assumption, by assumption, by assumption, by assumption⟩, o1, o2, o3, o4, o5, trivial⟩, LA, lc, B, bc, E, ec, e0, e1, e2, e3, e4, e5, e6, e7, hLs, hTB, hTE⟩, rfl, rfl, rfl⟩
      obtain ⟨fn, tmps, assign, body, hy, hR⟩ := yield_any rfl (nn - 1) (hY.out (pre ++ xs) x wr hJs (Nat.le_trans hsz hss) (by have := hfull.out; have := hl8.out; omega))
      simp only [encs, hx.1, hx.2.1, hx.2.2] at hy
      gi_wp2
      trace_state
      refine ⟨fun h => (by cases h), ?_⟩
      refine hR.mono ?_
      clear hR hy
      rintro e W3 ⟨hkp, (⟨rfl, hJ3⟩ | ⟨rfl, hJx3⟩)⟩
      · have hB3 : Bw W3 b l K := (hkp.same b (Or.inr hb0) cb).trans hBs
        have hK3 : Kz Z w W3 := fun j hj hjl => (hkp.same j (Or.inl (hZD.out j hj)) (Nat.lt_of_lt_of_le (hZ0.out j hj) (Nat.le_trans hsz hss))).trans (hKs j hj hjl)
        obtain ⟨d0, d1, df, db⟩ := hB3.cell
        have hgb : g ≠ b := by have := hZ0.out g hZg; omega
        have hz3 := hkp.size
        obtain ⟨W4, hW4⟩ : ∃ W4, W3.setCell ⟨b, 0, none⟩ (.int .i64 (K - 1)) = W4 := ⟨_, rfl⟩
        have hbl4 : Bel W0.heap.size W3 W4 := by rw [← hW4]; exact (Bel.refl _ _).setCell (p := ⟨b, 0, none⟩) hb0 _
        have hJ4 : J (pre ++ xs ++ [x]) W4 := hJ.out _ _ _ hJ3 hbl4
        have hlx : (pre ++ xs ++ [x]).length = (pre ++ xs).length + 1 := by rw [List.length_append, List.length_singleton]
        have hB4 : Bw W4 b l (8193 - ((pre ++ xs ++ [x]).length : Int)) := by rw [← hW4, hlx, show 8193 - (((pre ++ xs).length + 1 : Nat) : Int) = K - 1 by have := hKe.out; omega]; exact hB3.set _
        have hK4 : Kz Z w W4 := fun j hj hjl => (hbl4.block j (hZ0.out j hj)).trans (hK3 j hj hjl)
        have hz4 : W3.heap.size ≤ W4.heap.size := hbl4.size
        have hlp : (pre ++ xs ++ [x]).length ≤ 8193 := by have := hfull.out; have := hl8.out; omega
        have hdl : deep + 1 ≤ ((pre ++ xs ++ [x]).length : Int) := by have := hd1.out; simp only [List.length_append, List.length_singleton] at *; omega
        simp only [Fs.sz] at hsk
        have hcb : Hid (CallsIn Fence.wide (nn - 1) Try.prog 71 #[.pointer (some ⟨b, 0, none⟩), .slice B bo.len bc, .int .i64 (deep + 1)] W4 (WLp bo (deep + 1) b l J Jx (pre ++ xs ++ [x]) W4)) :=
          IH.out bo (by omega) o4 o2 B bc (deep + 1) b l D J Jx W0 m hZD.out hZ0.out hb0 hJ.out hY.out hTB (nn - 1) _ W4 hB4 hlp (by omega) hJ4 hK4 (by omega) hdl
        have hce : Hid (∀ (ys : List (Nd Z w)) (W5 : World), (pre ++ xs ++ [x] ++ ys).length ≤ 8193 → J (pre ++ xs ++ [x] ++ ys) W5 → Bw W5 b l (8193 - ((pre ++ xs ++ [x] ++ ys).length : Int)) → Kz Z w W5 → W4.heap.size ≤ W5.heap.size → W5.cell? ⟨g, o + d.len * 8 + 7, none⟩ = some (.slice E el.len ec) ∧ g < W5.heap.size ∧ CallsIn Fence.wide (nn - 1) Try.prog 71 #[.pointer (some ⟨b, 0, none⟩), .slice E el.len ec, .int .i64 (deep + 1)] W5 (WLp el (deep + 1) b l J Jx (pre ++ xs ++ [x] ++ ys) W5)) := fun ys W5 y1 y2 y3 y4 y5 =>
          ⟨(hkb W5 y4 _).trans e7, by have := hZ0.out g hZg; omega, IH.out el (by omega) o5 o3 E ec (deep + 1) b l D J Jx W0 m hZD.out hZ0.out hb0 hJ.out hY.out hTE (nn - 1) _ W5 y3 y1 (by omega) y2 y4 (by omega) (by simp only [List.length_append] at hdl ⊢; omega)⟩
        have t6 : W4.cell? ⟨g, o + d.len * 8 + 6, none⟩ = some (.slice B bo.len bc) := (hkb W4 hK4 _).trans e6
        have tl4 : g < W4.heap.size := by have := hZ0.out g hZg; omega
        have hnew : Hid ((d.app (.cons op a b_ bi ty ls bo el .nil)).app r = f ∧ r.Ok ∧ r.sz ≤ k + 1 ∧ (d.app (.cons op a b_ bi ty ls bo el .nil)).len = d.len + 1) := ⟨by rw [Fs.app_app, ← hf]; rfl, o6, by omega, by rw [Fs.len_app]; rfl⟩
        have hseq : Hid (xs.map key ++ key x :: (sq bo (deep + 1) ++ (sq el (deep + 1) ++ sq r deep)) = sq f deep) := by
          show xs.map key ++ x.k :: _ = _
          rw [hx.1, ← hsq]
          rfl
        have hz1 : W1.heap.size ≤ W4.heap.size := by omega
        replace hz1 : Hid (W1.heap.size ≤ W4.heap.size) := hz1
        clear IH hT hA hY hJs hBs hKs hLs hTB hTE hf hsk hsq o1 o2 o3 o4 o5 o6 hne hZg hx hkp hJ3 hJ4 hB4 hK4 hK3 hB3 hlx hlp hdl hbl4 hkb hz3 hz4 e0 e1 e2 e3 e4 e5 e6 e7 c0 c1 cf cb hl8 hfull hKe hss
        gi_wp2
        refine ⟨trivial, fun h => (by cases h), ?_⟩
        refine hcb.out.mono ?_
        clear hcb
        rintro e W5 (⟨rfl, ys, y0, y1, y2, y3, y4, y5⟩ | ⟨rfl, h5⟩)
        · obtain ⟨t7, tl5, hcE⟩ := hce.out ys W5 y1 y2 y3 y4 y5
          clear hce
          replace y0 : Hid (ys.map key = sq bo (deep + 1)) := y0
          replace y5 : Hid (W4.heap.size ≤ W5.heap.size) := y5
          clear y1 y2 y3 y4
          gi_wp2
          refine ⟨trivial, fun h => (by cases h), ?_⟩
          refine hcE.mono ?_
          clear hcE
          rintro e W6 (⟨rfl, zs, z0, z1, z2, z3, z4, z5⟩ | ⟨rfl, h6⟩)
          · replace z1 : Hid _ := z1
            replace z2 : Hid _ := z2
            replace z3 : Hid _ := z3
            replace z4 : Hid _ := z4
            replace z5 : Hid _ := z5
            replace z0 : Hid (zs.map key = sq el (deep + 1)) := z0
            gi_wp2
            refine ⟨⟨d.app (.cons op a b_ bi ty ls bo el .nil), r, xs ++ (x :: (ys ++ zs)), by rw [hnew.out.2.2.2]; rfl, hnew.out.1, hnew.out.2.1, hnew.out.2.2.1, ?_, by rw [← app3]; exact z1.out, by rw [← app3]; exact z2.out, by rw [← app3]; exact z3.out, z4.out, Nat.le_trans hz1.out (Nat.le_trans y5.out z5.out)⟩, ?_⟩
            · rw [List.map_append, List.map_cons, List.map_append]
              exact pfx_c hseq.out y0.out z0.out
            · simp [intOf]
              omega
          · have hfin : Hid (WLp f deep b l J Jx pre W1 (.returned (.bool false)) W6) := by
              refine Or.inr ⟨rfl, h6.imp ?_ ?_⟩
              · rintro ⟨zs, z0, z1, z2⟩
                exact ⟨xs ++ (x :: (ys ++ zs)), by simpa using pfx_b hseq.out y0.out z0, by rw [← app3]; exact z1, by rw [← app3]; exact z2⟩
              · rintro ⟨zs, z0, z1, z2⟩
                exact ⟨xs ++ (x :: (ys ++ zs)), by simpa using pfx_b hseq.out y0.out z0, by rw [← app3]; exact z1, by rw [← app3]; exact z2⟩
            clear h6
            gi_wp2
            go_ret
            exact hfin.out
        · have hfin : Hid (WLp f deep b l J Jx pre W1 (.returned (.bool false)) W5) := by
            refine Or.inr ⟨rfl, h5.imp ?_ ?_⟩
            · rintro ⟨ys, y0, y1, y2⟩
              exact ⟨xs ++ (x :: ys), by simpa using pfx_a hseq.out y0, by rw [← app2]; exact y1, by rw [← app2]; exact y2⟩
            · rintro ⟨ys, y0, y1, y2⟩
              exact ⟨xs ++ (x :: ys), by simpa using pfx_a hseq.out y0, by rw [← app2]; exact y1, by rw [← app2]; exact y2⟩
          clear h5 hce
          gi_wp2
          refine ⟨trivial, ?_⟩
          gi_wp2
          go_ret
          exact hfin.out
      · have hfin : Hid (WLp f deep b l J Jx pre W1 (.returned (.bool false)) W3) := Or.inr ⟨rfl, Or.inr ⟨xs ++ [x], by
          rw [← hsq]
          simp only [List.map_append, sq, key, List.map_cons, List.map_nil, hx.1]
          exact ⟨_, by rw [List.append_assoc]; rfl⟩, by have := hfull.out; have := hl8.out; simp only [List.length_append, List.length_singleton] at *; omega, by rw [← List.append_assoc]; exact hJx3⟩⟩
        clear hsk hsq hl8 hJs hBs hKs hf hA hLs hTB hTE hKe hfull hkp hJx3 hx
        gi_wp2
        go_ret
        exact hfin.out
theorem wl_any : ∀ (k : Nat) (f : Fs), f.sz ≤ k → f.Ok → f.len * 112 ≤ 140737488351232 → WL Z w f
  | 0, f, hk, ho, hn => wl_round 0 f (fun f' h1 _ _ => by
      cases f' using Fs.split with
      | nil =>
        intro A c deep b l D J Jx W0 m hZD hZ0 hb0 hJ hY hT nn pre W1 hB hp8 hsz hJ1 hK1 hd0 hd1
        have hfin : Hid (WLp .nil deep b l J Jx pre W1 (.returned (.bool true)) W1) := Or.inl ⟨rfl, [], rfl, by simpa using hp8, by simpa using hJ1, by simpa using hB, hK1, Nat.le_refl _⟩
        simp only [Fs.len]
        clear hJ hY hB hp8 hJ1 hK1 hT
        refine callsIn_of_wp Try.func71 rfl trivial ?_ rfl
        simp only [Try.ntmps71, List.size_toArray, List.length_cons, List.length_nil, Nat.reduceAdd, Nat.reduceSub, Array.replicate_succ, Array.replicate_zero, List.push_toArray, List.append_toArray, List.nil_append, List.cons_append]
        gi_wp2
        gi_loopw [11] (fun i wr => i = .int .i64 0 ∧ wr = W1) (fun i _ => 0)
        case atStart => exact ⟨rfl, rfl⟩
        case round =>
          obtain ⟨rfl, rfl⟩ := hrel
          gi_wp2
          go_ret
          exact hfin.out
      | cons => simp [Fs.sz] at h1) (by omega) ho hn
  | k + 1, f, hk, ho, hn => wl_round k f (fun f' h1 h2 h3 => wl_any k f' h1 h2 h3) hk ho hn
/-- all that comes: no more than 8193 -/
def Sx (f : Fs) {Z : Nat → Prop} {w : World} (xs : List (Nd Z w)) : Prop := xs.map key = (sq f 0).take 8193
def Sp (f : Fs) {Z : Nat → Prop} {w : World} (xs : List (Nd Z w)) : Prop := xs.map key <+: (sq f 0).take 8193
theorem pre_take {T : Type} {a b : List T} (h : a <+: b) (n : Nat) (hl : a.length ≤ n) : a <+: b.take n := by
  obtain ⟨t, rfl⟩ := h
  exact ⟨t.take (n - a.length), by rw [List.take_append, List.take_of_length_le hl]⟩
theorem pre_full {T : Type} {a b : List T} (h : a <+: b) (n : Nat) (hl : a.length = n) : a = b.take n := by
  obtain ⟨t, rfl⟩ := h
  subst hl
  simp
theorem all_full {T : Type} {a b : List T} (h : a = b) (n : Nat) (hl : a.length ≤ n) : a = b.take n := by
  subst h
  rw [List.take_of_length_le hl]
theorem row_below (f : Fs) (ho : f.Ok) (hn : f.len * 112 ≤ 140737488351232) (A : Option Addr) (c bx : Nat) (hT : Tr Z w A f) (w1 : World) (hZ : ∀ k, Z k → k < w.heap.size) (hlw : w.heap.size ≤ w1.heap.size) (hK : Kz Z w w1) (D : Nat → Prop) (hD : ∀ k, Z k → D k) (hb : w1.heap[bx]? = some (.cells #[.slice A f.len c] 41 (0, 0))) (m : Nat) :
    SeqBel Fence.wide m Try.prog 70 #[.pointer (some ⟨bx, 0, none⟩)] (encs (Z := Z) (w := w)) D (Sx f) (Sp f) 8193 w1 := by
  intro l J Jx W hbl hJ hJx hY h0
  have hbx : bx < w1.heap.size := (Array.getElem?_eq_some_iff.1 hb).1
  have hbW : W.heap[bx]? = some (.cells #[.slice A f.len c] 41 (0, 0)) := (hbl.block bx hbx).trans hb
  have hbz : bx < W.heap.size := (Array.getElem?_eq_some_iff.1 hbW).1
  obtain ⟨W', hW'⟩ : ∃ W', W.alloc (.cells #[.int .i64 8193, .func (.yield l) #[] #[]] 129) = W' := ⟨_, rfl⟩
  have hn1 : W'.heap[W.heap.size]? = some (.cells #[.int .i64 8193, .func (.yield l) #[] #[]] 129 (0, 0)) := by rw [← hW']; exact World.alloc_heap_new W _
  have hbl2 : Bel W.heap.size W W' := by rw [← hW']; exact (Bel.refl _ W).alloc (Nat.le_refl _) _
  have hc1 : W'.cell? ⟨bx, 0, none⟩ = some (.slice A f.len c) := by
    have := (hbl2.block bx hbz).trans hbW
    simp [World.cell?, this]
  have hcall : Hid (CallsIn Fence.wide (m - 1) Try.prog 71 #[.pointer (some ⟨W.heap.size, 0, none⟩), .slice A f.len c, .int .i64 0] W' (WLp f 0 W.heap.size l J Jx [] W')) :=
    wl_any f.sz f (Nat.le_refl _) ho hn A c 0 W.heap.size l D J Jx W (m - 1) hD (fun k hk => Nat.lt_of_lt_of_le (hZ k hk) (Nat.le_trans hlw hbl.size)) (Nat.le_refl _) hJ hY hT (m - 1) [] W' hn1 (by simp) hbl2.size (hJ _ _ _ h0 hbl2)
      (fun k hk hl => (hbl2.block k (Nat.lt_of_lt_of_le hl (Nat.le_trans hlw hbl.size))).trans ((hbl.block k (Nat.lt_of_lt_of_le hl hlw)).trans (hK k hk hl))) (by decide) (by simp)
  have hc0 : W.cell? ⟨bx, 0, none⟩ = some (.slice A f.len c) := by simp [World.cell?, hbW]
  have hcz : bx < W'.heap.size := Nat.lt_of_lt_of_le hbz hbl2.size
  clear hY hJ hJx h0 hT hK hbl2 hn1 hbW hb
  generalize f.len = n at *
  refine callsIn_of_wp Try.func70 rfl trivial ?_ rfl
  simp only [Try.ntmps70, List.size_toArray, List.length_cons, List.length_nil, Nat.reduceAdd, Nat.reduceSub, Array.replicate_succ, Array.replicate_zero, List.push_toArray, List.append_toArray, List.nil_append, List.cons_append]
  gi_wp2
  refine ⟨trivial, fun h => (by cases h), ?_⟩
  refine hcall.out.mono ?_
  clear hcall
  rintro e W6 (⟨rfl, zs, z0, z1, z2, z3, z4, z5⟩ | ⟨rfl, (⟨zs, z0, z1, z2⟩ | ⟨zs, z0, z1, z2⟩)⟩)
  · have hfin : Hid (∃ xs, Sx f xs ∧ J xs W6) := ⟨zs, all_full z0 8193 (by simpa using z1), z2⟩
    clear z0 z1 z2 z3 z4 z5
    gi_wp2
    go_end0
    exact ⟨⟨_, rfl⟩, .inl hfin.out⟩
  · have hfin : Hid (∃ xs, Sx f xs ∧ J xs W6) := ⟨zs, pre_full z0 8193 (by simpa using z1), z2⟩
    clear z0 z1 z2
    gi_wp2
    go_end0
    exact ⟨⟨_, rfl⟩, .inl hfin.out⟩
  · have hfin : Hid (∃ xs, Sp f xs ∧ Jx xs W6) := ⟨zs, pre_take z0 8193 (by simpa using z1), z2⟩
    clear z0 z1 z2
    gi_wp2
    go_end0
    exact ⟨⟨_, rfl⟩, .inr hfin.out⟩
/-- row: a function that goes over the list -/
theorem row_any (A : Option Addr) (n c : Nat) (w : World) : Calls Try.prog 64 #[.slice A n c] w fun e w' => e = .returned (.func (.func 70) #[] #[.pointer (some ⟨w.heap.size, 0, none⟩)]) ∧ w' = w.alloc (.cells #[.slice A n c] 41) := by
  go_enter Try.func64, Try.ntmps64
  go_wp2_with fail
  go_ret
  exact ⟨rfl, rfl⟩
end Go.Proofs.Ytngciahmoenkiac.rw
