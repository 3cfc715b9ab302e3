/- XP: ISP, ISQ, joined. -/
import Derived.Test.YtonnmbmdmkmhmaaXD
/- Over this seat's translation: a list of instructions spoiled: only its own blocks change, and of these the numbers alone. -/
set_option linter.unusedVariables false
set_option linter.unusedSimpArgs false
set_option maxRecDepth 100000
set_option maxHeartbeats 4000000
namespace Go.Proofs.Ytonnmbmdmkmhmaa
open Go.RowKit
def isI (v : Value) : Prop := ∃ x : Int, v = .int .i64 x
/-- only blocks of a kind turned, and there numbers alone -/
structure Spt (Z : Nat → Prop) (w w' : World) : Prop where
  os : w'.os = w.os
  tape : w'.tape = w.tape
  output : w'.output = w.output
  size : w.heap.size ≤ w'.heap.size
  drawn : ∃ n, w'.drawn = w.drawn + n
  block : ∀ k, k < w.heap.size → ¬ Z k → w'.heap[k]? = w.heap[k]?
  cell : ∀ (k i : Nat) (v : Value), w.cell? ⟨k, i, none⟩ = some v → ∃ v', w'.cell? ⟨k, i, none⟩ = some v' ∧ (isI v → isI v') ∧ (¬ isI v → v' = v)
  froz : ∀ (k i : Nat), k < w.heap.size → w'.frozen? ⟨k, i, none⟩ = w.frozen? ⟨k, i, none⟩
variable {Z : Nat → Prop} {w w' w'' : World}
theorem Spt.refl (Z : Nat → Prop) (w : World) : Spt Z w w := ⟨rfl, rfl, rfl, Nat.le_refl _, ⟨0, rfl⟩, fun _ _ _ => rfl, fun k i v h => ⟨v, h, id, fun _ => rfl⟩, fun _ _ _ => rfl⟩
theorem Spt.trans (h : Spt Z w w') (h2 : Spt Z w' w'') : Spt Z w w'' := by
  obtain ⟨n, e1⟩ := h.drawn
  obtain ⟨m, e2⟩ := h2.drawn
  refine ⟨h2.os.trans h.os, h2.tape.trans h.tape, h2.output.trans h.output, Nat.le_trans h.size h2.size, ⟨n + m, by omega⟩, fun k hk hz => (h2.block k (Nat.lt_of_lt_of_le hk h.size) hz).trans (h.block k hk hz), fun k i v hc => ?_, fun k i hk => (h2.froz k i (Nat.lt_of_lt_of_le hk h.size)).trans (h.froz k i hk)⟩
  obtain ⟨v1, c1, a1, b1⟩ := h.cell k i v hc
  obtain ⟨v2, c2, a2, b2⟩ := h2.cell k i v1 c1
  refine ⟨v2, c2, fun x => a2 (a1 x), fun x => ?_⟩
  have := b1 x
  subst this
  exact b2 x
theorem Spt.drewN (h : Spt Z w w') (n : Nat) : Spt Z w (w'.drewN n) := h.trans ⟨rfl, rfl, rfl, Nat.le_refl _, ⟨n, rfl⟩, fun _ _ _ => rfl, fun k i v h => ⟨v, h, id, fun _ => rfl⟩, fun _ _ _ => rfl⟩
theorem Spt.drew (h : Spt Z w w') : Spt Z w w'.drew := h.trans ⟨rfl, rfl, rfl, Nat.le_refl _, ⟨1, rfl⟩, fun _ _ _ => rfl, fun k i v h => ⟨v, h, id, fun _ => rfl⟩, fun _ _ _ => rfl⟩
theorem Spt.set (h : Spt Z w w') {k i : Nat} {x y : Int} (hz : Z k) (hc : w'.cell? ⟨k, i, none⟩ = some (.int .i64 x)) : Spt Z w (w'.setCell ⟨k, i, none⟩ (.int .i64 y)) := by
  refine h.trans ⟨rfl, rfl, rfl, by simp [World.setCell], ⟨0, rfl⟩, fun k' hk' hz' => ?_, fun k' i' v hv => ?_, fun k' i' _ => ?_⟩
  · exact Below.heap_setCell w' ⟨k, i, none⟩ _ k' (fun e => hz' (by rw [e]; exact hz))
  · by_cases he : k' = k ∧ i' = i
    · obtain ⟨rfl, rfl⟩ := he
      rw [hc] at hv
      have := World.cell?_setCells_in k' [.int .i64 y] i' w' (fun j hj => by obtain rfl : j = 0 := (by simpa using hj); rw [Nat.add_zero, hc]; rfl) 0 (by simp)
      rw [show w'.setCells k' i' [.int .i64 y] = w'.setCell ⟨k', i', none⟩ (.int .i64 y) from rfl, Nat.add_zero] at this
      refine ⟨.int .i64 y, by rw [this]; rfl, fun _ => ⟨y, rfl⟩, fun hn => absurd ⟨x, ?_⟩ hn⟩
      injection hv with e
      exact e.symm
    · refine ⟨v, ?_, id, fun _ => rfl⟩
      by_cases hkk : k' = k
      · subst hkk
        have hii : i' ≠ i := fun e => he ⟨rfl, e⟩
        have := World.cell?_setCells_out k' [.int .i64 y] i w' ⟨k', i', none⟩ (fun _ _ => by show i' < i ∨ i + 1 ≤ i'; omega)
        rw [show w'.setCells k' i [.int .i64 y] = w'.setCell ⟨k', i, none⟩ (.int .i64 y) from rfl] at this
        rw [this]
        exact hv
      · rw [World.cell?_of_block (w := w') (a := ⟨k', i', none⟩) (Below.heap_setCell w' ⟨k, i, none⟩ _ k' hkk)]
        exact hv
  · have := World.frozen?_setCells k [.int .i64 y] i w' ⟨k', i', none⟩
    rwa [show w'.setCells k i [.int .i64 y] = w'.setCell ⟨k, i, none⟩ (.int .i64 y) from rfl] at this
/-- cells that hold no number stay; cells that hold one hold one -/
theorem Spt.other (h : Spt Z w w') {k i : Nat} {v : Value} (hc : w.cell? ⟨k, i, none⟩ = some v) (hv : ∀ x, v ≠ .int .i64 x) : w'.cell? ⟨k, i, none⟩ = some v := by
  obtain ⟨v', c, _, b⟩ := h.cell k i v hc
  rw [c, b (fun ⟨x, e⟩ => hv x e)]
theorem Spt.num (h : Spt Z w w') {k i : Nat} {x : Int} (hc : w.cell? ⟨k, i, none⟩ = some (.int .i64 x)) : ∃ y, w'.cell? ⟨k, i, none⟩ = some (.int .i64 y) := by
  obtain ⟨v', c, a, _⟩ := h.cell k i _ hc
  obtain ⟨y, rfl⟩ := a ⟨x, rfl⟩
  exact ⟨y, c⟩
/-- so many numbers at an address -/
def Nq (Z : Nat → Prop) (w : World) (A : Option Addr) (n : Nat) : Prop := n = 0 ∨ ∃ b p, A = some ⟨b, p, none⟩ ∧ Z b ∧ ∀ j, j < n → ∃ y, w.cell? ⟨b, p + j, none⟩ = some (.int .i64 y)
/-- a list's shape -/
def Rq (Z : Nat → Prop) (w : World) : Fs → Nat → Nat → Prop
  | ⟨none⟩, g, o => True
  | ⟨some (op, a, b, bi, ty, ls, bo, el, r)⟩, g, o => (∃ y, w.cell? ⟨g, o, none⟩ = some (.int .i64 y)) ∧ (∃ y, w.cell? ⟨g, o + 1, none⟩ = some (.int .i64 y)) ∧ (∃ LA lc, w.cell? ⟨g, o + 5, none⟩ = some (.slice LA ls.length lc) ∧ Nq Z w LA ls.length) ∧
      (∃ B bc, w.cell? ⟨g, o + 6, none⟩ = some (.slice B bo.len bc) ∧ (bo = .nil ∨ ∃ g' o', B = some ⟨g', o', none⟩ ∧ Z g' ∧ Rq Z w bo g' o')) ∧ (∃ E ec, w.cell? ⟨g, o + 7, none⟩ = some (.slice E el.len ec) ∧ (el = .nil ∨ ∃ g' o', E = some ⟨g', o', none⟩ ∧ Z g' ∧ Rq Z w el g' o')) ∧ Rq Z w r g (o + 8)
def Sq (Z : Nat → Prop) (w : World) (A : Option Addr) (f : Fs) : Prop := f = .nil ∨ ∃ g o, A = some ⟨g, o, none⟩ ∧ Z g ∧ Rq Z w f g o
theorem Nq.spt (h : Spt Z w w') {A : Option Addr} {n : Nat} (hq : Nq Z w A n) : Nq Z w' A n := by
  rcases hq with h0 | ⟨b, p, e, hz, hc⟩
  · exact Or.inl h0
  · exact Or.inr ⟨b, p, e, hz, fun j hj => by obtain ⟨y, hy⟩ := hc j hj; exact h.num hy⟩
theorem Rq.spt (h : Spt Z w w') : ∀ (f : Fs) (g o : Nat), Rq Z w f g o → Rq Z w' f g o
  | ⟨none⟩, g, o, hq => trivial
  | ⟨some (op, a, b, bi, ty, ls, bo, el, r)⟩, g, o, hq => by
    obtain ⟨⟨y0, c0⟩, ⟨y1, c1⟩, ⟨LA, lc, c5, h5⟩, ⟨B, bc, c6, h6⟩, ⟨E, ec, c7, h7⟩, hr⟩ := hq
    refine ⟨h.num c0, h.num c1, ⟨LA, lc, h.other c5 (fun x e => by cases e), h5.spt h⟩, ⟨B, bc, h.other c6 (fun x e => by cases e), ?_⟩, ⟨E, ec, h.other c7 (fun x e => by cases e), ?_⟩, Rq.spt h r g (o + 8) hr⟩
    · rcases h6 with h6 | ⟨g', o', e, hz, h6⟩
      · exact Or.inl h6
      · exact Or.inr ⟨g', o', e, hz, Rq.spt h bo g' o' h6⟩
    · rcases h7 with h7 | ⟨g', o', e, hz, h7⟩
      · exact Or.inl h7
      · exact Or.inr ⟨g', o', e, hz, Rq.spt h el g' o' h7⟩
theorem Sq.spt (h : Spt Z w w') {A : Option Addr} {f : Fs} (hq : Sq Z w A f) : Sq Z w' A f := by
  rcases hq with h0 | ⟨g, o, e, hz, hr⟩
  · exact Or.inl h0
  · exact Or.inr ⟨g, o, e, hz, Rq.spt h f g o hr⟩
theorem Lq.nq {A : Option Addr} {ls : List Int} (h : Lq Z w A ls) : Nq Z w A ls.length := by
  rcases h.1 with h0 | ⟨b, p, e, hc⟩
  · exact Or.inl h0
  · by_cases hn : ls = []
    · left; rw [hn]; rfl
    · exact Or.inr ⟨b, p, e, h.2 hn _ e, fun j hj => ⟨_, hc j hj⟩⟩
theorem At.rq : ∀ (k : Nat) (f : Fs), f.sz ≤ k → ∀ (g o : Nat), At Z w g o f → Rq Z w f g o
  | k, ⟨none⟩, hk, g, o, h => trivial
  | 0, ⟨some (op, a, b, bi, ty, ls, bo, el, r)⟩, hk, g, o, h => by simp [Fs.sz] at hk
  | k + 1, ⟨some (op, a, b, bi, ty, ls, bo, el, r)⟩, hk, g, o, h => by
    simp only [Fs.sz] at hk
    obtain ⟨LA, lc, B, bc, E, ec, c0, c1, _, _, _, c5, c6, c7, hL, hB, hE, hr⟩ := h.head
    refine ⟨⟨_, c0⟩, ⟨_, c1⟩, ⟨LA, lc, c5, hL.nq⟩, ⟨B, bc, c6, ?_⟩, ⟨E, ec, c7, ?_⟩, At.rq k r (by omega) g (o + 8) hr⟩
    · rcases hB with h0 | ⟨g', o', e, hz, hA⟩
      · exact Or.inl h0
      · exact Or.inr ⟨g', o', e, hz, At.rq k bo (by omega) g' o' hA⟩
    · rcases hE with h0 | ⟨g', o', e, hz, hA⟩
      · exact Or.inl h0
      · exact Or.inr ⟨g', o', e, hz, At.rq k el (by omega) g' o' hA⟩
theorem Tr.sq {A : Option Addr} {f : Fs} (h : Tr Z w A f) : Sq Z w A f := by
  rcases h with h0 | ⟨g, o, e, hz, hA⟩
  · exact Or.inl h0
  · exact Or.inr ⟨g, o, e, hz, At.rq f.sz f (Nat.le_refl _) g o hA⟩
/-- a block without a mark -/
def Nf (w : World) (k : Nat) : Prop := ∀ i, w.frozen? ⟨k, i, none⟩ = false
/-- only new blocks turned: new blocks behind -/
theorem Spt.later {w0 : World} (hl : Later w0 w) (h : Spt Z w w') (hz : ∀ k, Z k → w0.heap.size ≤ k) : Later w0 w' := by
  obtain ⟨bs, n, rfl⟩ := hl
  obtain ⟨m, e⟩ := h.drawn
  have hsz := h.size
  rw [World.far_size] at hsz
  refine ⟨w'.heap.extract w0.heap.size w'.heap.size, n + m, ?_⟩
  have hh : w'.heap = w0.heap ++ w'.heap.extract w0.heap.size w'.heap.size := by
    apply Array.ext_getElem?
    intro k
    rcases Nat.lt_or_ge k w0.heap.size with hk | hk
    · rw [Array.getElem?_append_left hk, h.block k (by rw [World.far_size]; omega) (fun x => by have := hz k x; omega), World.far_block w0 bs n k hk]
    · rw [Array.getElem?_append_right hk, Array.getElem?_extract]
      by_cases hk2 : k < w'.heap.size
      · rw [if_pos (by omega)]
        congr 1
        omega
      · rw [if_neg (by omega), Array.getElem?_eq_none (by omega)]
  have h1 := h.os
  have h2 := h.tape
  have h3 := h.output
  cases w'
  simp only at h1 h2 h3 e hh
  subst h1 h2 h3 e
  unfold World.far
  rw [← hh]
  simp [World.far, Nat.add_assoc]
/-- nothing of a kind is marked -/
def Unf (Z : Nat → Prop) (w : World) : Prop := ∀ k i, Z k → k < w.heap.size → w.frozen? ⟨k, i, none⟩ = false
theorem Unf.spt (h : Spt Z w w') (hu : Unf Z w) (hz : ∀ k, Z k → k < w.heap.size) : Unf Z w' := fun k i hk _ => (h.froz k i (hz k hk)).trans (hu k i hk (hz k hk))
theorem spI_any (A : Option Addr) (n c : Nat) (hn : n * 8 ≤ 140737488351232) (w : World) (hu : Unf Z w) (hz : ∀ k, Z k → k < w.heap.size) (hq : Nq Z w A n) :
    Calls Try.prog 14 #[.slice A n c] w fun e w' => e = .returned (.tuple #[]) ∧ Hid (Spt Z w w') := by
  rcases hq with rfl | ⟨b, p, rfl, hzb, hc⟩
  · go_enter Try.func14, Try.ntmps14
    go_wp2_with fail
    go_loopw [2] (fun i wr => i = .int .i64 0 ∧ wr = w) (fun i _ => 0)
    case atStart => exact ⟨rfl, rfl⟩
    case round =>
      obtain ⟨rfl, rfl⟩ := hrel
      go_wp2_with fail
      go_end0
      exact ⟨rfl, Spt.refl _ _⟩
  · replace hu : Hid (Unf Z w) := hu
    replace hz : Hid (∀ k, Z k → k < w.heap.size) := hz
    replace hc : Hid (∀ j, j < n → ∃ y, w.cell? ⟨b, p + j, none⟩ = some (.int .i64 y)) := hc
    replace hzb : Hid (Z b) := hzb
    go_enter Try.func14, Try.ntmps14
    go_wp2_with fail
    go_loopw [2] (fun i wr => ∃ j : Nat, j ≤ n ∧ i = .int .i64 (j : Nat) ∧ Spt Z w wr) (fun i _ => n - (intOf i).toNat)
    case atStart => exact ⟨0, Nat.zero_le _, rfl, Spt.refl _ _⟩
    case round =>
      obtain ⟨j, hj, rfl, hs⟩ := hrel
      by_cases hlt : j < n
      · obtain ⟨y0, hy0⟩ := hc.out j hlt
        obtain ⟨y, k0⟩ := hs.num hy0
        have hf0 := (hu.out.spt hs hz.out) b (p + j) hzb.out (cell_lt k0)
        have hl1 : (j : Int) < (n : Int) := by omega
        have hS : Hid (∀ z : Int, Spt Z w (wr.setCell ⟨b, p + j, none⟩ (.int .i64 z))) := fun z => hs.set hzb.out k0
        replace hs : Hid (Spt Z w wr) := hs
        clear hy0
        go_wp2_with fail
        go_roundw
        case rel => exact ⟨j + 1, by omega, by go_num, hS.out _⟩
        case measure => simp [intOf]; omega
      · obtain rfl : j = n := by omega
        replace hs : Hid (Spt Z w wr) := hs
        go_wp2_with fail
        go_end0
        exact ⟨rfl, hs.out⟩
end Go.Proofs.Ytonnmbmdmkmhmaa


/- Over this seat's translation: SpoilInstrs (peloruslaw0). -/
set_option linter.unusedVariables false
set_option linter.unusedSimpArgs false
set_option maxRecDepth 100000
set_option maxHeartbeats 4000000
namespace Go.Proofs.Ytonnmbmdmkmhmaa
open Go.RowKit
theorem Rq.drop {Z : Nat → Prop} {w : World} : ∀ (d r : Fs) (g o : Nat), Rq Z w (d.app r) g o → Rq Z w r g (o + d.len * 8)
  | ⟨none⟩, r, g, o, h => by simpa [Fs.len, Fs.app] using h
  | ⟨some (op, a, b, bi, ty, ls, bo, el, d)⟩, r, g, o, h => by
    obtain ⟨_, _, _, _, _, hr⟩ := h
    have := Rq.drop d r g (o + 8) hr
    rwa [show o + 8 + d.len * 8 = o + (Fs.cons op a b bi ty ls bo el d).len * 8 by simp only [Fs.len]; omega] at this
end Go.Proofs.Ytonnmbmdmkmhmaa

