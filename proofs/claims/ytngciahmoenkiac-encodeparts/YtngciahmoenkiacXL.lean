/- XL: IQ, IR, IS, IT, joined. -/
import Derived.Test.YtngciahmoenkiacXE
import Derived.Test.YtngciahmoenkiacXB
import Derived.Test.YtngciahmoenkiacXD
/- Over this seat's translation: the document's reader of bytes: its small functions. -/
set_option linter.unusedVariables false
set_option linter.unusedSimpArgs false
set_option maxRecDepth 100000
set_option maxHeartbeats 4000000
namespace Go.Proofs.Ytngciahmoenkiac
open Go.RowKit
/-- a reader: its place, its first error, how many instructions it met -/
structure Rst where
  at_ : Int
  code : Int
  count : Int
def rF (s : ByteArray) (st : Rst) (j : Nat) : Value := [Value.string s, .int .i64 st.at_, .int .i64 st.code, .int .i64 st.count].getD j undef
def rfail (st : Rst) (e : Int) : Rst := if st.code = 0 then { st with code := e } else st
def rbyte (s : ByteArray) (st : Rst) : Int × Rst := if st.code = 0 ∧ st.at_ < s.size then (bt s st.at_.toNat, { st with at_ := st.at_ + 1 }) else (0, rfail st 1401)
def rmoved (st : Rst) (x : Int × Int × Int) : Int × Rst := if ¬ st.code = 0 then (0, st) else if x.2.2 = 0 then (x.1, { st with at_ := x.2.1 }) else if x.2.2 = 1201 then (0, rfail st 1401) else (0, rfail st 1400)
def rnum (s : ByteArray) (st : Rst) : Int × Rst := rmoved st (ulR s st.at_ 32)
def rsgn (s : ByteArray) (st : Rst) (b : Int) : Int × Rst := rmoved st (usR s st.at_ b)
def rnought (s : ByteArray) (st : Rst) : Rst := if (rbyte s st).1 = 0 then (rbyte s st).2 else rfail (rbyte s st).2 1400
/-- a place within the text -/
def Rin (s : ByteArray) (st : Rst) : Prop := 0 ≤ st.at_ ∧ st.at_ ≤ s.size
theorem rfail_in {s : ByteArray} {st : Rst} (h : Rin s st) (e : Int) : Rin s (rfail st e) := by
  unfold rfail
  split <;> exact h
theorem rbyte_in {s : ByteArray} {st : Rst} (h : Rin s st) : Rin s (rbyte s st).2 := by
  unfold rbyte
  split
  · rename_i h1
    exact ⟨by have := h.1; show 0 ≤ st.at_ + 1; omega, by have := h1.2; show st.at_ + 1 ≤ _; omega⟩
  · exact rfail_in h _
variable {q : Nat} {w wr wr' : World} {s : ByteArray} {st st' : Rst}
theorem set1 {a b c a' : Int} : ∀ j, j < 4 → (if j = 1 then Value.int .i64 a' else rF s ⟨a, b, c⟩ j) = rF s ⟨a', b, c⟩ j := fun j hj => by
  match j, hj with
  | 0, _ => rfl
  | 1, _ => rfl
  | 2, _ => rfl
  | 3, _ => rfl
end Go.Proofs.Ytngciahmoenkiac


/- Over this seat's translation: the document's reader: a constant's bits. -/
set_option linter.unusedVariables false
set_option linter.unusedSimpArgs false
set_option maxRecDepth 100000
set_option maxHeartbeats 4000000
namespace Go.Proofs.Ytngciahmoenkiac
open Go.RowKit
def rbF (s : ByteArray) : Nat → Nat → Int → Rst → Int × Rst
  | 0, i, x, st => (x, st)
  | r + 1, i, x, st => rbF s r (i + 1) (bits .or .i64 x (wrap64 ((rbyte s st).1 * 2 ^ (8 * i)))) (rbyte s st).2
def rbits (s : ByteArray) (k : Nat) (st : Rst) : Int × Rst := rbF s k 0 0 st
def rlit (s : ByteArray) (op : Int) (st : Rst) : Int × Rst := if op = 65 then ((rsgn s st 32).1 % 4294967296, (rsgn s st 32).2) else if op = 66 then rsgn s st 64 else if op = 67 then rbits s 4 st else rbits s 8 st
theorem rbF_in {s : ByteArray} : ∀ (r i : Nat) (x : Int) (st : Rst), Rin s st → Rin s (rbF s r i x st).2
  | 0, i, x, st, h => h
  | r + 1, i, x, st, h => rbF_in r (i + 1) _ _ (rbyte_in h)
variable {q : Nat} {s : ByteArray} {st : Rst}
end Go.Proofs.Ytngciahmoenkiac


/- Over this seat's translation: the document's reader: what one instruction and a list of them are. -/
set_option linter.unusedVariables false
set_option linter.unusedSimpArgs false
set_option maxRecDepth 100000
set_option maxHeartbeats 4000000
namespace Go.Proofs.Ytngciahmoenkiac
open Go.RowKit
/-- what stands behind an Op -/
structure On where
  a : Int := 0
  b : Int := 0
  bi : Int := 0
  ty : Int := 0
  ls : List Int := []
  bo : Fs := .nil
  el : Fs := .nil
/-- labels -/
def rlab (s : ByteArray) : Nat → Rst → List Int × Rst
  | 0, st => ([], st)
  | n + 1, st => if st.code = 0 then ((rnum s st).1 :: (rlab s n (rnum s st).2).1, (rlab s n (rnum s st).2).2) else ([], st)
/-- a block's type read: an error, if it is none -/
def rtyp (s : ByteArray) (st : Rst) : Rst := if (rbyte s st).2.code = 0 ∧ ¬ (rbyte s st).1 = 64 ∧ ¬ (124 ≤ (rbyte s st).1 ∧ (rbyte s st).1 ≤ 127) then rfail (rbyte s st).2 1400 else (rbyte s st).2
def rcap (x : Int) (st : Rst) : Rst := if x ≥ 1024 then rfail st 1400 else st
/-- one instruction, behind its Op; L: a list -/
def ro (L : Int → Bool → Rst → Fs × Bool × Rst) (s : ByteArray) (op deep : Int) (st : Rst) : On × Rst :=
  if fo op = 1 ∨ fo op = 2 then
    if deep ≥ 32 then ({}, rfail st 1402)
    else if (L (deep + 1) (decide (op = 4)) (rtyp s st)).2.1 = true then
      ({ ty := (rbyte s st).1, bo := (L (deep + 1) (decide (op = 4)) (rtyp s st)).1, el := (L (deep + 1) false (L (deep + 1) (decide (op = 4)) (rtyp s st)).2.2).1 }, (L (deep + 1) false (L (deep + 1) (decide (op = 4)) (rtyp s st)).2.2).2.2)
    else ({ ty := (rbyte s st).1, bo := (L (deep + 1) (decide (op = 4)) (rtyp s st)).1 }, (L (deep + 1) (decide (op = 4)) (rtyp s st)).2.2)
  else if fo op = 3 then ({ a := (rnum s st).1 }, (rnum s st).2)
  else if fo op = 4 then ({ ls := (rlab s ((rnum s st).1.toNat + 1) (rcap (rnum s st).1 (rnum s st).2)).1 }, (rlab s ((rnum s st).1.toNat + 1) (rcap (rnum s st).1 (rnum s st).2)).2)
  else if fo op = 5 then ({ a := (rnum s st).1 }, rnought s (rnum s st).2)
  else if fo op = 6 then ({ a := (rnum s st).1, b := (rnum s (rnum s st).2).1 }, (rnum s (rnum s st).2).2)
  else if fo op = 7 then ({}, rnought s st)
  else if fo op = 8 then ({ bi := (rlit s op st).1 }, (rlit s op st).2)
  else ({}, st)
def met (st : Rst) : Rst := { st with count := st.count + 1 }
/-- a list, so many bytes at most -/
def rl (s : ByteArray) : Nat → Int → Bool → Rst → Fs × Bool × Rst
  | 0, deep, other, st => (.nil, false, st)
  | n + 1, deep, other, st =>
    if st.code = 0 then
      if ¬ (rbyte s st).2.code = 0 ∨ (rbyte s st).1 = 11 then (.nil, false, (rbyte s st).2)
      else if (rbyte s st).1 = 5 ∧ other = true then (.nil, true, (rbyte s st).2)
      else if fo (rbyte s st).1 = 9 then (.nil, false, rfail (rbyte s st).2 1403)
      else if (rbyte s st).2.count + 1 > 8192 then (.nil, false, rfail (met (rbyte s st).2) 1400)
      else (.cons (rbyte s st).1 (ro (rl s n) s (rbyte s st).1 deep (met (rbyte s st).2)).1.a (ro (rl s n) s (rbyte s st).1 deep (met (rbyte s st).2)).1.b (ro (rl s n) s (rbyte s st).1 deep (met (rbyte s st).2)).1.bi (ro (rl s n) s (rbyte s st).1 deep (met (rbyte s st).2)).1.ty (ro (rl s n) s (rbyte s st).1 deep (met (rbyte s st).2)).1.ls (ro (rl s n) s (rbyte s st).1 deep (met (rbyte s st).2)).1.bo (ro (rl s n) s (rbyte s st).1 deep (met (rbyte s st).2)).1.el
          (rl s n deep other (ro (rl s n) s (rbyte s st).1 deep (met (rbyte s st).2)).2).1,
        (rl s n deep other (ro (rl s n) s (rbyte s st).1 deep (met (rbyte s st).2)).2).2.1, (rl s n deep other (ro (rl s n) s (rbyte s st).1 deep (met (rbyte s st).2)).2).2.2)
    else (.nil, false, st)
/-- an instruction at hand in a block of its own, all of old labelled apart -/
def Pr (B0 : Nat) (lab : Nat → Nat) (W : World) (p : Nat) (F : Nat → Value) : Prop := Str lab 7 W B0 p 43 8 F ∧ ∀ k, k < B0 → lab k = 99
variable {q : Nat} {w wr : World} {s : ByteArray} {st : Rst} {lab : Nat → Nat} {W W' : World} {B0 p : Nat} {F : Nat → Value}
theorem Pr.start (w : World) (x0 x1 x2 x3 x4 x5 x6 x7 : Value) : ∃ lab, Pr w.heap.size lab (w.alloc (.cells #[x0, x1, x2, x3, x4, x5, x6, x7] 43)) w.heap.size (fun j => [x0, x1, x2, x3, x4, x5, x6, x7].getD j undef) := by
  refine ⟨fun k => if k < w.heap.size then 99 else 7, ⟨?_, Nat.le_refl _, if_neg (Nat.lt_irrefl _)⟩, fun k hk => if_pos hk⟩
  exact ⟨_, heap_alloc_new w _, rfl, fun i hi => by
    match i, hi with
    | 0, _ => rfl
    | 1, _ => rfl
    | 2, _ => rfl
    | 3, _ => rfl
    | 4, _ => rfl
    | 5, _ => rfl
    | 6, _ => rfl
    | 7, _ => rfl⟩
theorem Pr.set (h : Pr B0 lab W p F) (i : Nat) (u : Value) : Pr B0 lab (W.setCell ⟨p, i, none⟩ u) p (fun j => if j = i then u else F j) ∧ K5 B0 lab W lab (W.setCell ⟨p, i, none⟩ u) ∧ (∀ k, k ≠ p → (W.setCell ⟨p, i, none⟩ u).heap[k]? = W.heap[k]?) := by
  obtain ⟨s1, C⟩ := h.1.set i u
  have ht : Turned p W (W.setCell ⟨p, i, none⟩ u) := (Turned.refl h.1.1).set h.1.1 i u
  have hs : (W.setCell ⟨p, i, none⟩ u).heap.size = W.heap.size := by simp [World.setCell]
  refine ⟨⟨s1, h.2⟩, z5_chg C (by decide), fun k hk => ?_⟩
  by_cases hl : k < W.heap.size
  · exact ht.block hk hl
  · rw [Array.getElem?_eq_none (by omega), Array.getElem?_eq_none (by omega)]
theorem Pr.cell (h : Pr B0 lab W p F) (i : Nat) (hi : i < 8) : W.cell? ⟨p, i, none⟩ = some (F i) := h.1.1.cell hi
theorem Pr.frozen (h : Pr B0 lab W p F) (i : Nat) : W.frozen? ⟨p, i, none⟩ = false := h.1.1.frozen i
def zer (j : Nat) : Value := [Value.int .i64 0, .int .i64 0, .int .i64 0, .int .i64 0, .int .i64 0, .slice none 0 0, .slice none 0 0, .slice none 0 0].getD j undef
theorem row8 (w : World) (x0 x1 x2 x3 x4 x5 x6 x7 : Value) : (w.alloc (.cells #[x0, x1, x2, x3, x4, x5, x6, x7] 43)).rowIs w.heap.size 43 8 (fun j => [x0, x1, x2, x3, x4, x5, x6, x7].getD j undef) := ⟨_, heap_alloc_new w _, rfl, fun i hi => by
    match i, hi with
    | 0, _ => rfl
    | 1, _ => rfl
    | 2, _ => rfl
    | 3, _ => rfl
    | 4, _ => rfl
    | 5, _ => rfl
    | 6, _ => rfl
    | 7, _ => rfl⟩
end Go.Proofs.Ytngciahmoenkiac


/- Over this seat's translation: the document's reader: one instruction, of kinds without blocks and labels. -/
set_option linter.unusedVariables false
set_option linter.unusedSimpArgs false
set_option maxRecDepth 100000
set_option maxHeartbeats 4000000
namespace Go.Proofs.Ytngciahmoenkiac
open Go.RowKit
variable {q : Nat} {s : ByteArray} {st : Rst}
theorem rmoved_in {s : ByteArray} {st : Rst} (h : Rin s st) (x : Int × Int × Int) (hx : x.2.2 = 0 → 0 ≤ x.2.1 ∧ x.2.1 ≤ s.size) : Rin s (rmoved st x).2 := by
  unfold rmoved
  split
  · exact h
  · split
    · rename_i h1
      exact hx h1
    · split <;> exact rfail_in h _
theorem rnum_in {s : ByteArray} {st : Rst} (h : Rin s st) : Rin s (rnum s st).2 := by
  refine rmoved_in h _ fun h0 => ?_
  unfold ulR at h0 ⊢
  by_cases hp : (ptR s st.at_ 32).2 = 0
  · obtain ⟨a, k, m, e, hb, h1, h2, h3, h4, h5⟩ := ptR_in hp
    rw [if_pos hp] at h0 ⊢
    split at h0
    · simp at h0
    · rename_i hn
      rw [if_neg hn]
      show 0 ≤ (ptR s st.at_ 32).1 + 1 ∧ (ptR s st.at_ 32).1 + 1 ≤ s.size
      omega
  · rw [if_neg hp] at h0
    exact absurd h0 hp
end Go.Proofs.Ytngciahmoenkiac

