/- Worlds behind calls that write into one of their own blocks; a memory as a struct and its row of bytes; bytes as words. -/
import Derived.Test.YtbbjbgbpjhhcoaaDoorFar
import Derived.Deep.OwnRows
import Derived.OwnWalk
import Derived.Laws.CopyOwn
import Derived.Lib.BufferWrite
import Derived.Laws.IdiomStrings
set_option linter.unusedVariables false
namespace Go
open Go.RowKit

theorem Later.size {w w' : World} (h : Later w w') : w.heap.size ≤ w'.heap.size := by obtain ⟨bs, n, rfl⟩ := h; rw [World.far_size]; omega
theorem Later.block {w w' : World} (h : Later w w') {k : Nat} (hk : k < w.heap.size) : w'.heap[k]? = w.heap[k]? := by obtain ⟨bs, n, rfl⟩ := h; exact World.far_block w bs n k hk
theorem Later.cell {w w' : World} (h : Later w w') {k i : Nat} (hk : k < w.heap.size) : w'.cell? ⟨k, i, none⟩ = w.cell? ⟨k, i, none⟩ := by obtain ⟨bs, n, rfl⟩ := h; exact World.cell?_far w bs n k i hk
theorem cell_lt {w : World} {k i : Nat} {v : Value} (h : w.cell? ⟨k, i, none⟩ = some v) : k < w.heap.size := World.block_lt_of_cell? w ⟨k, i, none⟩ h
theorem Later.cell_of {w w' : World} (h : Later w w') {k i : Nat} {v : Value} (hc : w.cell? ⟨k, i, none⟩ = some v) : w'.cell? ⟨k, i, none⟩ = some v := (h.cell (cell_lt hc)).trans hc
theorem later_of {w w' : World} (h : Hid (Later w w')) : Later w w' := h
theorem Lz (w : World) : Later w w := Later.refl w
theorem La {w w' : World} {c : Array Value} {t : TypeId} (h : Later w w') : Later w (w'.alloc (.cells c t)) := h.alloc
theorem Lv {w w' : World} {bs : FarBs} {n : Nat} (h : Later w w') : Later w (w'.far bs n) := h.far
theorem Ld {w w' : World} (h : Later w w') : Later w w'.drew := h.drew
theorem Ln {w w' : World} {n : Nat} (h : Later w w') : Later w (w'.drewN n) := h.drewN
theorem rowIs_later {w w' : World} (h : Later w w') {b : Nat} {t : TypeId} {n : Nat} {f : Nat → Value} (hr : w.rowIs b t n f) : w'.rowIs b t n f := hr.of_block (h.block hr.lt)

/-- block k turned, new blocks behind, draws made -/
def Turned (k : Nat) (w w' : World) : Prop := ∃ cs bs n, w' = (w.setRow k cs).far bs n
theorem Turned.size {k : Nat} {w w' : World} (h : Turned k w w') : w.heap.size ≤ w'.heap.size := by
  obtain ⟨cs, bs, n, rfl⟩ := h
  rw [World.far_size]; simp [World.setRow]
theorem Turned.block {k : Nat} {w w' : World} (h : Turned k w w') {j : Nat} (hj : j ≠ k) (hl : j < w.heap.size) : w'.heap[j]? = w.heap[j]? := by
  obtain ⟨cs, bs, n, rfl⟩ := h
  rw [World.far_block _ _ _ _ (by simpa [World.setRow] using hl)]
  exact setRow_other w k j cs hj
theorem Turned.row {k : Nat} {w w' : World} (h : Turned k w w') {b : Nat} {t : TypeId} {n : Nat} {f : Nat → Value} (hr : w.rowIs b t n f) (hb : b ≠ k) : w'.rowIs b t n f := hr.of_block (h.block hb hr.lt)
theorem Turned.later {k : Nat} {w w' : World} (h : Turned k w w') : ∀ {w'' : World}, Later w' w'' → Turned k w w'' := by
  obtain ⟨cs, bs, n, rfl⟩ := h
  rintro w'' ⟨ds, m, rfl⟩
  exact ⟨cs, bs ++ ds, n + m, World.far_far _ _ _ _ _⟩
theorem Later.setRow {w w' : World} (h : Later w w') {g : Nat} {cur : Array Value} {t : TypeId} (cs : Array Value) (hg : w.heap.size ≤ g) (hb : w'.heap[g]? = some (.cells cur t (0, 0))) : Later w (w'.setRow g cs) :=
  h.turn hg hb _ rfl (by simp [World.setRow]) (setRow_heap w' g cur cs t (0, 0) hb) (fun k hk => setRow_other w' g k cs hk)
/-- from the world ahead of all that block is new -/
theorem Later.turned {W w w' : World} (h : Later W w) {k : Nat} {t : TypeId} {n : Nat} {f : Nat → Value} (hr : w.rowIs k t n f) (hk : W.heap.size ≤ k) (ht : Turned k w w') : Later W w' := by
  obtain ⟨cs, bs, n, rfl⟩ := ht
  obtain ⟨c, hc, _, _⟩ := hr
  exact (h.setRow cs hk hc).far
theorem setCell_setRow {w : World} {g i : Nat} {cur : Array Value} {t : TypeId} (hg : w.heap[g]? = some (.cells cur t (0, 0))) (v : Value) : w.setCell ⟨g, i, none⟩ v = w.setRow g (cur.setIfInBounds i v) := by
  have hlt : g < w.heap.size := (Array.getElem?_eq_some_iff.1 hg).1
  have hv : w.heap[g] = .cells cur t (0, 0) := (Array.getElem?_eq_some_iff.1 hg).2
  unfold World.setCell World.setRow
  congr 1
  apply Array.ext
  · simp
  · intro k h1 h2
    simp only [Array.getElem_modify]
    split
    · rename_i hk; subst hk; simp [hv]
    · rfl
theorem setRow_far {w : World} {g : Nat} {bs : FarBs} {n : Nat} (cs : Array Value) (hg : g < w.heap.size) : (w.far bs n).setRow g cs = (w.setRow g cs).far bs n := by
  unfold World.setRow World.far
  congr 1
  apply Array.ext_getElem?
  intro j
  simp only [Array.getElem?_modify]
  rcases Nat.lt_or_ge j w.heap.size with hj | hj
  · rw [Array.getElem?_append_left hj, Array.getElem?_append_left (by simpa using hj), Array.getElem?_modify]
  · rw [Array.getElem?_append_right hj, Array.getElem?_append_right (by simpa using hj)]
    have : ¬ g = j := by omega
    simp [this]
theorem Turned.set {k : Nat} {w w' : World} {t : TypeId} {n : Nat} {f : Nat → Value} (h : Turned k w w') (hr : w.rowIs k t n f) (i : Nat) (v : Value) : Turned k w (w'.setCell ⟨k, i, none⟩ v) := by
  obtain ⟨cs, bs, m, rfl⟩ := h
  obtain ⟨c, hc, _, _⟩ := hr
  have hl : k < w.heap.size := (Array.getElem?_eq_some_iff.1 hc).1
  refine ⟨cs.setIfInBounds i v, bs, m, ?_⟩
  rw [World.setCell_far _ _ _ _ _ _ (by simpa [World.setRow] using hl), setCell_setRow (setRow_heap w k c cs t (0, 0) hc), setRow_setRow]
theorem Turned.refl {k : Nat} {w : World} {t : TypeId} {n : Nat} {f : Nat → Value} (hr : w.rowIs k t n f) : Turned k w w := by
  obtain ⟨c, hc, _, _⟩ := hr
  exact ⟨c, #[], 0, by rw [setRow_self w k c t (0, 0) hc]; simp [World.far]⟩
theorem Turned.setRow {k : Nat} {w w' : World} {t : TypeId} {n : Nat} {f : Nat → Value} (h : Turned k w w') (hr : w.rowIs k t n f) (ds : Array Value) : Turned k w (w'.setRow k ds) := by
  obtain ⟨cs, bs, m, rfl⟩ := h
  obtain ⟨c, hc, _, _⟩ := hr
  have hl : k < w.heap.size := (Array.getElem?_eq_some_iff.1 hc).1
  refine ⟨ds, bs, m, ?_⟩
  rw [setRow_far _ (by simpa [World.setRow] using hl), setRow_setRow]
theorem Turned.of_later {k : Nat} {w w' : World} {t : TypeId} {n : Nat} {f : Nat → Value} (hr : w.rowIs k t n f) (h : Later w w') : Turned k w w' := (Turned.refl hr).later h
theorem Turned.trans {k : Nat} {w w' w'' : World} {t : TypeId} {n : Nat} {f : Nat → Value} (hr : w.rowIs k t n f) (h : Turned k w w') (h2 : Turned k w' w'') : Turned k w w'' := by
  obtain ⟨cs, bs, m, rfl⟩ := h2
  exact (h.setRow hr cs).later ⟨bs, m, rfl⟩
/-- 'copy' into a row that is known: the row's cells spliced -/
theorem run_copy_to {P : Program} (w : World) (dT sT ty elem : TypeId) (hu : P.underlying dT = some (.slice elem)) (hsz : (P.info? elem).map (·.size) = some 1)
    (dp sp : Option Addr) (dLen dCap sLen sCap : Nat)
    (g off : Nat) (cur : List Value) (t : TypeId) (hg : w.heap[g]? = some (.cells cur.toArray t (0, 0))) (cs : List Value) (hn : cs.length = Nat.min sLen dLen)
    (hpos : 0 < cs.length → dp = some ⟨g, off, none⟩ ∧ ∃ ad, sp = some ad ∧ ∀ j v, cs[j]? = some v → w.cell? (ad.add j) = some v)
    (hfit : off + cs.length ≤ cur.length) (h1 : ∀ v ∈ cs, v.oneCell' = true) :
    (Builtin.copy_ #[dT, sT] ty #[.slice dp dLen dCap, .slice sp sLen sCap]).run P w = .ok (goInt cs.length) (w.setRow g (splice cur off cs).toArray) := by
  by_cases h0 : cs.length = 0
  · obtain rfl : cs = [] := List.eq_nil_of_length_eq_zero h0
    rw [run_copy_none (P := P) w dT sT ty elem dp sp dLen dCap sLen sCap hu hsz (by simpa using hn.symm), show splice cur off [] = cur by simp [splice], setRow_self w g cur.toArray t (0, 0) hg]
    rfl
  · obtain ⟨rfl, ad, rfl, hsrc⟩ := hpos (by omega)
    rw [run_copy_row (P := P) w dT sT ty elem g off dLen dCap ad sLen sCap cur.toArray t cs hu hsz hg hn hsrc (by simpa using hfit) h1]
    simp [splice]
/-- the same out of a string -/
theorem run_copy_str {P : Program} (w : World) (dT sT ty elem : TypeId) (hu : P.underlying dT = some (.slice elem)) (hsz : (P.info? elem).map (·.size) = some 1)
    (dp : Option Addr) (dLen dCap : Nat) (x : ByteArray)
    (g off : Nat) (cur : List Value) (t : TypeId) (hg : w.heap[g]? = some (.cells cur.toArray t (0, 0))) (hn : x.size ≤ dLen)
    (hpos : 0 < x.size → dp = some ⟨g, off, none⟩) (hfit : off + x.size ≤ cur.length) :
    (Builtin.copy_ #[dT, sT] ty #[.slice dp dLen dCap, .string x]).run P w = .ok (goInt x.size) (w.setRow g (splice cur off (Lib.byteCells x.data.toList)).toArray) := by
  have hlen : (Lib.byteCells x.data.toList).length = x.size := by rw [Lib.byteCells_length]; simp
  by_cases h0 : x.size = 0
  · have hnil : Lib.byteCells x.data.toList = [] := List.eq_nil_of_length_eq_zero (by omega)
    rw [hnil, Lib.run_copy_empty_string (P := P) w dT sT ty elem dp dLen dCap x hu (by rw [hsz]; rfl) h0, show splice cur off [] = cur by simp [splice], setRow_self w g cur.toArray t (0, 0) hg, h0]
    rfl
  · obtain rfl := hpos (by omega)
    rw [Lib.run_copy_row_string (P := P) w dT sT ty elem g off dLen dCap x cur.toArray t hu hsz hg hn (by simpa using hfit)]
    simp [splice, hlen]
theorem splice_get {α : Type} (L cs : List α) (off i : Nat) (h : off + cs.length ≤ L.length) : (splice L off cs)[i]? = if off ≤ i ∧ i < off + cs.length then cs[i - off]? else L[i]? := by
  unfold splice
  by_cases h1 : i < off
  · rw [if_neg (by omega), List.getElem?_append_left (by simp; omega), List.getElem?_take, if_pos h1]
  · rw [List.getElem?_append_right (by simp; omega)]
    simp only [List.length_take, Nat.min_eq_left (show off ≤ L.length by omega)]
    by_cases h2 : i < off + cs.length
    · rw [if_pos (by omega), List.getElem?_append_left (by omega)]
    · rw [if_neg (by omega), List.getElem?_append_right (by omega), List.getElem?_drop]
      congr 1; omega
theorem rowIs_list {w : World} {b : Nat} {t : TypeId} {n : Nat} {f : Nat → Value} (h : w.rowIs b t n f) : w.heap[b]? = some (.cells ((List.range n).map f).toArray t (0, 0)) := by
  obtain ⟨c, hb, hn, hc⟩ := h
  rw [hb]
  congr 2
  apply Array.ext_getElem?
  intro i
  by_cases hi : i < n
  · rw [hc i hi]; simp [hi]
  · rw [Array.getElem?_eq_none (by omega), Array.getElem?_eq_none (by simp; omega)]
theorem rowIs_of_list {w : World} {b : Nat} {t : TypeId} {n : Nat} {f : Nat → Value} (L : List Value) (h : w.heap[b]? = some (.cells L.toArray t (0, 0))) (hn : L.length = n) (hL : ∀ i, i < n → L[i]? = some (f i)) : w.rowIs b t n f :=
  ⟨L.toArray, h, by simpa using hn, fun i hi => by simpa using hL i hi⟩
end Go
