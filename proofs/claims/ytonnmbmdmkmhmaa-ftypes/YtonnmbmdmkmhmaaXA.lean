/- XA: Far, MA, NA, NB, UA, Math, joined. -/
import Derived.WalkKit
import Derived.RowKit3
import Derived.Laws.NewBlocks
import Derived.Deep.Draws
import Derived.Deep.QuietTactic
import Derived.BigQuiet
import Derived.Deep.RegionWith
import Derived.Deep.OwnRows
import Derived.OwnWalk
import Derived.Laws.CopyOwn
import Derived.Lib.BufferWrite
import Derived.Laws.IdiomStrings
import Derived.Laws.AppendOwn
import Derived.Laws.OwnMore
import Derived.Test.YtonnmbmdmkmhmaaRows
import Derived.ProofKit
import Derived.LoopN
import Derived.LoopTactic
import Derived.Deep.RegionLaw
import Derived.Deep.RegionHeldLaw
import Derived.Laws.BitsAllLaws
import Derived.Laws.BitsLemmas
import Derived.Lib.BitFns
import Derived.Lib.TrailingZeros
/- (New blocks of whatever kind, marks too.) A world with whatever new blocks laid behind it, and whatever draws made: what the walk needs of it. -/
namespace Go
open Go.RowKit

/-- new blocks -/
abbrev FarBs : Type := Array Obj
def World.far (w : World) (bs : Array Obj) (n : Nat) : World := { w with heap := w.heap ++ bs, drawn := w.drawn + n }
variable (w : World) (bs cs : Array Obj) (n m k i : Nat) (v : Value)
theorem World.far_size : (w.far bs n).heap.size = w.heap.size + bs.size := by simp [World.far]
theorem World.far_block (h : k < w.heap.size) : (w.far bs n).heap[k]? = w.heap[k]? := by
  simp only [World.far]; exact Array.getElem?_append_left h
theorem World.cell?_far (h : k < w.heap.size) : (w.far bs n).cell? ⟨k, i, none⟩ = w.cell? ⟨k, i, none⟩ := by
  simp only [World.cell?]; rw [World.far_block w bs n k h]
theorem World.frozen?_far (h : k < w.heap.size) : (w.far bs n).frozen? ⟨k, i, none⟩ = w.frozen? ⟨k, i, none⟩ := by
  simp only [World.frozen?]; rw [World.far_block w bs n k h]
theorem World.shape?_far (h : k < w.heap.size) : (w.far bs n).shape? k = w.shape? k := by
  simp only [World.shape?]; rw [World.far_block w bs n k h]
theorem World.setCell_far (h : k < w.heap.size) : (w.far bs n).setCell ⟨k, i, none⟩ v = (w.setCell ⟨k, i, none⟩ v).far bs n := by
  unfold World.setCell World.far
  congr 1
  apply Array.ext_getElem?
  intro j
  simp only [Array.getElem?_modify]
  rcases Nat.lt_or_ge j w.heap.size with hj | hj
  · rw [Array.getElem?_append_left hj, Array.getElem?_append_left (by simpa using hj), Array.getElem?_modify]
  · rw [Array.getElem?_append_right hj, Array.getElem?_append_right (by simpa using hj)]
    have : ¬ k = j := by omega
    simp [this]
theorem World.far_far : (w.far bs n).far cs m = w.far (bs ++ cs) (n + m) := by
  simp [World.far, Array.append_assoc, Nat.add_assoc]
theorem World.drew_far : (w.far bs n).drew = w.far bs (n + 1) := rfl
theorem World.drewN_far : (w.far bs n).drewN m = w.far bs (n + m) := by
  simp [World.far, World.drewN, Nat.add_assoc]
theorem World.lt_one (h : k < w.heap.size) : k < w.heap.size + 1 := by omega
theorem World.lt_two (h : k < w.heap.size) : k < w.heap.size + 1 + 1 := by omega
theorem World.lt_far (h : k < w.heap.size) : k < (w.far bs n).heap.size := by rw [World.far_size]; omega
theorem i64_id (x : Int) (h : -9223372036854775808 ≤ x) (h' : x ≤ 9223372036854775807) : IntKind.i64.wrap x = x := by rw [IntKind.wrap_i64]; omega
theorem u64_id (x : Int) (h : 0 ≤ x) (h' : x ≤ 18446744073709551615) : IntKind.u64.wrap x = x := by rw [IntKind.wrap_u64]; omega
attribute [go_sem] i64_id u64_id
attribute [go_sem] World.cell?_far World.frozen?_far World.shape?_far World.setCell_far World.far_far World.drew_far World.drewN_far World.lt_far World.lt_one World.lt_two
/-- what a call leaves that only lays new blocks and draws -/
def Later (w w' : World) : Prop := ∃ bs n, w' = w.far bs n
variable {w}
theorem Later.refl (w : World) : Later w w := ⟨#[], 0, by simp [World.far]⟩
theorem Later.alloc {w w' : World} {c : Array Value} {t : TypeId} (h : Later w w') : Later w (w'.alloc (.cells c t)) := by
  obtain ⟨bs, n, rfl⟩ := h
  exact ⟨bs.push (.cells c t), n, by simp [World.far, World.alloc]⟩
theorem Later.far {w w' : World} {bs : Array Obj} {n : Nat} (h : Later w w') : Later w (w'.far bs n) := by
  obtain ⟨cs, m, rfl⟩ := h
  exact ⟨_, _, World.far_far _ _ _ _ _⟩
theorem Later.drew {w w' : World} (h : Later w w') : Later w w'.drew := by
  obtain ⟨cs, m, rfl⟩ := h
  exact ⟨_, _, World.drew_far _ _ _⟩
theorem Later.drewN {w w' : World} {n : Nat} (h : Later w w') : Later w (w'.drewN n) := by
  obtain ⟨cs, m, rfl⟩ := h
  exact ⟨_, _, World.drewN_far _ _ _ _⟩
theorem Later.trans {a b c : World} (h : Later a b) (h' : Later b c) : Later a c := by
  obtain ⟨cs, m, rfl⟩ := h'
  exact h.far
theorem Later.turn {w w' : World} (h : Later w w') {g : Nat} {cur cs : Array Value} {t : TypeId} (hg : w.heap.size ≤ g) (hb : w'.heap[g]? = some (.cells cur t (0, 0))) (w2 : World)
    (h2 : w2 = { w' with heap := w2.heap }) (hs : w2.heap.size = w'.heap.size) (hk : w2.heap[g]? = some (.cells cs t (0, 0))) (ho : ∀ k, k ≠ g → w2.heap[k]? = w'.heap[k]?) : Later w w2 := by
  obtain ⟨bs, n, rfl⟩ := h
  have hlt : g < (w.far bs n).heap.size := (Array.getElem?_eq_some_iff.1 hb).1
  rw [World.far_size] at hlt
  refine ⟨bs.set (g - w.heap.size) (.cells cs t) (by omega), n, ?_⟩
  rw [h2]
  unfold World.far
  congr 1
  apply Array.ext_getElem?
  intro k
  rcases Nat.lt_or_ge k w.heap.size with hkk | hkk
  · rw [ho k (by omega), World.far_block w bs n k hkk, Array.getElem?_append_left hkk]
  · rw [Array.getElem?_append_right hkk, Array.getElem?_set]
    by_cases he : k = g
    · subst he
      rw [hk, if_pos rfl]
    · rw [ho k he, if_neg (by omega)]
      show (w.heap ++ bs)[k]? = _
      rw [Array.getElem?_append_right hkk]
theorem Later.put {w w' : World} {o : Obj} (h : Later w w') : Later w (w'.alloc o) := by
  obtain ⟨bs, n, rfl⟩ := h
  exact ⟨bs.push o, n, by simp [World.far, World.alloc]⟩
/-- how far a world of the class is from w -/
abbrev FarBy : Type := PProd (Array Obj) Nat
theorem wp_region_quiet_far {P : Program} {id : Nat} {Q : Exit → Act → World → Prop} {a : Act} {w : World} {l : List Oper} (hm : P.follows .mixedOrders = true) (hB : Region.lexB .any l.toArray = true)
    (h : wpQuiet P l.toArray (fun w' => ∃ p : FarBy, w' = w.far p.1 p.2) (fun a' => ∀ w', (∃ p : FarBy, w' = w.far p.1 p.2) → Q .normal a' w') l a) : (Code.region id l.toArray true).wp P Q a w :=
  wp_region_quiet (C := fun w' => ∃ p : FarBy, w' = w.far p.1 p.2) hm hB ⟨⟨#[], 1⟩, by simp [World.far]⟩ (by simpa using h)
theorem wp_region_quiet_far2 {P : Program} {id : Nat} {Q : Exit → Act → World → Prop} {a : Act} {w : World} {B : Array Obj} {N : Nat} {l : List Oper} (hm : P.follows .mixedOrders = true) (hB : Region.lexB .any l.toArray = true)
    (h : wpQuiet P l.toArray (fun w' => ∃ p : FarBy, w' = w.far p.1 p.2) (fun a' => ∀ w', (∃ p : FarBy, w' = w.far p.1 p.2) → Q .normal a' w') l a) : (Code.region id l.toArray true).wp P Q a (w.far B N) :=
  wp_region_quiet (C := fun w' => ∃ p : FarBy, w' = w.far p.1 p.2) hm hB ⟨⟨B, N + 1⟩, rfl⟩ (by simpa using h)
/-- a callee's contract, met in a world of the class -/
theorem Calls.far_of {P : Program} {f : FuncId} {args : Array Value} {w : World} {n : Nat} {bs : Array Obj} {v : Value}
    (h : Calls P f args (w.far bs n) fun e w' => e = .returned v ∧ Later (w.far bs n) w') : Calls P f args (w.far bs n) fun e w'' => e = .returned v ∧ ∃ p : FarBy, w'' = w.far p.1 p.2 :=
  h.mono fun _ _ ⟨he, cs, m, hq⟩ => ⟨he, ⟨bs ++ cs, n + m⟩, by rw [hq, World.far_far]⟩
theorem Calls.far_of_same {P : Program} {f : FuncId} {args : Array Value} {w : World} {n : Nat} {bs : Array Obj} {v : Value}
    (h : Calls P f args (w.far bs n) fun e w' => e = .returned v ∧ w' = w.far bs n) : Calls P f args (w.far bs n) fun e w'' => e = .returned v ∧ ∃ p : FarBy, w'' = w.far p.1 p.2 :=
  h.mono fun _ _ ⟨he, hq⟩ => ⟨he, ⟨bs, n⟩, hq⟩
end Go


/- Worlds behind calls that write into one of their own blocks; a memory as a struct and its row of bytes; bytes as words. -/
set_option linter.unusedVariables false
namespace Go
open Go.RowKit

theorem Later.size {w w' : World} (h : Later w w') : w.heap.size ≤ w'.heap.size := by obtain ⟨bs, n, rfl⟩ := h; rw [World.far_size]; omega
theorem Later.block {w w' : World} (h : Later w w') {k : Nat} (hk : k < w.heap.size) : w'.heap[k]? = w.heap[k]? := by obtain ⟨bs, n, rfl⟩ := h; exact World.far_block w bs n k hk
theorem Later.cell {w w' : World} (h : Later w w') {k i : Nat} (hk : k < w.heap.size) : w'.cell? ⟨k, i, none⟩ = w.cell? ⟨k, i, none⟩ := by obtain ⟨bs, n, rfl⟩ := h; exact World.cell?_far w bs n k i hk
theorem cell_lt {w : World} {k i : Nat} {v : Value} (h : w.cell? ⟨k, i, none⟩ = some v) : k < w.heap.size := World.block_lt_of_cell? w ⟨k, i, none⟩ h
theorem Later.cell_of {w w' : World} (h : Later w w') {k i : Nat} {v : Value} (hc : w.cell? ⟨k, i, none⟩ = some v) : w'.cell? ⟨k, i, none⟩ = some v := (h.cell (cell_lt hc)).trans hc
theorem later_of {w w' : World} (h : Hid (Later w w')) : Later w w' := h
theorem Lz (w : World) : Later w w := Later.refl w
theorem La {w w' : World} {c : Array Value} {t : TypeId} (h : Later w w') : Later w (w'.alloc (.cells c t)) := h.alloc
theorem Lv {w w' : World} {bs : FarBs} {n : Nat} (h : Later w w') : Later w (w'.far bs n) := h.far
theorem Ld {w w' : World} (h : Later w w') : Later w w'.drew := h.drew
theorem Ln {w w' : World} {n : Nat} (h : Later w w') : Later w (w'.drewN n) := h.drewN
theorem rowIs_later {w w' : World} (h : Later w w') {b : Nat} {t : TypeId} {n : Nat} {f : Nat → Value} (hr : w.rowIs b t n f) : w'.rowIs b t n f := hr.of_block (h.block hr.lt)

/-- block k turned, new blocks behind, draws made -/
def Turned (k : Nat) (w w' : World) : Prop := ∃ cs bs n, w' = (w.setRow k cs).far bs n
theorem Turned.size {k : Nat} {w w' : World} (h : Turned k w w') : w.heap.size ≤ w'.heap.size := by
  obtain ⟨cs, bs, n, rfl⟩ := h
  rw [World.far_size]; simp [World.setRow]
theorem Turned.block {k : Nat} {w w' : World} (h : Turned k w w') {j : Nat} (hj : j ≠ k) (hl : j < w.heap.size) : w'.heap[j]? = w.heap[j]? := by
  obtain ⟨cs, bs, n, rfl⟩ := h
  rw [World.far_block _ _ _ _ (by simpa [World.setRow] using hl)]
  exact setRow_other w k j cs hj
theorem Turned.row {k : Nat} {w w' : World} (h : Turned k w w') {b : Nat} {t : TypeId} {n : Nat} {f : Nat → Value} (hr : w.rowIs b t n f) (hb : b ≠ k) : w'.rowIs b t n f := hr.of_block (h.block hb hr.lt)
theorem Turned.later {k : Nat} {w w' : World} (h : Turned k w w') : ∀ {w'' : World}, Later w' w'' → Turned k w w'' := by
  obtain ⟨cs, bs, n, rfl⟩ := h
  rintro w'' ⟨ds, m, rfl⟩
  exact ⟨cs, bs ++ ds, n + m, World.far_far _ _ _ _ _⟩
theorem Later.setRow {w w' : World} (h : Later w w') {g : Nat} {cur : Array Value} {t : TypeId} (cs : Array Value) (hg : w.heap.size ≤ g) (hb : w'.heap[g]? = some (.cells cur t (0, 0))) : Later w (w'.setRow g cs) :=
  h.turn hg hb _ rfl (by simp [World.setRow]) (setRow_heap w' g cur cs t (0, 0) hb) (fun k hk => setRow_other w' g k cs hk)
/-- from the world ahead of all that block is new -/
theorem Later.turned {W w w' : World} (h : Later W w) {k : Nat} {t : TypeId} {n : Nat} {f : Nat → Value} (hr : w.rowIs k t n f) (hk : W.heap.size ≤ k) (ht : Turned k w w') : Later W w' := by
  obtain ⟨cs, bs, n, rfl⟩ := ht
  obtain ⟨c, hc, _, _⟩ := hr
  exact (h.setRow cs hk hc).far
theorem setCell_setRow {w : World} {g i : Nat} {cur : Array Value} {t : TypeId} (hg : w.heap[g]? = some (.cells cur t (0, 0))) (v : Value) : w.setCell ⟨g, i, none⟩ v = w.setRow g (cur.setIfInBounds i v) := by
  have hlt : g < w.heap.size := (Array.getElem?_eq_some_iff.1 hg).1
  have hv : w.heap[g] = .cells cur t (0, 0) := (Array.getElem?_eq_some_iff.1 hg).2
  unfold World.setCell World.setRow
  congr 1
  apply Array.ext
  · simp
  · intro k h1 h2
    simp only [Array.getElem_modify]
    split
    · rename_i hk; subst hk; simp [hv]
    · rfl
theorem setRow_far {w : World} {g : Nat} {bs : FarBs} {n : Nat} (cs : Array Value) (hg : g < w.heap.size) : (w.far bs n).setRow g cs = (w.setRow g cs).far bs n := by
  unfold World.setRow World.far
  congr 1
  apply Array.ext_getElem?
  intro j
  simp only [Array.getElem?_modify]
  rcases Nat.lt_or_ge j w.heap.size with hj | hj
  · rw [Array.getElem?_append_left hj, Array.getElem?_append_left (by simpa using hj), Array.getElem?_modify]
  · rw [Array.getElem?_append_right hj, Array.getElem?_append_right (by simpa using hj)]
    have : ¬ g = j := by omega
    simp [this]
theorem Turned.set {k : Nat} {w w' : World} {t : TypeId} {n : Nat} {f : Nat → Value} (h : Turned k w w') (hr : w.rowIs k t n f) (i : Nat) (v : Value) : Turned k w (w'.setCell ⟨k, i, none⟩ v) := by
  obtain ⟨cs, bs, m, rfl⟩ := h
  obtain ⟨c, hc, _, _⟩ := hr
  have hl : k < w.heap.size := (Array.getElem?_eq_some_iff.1 hc).1
  refine ⟨cs.setIfInBounds i v, bs, m, ?_⟩
  rw [World.setCell_far _ _ _ _ _ _ (by simpa [World.setRow] using hl), setCell_setRow (setRow_heap w k c cs t (0, 0) hc), setRow_setRow]
theorem Turned.refl {k : Nat} {w : World} {t : TypeId} {n : Nat} {f : Nat → Value} (hr : w.rowIs k t n f) : Turned k w w := by
  obtain ⟨c, hc, _, _⟩ := hr
  exact ⟨c, #[], 0, by rw [setRow_self w k c t (0, 0) hc]; simp [World.far]⟩
theorem Turned.setRow {k : Nat} {w w' : World} {t : TypeId} {n : Nat} {f : Nat → Value} (h : Turned k w w') (hr : w.rowIs k t n f) (ds : Array Value) : Turned k w (w'.setRow k ds) := by
  obtain ⟨cs, bs, m, rfl⟩ := h
  obtain ⟨c, hc, _, _⟩ := hr
  have hl : k < w.heap.size := (Array.getElem?_eq_some_iff.1 hc).1
  refine ⟨ds, bs, m, ?_⟩
  rw [setRow_far _ (by simpa [World.setRow] using hl), setRow_setRow]
theorem Turned.of_later {k : Nat} {w w' : World} {t : TypeId} {n : Nat} {f : Nat → Value} (hr : w.rowIs k t n f) (h : Later w w') : Turned k w w' := (Turned.refl hr).later h
theorem Turned.trans {k : Nat} {w w' w'' : World} {t : TypeId} {n : Nat} {f : Nat → Value} (hr : w.rowIs k t n f) (h : Turned k w w') (h2 : Turned k w' w'') : Turned k w w'' := by
  obtain ⟨cs, bs, m, rfl⟩ := h2
  exact (h.setRow hr cs).later ⟨bs, m, rfl⟩
/-- 'copy' into a row that is known: the row's cells spliced -/
theorem run_copy_to {P : Program} (w : World) (dT sT ty elem : TypeId) (hu : P.underlying dT = some (.slice elem)) (hsz : (P.info? elem).map (·.size) = some 1)
    (dp sp : Option Addr) (dLen dCap sLen sCap : Nat)
    (g off : Nat) (cur : List Value) (t : TypeId) (hg : w.heap[g]? = some (.cells cur.toArray t (0, 0))) (cs : List Value) (hn : cs.length = Nat.min sLen dLen)
    (hpos : 0 < cs.length → dp = some ⟨g, off, none⟩ ∧ ∃ ad, sp = some ad ∧ ∀ j v, cs[j]? = some v → w.cell? (ad.add j) = some v)
    (hfit : off + cs.length ≤ cur.length) (h1 : ∀ v ∈ cs, v.oneCell' = true) :
    (Builtin.copy_ #[dT, sT] ty #[.slice dp dLen dCap, .slice sp sLen sCap]).run P w = .ok (goInt cs.length) (w.setRow g (splice cur off cs).toArray) := by
  by_cases h0 : cs.length = 0
  · obtain rfl : cs = [] := List.eq_nil_of_length_eq_zero h0
    rw [run_copy_none (P := P) w dT sT ty elem dp sp dLen dCap sLen sCap hu hsz (by simpa using hn.symm), show splice cur off [] = cur by simp [splice], setRow_self w g cur.toArray t (0, 0) hg]
    rfl
  · obtain ⟨rfl, ad, rfl, hsrc⟩ := hpos (by omega)
    rw [run_copy_row (P := P) w dT sT ty elem g off dLen dCap ad sLen sCap cur.toArray t cs hu hsz hg hn hsrc (by simpa using hfit) h1]
    simp [splice]
/-- the same out of a string -/
theorem run_copy_str {P : Program} (w : World) (dT sT ty elem : TypeId) (hu : P.underlying dT = some (.slice elem)) (hsz : (P.info? elem).map (·.size) = some 1)
    (dp : Option Addr) (dLen dCap : Nat) (x : ByteArray)
    (g off : Nat) (cur : List Value) (t : TypeId) (hg : w.heap[g]? = some (.cells cur.toArray t (0, 0))) (hn : x.size ≤ dLen)
    (hpos : 0 < x.size → dp = some ⟨g, off, none⟩) (hfit : off + x.size ≤ cur.length) :
    (Builtin.copy_ #[dT, sT] ty #[.slice dp dLen dCap, .string x]).run P w = .ok (goInt x.size) (w.setRow g (splice cur off (Lib.byteCells x.data.toList)).toArray) := by
  have hlen : (Lib.byteCells x.data.toList).length = x.size := by rw [Lib.byteCells_length]; simp
  by_cases h0 : x.size = 0
  · have hnil : Lib.byteCells x.data.toList = [] := List.eq_nil_of_length_eq_zero (by omega)
    rw [hnil, Lib.run_copy_empty_string (P := P) w dT sT ty elem dp dLen dCap x hu (by rw [hsz]; rfl) h0, show splice cur off [] = cur by simp [splice], setRow_self w g cur.toArray t (0, 0) hg, h0]
    rfl
  · obtain rfl := hpos (by omega)
    rw [Lib.run_copy_row_string (P := P) w dT sT ty elem g off dLen dCap x cur.toArray t hu hsz hg hn (by simpa using hfit)]
    simp [splice, hlen]
theorem splice_get {α : Type} (L cs : List α) (off i : Nat) (h : off + cs.length ≤ L.length) : (splice L off cs)[i]? = if off ≤ i ∧ i < off + cs.length then cs[i - off]? else L[i]? := by
  unfold splice
  by_cases h1 : i < off
  · rw [if_neg (by omega), List.getElem?_append_left (by simp; omega), List.getElem?_take, if_pos h1]
  · rw [List.getElem?_append_right (by simp; omega)]
    simp only [List.length_take, Nat.min_eq_left (show off ≤ L.length by omega)]
    by_cases h2 : i < off + cs.length
    · rw [if_pos (by omega), List.getElem?_append_left (by omega)]
    · rw [if_neg (by omega), List.getElem?_append_right (by omega), List.getElem?_drop]
      congr 1; omega
theorem rowIs_list {w : World} {b : Nat} {t : TypeId} {n : Nat} {f : Nat → Value} (h : w.rowIs b t n f) : w.heap[b]? = some (.cells ((List.range n).map f).toArray t (0, 0)) := by
  obtain ⟨c, hb, hn, hc⟩ := h
  rw [hb]
  congr 2
  apply Array.ext_getElem?
  intro i
  by_cases hi : i < n
  · rw [hc i hi]; simp [hi]
  · rw [Array.getElem?_eq_none (by omega), Array.getElem?_eq_none (by simp; omega)]
theorem rowIs_of_list {w : World} {b : Nat} {t : TypeId} {n : Nat} {f : Nat → Value} (L : List Value) (h : w.heap[b]? = some (.cells L.toArray t (0, 0))) (hn : L.length = n) (hL : ∀ i, i < n → L[i]? = some (f i)) : w.rowIs b t n f :=
  ⟨L.toArray, h, by simpa using hn, fun i hi => by simpa using hL i hi⟩
end Go


/- Worlds behind calls that append to rows of their own: new blocks laid, draws made. -/
set_option linter.unusedVariables false
namespace Go
open Go.RowKit

theorem Later.grownBy {w w' : World} (h : Later w w') (row : Option Nat) : w.grownBy w' row := by
  obtain ⟨bs, n, rfl⟩ := h
  exact ⟨rfl, rfl, rfl, by rw [World.far_size]; omega, fun k hk _ => World.far_block w bs n k hk⟩
theorem Later.owns {w w' : World} (h : Later w w') {base : Nat} {e : TypeId} {size : Nat} {v : Value} {n : Nat} {xs : List Value} (ho : w.ownsRow base e size v n xs) : w'.ownsRow base e size v n xs :=
  ho.kept (h.grownBy none) (by cases hv : v.ownBlock <;> simp)
theorem Later.setCell {w w' : World} (h : Later w w') {g i : Nat} {cur : Array Value} {t : TypeId} (v : Value) (hg : w.heap.size ≤ g) (hb : w'.heap[g]? = some (.cells cur t (0, 0))) : Later w (w'.setCell ⟨g, i, none⟩ v) := by
  refine h.turn (cs := cur.setIfInBounds i v) hg hb _ rfl (by simp [World.setCell]) ?_ (fun k hk => ?_)
  · simp only [World.setCell, Array.getElem?_modify, if_true, hb, Option.map_some]
    simp
  · simp only [World.setCell, Array.getElem?_modify]
    rw [if_neg (fun e => hk e.symm)]
section
variable {P : Program}
theorem run_append_later {W w : World} (hL : Later W w) (t ty e : TypeId) (i : TypeInfo) (z : Value) (size bytes : Nat) (ht : P.underlying t = some (.slice e)) (hi : P.info? e = some i) (hz : i.zero = some z)
    (hsize : i.size = size) (hby : i.bytes = bytes) (hzs : z.cells.size = size) (hsz : 0 < size)
    (v : Value) (n : Nat) (xs : List Value) (hown : w.ownsRow W.heap.size e size v n xs)
    (a : Addr) (m c : Nat) (news : List Value) (hl : news.length = m * size) (hnews : ∀ j u, news[j]? = some u → w.cell? (a.add j) = some u) (h1 : ∀ u ∈ news, u.oneCell' = true)
    (h63 : n + m ≤ maxLen) (hbytes : (n + m) * bytes ≤ 140737488355328) (hm : 0 < m) :
    ∃ g cap w', (Builtin.append_ #[t, t] ty #[v, .slice (some a) m c]).run P w = .ok (.slice (some ⟨g, 0, none⟩) (n + m) cap) w' ∧ w'.ownsRow W.heap.size e size (.slice (some ⟨g, 0, none⟩) (n + m) cap) (n + m) (xs ++ news) ∧ Later W w' := by
  obtain ⟨v', w', hr, ho, hg, hn⟩ := run_append_own (P := P) w W.heap.size t ty e i z size bytes ht hi hz hsize hby hzs hsz v n xs hown a m c news hl hnews h1 h63 hbytes hL.size
  have hw : Later W w' := by
    subst hsize
    subst hby
    have hsm : n + m ≤ 9223372036854775807 := by simp only [maxLen] at h63; omega
    rcases hown.2 with ⟨rfl, rfl⟩ | ⟨b, cap, cur, rfl, hbg, hbb, hnc, hcm, hcs, htake⟩
    · rw [run_append_nil (P := P) w t ty e i z ht hi hz a m c news hl hnews hm (by omega) (by have := hbytes; rw [Nat.zero_add] at this; omega)] at hr
      injection hr with _ h2
      rw [← h2]; exact hL.drew.alloc
    · by_cases hroom : n + m ≤ cap
      · rw [run_append_room (P := P) w t ty e i ht hi b n cap cur hbb a m c news hl hnews h1 hroom (by rw [hl, hcs, ← Nat.add_mul]; exact Nat.mul_le_mul_right _ hroom)] at hr
        injection hr with _ h2
        rw [← h2]; exact hL.setRow _ hbg hbb
      · rw [run_append_grow (P := P) w t ty e i z ht hi hz ⟨b, 0, none⟩ n cap xs hown.1 (hown.cells (g := b) rfl) a m c news hl hnews (by omega) (by omega) (growslice_fits (by omega) hbytes)] at hr
        injection hr with _ h2
        rw [← h2]; exact hL.drew.alloc
  rcases ho.2 with ⟨rfl, h0⟩ | ⟨g, cap, cur, rfl, hrest⟩
  · omega
  · exact ⟨g, cap, w', hr, ho, hw⟩
theorem wpList_append_later {W w : World} {ops : Array Oper} {rest : List Oper} {o : Oper} {a : Act} {Q : Exit → Act → World → Prop} (hL : Later W w) (hgd : o.guard = none) (s x : Operand) (t : TypeId)
    (ho : o.op = .call { callee := .builtin .append, args := #[s, x], argTypes := #[t, t] })
    (e : TypeId) (i : TypeInfo) (z : Value) (size bytes : Nat) (ht : P.underlying t = some (.slice e)) (hi : P.info? e = some i) (hz : i.zero = some z)
    (hsize : i.size = size) (hby : i.bytes = bytes) (hzs : z.cells.size = size) (hsz : 0 < size)
    (v : Value) (n : Nat) (xs : List Value) (hs : a.eval s = v) (hown : w.ownsRow W.heap.size e size v n xs)
    (ad : Addr) (m c : Nat) (news : List Value) (hx : a.eval x = .slice (some ad) m c) (hl : news.length = m * size) (hnews : ∀ j u, news[j]? = some u → w.cell? (ad.add j) = some u) (h1 : ∀ u ∈ news, u.oneCell' = true)
    (h63 : n + m ≤ maxLen) (hbytes : (n + m) * bytes ≤ 140737488355328) (hm : 0 < m)
    (h : ∀ g cap w', w'.ownsRow W.heap.size e size (.slice (some ⟨g, 0, none⟩) (n + m) cap) (n + m) (xs ++ news) → Hid (Later W w') → wpList P ops Q rest (a.put o.dst (.slice (some ⟨g, 0, none⟩) (n + m) cap)) w') : wpList P ops Q (o :: rest) a w := by
  obtain ⟨g, cap, w', hr, h2, h3⟩ := run_append_later (P := P) hL t o.type e i z size bytes ht hi hz hsize hby hzs hsz v n xs hown ad m c news hl hnews h1 h63 hbytes hm
  refine wpList_plain hgd fun K hK => ?_
  unfold Oper.wp execOp
  simp only [ho, resolve, invoke, builtin, Sem.run_bind, Sem.run_pure, Result.andThen_ok, List.map_toArray, List.map_cons, List.map_nil, hs, hx, hr]
  exact hK _ _ (h g cap w' h2 h3)
theorem wpList_app {w w' : World} {ops : Array Oper} {rest : List Oper} {o : Oper} {a : Act} {Q : Exit → Act → World → Prop} (hgd : o.guard = none) (s x : Operand) (t : TypeId)
    (ho : o.op = .call { callee := .builtin .append, args := #[s, x], argTypes := #[t, t] }) (v u r : Value) (hs : a.eval s = v) (hx : a.eval x = u) (hr : (Builtin.append_ #[t, t] o.type #[v, u]).run P w = .ok r w')
    (h : wpList P ops Q rest (a.put o.dst r) w') : wpList P ops Q (o :: rest) a w := by
  refine wpList_plain hgd fun K hK => ?_
  unfold Oper.wp execOp
  simp only [ho, resolve, invoke, builtin, Sem.run_bind, Sem.run_pure, Result.andThen_ok, List.map_toArray, List.map_cons, List.map_nil, hs, hx, hr]
  exact hK _ _ h
/-- what an owned row's cells hold -/
theorem owns_cell {w : World} {base : Nat} {e : TypeId} {size : Nat} {g n cap : Nat} {xs : List Value} (h : w.ownsRow base e size (.slice (some ⟨g, 0, none⟩) n cap) n xs) {j : Nat} {u : Value} (hu : xs[j]? = some u) : w.cell? ⟨g, j, none⟩ = some u := by
  have := h.cells (g := g) rfl j u hu
  rw [show (⟨g, 0, none⟩ : Addr).add j = ⟨g, j, none⟩ from by unfold Addr.add; split <;> simp_all] at this
  exact this
theorem owns_base {w : World} {base : Nat} {e : TypeId} {size : Nat} {g n cap : Nat} {xs : List Value} (h : w.ownsRow base e size (.slice (some ⟨g, 0, none⟩) n cap) n xs) : base ≤ g ∧ g < w.heap.size := h.lt g rfl
theorem owns_cap {w : World} {base : Nat} {e : TypeId} {size : Nat} {g n cap : Nat} {xs : List Value} (h : w.ownsRow base e size (.slice (some ⟨g, 0, none⟩) n cap) n xs) : n ≤ cap := by
  rcases h.2 with ⟨h, _⟩ | ⟨b, cap', cur, h, hb, hbb, h2, _⟩
  · cases h
  · simp only [Value.slice.injEq] at h
    omega
theorem app_zero {t ty e : TypeId} {i : TypeInfo} (ht : P.underlying t = some (.slice e)) (hi : P.info? e = some i) (A : Option Addr) (c b : Nat) (W : World) (hb : W.heap[b]? = some (.cells #[] e (0, 0))) : (Builtin.append_ #[t, t] ty #[.slice (some ⟨b, 0, none⟩) 0 0, .slice A 0 c]).run P W = .ok (.slice (some ⟨b, 0, none⟩) 0 0) W := by
  cases A with
  | some a =>
    have h := run_append_room (P := P) W t ty e i ht hi b 0 0 #[] hb a 0 c [] (by simp) (by simp) (by simp) (by decide) (by simp)
    simpa [setRow_self W b #[] _ _ hb] using h
  | none =>
    simp [Builtin.append_, run_underlying ht, sizeOf, typeInfo, hi, Builtin.lenOf, Builtin.firstCells, storeCells]
end
end Go


/- Over this seat's translation: lists of ints copied, lent, kept, spoiled, held against each other (package peloruslaw0). -/
set_option linter.unusedVariables false
set_option linter.unusedSimpArgs false
set_option maxRecDepth 100000
set_option maxHeartbeats 4000000
namespace Go.Proofs.Ytonnmbmdmkmhmaa
open Go.RowKit

theorem num_any (n : Int) (w : World) :
    Calls Try.prog 13 #[.int .i64 n] w fun e w' => e = .returned (.int .i64 n) ∧ w' = w := by
  go_enter Try.func13, Try.ntmps13
  go_wp2
  go_ret
  exact ⟨rfl, rfl⟩
/-- ints as cells -/
def xs (f : Nat → Int) (n : Nat) : List Value := (List.range n).map fun j => Value.int .i64 (f j)
theorem xs_len (f : Nat → Int) (n : Nat) : (xs f n).length = n := by simp [xs]
theorem xs_get (f : Nat → Int) (n j : Nat) (h : j < n) : (xs f n)[j]? = some (.int .i64 (f j)) := by simp [xs, h]
theorem xs_lt {f : Nat → Int} {n j : Nat} {u : Value} (h : (xs f n)[j]? = some u) : j < n := by have := (List.getElem?_eq_some_iff.1 h).1; rwa [xs_len] at this
theorem xs_one (f : Nat → Int) (n : Nat) : ∀ u ∈ xs f n, u.oneCell' = true := by
  intro u hu
  simp only [xs, List.mem_map] at hu
  obtain ⟨j, _, rfl⟩ := hu
  rfl
theorem xs_succ (f : Nat → Int) (n : Nat) : xs f n ++ [.int .i64 (f n)] = xs f (n + 1) := by simp [xs, List.range_succ]
theorem xs_congr {f g : Nat → Int} {n : Nat} (h : ∀ i, i < n → f i = g i) : xs f n = xs g n := by
  unfold xs
  apply List.map_congr_left
  intro i hi
  rw [h i (List.mem_range.1 hi)]
/-- a list's cells: n ints from an address on -/
def Lst (w : World) (A : Option Addr) (n : Nat) (f : Nat → Int) : Prop := n = 0 ∨ ∃ b o, A = some ⟨b, o, none⟩ ∧ ∀ j, j < n → w.cell? ⟨b, o + j, none⟩ = some (.int .i64 (f j))
theorem Lst.later {w w' : World} {A : Option Addr} {n : Nat} {f : Nat → Int} (h : Lst w A n f) (hl : Later w w') : Lst w' A n f := by
  rcases h with h | ⟨b, o, hA, h⟩
  · exact Or.inl h
  · exact Or.inr ⟨b, o, hA, fun j hj => hl.cell_of (h j hj)⟩
theorem info_int : (Try.prog.info? 3).map (fun i => (i.zero, i.size, i.bytes)) = some (some (.int .i64 0), 1, 8) := by kernel_rfl
theorem int_parts : ∃ i, Try.prog.info? 3 = some i ∧ i.zero = some (.int .i64 0) ∧ i.size = 1 ∧ i.bytes = 8 := by
  have h := info_int
  cases hh : Try.prog.info? 3 with
  | none => rw [hh] at h; cases h
  | some i =>
    rw [hh] at h
    simp only [Option.map_some, Option.some.injEq, Prod.mk.injEq] at h
    exact ⟨i, rfl, h⟩
theorem add_of (b o j : Nat) : (⟨b, o, none⟩ : Addr).add j = ⟨b, o + j, none⟩ := by unfold Addr.add; split <;> simp_all
theorem own_lit0 (W : World) (b : Nat) (hb : b = W.heap.size) : (W.alloc (.cells #[] 3)).ownsRow W.heap.size 3 1 (.slice (some ⟨b, 0, none⟩) 0 0) 0 [] := by
  subst hb
  exact ⟨rfl, Or.inr ⟨W.heap.size, 0, #[], rfl, Nat.le_refl _, heap_alloc_new W _, Nat.le_refl _, Nat.zero_le _, rfl, rfl⟩⟩
theorem news_at {w : World} {b o n : Nat} {f : Nat → Int} (h : ∀ j, j < n → w.cell? ⟨b, o + j, none⟩ = some (.int .i64 (f j))) : ∀ j u, (xs f n)[j]? = some u → w.cell? ((⟨b, o, none⟩ : Addr).add j) = some u := fun j u hu => by
  have hj := xs_lt hu
  rw [xs_get f n j hj] at hu
  rw [add_of, h j hj]
  exact hu
/-- the builtin 'append' of a list to an empty literal -/
theorem app_list (A : Option Addr) (n c : Nat) (f : Nat → Int) (ty : TypeId) (w : World) (hr : n * 8 ≤ 140737488351232) (hV : Lst w A n f) :
    ∃ g cap w', (Builtin.append_ #[24, 24] ty #[.slice (some ⟨w.heap.size, 0, none⟩) 0 0, .slice A n c]).run Try.prog (w.alloc (.cells #[] 3)) = .ok (.slice (some ⟨g, 0, none⟩) n cap) w' ∧ w'.ownsRow w.heap.size 3 1 (.slice (some ⟨g, 0, none⟩) n cap) n (xs f n) ∧ Later w w' := by
  obtain ⟨i0, hi, hz0, hz1, hz2⟩ := int_parts
  by_cases h0 : n = 0
  · subst h0
    exact ⟨_, _, _, app_zero Try.underlying24 hi A c _ _ (heap_alloc_new w _), own_lit0 w _ rfl, La (Lz _)⟩
  · obtain ⟨b, o, rfl, hc⟩ := hV.resolve_left h0
    obtain ⟨g, cap, w', h1, h2, h3⟩ := run_append_later (P := Try.prog) (La (Lz w)) 24 ty 3 i0 (.int .i64 0) 1 8 Try.underlying24 hi hz0 hz1 hz2 rfl (by decide) _ 0 [] (own_lit0 w _ rfl) ⟨b, o, none⟩ n c (xs f n) (by rw [xs_len]; omega) (news_at fun j hj => (La (Lz w)).cell_of (hc j hj)) (xs_one f n) (by unfold maxLen; omega) (by omega) (by omega)
    rw [Nat.zero_add] at h1 h2
    exact ⟨g, cap, w', h1, h2, h3⟩
def marks : List Value := [.int .i64 (-7777), .int .i64 (-8888)]
theorem marks_at {X : World} {b : Nat} (hb : b = X.heap.size) : ∀ (j : Nat) (u : Value), marks[j]? = some u → (X.alloc (.cells #[.int .i64 (-7777), .int .i64 (-8888)] 3)).cell? ((⟨b, 0, none⟩ : Addr).add j) = some u := by
  subst hb
  intro j u h
  rw [add_of, Nat.zero_add, cell_of_row _ _ _ _ _ _ (heap_alloc_new X _)]
  match j, h with
  | 0, h => simpa [marks] using h
  | 1, h => simpa [marks] using h
theorem marks_one : ∀ u ∈ marks, u.oneCell' = true := by
  intro u hu
  simp only [marks, List.mem_cons, List.not_mem_nil, or_false] at hu
  rcases hu with rfl | rfl <;> rfl
/-- two lists of the same ints -/
theorem same_any (A B : Option Addr) (n c d : Nat) (f : Nat → Int) (hn : n ≤ 9223372036854775807) (w : World) (h1 : Hid (Lst w A n f)) (h2 : Hid (Lst w B n f)) :
    Calls Try.prog 26 #[.slice A n c, .slice B n d] w fun e w' => e = .returned (.bool true) ∧ Later w w' := by
  by_cases h0 : n = 0
  · subst h0
    go_enter Try.func26, Try.ntmps26
    go_wp2_with fail
    refine wp_loop_rounds 1 ?_
    rw [rounds_succ]
    go_wp2
    go_ret
    exact ⟨rfl, Lz _⟩
  · obtain ⟨b, o, rfl, g1⟩ := h1.out.resolve_left h0
    obtain ⟨b2, o2, rfl, g2⟩ := h2.out.resolve_left h0
    replace g1 : Hid _ := g1
    replace g2 : Hid _ := g2
    clear h1 h2
    go_enter Try.func26, Try.ntmps26
    go_wp2_with fail
    go_loopw [5] (fun i wr => ∃ j d : Nat, j ≤ n ∧ i = .int .i64 (j : Nat) ∧ wr = w.drewN d) (fun i _ => n - (intOf i).toNat)
    case atStart => exact ⟨0, 0, Nat.zero_le _, rfl, by simp [World.drewN]⟩
    case round =>
      obtain ⟨j, d, hj, rfl, rfl⟩ := hrel
      by_cases hlt : j < n
      · have a0 := g1.out j hlt
        have b0 := g2.out j hlt
        have hl1 : (j : Int) < (n : Int) := by omega
        go_wp2
        go_quiet (fail)
        go_wp2
        go_roundw
        case rel => exact ⟨j + 1, _, by omega, by go_num, rfl⟩
        case measure => simp [intOf]; omega
      · have hje : j = n := by omega
        subst hje
        go_wp2
        go_ret
        exact ⟨rfl, Ln (Lz _)⟩
/-- one's own row written over -/
theorem spoil_any (g cap n m : Nat) (t : TypeId) (F : Nat → Value) (f : Nat → Int) (hn : n ≤ 9223372036854775807) (hm : n ≤ m) (w : World) (hr : Hid (w.rowIs g t m F)) (hF : Hid (∀ i, i < n → F i = .int .i64 (f i))) :
    Calls Try.prog 14 #[.slice (some ⟨g, 0, none⟩) n cap] w fun e w' => e = .returned (.tuple #[]) ∧ Turned g w w' := by
  go_enter Try.func14, Try.ntmps14
  go_wp2_with fail
  go_loopw [2] (fun i wr => ∃ (j : Nat) (G : Nat → Value), j ≤ n ∧ i = .int .i64 (j : Nat) ∧ Turned g w wr ∧ wr.rowIs g t m G ∧ (∀ i, j ≤ i → G i = F i)) (fun i _ => n - (intOf i).toNat)
  case atStart => exact ⟨0, F, Nat.zero_le _, rfl, Turned.refl hr.out, hr.out, fun i _ => rfl⟩
  case round =>
    obtain ⟨j, G, hj, rfl, ht, hR, hG⟩ := hrel
    replace ht : Hid (Turned g w wr) := ht
    replace hR : Hid (wr.rowIs g t m G) := hR
    replace hG : Hid (∀ i, j ≤ i → G i = F i) := hG
    by_cases hlt : j < n
    · have hc := hR.out.cell (i := j) (by omega)
      rw [hG.out j (Nat.le_refl _), hF.out j hlt] at hc
      have hfr := hR.out.frozen j
      have hl1 : (j : Int) < (n : Int) := by omega
      go_wp2
      go_roundw
      case rel => exact ⟨j + 1, _, by omega, by go_num, ht.out.set hr.out _ _, hR.out.set j _, fun i hi => by show (if i = j then _ else G i) = F i; rw [if_neg (by omega)]; exact hG.out i (by omega)⟩
      case measure => simp [intOf]; omega
    · have hje : j = n := by omega
      subst hje
      go_wp2
      go_end0
      exact ⟨rfl, ht.out⟩
end Go.Proofs.Ytonnmbmdmkmhmaa


/- Rows of a call's own, told apart by labels: a label for each row of an object, new blocks labelled as they are laid. -/
set_option linter.unusedVariables false
namespace Go
open Go.RowKit

/-- blocks are as they were, and their labels, but those of some labels -/
def Chg (lab : Nat → Nat) (S : Nat → Prop) (w w' : World) (lab' : Nat → Nat) : Prop := w.heap.size ≤ w'.heap.size ∧ ∀ k, k < w.heap.size → ¬ S (lab k) → lab' k = lab k ∧ w'.heap[k]? = w.heap[k]?
section
variable {lab lab' lab'' : Nat → Nat} {S S' : Nat → Prop} {w w' w'' : World} {tag t2 : Nat} {B p : Nat} {e T : TypeId} {size : Nat} {v : Value} {n : Nat} {L : List Value} {F : Nat → Value}
theorem Chg.trans (h : Chg lab S w w' lab') (h2 : Chg lab' S w' w'' lab'') : Chg lab S w w'' lab'' := by
  refine ⟨Nat.le_trans h.1 h2.1, fun k hk hs => ?_⟩
  obtain ⟨a1, a2⟩ := h.2 k hk hs
  obtain ⟨b1, b2⟩ := h2.2 k (Nat.lt_of_lt_of_le hk h.1) (by rw [a1]; exact hs)
  exact ⟨b1.trans a1, b2.trans a2⟩
theorem Chg.wide (h : Chg lab S w w' lab') (hs : ∀ k, S k → S' k) : Chg lab S' w w' lab' := ⟨h.1, fun k hk hn => h.2 k hk (fun x => hn (hs _ x))⟩
theorem Chg.of_later (h : Later w w') : Chg lab S w w' lab := ⟨h.size, fun k hk _ => ⟨rfl, h.block hk⟩⟩
/-- new blocks labelled -/
theorem Chg.fresh (h : Later w w') (z : Nat) : ∃ lab', Chg lab S w w' lab' ∧ ∀ k, w.heap.size ≤ k → lab' k = z := ⟨fun k => if k < w.heap.size then lab k else z, ⟨h.size, fun k hk _ => ⟨if_pos hk, h.block hk⟩⟩, fun k hk => if_neg (by omega)⟩
theorem Chg.cell (h : Chg lab S w w' lab') {k i : Nat} {v : Value} (hk : ¬ S (lab k)) (hc : w.cell? ⟨k, i, none⟩ = some v) : w'.cell? ⟨k, i, none⟩ = some v := (World.cell?_of_block (a := ⟨k, i, none⟩) (h.2 k (cell_lt hc) hk).2).trans hc
theorem Chg.lab_eq (h : Chg lab S w w' lab') {k i : Nat} {v : Value} (hk : ¬ S (lab k)) (hc : w.cell? ⟨k, i, none⟩ = some v) : lab' k = lab k := (h.2 k (cell_lt hc) hk).1
theorem Chg.lab_to (h : Chg lab S w w' lab') {k i z : Nat} {v : Value} (hz : lab k = z) (hs : ¬ S z) (hc : w.cell? ⟨k, i, none⟩ = some v) : lab' k = z := (h.lab_eq (by rw [hz]; exact hs) hc).trans hz
/-- a new block turned -/
theorem Chg.of_turned (h : Later w w') {k : Nat} (hk : w.heap.size ≤ k) (ht : Turned k w' w'') : Chg lab S w w'' lab := ⟨Nat.le_trans h.size ht.size, fun j hj _ => ⟨rfl, (ht.block (by omega) (Nat.lt_of_lt_of_le hj h.size)).trans (h.block hj)⟩⟩
/-- an owned row of a label -/
def Fld (lab : Nat → Nat) (tag : Nat) (w : World) (B : Nat) (e : TypeId) (size : Nat) (v : Value) (n : Nat) (L : List Value) : Prop := w.ownsRow B e size v n L ∧ ∀ g, v.ownBlock = some g → lab g = tag
theorem Fld.chg (h : Fld lab t2 w B e size v n L) (hc : Chg lab S w w' lab') (ht : ¬ S t2) : Fld lab' t2 w' B e size v n L := by
  refine ⟨⟨h.1.1, ?_⟩, fun g hg => ?_⟩
  · rcases h.1.2 with h2 | ⟨g, cap', cur, h2, h3, h4, h5⟩
    · exact Or.inl h2
    · refine Or.inr ⟨g, cap', cur, h2, h3, ?_, h5⟩
      rw [(hc.2 g (Array.getElem?_eq_some_iff.1 h4).1 (by rw [h.2 g (by rw [h2]; rfl)]; exact ht)).2]
      exact h4
  · rw [(hc.2 g (h.1.lt g hg).2 (by rw [h.2 g hg]; exact ht)).1]
    exact h.2 g hg
theorem Fld.at_ {A : Option Addr} {cap : Nat} (h : Fld lab tag w B e size (.slice A n cap) n L) (hn : 0 < n) : ∃ g, A = some ⟨g, 0, none⟩ ∧ B ≤ g ∧ g < w.heap.size ∧ lab g = tag ∧ n ≤ cap ∧ (∃ cur, w.heap[g]? = some (.cells cur e (0, 0)) ∧ cur.size = cap * size) ∧ ∀ j u, L[j]? = some u → w.cell? ⟨g, j, none⟩ = some u := by
  rcases h.1.2 with ⟨e, h0⟩ | ⟨g, cap', cur, e, h1, h3, h2, h4, h5, h6⟩
  · omega
  · cases e
    exact ⟨g, rfl, h1, (Array.getElem?_eq_some_iff.1 h3).1, h.2 g rfl, h2, ⟨cur, h3, h5⟩, fun j u hu => owns_cell h.1 hu⟩
/-- a struct's cells, of a label -/
def Str (lab : Nat → Nat) (tag : Nat) (w : World) (B p : Nat) (T : TypeId) (k : Nat) (F : Nat → Value) : Prop := w.rowIs p T k F ∧ B ≤ p ∧ lab p = tag
theorem Str.chg {k : Nat} (h : Str lab t2 w B p T k F) (hc : Chg lab S w w' lab') (ht : ¬ S t2) : Str lab' t2 w' B p T k F :=
  ⟨h.1.of_block (hc.2 p h.1.lt (by rw [h.2.2]; exact ht)).2, h.2.1, by rw [(hc.2 p h.1.lt (by rw [h.2.2]; exact ht)).1]; exact h.2.2⟩
theorem Str.set {k : Nat} (h : Str lab tag w B p T k F) (i : Nat) (v : Value) : Str lab tag (w.setCell ⟨p, i, none⟩ v) B p T k (fun j => if j = i then v else F j) ∧ Chg lab (· = tag) w (w.setCell ⟨p, i, none⟩ v) lab := by
  have ht : Turned p w (w.setCell ⟨p, i, none⟩ v) := (Turned.refl h.1).set h.1 i v
  refine ⟨⟨h.1.set i v, h.2.1, h.2.2⟩, ht.size, fun j hj hs => ⟨rfl, ht.block (fun e => hs (by rw [e]; exact h.2.2)) hj⟩⟩
theorem Str.ltr {W : World} {k : Nat} (h : Str lab tag w W.heap.size p T k F) (hL : Later W w) (i : Nat) (v : Value) : Later W (w.setCell ⟨p, i, none⟩ v) := hL.turned h.1 h.2.1 ((Turned.refl h.1).set h.1 i v)
/-- one cell of a row set -/
theorem Fld.set {A : Option Addr} {cap : Nat} (h : Fld lab tag w B e size (.slice A n cap) n L) (g : Nat) (hA : A = some ⟨g, 0, none⟩) (i : Nat) (v : Value) (hi : i < n * size) : Fld lab tag (w.setCell ⟨g, i, none⟩ v) B e size (.slice A n cap) n (L.set i v) ∧ Chg lab (· = tag) w (w.setCell ⟨g, i, none⟩ v) lab ∧ (∀ W : World, W.heap.size ≤ B → Later W w → Later W (w.setCell ⟨g, i, none⟩ v)) ∧ w.frozen? ⟨g, i, none⟩ = false := by
  subst hA
  rcases h.1.2 with ⟨e, h0⟩ | ⟨g', cap', cur, e, h1, h3, h2, h4, h5, h6⟩
  · cases e
  · cases e
    have hl : w.heap.size = (w.setCell ⟨g, i, none⟩ v).heap.size := by simp [World.setCell]
    have ho : ∀ k, k ≠ g → (w.setCell ⟨g, i, none⟩ v).heap[k]? = w.heap[k]? := fun k hk => by rw [setCell_setRow h3]; exact setRow_other w g k _ hk
    refine ⟨⟨⟨by rw [List.length_set]; exact h.1.1, Or.inr ⟨g, cap, cur.setIfInBounds i v, rfl, h1, by rw [setCell_setRow h3]; exact setRow_heap _ _ _ _ _ _ h3, h2, h4, by simpa using h5, ?_⟩⟩, h.2⟩, ⟨Nat.le_of_eq hl, fun k hk hs => ⟨rfl, ho k (fun e => hs (by rw [e]; exact h.2 g rfl))⟩⟩, fun W hW hL => hL.setCell v (by omega) h3, by simp [World.frozen?, h3]⟩
    rw [← h6]
    simp [List.take_set]
end
theorem Fld.relab {e : TypeId} {size n : Nat} {v : Value} {L : List Value} {lab lab' : Nat → Nat} {w : World} {B tag : Nat} (h : Fld lab tag w B e size v n L) (he : ∀ k, B ≤ k → lab' k = lab k) : Fld lab' tag w B e size v n L := ⟨h.1, fun g hg => by rw [he g (h.1.lt g hg).1]; exact h.2 g hg⟩
theorem Str.relab {p k : Nat} {T : TypeId} {F : Nat → Value} {lab lab' : Nat → Nat} {w : World} {B tag : Nat} (h : Str lab tag w B p T k F) (he : ∀ k, B ≤ k → lab' k = lab k) : Str lab' tag w B p T k F := ⟨h.1, h.2.1, by rw [he _ h.2.1]; exact h.2.2⟩
section
variable {P : Program}
/-- 'append' at a step of a region that draws its order, by its run -/
theorem step_app {ops : Array Oper} {o : Oper} {a : Act} {w w' : World} {K : Act → World → Prop} {Q : Exit → Act → World → Prop} {E : Prop} (hgd : o.guard = none) (s x : Operand) (t : TypeId)
    (ho : o.op = .call { callee := .builtin .append, args := #[s, x], argTypes := #[t, t] }) (v u r : Value) (hs : a.eval s = v) (hx : a.eval x = u) (hr : (Builtin.append_ #[t, t] o.type #[v, u]).run P w = .ok r w')
    (h : K (a.put o.dst r) w') : if Region.wanted o (yielded ops a.tmps) = true then Oper.wp P o a w K Q else E := by
  have hw : Region.wanted o (yielded ops a.tmps) = true := by simp [Region.wanted, hgd]
  rw [if_pos hw]
  unfold Oper.wp execOp
  simp only [ho, resolve, invoke, builtin, Sem.run_bind, Sem.run_pure, Result.andThen_ok, List.map_toArray, List.map_cons, List.map_nil, hs, hx, hr]
  exact h
/-- one element more, appended to an owned row -/
theorem fld_more {lab : Nat → Nat} {tag : Nat} {W w : World} (hL : Later W w) (t ty e : TypeId) (i : TypeInfo) (z : Value) (size bytes : Nat) (ht : P.underlying t = some (.slice e)) (hi : P.info? e = some i) (hz : i.zero = some z)
    (hsize : i.size = size) (hby : i.bytes = bytes) (hzs : z.cells.size = size) (hsz : 0 < size)
    {v : Value} {n : Nat} {xs : List Value} (h : Fld lab tag w W.heap.size e size v n xs) (c : List Value) (hc : c.length = size) (h1 : ∀ u ∈ c, u.oneCell' = true)
    (h63 : n + 1 ≤ maxLen) (hbytes : (n + 1) * bytes ≤ 140737488355328) :
    ∃ g cap w' lab', (Builtin.append_ #[t, t] ty #[v, .slice (some ⟨w.heap.size, 0, none⟩) 1 1]).run P (w.alloc (.cells c.toArray e)) = .ok (.slice (some ⟨g, 0, none⟩) (n + 1) cap) w' ∧ Fld lab' tag w' W.heap.size e size (.slice (some ⟨g, 0, none⟩) (n + 1) cap) (n + 1) (xs ++ c) ∧ Later W w' ∧ Chg lab (· = tag) w w' lab' := by
  have hL' : Later W (w.alloc (.cells c.toArray e)) := La hL
  have hown := h.1.alloc (.cells c.toArray e)
  have hsz2 : (w.alloc (.cells c.toArray e)).heap.size = w.heap.size + 1 := by simp
  have hnews : ∀ j u, c[j]? = some u → (w.alloc (.cells c.toArray e)).cell? ((⟨w.heap.size, 0, none⟩ : Addr).add j) = some u := fun j u hu => by
    rw [show (⟨w.heap.size, 0, none⟩ : Addr).add j = ⟨w.heap.size, j, none⟩ from by unfold Addr.add; split <;> simp_all, cell_of_row _ _ _ _ _ _ (heap_alloc_new w _)]
    simpa using hu
  obtain ⟨v', w1, hr, ho, hg, hnn⟩ := run_append_own (P := P) (w.alloc (.cells c.toArray e)) W.heap.size t ty e i z size bytes ht hi hz hsize hby hzs hsz v n xs hown ⟨w.heap.size, 0, none⟩ 1 1 c (by rw [hc, Nat.one_mul]) hnews h1 h63 hbytes hL'.size
  obtain ⟨g, cap, w', hr2, ho2, hL2⟩ := run_append_later (P := P) hL' t ty e i z size bytes ht hi hz hsize hby hzs hsz v n xs hown ⟨w.heap.size, 0, none⟩ 1 1 c (by rw [hc, Nat.one_mul]) hnews h1 h63 hbytes (by decide)
  have hgk : g < w.heap.size → v.ownBlock = some g := by
    intro hlt
    subst hsize
    subst hby
    have hsm : n + 1 ≤ 9223372036854775807 := by simp only [maxLen] at h63; omega
    rcases hown.2 with ⟨rfl, rfl⟩ | ⟨b, cap', cur, rfl, hbg, hbb, hnc, hcm, hcs, htake⟩
    · rw [run_append_nil (P := P) (w.alloc (.cells c.toArray e)) t ty e i z ht hi hz ⟨w.heap.size, 0, none⟩ 1 1 c (by rw [hc, Nat.one_mul]) hnews (by decide) (by omega) (by have := hbytes; rw [Nat.zero_add] at this; omega)] at hr2
      injection hr2 with h2 _
      simp at h2
      try omega
    · by_cases hroom : n + 1 ≤ cap'
      · rw [run_append_room (P := P) (w.alloc (.cells c.toArray e)) t ty e i ht hi b n cap' cur hbb ⟨w.heap.size, 0, none⟩ 1 1 c (by rw [hc, Nat.one_mul]) hnews h1 hroom (by rw [hc, hcs, ← Nat.succ_mul]; exact Nat.mul_le_mul_right _ hroom)] at hr2
        injection hr2 with h2 _
        simp at h2
        rw [← h2.1]; rfl
      · rw [run_append_grow (P := P) (w.alloc (.cells c.toArray e)) t ty e i z ht hi hz ⟨b, 0, none⟩ n cap' xs hown.1 (hown.cells (g := b) rfl) ⟨w.heap.size, 0, none⟩ 1 1 c (by rw [hc, Nat.one_mul]) hnews (by omega) (by omega) (growslice_fits (by omega) hbytes)] at hr2
        injection hr2 with h2 _
        simp at h2
        try omega
  rw [hr2] at hr
  injection hr with e1 e2
  subst e1 e2
  refine ⟨g, cap, w', fun k => if k < w.heap.size then lab k else tag, hr2, ⟨ho2, fun g' hg' => ?_⟩, hL2, ⟨by have := hg.size; omega, fun k hk hs => ⟨if_pos hk, ?_⟩⟩⟩
  · obtain rfl : g = g' := Option.some.inj hg'
    show (if g < w.heap.size then lab g else tag) = tag
    by_cases hlt : g < w.heap.size
    · rw [if_pos hlt]; exact h.2 g (hgk hlt)
    · rw [if_neg hlt]
  · rw [hg.block k (by omega) (fun e => hs (h.2 k e.symm))]
    exact heap_alloc_old w _ hk
end
end Go


/- Plain mathematics of bits, of no program: ones counted, rolled bits, the noughts at both ends. -/
namespace Go.BM
open Go.RowKit

/-! ### and, or of the model, as plain numbers -/
theorem ofInt64 (x : Int) : (BitVec.ofInt 64 x).toNat = (x % 18446744073709551616).toNat := by
  rw [BitVec.toNat_ofInt]; rfl
theorem and_i64 (a b : Int) : bits .and .i64 a b = wrap64 (((a % 18446744073709551616).toNat &&& (b % 18446744073709551616).toNat : Nat) : Int) := by
  show IntKind.i64.wrap ((BitVec.ofInt 64 a &&& BitVec.ofInt 64 b).toNat : Int) = _
  rw [BitVec.toNat_and, ofInt64, ofInt64, IntKind.wrap_i64, wrap64]
theorem or_i64 (a b : Int) : bits .or .i64 a b = wrap64 (((a % 18446744073709551616).toNat ||| (b % 18446744073709551616).toNat : Nat) : Int) := by
  show IntKind.i64.wrap ((BitVec.ofInt 64 a ||| BitVec.ofInt 64 b).toNat : Int) = _
  rw [BitVec.toNat_or, ofInt64, ofInt64, IntKind.wrap_i64, wrap64]
theorem xor_i64 (a b : Int) : bits .xor .i64 a b = wrap64 (((a % 18446744073709551616).toNat ^^^ (b % 18446744073709551616).toNat : Nat) : Int) := by
  show IntKind.i64.wrap ((BitVec.ofInt 64 a ^^^ BitVec.ofInt 64 b).toNat : Int) = _
  rw [BitVec.toNat_xor, ofInt64, ofInt64, IntKind.wrap_i64, wrap64]

/-- x & (2^j - 1) is x modulo 2^j, of a number with sign too. -/
theorem and_mask (x : Int) (j : Nat) (hj : j < 63) : bits .and .i64 x ((2 ^ j : Nat) - 1 : Int) = x % (2 ^ j : Nat) := by
  have hp : 2 ^ j ∣ 18446744073709551616 := by
    have e : j + (64 - j) = 64 := by omega
    have : (18446744073709551616 : Nat) = 2 ^ j * 2 ^ (64 - j) := by rw [← Nat.pow_add, e]
    exact ⟨_, this⟩
  have h1 : 2 ^ j < 2 ^ 63 := Nat.pow_lt_pow_right (by decide) hj
  have h0 : 0 < 2 ^ j := Nat.two_pow_pos j
  rw [and_i64]
  have e : (((2 ^ j : Nat) - 1 : Int) % 18446744073709551616).toNat = 2 ^ j - 1 := by
    generalize 2 ^ j = p at *; omega
  rw [e, Nat.and_two_pow_sub_one_eq_mod]
  have e2 : (((x % 18446744073709551616).toNat % 2 ^ j : Nat) : Int) = x % (2 ^ j : Nat) := by
    rw [Int.natCast_emod, Int.toNat_of_nonneg (Int.emod_nonneg _ (by decide))]
    exact Int.emod_emod_of_dvd _ (Int.natCast_dvd_natCast.mpr hp)
  rw [e2]
  have h2 := Int.emod_nonneg x (b := ((2 ^ j : Nat) : Int)) (by omega)
  have h3 := Int.emod_lt_of_pos x (b := ((2 ^ j : Nat) : Int)) (by omega)
  generalize 2 ^ j = p at *
  simp only [wrap64]
  omega

theorem and1 (x : Int) : bits .and .i64 x 1 = x % 2 := and_mask x 1 (by decide)
theorem and31 (x : Int) : bits .and .i64 x 31 = x % 32 := and_mask x 5 (by decide)
theorem and63 (x : Int) : bits .and .i64 x 63 = x % 64 := and_mask x 6 (by decide)
theorem and127 (x : Int) : bits .and .i64 x 127 = x % 128 := and_mask x 7 (by decide)
theorem and32 (x : Int) : bits .and .i64 x 4294967295 = x % 4294967296 := and_mask x 32 (by decide)
theorem uand31 (k : Int) (h0 : 0 ≤ k) (h1 : k ≤ 31) : bits .and .u64 k 31 = k := by
  have := u64_and k 31 h0 (by omega) (by decide) (by decide)
  rw [this]; simp only [show (31 : Int).toNat = 31 from rfl, nat_mask5]; omega
theorem uand63 (k : Int) (h0 : 0 ≤ k) (h1 : k ≤ 63) : bits .and .u64 k 63 = k := by
  have := u64_and k 63 h0 (by omega) (by decide) (by decide)
  rw [this]; simp only [show (63 : Int).toNat = 63 from rfl, nat_mask6]; omega

/-! ### ones counted: 'Lib.popAux w x': of the low w bits -/
open Lib (popAux)
theorem popAux_le : ∀ w x, popAux w x ≤ w
  | 0, _ => Nat.le_refl _
  | w + 1, x => by have := popAux_le w (x / 2); simp only [popAux]; omega
theorem popAux_zero : ∀ w, popAux w 0 = 0
  | 0 => rfl
  | w + 1 => by simp [popAux, popAux_zero w]
/-- the low k bits, then the others -/
theorem popAux_split : ∀ (k m x : Nat), popAux (k + m) x = popAux k x + popAux m (x / 2 ^ k)
  | 0, m, x => by simp [popAux]
  | k + 1, m, x => by
    rw [show k + 1 + m = (k + m) + 1 from by omega]
    simp only [popAux]
    rw [popAux_split k m (x / 2), Nat.div_div_eq_div_mul, Nat.pow_succ, Nat.mul_comm 2]
    omega
theorem popAux_mod : ∀ (k x : Nat), popAux k (x % 2 ^ k) = popAux k x
  | 0, x => rfl
  | k + 1, x => by
    simp only [popAux]
    have e1 : x % 2 ^ (k + 1) % 2 = x % 2 := by rw [Nat.pow_succ, Nat.mod_mul_left_mod]
    have e2 : x % 2 ^ (k + 1) / 2 = x / 2 % 2 ^ k := by rw [Nat.pow_succ, Nat.mul_comm, Nat.mod_mul_right_div_self]
    rw [e1, e2, popAux_mod k (x / 2)]
theorem popAux_mul (k m a b : Nat) (hb : b < 2 ^ k) : popAux (k + m) (a * 2 ^ k + b) = popAux k b + popAux m a := by
  rw [popAux_split, ← popAux_mod]
  have hp : 0 < 2 ^ k := Nat.two_pow_pos k
  rw [Nat.mul_comm a, Nat.mul_add_mod, Nat.mod_eq_of_lt hb, Nat.mul_add_div hp, Nat.div_eq_of_lt hb, Nat.add_zero]

theorem u32and255 (x : Int) (h0 : 0 ≤ x) (h1 : x ≤ 4294967295) : bits .and .u32 x 255 = x % 256 := by
  rw [u32_and x 255 h0 (by omega) (by decide) (by decide)]
  simp only [show (255 : Int).toNat = 255 from rfl, nat_mask8]; omega

/-! ### rolled -/
def rotl (w x k : Nat) : Nat := x % 2 ^ (w - k) * 2 ^ k + x / 2 ^ (w - k)
theorem two_split (w k : Nat) (h : k ≤ w) : 2 ^ w = 2 ^ (w - k) * 2 ^ k := by rw [← Nat.pow_add]; congr 1; omega
theorem top_lt (w x k : Nat) (h : k ≤ w) (hx : x < 2 ^ w) : x / 2 ^ (w - k) < 2 ^ k := by
  rw [two_split w k h] at hx
  exact Nat.div_lt_of_lt_mul hx
theorem rotl_lt (w x k : Nat) (h : k ≤ w) (hx : x < 2 ^ w) : rotl w x k < 2 ^ w := by
  have h1 := top_lt w x k h hx
  have h2 := Nat.mod_lt x (Nat.two_pow_pos (w - k))
  rw [two_split w k h]
  unfold rotl
  generalize x / 2 ^ (w - k) = t at *
  generalize x % 2 ^ (w - k) = m at *
  generalize 2 ^ (w - k) = p at *
  have : (m + 1) * 2 ^ k ≤ p * 2 ^ k := Nat.mul_le_mul_right _ h2
  rw [Nat.add_mul] at this
  omega
theorem rotl_or (w x k : Nat) (h : k ≤ w) (hx : x < 2 ^ w) : x * 2 ^ k % 2 ^ w ||| x / 2 ^ (w - k) = rotl w x k := by
  have e : x * 2 ^ k % 2 ^ w = x % 2 ^ (w - k) * 2 ^ k := by rw [two_split w k h, Nat.mul_mod_mul_right]
  rw [e, nat_join k _ _ (Nat.mul_mod_left _ _) (top_lt w x k h hx)]
  rfl
theorem rotl_pop (w x k : Nat) (h : k ≤ w) (hx : x < 2 ^ w) : popAux w (rotl w x k) = popAux w x := by
  have e : w = k + (w - k) := by omega
  have e' : w = (w - k) + k := by omega
  unfold rotl
  rw [show popAux w (x % 2 ^ (w - k) * 2 ^ k + x / 2 ^ (w - k)) = popAux (k + (w - k)) (x % 2 ^ (w - k) * 2 ^ k + x / 2 ^ (w - k)) from by rw [← e]]
  rw [popAux_mul k (w - k) _ _ (top_lt w x k h hx), popAux_mod]
  rw [show popAux w x = popAux ((w - k) + k) x from by rw [← e'], popAux_split]
  omega
theorem rotl_zero (w x : Nat) (hx : x < 2 ^ w) : rotl w x 0 = x := by
  unfold rotl
  simp [Nat.mod_eq_of_lt hx, Nat.div_eq_of_lt hx]
theorem rotl_nil (w k : Nat) : rotl w 0 k = 0 := by simp [rotl]
theorem rotl_back (w x k : Nat) (h : k ≤ w) (hx : x < 2 ^ w) : rotl w (rotl w x k) (w - k) = x := by
  have h1 := top_lt w x k h hx
  have e : w - (w - k) = k := by omega
  have hp : 0 < 2 ^ k := Nat.two_pow_pos k
  show rotl w x k % 2 ^ (w - (w - k)) * 2 ^ (w - k) + rotl w x k / 2 ^ (w - (w - k)) = x
  rw [e]
  unfold rotl
  rw [Nat.mul_comm _ (2 ^ k), Nat.mul_add_mod, Nat.mod_eq_of_lt h1, Nat.mul_add_div hp, Nat.div_eq_of_lt h1, Nat.add_zero]
  exact Nat.div_add_mod' x _
theorem or32 (x k : Int) (h0 : 0 ≤ x) (h1 : x ≤ 4294967295) (hk0 : 0 ≤ k) (hk1 : k ≤ 31) :
    bits .or .u32 (x * 2 ^ k.toNat % 4294967296) (x / 2 ^ (32 - k).toNat) = (rotl 32 x.toNat k.toNat : Int) := by
  obtain ⟨n, rfl⟩ := Int.eq_ofNat_of_zero_le h0
  obtain ⟨j, rfl⟩ := Int.eq_ofNat_of_zero_le hk0
  simp only [Int.toNat_natCast] at *
  have e1 : ((n : Int) * 2 ^ j % 4294967296) = ((n * 2 ^ j % 2 ^ 32 : Nat) : Int) := by simp
  have e2 : ((n : Int) / 2 ^ (32 - (j : Int)).toNat) = ((n / 2 ^ (32 - j) : Nat) : Int) := by
    have : (32 - (j : Int)).toNat = 32 - j := by omega
    rw [this]; simp
  rw [e1, e2, u32_or_nat _ _ (Nat.mod_lt _ (by decide)) (by have := Nat.div_le_self n (2 ^ (32 - j)); omega)]
  rw [rotl_or 32 n j (by omega) (by omega)]
theorem or64 (x k : Int) (h0 : 0 ≤ x) (h1 : x ≤ 18446744073709551615) (hk0 : 0 ≤ k) (hk1 : k ≤ 63) :
    bits .or .u64 (IntKind.u64.wrap (x * 2 ^ k.toNat)) (x / 2 ^ (64 - k).toNat) = (rotl 64 x.toNat k.toNat : Int) := by
  obtain ⟨n, rfl⟩ := Int.eq_ofNat_of_zero_le h0
  obtain ⟨j, rfl⟩ := Int.eq_ofNat_of_zero_le hk0
  simp only [Int.toNat_natCast] at *
  have e1 : IntKind.u64.wrap ((n : Int) * 2 ^ j) = ((n * 2 ^ j % 2 ^ 64 : Nat) : Int) := by rw [IntKind.wrap_u64]; simp
  have e2 : ((n : Int) / 2 ^ (64 - (j : Int)).toNat) = ((n / 2 ^ (64 - j) : Nat) : Int) := by
    have : (64 - (j : Int)).toNat = 64 - j := by omega
    rw [this]; simp
  rw [e1, e2, u64_or_nat _ _ (Nat.mod_lt _ (by decide)) (by have := Nat.div_le_self n (2 ^ (64 - j)); omega)]
  rw [rotl_or 64 n j (by omega) (by omega)]
end Go.BM

