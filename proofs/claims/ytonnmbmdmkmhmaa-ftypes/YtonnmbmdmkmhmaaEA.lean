/- Over this seat's translation: worlds of which only some blocks turned; rows of structs, their fields numbers, truths, texts, lists of numbers and lists of instructions. -/
import Derived.Test.YtonnmbmdmkmhmaaXD
set_option linter.unusedVariables false
set_option linter.unusedSimpArgs false
set_option maxRecDepth 100000
set_option maxHeartbeats 4000000
namespace Go.Proofs.Ytonnmbmdmkmhmaa
open Go.RowKit
/-- only some blocks turned, new ones laid, orders drawn -/
structure Wr (S : Nat → Prop) (w w' : World) : Prop where
  os : w'.os = w.os
  tape : w'.tape = w.tape
  output : w'.output = w.output
  size : w.heap.size ≤ w'.heap.size
  drawn : ∃ n, w'.drawn = w.drawn + n
  block : ∀ k, k < w.heap.size → ¬ S k → w'.heap[k]? = w.heap[k]?
section
variable {S S' Z Z' : Nat → Prop} {w w' w'' : World}
theorem Wr.refl (S : Nat → Prop) (w : World) : Wr S w w := ⟨rfl, rfl, rfl, Nat.le_refl _, ⟨0, rfl⟩, fun _ _ _ => rfl⟩
theorem Wr.trans (h : Wr S w w') (h2 : Wr S w' w'') : Wr S w w'' := by
  obtain ⟨n, e1⟩ := h.drawn
  obtain ⟨m, e2⟩ := h2.drawn
  exact ⟨h2.os.trans h.os, h2.tape.trans h.tape, h2.output.trans h.output, Nat.le_trans h.size h2.size, ⟨n + m, by omega⟩, fun k hk hz => (h2.block k (Nat.lt_of_lt_of_le hk h.size) hz).trans (h.block k hk hz)⟩
theorem Wr.mono (h : Wr S w w') (hs : ∀ k, k < w.heap.size → S k → S' k) : Wr S' w w' := ⟨h.os, h.tape, h.output, h.size, h.drawn, fun k hk hz => h.block k hk (fun x => hz (hs k hk x))⟩
theorem Wr.of_later (h : Later w w') : Wr S w w' := by
  obtain ⟨bs, n, rfl⟩ := h
  exact ⟨rfl, rfl, rfl, by rw [World.far_size]; omega, ⟨n, rfl⟩, fun k hk _ => World.far_block w bs n k hk⟩
theorem Wr.ltr (h : Wr S w w') (h2 : Later w' w'') : Wr S w w'' := h.trans (Wr.of_later h2)
theorem Wr.above {B : Nat} (h : Wr S w w') (h2 : Wr (B ≤ ·) w' w'') (hB : w.heap.size ≤ B) : Wr S w w'' := by
  obtain ⟨n, e1⟩ := h.drawn
  obtain ⟨m, e2⟩ := h2.drawn
  exact ⟨h2.os.trans h.os, h2.tape.trans h.tape, h2.output.trans h.output, Nat.le_trans h.size h2.size, ⟨n + m, by omega⟩, fun k hk hz => (h2.block k (Nat.lt_of_lt_of_le hk h.size) (by show ¬ B ≤ k; omega)).trans (h.block k hk hz)⟩
/-- no old block turned -/
theorem Wr.later (h : Wr S w w') (hs : ∀ k, S k → w.heap.size ≤ k) : Later w w' := by
  obtain ⟨m, e⟩ := h.drawn
  have hsz := h.size
  refine ⟨w'.heap.extract w.heap.size w'.heap.size, m, ?_⟩
  have hh : w'.heap = w.heap ++ w'.heap.extract w.heap.size w'.heap.size := by
    apply Array.ext_getElem?
    intro k
    rcases Nat.lt_or_ge k w.heap.size with hk | hk
    · rw [Array.getElem?_append_left hk, h.block k hk (fun x => by have := hs k x; omega)]
    · rw [Array.getElem?_append_right hk, Array.getElem?_extract]
      by_cases hk2 : k < w'.heap.size
      · rw [if_pos (by omega)]
        congr 1
        omega
      · rw [if_neg (by omega), Array.getElem?_eq_none (by omega)]
  have h1 := h.os
  have h2 := h.tape
  have h3 := h.output
  cases w'
  simp only at h1 h2 h3 e hh
  subst h1 h2 h3 e
  unfold World.far
  rw [← hh]
theorem Wr.set (h : Wr S w w') {k : Nat} (i : Nat) (v : Value) (hk : S k ∨ w.heap.size ≤ k) : Wr S w (w'.setCell ⟨k, i, none⟩ v) :=
  ⟨h.os, h.tape, h.output, by simpa [World.setCell] using h.size, h.drawn, fun j hj hs => by
    rw [Below.heap_setCell w' ⟨k, i, none⟩ v j (fun e => by
      have e : j = k := e
      rcases hk with x | x
      · exact hs (by rw [e]; exact x)
      · omega)]
    exact h.block j hj hs⟩
theorem Wr.cell (h : Wr S w w') {k i : Nat} {v : Value} (hk : ¬ S k) (hc : w.cell? ⟨k, i, none⟩ = some v) : w'.cell? ⟨k, i, none⟩ = some v := (World.cell?_of_block (a := ⟨k, i, none⟩) (h.block k (cell_lt hc) hk)).trans hc
theorem Wr.row {b : Nat} {t : TypeId} {n : Nat} {f : Nat → Value} (h : Wr S w w') (hk : ¬ S b) (hr : w.rowIs b t n f) : w'.rowIs b t n f := hr.of_block (h.block b hr.lt hk)
/-- from a world's first blocks on -/
theorem cut_later (w : World) (B : Nat) (h : B ≤ w.heap.size) : ∃ W : World, W.heap.size = B ∧ Later W w ∧ ∀ w', Later W w' → w.heap.size ≤ w'.heap.size → Wr (B ≤ ·) w w' := by
  refine ⟨{ w with heap := w.heap.extract 0 B }, by simp; omega, ⟨w.heap.extract B w.heap.size, 0, ?_⟩, fun w' hl hs => ?_⟩
  · have : w.heap = w.heap.extract 0 B ++ w.heap.extract B w.heap.size := by
      apply Array.ext_getElem?
      intro k
      rcases Nat.lt_or_ge k B with hk | hk
      · rw [Array.getElem?_append_left (by simp; omega), Array.getElem?_extract, if_pos (by omega)]
        congr 1
        omega
      · rw [Array.getElem?_append_right (by simp; omega), Array.getElem?_extract]
        by_cases hk2 : k < w.heap.size
        · rw [if_pos (by simp; omega)]
          congr 1
          simp
          omega
        · rw [if_neg (by simp; omega), Array.getElem?_eq_none (by omega)]
    unfold World.far
    simp only [Nat.add_zero]
    rw [← this]
  · obtain ⟨bs, n, rfl⟩ := hl
    refine ⟨rfl, rfl, rfl, hs, ⟨n, rfl⟩, fun k hk hB => ?_⟩
    show (w.heap.extract 0 B ++ bs)[k]? = _
    rw [Array.getElem?_append_left (by simp; omega), Array.getElem?_extract, if_pos (by omega)]
    congr 1
    omega
/-- a field of a struct: a number, a truth, a text, numbers, instructions -/
abbrev Fd : Type := Int ⊕ Bool ⊕ ByteArray ⊕ List Int ⊕ Fs
abbrev fN (x : Int) : Fd := .inl x
abbrev fB (b : Bool) : Fd := .inr (.inl b)
abbrev fT (s : ByteArray) : Fd := .inr (.inr (.inl s))
abbrev fL (ls : List Int) : Fd := .inr (.inr (.inr (.inl ls)))
abbrev fI (f : Fs) : Fd := .inr (.inr (.inr (.inr f)))
/-- the cell of a field -/
def fdc (Z : Nat → Prop) (w : World) : Fd → Value → Prop
  | .inl x, v => v = .int .i64 x
  | .inr (.inl b), v => v = .bool b
  | .inr (.inr (.inl s)), v => v = .string s
  | .inr (.inr (.inr (.inl ls))), v => ∃ A c, v = .slice A ls.length c ∧ Lq Z w A ls
  | .inr (.inr (.inr (.inr f))), v => ∃ A c, v = .slice A f.len c ∧ Tr Z w A f
/-- the cells of fields -/
def itc (Z : Nat → Prop) (w : World) : List Fd → List Value → Prop
  | [], L => L = []
  | x :: r, L => ∃ v L', L = v :: L' ∧ fdc Z w x v ∧ itc Z w r L'
theorem fdc.move (hk : ∀ k, Z k → k < w.heap.size → Z' k ∧ w'.heap[k]? = w.heap[k]?) : ∀ {x : Fd} {v : Value}, fdc Z w x v → fdc Z' w' x v
  | .inl _, _, h => h
  | .inr (.inl _), _, h => h
  | .inr (.inr (.inl _)), _, h => h
  | .inr (.inr (.inr (.inl _))), _, ⟨A, c, e, h⟩ => ⟨A, c, e, h.move hk⟩
  | .inr (.inr (.inr (.inr _))), _, ⟨A, c, e, h⟩ => ⟨A, c, e, h.move hk⟩
theorem fdc.one : ∀ {x : Fd} {v : Value}, fdc Z w x v → v.oneCell' = true
  | .inl _, _, h => by rw [h]; rfl
  | .inr (.inl _), _, h => by rw [h]; rfl
  | .inr (.inr (.inl _)), _, h => by rw [h]; rfl
  | .inr (.inr (.inr (.inl _))), _, ⟨A, c, e, h⟩ => by rw [e]; rfl
  | .inr (.inr (.inr (.inr _))), _, ⟨A, c, e, h⟩ => by rw [e]; rfl
theorem itc.move (hk : ∀ k, Z k → k < w.heap.size → Z' k ∧ w'.heap[k]? = w.heap[k]?) : ∀ {l : List Fd} {L : List Value}, itc Z w l L → itc Z' w' l L
  | [], _, h => h
  | _ :: _, _, ⟨v, L', e, h1, h2⟩ => ⟨v, L', e, fdc.move hk h1, itc.move hk h2⟩
theorem itc.one : ∀ {l : List Fd} {L : List Value}, itc Z w l L → ∀ u ∈ L, u.oneCell' = true
  | [], _, h => by rw [h]; simp
  | _ :: _, _, ⟨v, L', e, h1, h2⟩ => by
    subst e
    intro u hu
    rcases List.mem_cons.1 hu with rfl | hu
    · exact h1.one
    · exact itc.one h2 u hu
theorem itc.length : ∀ {l : List Fd} {L : List Value}, itc Z w l L → L.length = l.length
  | [], _, h => by rw [h]; rfl
  | _ :: _, _, ⟨v, L', e, h1, h2⟩ => by subst e; simp [itc.length h2]
theorem itc.app : ∀ {l m : List Fd} {L M : List Value}, itc Z w l L → itc Z w m M → itc Z w (l ++ m) (L ++ M)
  | [], _, _, _, h, h2 => by rw [h]; exact h2
  | _ :: _, _, _, _, ⟨v, L', e, h1, h3⟩, h2 => by subst e; exact ⟨v, _, rfl, h1, itc.app h3 h2⟩
theorem itc.get : ∀ {l : List Fd} {L : List Value}, itc Z w l L → ∀ {j : Nat} {x : Fd}, l[j]? = some x → ∃ v, L[j]? = some v ∧ fdc Z w x v
  | [], _, h, j, x, hx => by simp at hx
  | y :: _, _, ⟨v, L', e, h1, h2⟩, 0, x, hx => by
    subst e
    simp at hx
    subst hx
    exact ⟨v, rfl, h1⟩
  | _ :: _, _, ⟨v, L', e, h1, h2⟩, j + 1, x, hx => by
    subst e
    exact itc.get h2 (by simpa using hx)
/-- fields of structs one behind the other -/
theorem flat_get {α : Type} (f : α → List Fd) (k : Nat) (hf : ∀ x, (f x).length = k) : ∀ (xs : List α) (i j : Nat), j < k → (xs.flatMap f)[i * k + j]? = xs[i]?.bind fun x => (f x)[j]?
  | [], i, j, hj => by simp
  | x :: xs, 0, j, hj => by
    rw [List.flatMap_cons, Nat.zero_mul, Nat.zero_add, List.getElem?_append_left (by rw [hf]; exact hj)]
    rfl
  | x :: xs, i + 1, j, hj => by
    rw [List.flatMap_cons, List.getElem?_append_right (by rw [hf, Nat.add_mul]; omega), hf, show (i + 1) * k + j - k = i * k + j by rw [Nat.add_mul]; omega, flat_get f k hf xs i j hj]
    rfl
theorem flat_len {α : Type} (f : α → List Fd) (k : Nat) (hf : ∀ x, (f x).length = k) : ∀ (xs : List α), (xs.flatMap f).length = xs.length * k
  | [] => by simp
  | x :: xs => by rw [List.flatMap_cons, List.length_append, hf, flat_len f k hf xs, List.length_cons, Nat.add_mul]; omega
/-- structs at a slice's address -/
def Rt {α : Type} (f : α → List Fd) (Z : Nat → Prop) (w : World) (A : Option Addr) (xs : List α) : Prop := xs = [] ∨ ∃ g o L, A = some ⟨g, o, none⟩ ∧ Z g ∧ (∀ (j : Nat) (u : Value), L[j]? = some u → w.cell? ⟨g, o + j, none⟩ = some u) ∧ itc Z w (xs.flatMap f) L
theorem Rt.move {α : Type} {f : α → List Fd} {A : Option Addr} {xs : List α} (hf : ∀ x, 0 < (f x).length) (hk : ∀ k, Z k → k < w.heap.size → Z' k ∧ w'.heap[k]? = w.heap[k]?) (h : Rt f Z w A xs) : Rt f Z' w' A xs := by
  rcases h with h | ⟨g, o, L, e, hz, hc, hi⟩
  · exact Or.inl h
  · by_cases hx : xs = []
    · exact Or.inl hx
    · have hl : 0 < L.length := by
        rw [hi.length]
        obtain ⟨x, r, rfl⟩ := List.exists_cons_of_ne_nil hx
        rw [List.flatMap_cons, List.length_append]
        have := hf x
        omega
      have hg : g < w.heap.size := cell_lt (hc 0 _ (List.getElem?_eq_getElem hl))
      exact Or.inr ⟨g, o, L, e, (hk g hz hg).1, cells_keep hc (fun x => (hk g hz x).2), hi.move hk⟩
theorem Rt.later {α : Type} {f : α → List Fd} {A : Option Addr} {xs : List α} (hf : ∀ x, 0 < (f x).length) (hl : Later w w') (h : Rt f Z w A xs) : Rt f Z w' A xs := h.move hf fun k hz hk => ⟨hz, hl.block hk⟩
/-- one field of one struct -/
theorem Rt.get {α : Type} {f : α → List Fd} {k : Nat} (hf : ∀ x, (f x).length = k) {A : Option Addr} {xs : List α} (h : Rt f Z w A xs) {i : Nat} (hi : i < xs.length) : ∃ g o, A = some ⟨g, o, none⟩ ∧ Z g ∧ ∀ (j : Nat) (y : Fd), j < k → (f xs[i])[j]? = some y → ∃ v, w.cell? ⟨g, o + (i * k + j), none⟩ = some v ∧ fdc Z w y v := by
  rcases h with h | ⟨g, o, L, e, hz, hc, hL⟩
  · subst h; simp at hi
  · refine ⟨g, o, e, hz, fun j y hj hy => ?_⟩
    obtain ⟨v, h1, h2⟩ := hL.get (j := i * k + j) (x := y) (by rw [flat_get f k hf xs i j hj, List.getElem?_eq_getElem hi]; exact hy)
    exact ⟨v, hc _ _ h1, h2⟩
/-- what a type's elements are -/
def Ti (t e : TypeId) (k by_ : Nat) : Prop := Try.prog.underlying t = some (.slice e) ∧ 0 < k ∧ ∃ i z, Try.prog.info? e = some i ∧ i.zero = some z ∧ i.size = k ∧ i.bytes = by_ ∧ z.cells.size = k
theorem ti_of {t e : TypeId} {k by_ : Nat} (h1 : Try.prog.underlying t = some (.slice e)) (h2 : ((Try.prog.info? e).bind fun i => i.zero.map fun z => (i.size, i.bytes, z.cells.size)) = some (k, by_, k)) (h3 : 0 < k) : Ti t e k by_ := by
  refine ⟨h1, h3, ?_⟩
  cases hh : Try.prog.info? e with
  | none => rw [hh] at h2; cases h2
  | some i =>
    rw [hh] at h2
    cases hz : i.zero with
    | none => simp [hz] at h2
    | some z =>
      simp [hz] at h2
      exact ⟨i, z, rfl, hz, h2.1, h2.2.1, h2.2.2⟩
/-- structs being appended to a row of one's own -/
def Mk {α : Type} (f : α → List Fd) (B : Nat) (e : TypeId) (k : Nat) (w : World) (v : Value) (xs : List α) : Prop := ∃ (Z : Nat → Prop) (L : List Value), (∀ j, Z j → B ≤ j ∧ j < w.heap.size) ∧ (∀ g, v.ownBlock = some g → ¬ Z g) ∧ w.ownsRow B e k v xs.length L ∧ itc Z w (xs.flatMap f) L
variable {α : Type} {f : α → List Fd} {B : Nat} {e t : TypeId} {k by_ : Nat} {v : Value} {xs : List α}
theorem Mk.start (w : World) : Mk f B e k w (.slice none 0 0) ([] : List α) := ⟨fun _ => False, [], fun _ h => h.elim, fun _ h => (by cases h), World.ownsRow_nil _ _ _ _, rfl⟩
theorem Mk.form (h : Mk f B e k w v xs) : ∃ A cap, v = .slice A xs.length cap := by
  obtain ⟨Z, L, _, _, h2, _⟩ := h
  rcases h2.2 with ⟨e, h0⟩ | ⟨g, cap', cur, e, _⟩
  · rw [h0]; exact ⟨none, 0, e⟩
  · exact ⟨_, _, e⟩
theorem owns_keep {n : Nat} {L : List Value} (h : w.ownsRow B e k v n L) (hk : ∀ j, B ≤ j → j < w.heap.size → w'.heap[j]? = w.heap[j]?) : w'.ownsRow B e k v n L := by
  refine ⟨h.1, ?_⟩
  rcases h.2 with h2 | ⟨g, cap', cur, h2, h3, h4, h5⟩
  · exact Or.inl h2
  · exact Or.inr ⟨g, cap', cur, h2, h3, (hk g h3 (Array.getElem?_eq_some_iff.1 h4).1).trans h4, h5⟩
theorem Mk.keep (h : Mk f B e k w v xs) (hs : w.heap.size ≤ w'.heap.size) (hk : ∀ j, B ≤ j → j < w.heap.size → w'.heap[j]? = w.heap[j]?) : Mk f B e k w' v xs := by
  obtain ⟨Z, L, h1, h2, h3, h4⟩ := h
  exact ⟨Z, L, fun j hj => ⟨(h1 j hj).1, Nat.lt_of_lt_of_le (h1 j hj).2 hs⟩, h2, owns_keep h3 hk, h4.move fun j hj hl => ⟨hj, hk j (h1 j hj).1 hl⟩⟩
theorem Mk.wr (h : Mk f B e k w v xs) (hw : Wr S w w') (hS : ∀ j, S j → j < B) : Mk f B e k w' v xs := h.keep hw.size fun j hj hl => hw.block j hl (fun x => by have := hS j x; omega)
theorem Mk.later (h : Mk f B e k w v xs) (hl : Later w w') : Mk f B e k w' v xs := h.keep hl.size fun j _ hj => hl.block hj
theorem Mk.rt {A : Option Addr} {n cap : Nat} (h : Mk f B e k w (.slice A n cap) xs) : Rt f (B ≤ ·) w A xs := by
  obtain ⟨Z, L, h1, h2, h3, h4⟩ := h
  rcases h3.2 with ⟨e, h0⟩ | ⟨g, cap', cur, e, hB, _⟩
  · exact Or.inl (List.length_eq_zero_iff.1 h0)
  · injection e with e1 e2 e3
    subst e1 e2 e3
    exact Or.inr ⟨g, 0, L, rfl, hB, fun j u hu => by rw [Nat.zero_add]; exact owns_cell h3 hu, h4.move fun j hj hl => ⟨(h1 j hj).1, rfl⟩⟩
/-- one struct more: behind what was read since -/
theorem Mk.more {w0 : World} (h : Mk f B e k w0 v xs) (hT : Ti t e k by_) (ty : TypeId) (hB : B ≤ w0.heap.size) (hs : w0.heap.size ≤ w.heap.size) (hk : ∀ j, B ≤ j → j < w0.heap.size → w.heap[j]? = w0.heap[j]?) (x : α) (hf : (f x).length = k) (c : List Value) (hc : itc (w0.heap.size ≤ ·) w (f x) c) (hn : (xs.length + 1) * by_ ≤ 140737488355328) (h63 : xs.length + 1 ≤ 9000000000000000000) :
    ∃ g cap w', (Builtin.append_ #[t, t] ty #[v, .slice (some ⟨w.heap.size, 0, none⟩) 1 1]).run Try.prog (w.alloc (.cells c.toArray e)) = .ok (.slice (some ⟨g, 0, none⟩) (xs.length + 1) cap) w' ∧ Mk f B e k w' (.slice (some ⟨g, 0, none⟩) (xs.length + 1) cap) (xs ++ [x]) ∧ Wr (B ≤ ·) w w' := by
  obtain ⟨ht, h0, i, z, hi, hz, hi1, hi2, hz1⟩ := hT
  obtain ⟨Z, L, h1, h2, h3, h4⟩ := h.keep hs hk
  obtain ⟨W, hW, hL, hcut⟩ := cut_later w B (Nat.le_trans hB hs)
  subst hW
  have hlt : ∀ g, v.ownBlock = some g → g < w0.heap.size := fun g hg => by
    obtain ⟨_, _, _, _, h5, _⟩ := h
    exact (h5.lt g hg).2
  have hF : Fld (fun j => if v.ownBlock = some j then 0 else 5) 0 w W.heap.size e k v xs.length L := ⟨h3, fun g hg => if_pos hg⟩
  obtain ⟨g, cap, w', lab', r, F, l, C⟩ := fld_more (P := Try.prog) hL t ty e i z k by_ ht hi hz hi1 hi2 hz1 h0 hF c (by rw [hc.length, hf]) hc.one (by unfold maxLen; omega) hn
  have hold : ∀ j, (Z j ∨ (w0.heap.size ≤ j ∧ j < w.heap.size)) → j < w.heap.size ∧ v.ownBlock ≠ some j := fun j hj => by
    rcases hj with hj | hj
    · exact ⟨(h1 j hj).2, fun x => h2 j x hj⟩
    · exact ⟨hj.2, fun x => by have := hlt j x; omega⟩
  have hkeep : ∀ j, (Z j ∨ (w0.heap.size ≤ j ∧ j < w.heap.size)) → lab' j = 5 ∧ w'.heap[j]? = w.heap[j]? := fun j hj => by
    obtain ⟨a, b⟩ := hold j hj
    have := C.2 j a (by show ¬ (if v.ownBlock = some j then 0 else 5) = 0; rw [if_neg b]; decide)
    exact ⟨by rw [this.1]; exact if_neg b, this.2⟩
  refine ⟨g, cap, w', r, ⟨fun j => Z j ∨ (w0.heap.size ≤ j ∧ j < w.heap.size), L ++ c, fun j hj => ?_, fun g' hg' hz' => ?_, ?_, ?_⟩, hcut w' l C.1⟩
  · have := (hold j hj).1
    refine ⟨?_, Nat.lt_of_lt_of_le this C.1⟩
    rcases hj with hj | hj
    · exact (h1 j hj).1
    · omega
  · have := F.2 g' hg'
    have h5 := (hkeep g' hz').1
    omega
  · rw [List.length_append]
    exact F.1
  · rw [List.flatMap_append]
    refine itc.app (h4.move fun j hj hl => ⟨Or.inl hj, (hkeep j (Or.inl hj)).2⟩) ?_
    rw [List.flatMap_cons, List.flatMap_nil, List.append_nil]
    exact hc.move fun j hj hl => ⟨Or.inr ⟨hj, hl⟩, (hkeep j (Or.inr ⟨hj, hl⟩)).2⟩
end
/-- numbers as structs of one field -/
abbrev f1 (x : Int) : List Fd := [fN x]
theorem flat1 (xs : List Int) (j : Nat) (hj : j < xs.length) : (xs.flatMap f1)[j]? = some (fN (xs.getD j 0)) := by
  have := flat_get f1 1 (fun _ => rfl) xs j 0 (by decide)
  rw [Nat.mul_one, Nat.add_zero] at this
  rw [this, List.getElem?_eq_getElem hj]
  simp [List.getD, hj]
theorem Rt.lq {Z : Nat → Prop} {w : World} {A : Option Addr} {xs : List Int} (h : Rt f1 Z w A xs) : Lq Z w A xs := by
  rcases h with h | ⟨g, o, L, e, hz, hc, hi⟩
  · subst h
    exact ⟨Or.inl rfl, fun x => absurd rfl x⟩
  · subst e
    refine ⟨Or.inr ⟨g, o, rfl, fun j hj => ?_⟩, fun _ a ha => by cases ha; exact hz⟩
    obtain ⟨v, h1, h2⟩ := hi.get (flat1 xs j hj)
    rw [hc j v h1]
    exact congrArg some h2
theorem ti_int : Ti 24 3 1 8 := ti_of Try.underlying24 (by kernel_rfl) (by decide)
/-- an import: its names, its kind, its type, whether it may be set, its limits -/
abbrev Imp : Type := ByteArray × ByteArray × Int × Int × Bool × Int × Int
/-- the fields of a module's parts -/
abbrev fTy (x : List Int × List Int) : List Fd := [fL x.1, fL x.2]
abbrev fIm (x : Imp) : List Fd := [fT x.1, fT x.2.1, fN x.2.2.1, fN x.2.2.2.1, fB x.2.2.2.2.1, fN x.2.2.2.2.2.1, fN x.2.2.2.2.2.2]
abbrev fLi (x : Int × Int) : List Fd := [fN x.1, fN x.2]
abbrev fGl (x : Int × Bool × Fs) : List Fd := [fN x.1, fB x.2.1, fI x.2.2]
abbrev fEx (x : ByteArray × Int × Int) : List Fd := [fT x.1, fN x.2.1, fN x.2.2]
abbrev fEl (x : Fs × List Int) : List Fd := [fI x.1, fL x.2]
abbrev fCo (x : List Int × Fs) : List Fd := [fL x.1, fI x.2]
abbrev fDa (x : Fs × ByteArray) : List Fd := [fI x.1, fT x.2]
theorem ti_fty : Ti 22 34 2 48 := ti_of Try.underlying22 (by kernel_rfl) (by decide)
theorem ti_imp : Ti 23 58 7 72 := ti_of Try.underlying23 (by kernel_rfl) (by decide)
theorem ti_lim : Ti 25 56 2 16 := ti_of Try.underlying25 (by kernel_rfl) (by decide)
theorem ti_glo : Ti 26 61 3 40 := ti_of Try.underlying26 (by kernel_rfl) (by decide)
theorem ti_exp : Ti 27 78 3 32 := ti_of Try.underlying27 (by kernel_rfl) (by decide)
theorem ti_elm : Ti 28 65 2 48 := ti_of Try.underlying28 (by kernel_rfl) (by decide)
theorem ti_cod : Ti 29 67 2 48 := ti_of Try.underlying29 (by kernel_rfl) (by decide)
theorem ti_dat : Ti 30 69 2 40 := ti_of Try.underlying30 (by kernel_rfl) (by decide)
/-- a module -/
structure Md where
  ty : List (List Int × List Int)
  im : List (Imp)
  fu : List (Int)
  ta : List (Int × Int)
  me : List (Int × Int)
  gl : List (Int × Bool × Fs)
  ex : List (ByteArray × Int × Int)
  st : Int
  el : List (Fs × List Int)
  co : List (List Int × Fs)
  da : List (Fs × ByteArray)
def mdZ (x : Int) : Md := ⟨[], [], [], [], [], [], [], x, [], [], []⟩
/-- a row of structs and the slice's cell -/
def Fc {α : Type} (f : α → List Fd) (Z : Nat → Prop) (w : World) (xs : List α) (v : Value) : Prop := ∃ A c, v = .slice A xs.length c ∧ Rt f Z w A xs
theorem Fc.move {α : Type} {f : α → List Fd} {Z Z' : Nat → Prop} {w w' : World} {xs : List α} {v : Value} (hf : ∀ x, 0 < (f x).length) (hk : ∀ k, Z k → k < w.heap.size → Z' k ∧ w'.heap[k]? = w.heap[k]?) (h : Fc f Z w xs v) : Fc f Z' w' xs v := by
  obtain ⟨A, c, e, h⟩ := h
  exact ⟨A, c, e, h.move hf hk⟩
theorem Fc.nil {α : Type} {f : α → List Fd} {Z : Nat → Prop} {w : World} : Fc f Z w ([] : List α) (.slice none 0 0) := ⟨none, 0, rfl, Or.inl rfl⟩
/-- the cells of a module -/
def ModC (Z : Nat → Prop) (w : World) (m : Md) (L : List Value) : Prop := ∃ v0 v1 v2 v3 v4 v5 v6 v8 v9 v10, L = [v0, v1, v2, v3, v4, v5, v6, .int .i64 m.st, v8, v9, v10] ∧ Fc fTy Z w m.ty v0 ∧ Fc fIm Z w m.im v1 ∧ Fc f1 Z w m.fu v2 ∧ Fc fLi Z w m.ta v3 ∧ Fc fLi Z w m.me v4 ∧ Fc fGl Z w m.gl v5 ∧ Fc fEx Z w m.ex v6 ∧ Fc fEl Z w m.el v8 ∧ Fc fCo Z w m.co v9 ∧ Fc fDa Z w m.da v10
theorem ModC.move {Z Z' : Nat → Prop} {w w' : World} {m : Md} {L : List Value} (hk : ∀ k, Z k → k < w.heap.size → Z' k ∧ w'.heap[k]? = w.heap[k]?) (h : ModC Z w m L) : ModC Z' w' m L := by
  obtain ⟨v0, v1, v2, v3, v4, v5, v6, v8, v9, v10, e, h0, h1, h2, h3, h4, h5, h6, h8, h9, h10⟩ := h
  exact ⟨v0, v1, v2, v3, v4, v5, v6, v8, v9, v10, e, h0.move (fun _ => Nat.succ_pos _) hk, h1.move (fun _ => Nat.succ_pos _) hk, h2.move (fun _ => Nat.succ_pos _) hk, h3.move (fun _ => Nat.succ_pos _) hk, h4.move (fun _ => Nat.succ_pos _) hk, h5.move (fun _ => Nat.succ_pos _) hk, h6.move (fun _ => Nat.succ_pos _) hk, h8.move (fun _ => Nat.succ_pos _) hk, h9.move (fun _ => Nat.succ_pos _) hk, h10.move (fun _ => Nat.succ_pos _) hk⟩
theorem ModC.zero (Z : Nat → Prop) (w : World) (x : Int) : ModC Z w (mdZ x) [.slice none 0 0, .slice none 0 0, .slice none 0 0, .slice none 0 0, .slice none 0 0, .slice none 0 0, .slice none 0 0, .int .i64 x, .slice none 0 0, .slice none 0 0, .slice none 0 0] := ⟨_, _, _, _, _, _, _, _, _, _, rfl, Fc.nil, Fc.nil, Fc.nil, Fc.nil, Fc.nil, Fc.nil, Fc.nil, Fc.nil, Fc.nil, Fc.nil⟩
theorem ModC.len {Z : Nat → Prop} {w : World} {m : Md} {L : List Value} (h : ModC Z w m L) : L.length = 11 := by
  obtain ⟨v0, v1, v2, v3, v4, v5, v6, v8, v9, v10, e, _⟩ := h
  rw [e]
  rfl
/-- instructions that may be held against each other -/
def Fok (f : Fs) : Prop := f.Ok ∧ f.len * 112 ≤ 140737488351232
structure MdOk (m : Md) : Prop where
  ty : m.ty.length ≤ 1024 ∧ ∀ x ∈ m.ty, x.1.length ≤ 1024 ∧ x.2.length ≤ 1024
  im : m.im.length ≤ 1024
  fu : m.fu.length ≤ 1024
  ta : m.ta.length ≤ 1024
  me : m.me.length ≤ 1024
  gl : m.gl.length ≤ 1024 ∧ ∀ x ∈ m.gl, Fok x.2.2
  ex : m.ex.length ≤ 1024
  el : m.el.length ≤ 1024 ∧ ∀ x ∈ m.el, Fok x.1 ∧ x.2.length ≤ 1024
  co : m.co.length ≤ 1024 ∧ ∀ x ∈ m.co, x.1.length ≤ 1024 ∧ Fok x.2
  da : m.da.length ≤ 1024 ∧ ∀ x ∈ m.da, Fok x.1
/-- the same, as great as a module that is handed in may be -/
structure MdBig (m : Md) : Prop where
  ty : m.ty.length ≤ 140737488351232 ∧ ∀ x ∈ m.ty, x.1.length ≤ 140737488351232 ∧ x.2.length ≤ 140737488351232
  im : m.im.length ≤ 140737488351232
  fu : m.fu.length ≤ 140737488351232
  ta : m.ta.length ≤ 140737488351232
  me : m.me.length ≤ 140737488351232
  gl : m.gl.length ≤ 140737488351232 ∧ ∀ x ∈ m.gl, Fok x.2.2
  ex : m.ex.length ≤ 140737488351232
  el : m.el.length ≤ 140737488351232 ∧ ∀ x ∈ m.el, Fok x.1 ∧ x.2.length ≤ 140737488351232
  co : m.co.length ≤ 140737488351232 ∧ ∀ x ∈ m.co, x.1.length ≤ 140737488351232 ∧ Fok x.2
  da : m.da.length ≤ 140737488351232 ∧ ∀ x ∈ m.da, Fok x.1
theorem MdOk.big {m : Md} (h : MdOk m) : MdBig m := by
  constructor
  · exact ⟨by have := h.ty.1; omega, fun x hx => ⟨by have := (h.ty.2 x hx).1; omega, by have := (h.ty.2 x hx).2; omega⟩⟩
  · have := h.im; omega
  · have := h.fu; omega
  · have := h.ta; omega
  · have := h.me; omega
  · exact ⟨by have := h.gl.1; omega, h.gl.2⟩
  · have := h.ex; omega
  · exact ⟨by have := h.el.1; omega, fun x hx => ⟨(h.el.2 x hx).1, by have := (h.el.2 x hx).2; omega⟩⟩
  · exact ⟨by have := h.co.1; omega, fun x hx => ⟨by have := (h.co.2 x hx).1; omega, (h.co.2 x hx).2⟩⟩
  · exact ⟨by have := h.da.1; omega, h.da.2⟩
theorem fok_nil : Fok .nil := ⟨trivial, by decide⟩
theorem mdz_ok (x : Int) : MdOk (mdZ x) := by
  constructor <;> simp [mdZ]
/-- a struct in a block: its cells -/
def Rl (W : World) (p : Nat) (T : TypeId) (L : List Value) : Prop := W.rowIs p T L.length (fun j => L.getD j undef)
section
variable {W W' : World} {p : Nat} {T : TypeId} {L : List Value}
theorem Rl.cell (h : Rl W p T L) (i : Nat) {v : Value} (hv : L[i]? = some v) : W.cell? ⟨p, i, none⟩ = some v := by
  obtain ⟨hi, he⟩ := List.getElem?_eq_some_iff.1 hv
  have := World.rowIs.cell h hi
  rw [this]
  simp [List.getD, hv]
theorem Rl.frozen (h : Rl W p T L) (i : Nat) : W.frozen? ⟨p, i, none⟩ = false := World.rowIs.frozen h i
theorem Rl.lt (h : Rl W p T L) : p < W.heap.size := World.rowIs.lt h
theorem Rl.set (h : Rl W p T L) (i : Nat) (v : Value) : Rl (W.setCell ⟨p, i, none⟩ v) p T (L.set i v) := by
  unfold Rl
  rw [List.length_set]
  refine (World.rowIs.set h i v).congr fun j hj => ?_
  simp only [List.getD, List.getElem?_set]
  by_cases e : j = i
  · subst e
    simp [hj]
  · simp [e, Ne.symm e]
theorem Rl.off (h : Rl W p T L) {k : Nat} (i : Nat) (v : Value) (hk : p ≠ k) : Rl (W.setCell ⟨k, i, none⟩ v) p T L := World.rowIs.of_block h (Below.heap_setCell W ⟨k, i, none⟩ v p (fun e => hk e))
theorem Rl.wr {S : Nat → Prop} (h : Rl W p T L) (hw : Wr S W W') (hs : ¬ S p) : Rl W' p T L := hw.row hs h
theorem Rl.later (h : Rl W p T L) (hl : Later W W') : Rl W' p T L := rowIs_later hl h
end
end Go.Proofs.Ytonnmbmdmkmhmaa
