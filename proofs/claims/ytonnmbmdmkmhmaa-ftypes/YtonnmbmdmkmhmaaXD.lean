/- XD: IA, IB, joined. -/
import Derived.Test.YtonnmbmdmkmhmaaXA
/- Over this seat's translation: lists of instructions, so deep: forests; how they lie in memory. -/
set_option linter.unusedVariables false
set_option linter.unusedSimpArgs false
set_option maxRecDepth 100000
set_option maxHeartbeats 4000000
namespace Go.Proofs.Ytonnmbmdmkmhmaa
open Go.RowKit
/-- a list of instructions: the first one, with its two lists, and the rest -/
structure Fs where
  v : Option (Int × Int × Int × Int × Int × List Int × Fs × Fs × Fs)
abbrev Fs.nil : Fs := ⟨none⟩
abbrev Fs.cons (op a b bits ty : Int) (ls : List Int) (body els rest : Fs) : Fs := ⟨some (op, a, b, bits, ty, ls, body, els, rest)⟩
theorem Fs.split {P : Fs → Prop} (f : Fs) (nil : P .nil) (cons : ∀ op a b bi ty ls bo el r, P (.cons op a b bi ty ls bo el r)) : P f := by
  obtain ⟨v⟩ := f
  cases v with
  | none => exact nil
  | some x =>
    obtain ⟨op, a, b, bi, ty, ls, bo, el, r⟩ := x
    exact cons op a b bi ty ls bo el r
def Fs.len : Fs → Nat
  | ⟨none⟩ => 0
  | ⟨some (_, _, _, _, _, _, _, _, r)⟩ => r.len + 1
def Fs.sz : Fs → Nat
  | ⟨none⟩ => 0
  | ⟨some (_, _, _, _, _, _, b, e, r)⟩ => b.sz + e.sz + r.sz + 1
def Fs.app : Fs → Fs → Fs
  | ⟨none⟩, t => t
  | ⟨some (op, a, b, bi, ty, ls, bo, el, r)⟩, t => .cons op a b bi ty ls bo el (r.app t)
def i64 (x : Int) : Prop := -9223372036854775808 ≤ x ∧ x ≤ 9223372036854775807
/-- of a size that fits, all numbers ints -/
def Fs.Ok : Fs → Prop
  | ⟨none⟩ => True
  | ⟨some (op, a, b, bi, ty, ls, bo, el, r)⟩ => (i64 op ∧ i64 a ∧ i64 b ∧ i64 bi ∧ i64 ty ∧ ∀ x ∈ ls, i64 x) ∧ ls.length * 8 ≤ 140737488351232 ∧ bo.len * 112 ≤ 140737488351232 ∧ el.len * 112 ≤ 140737488351232 ∧ bo.Ok ∧ el.Ok ∧ r.Ok
theorem Fs.app_nil : ∀ f : Fs, f.app .nil = f
  | ⟨none⟩ => rfl
  | ⟨some (op, a, b, bi, ty, ls, bo, el, r)⟩ => by simp only [Fs.app]; rw [Fs.app_nil r]
theorem Fs.app_app : ∀ f g h : Fs, (f.app g).app h = f.app (g.app h)
  | ⟨none⟩, g, h => rfl
  | ⟨some (op, a, b, bi, ty, ls, bo, el, r)⟩, g, h => by simp only [Fs.app]; rw [Fs.app_app r g h]
theorem Fs.len_app : ∀ f g : Fs, (f.app g).len = f.len + g.len
  | ⟨none⟩, g => by simp [Fs.app, Fs.len]
  | ⟨some (op, a, b, bi, ty, ls, bo, el, r)⟩, g => by simp only [Fs.app, Fs.len]; rw [Fs.len_app r g]; omega
/-- ints at an address, in blocks of some kind -/
def Lq (Z : Nat → Prop) (w : World) (A : Option Addr) (ls : List Int) : Prop := Lst w A ls.length (fun j => ls.getD j 0) ∧ (ls ≠ [] → ∀ a, A = some a → Z a.block)
/-- the cells of a list of instructions -/
def Rp (Z : Nat → Prop) (w : World) : Fs → List Value → Prop
  | ⟨none⟩, L => L = []
  | ⟨some (op, a, b, bi, ty, ls, bo, el, r)⟩, L => ∃ LA lc B bc E ec L', L = .int .i64 op :: .int .i64 a :: .int .i64 b :: .int .i64 bi :: .int .i64 ty :: .slice LA ls.length lc :: .slice B bo.len bc :: .slice E el.len ec :: L' ∧ Lq Z w LA ls ∧
      (bo = .nil ∨ ∃ g o M, B = some ⟨g, o, none⟩ ∧ Z g ∧ (∀ (j : Nat) (u : Value), M[j]? = some u → w.cell? ⟨g, o + j, none⟩ = some u) ∧ Rp Z w bo M) ∧
      (el = .nil ∨ ∃ g o M, E = some ⟨g, o, none⟩ ∧ Z g ∧ (∀ (j : Nat) (u : Value), M[j]? = some u → w.cell? ⟨g, o + j, none⟩ = some u) ∧ Rp Z w el M) ∧ Rp Z w r L'
/-- a list of instructions from a cell on -/
def At (Z : Nat → Prop) (w : World) (g o : Nat) (f : Fs) : Prop := ∃ M : List Value, (∀ (j : Nat) (u : Value), M[j]? = some u → w.cell? ⟨g, o + j, none⟩ = some u) ∧ Rp Z w f M
/-- a list of instructions at a slice's address -/
def Tr (Z : Nat → Prop) (w : World) (A : Option Addr) (f : Fs) : Prop := f = .nil ∨ ∃ g o, A = some ⟨g, o, none⟩ ∧ Z g ∧ At Z w g o f
variable {Z Z' : Nat → Prop} {w w' : World}
theorem Lq.mono {A : Option Addr} {ls : List Int} (h : Lq Z w A ls) (hz : ∀ k, Z k → Z' k) : Lq Z' w A ls := ⟨h.1, fun h1 a h2 => hz _ (h.2 h1 a h2)⟩
theorem Lq.keep {A : Option Addr} {ls : List Int} (h : Lq Z w A ls) (hk : ∀ k, Z k → k < w.heap.size → w'.heap[k]? = w.heap[k]?) : Lq Z w' A ls := by
  refine ⟨?_, h.2⟩
  rcases h.1 with h0 | ⟨b, o, rfl, hc⟩
  · exact Or.inl h0
  · by_cases hn : ls = []
    · left; rw [hn]; rfl
    · refine Or.inr ⟨b, o, rfl, fun j hj => ?_⟩
      have := hc j hj
      exact (World.cell?_of_block (a := ⟨b, o + j, none⟩) (hk b (h.2 hn _ rfl) (cell_lt this))).trans this
theorem cells_keep {g o : Nat} {M : List Value} (h : ∀ (j : Nat) (u : Value), M[j]? = some u → w.cell? ⟨g, o + j, none⟩ = some u) (hk : g < w.heap.size → w'.heap[g]? = w.heap[g]?) : ∀ (j : Nat) (u : Value), M[j]? = some u → w'.cell? ⟨g, o + j, none⟩ = some u := fun j u hu => by
  have := h j u hu
  exact (World.cell?_of_block (a := ⟨g, o + j, none⟩) (hk (cell_lt this))).trans this
theorem Rp.mono (hz : ∀ k, Z k → Z' k) : ∀ {f : Fs} {L : List Value}, Rp Z w f L → Rp Z' w f L
  | ⟨none⟩, L, h => h
  | ⟨some (op, a, b, bi, ty, ls, bo, el, r)⟩, L, h => by
    obtain ⟨LA, lc, B, bc, E, ec, L', rfl, h1, h2, h3, h4⟩ := h
    refine ⟨LA, lc, B, bc, E, ec, L', rfl, h1.mono hz, ?_, ?_, h4.mono hz⟩
    · rcases h2 with h2 | ⟨g, o, M, e, hg, hc, hR⟩
      · exact Or.inl h2
      · exact Or.inr ⟨g, o, M, e, hz _ hg, hc, hR.mono hz⟩
    · rcases h3 with h3 | ⟨g, o, M, e, hg, hc, hR⟩
      · exact Or.inl h3
      · exact Or.inr ⟨g, o, M, e, hz _ hg, hc, hR.mono hz⟩
theorem Rp.keep (hk : ∀ k, Z k → k < w.heap.size → w'.heap[k]? = w.heap[k]?) : ∀ {f : Fs} {L : List Value}, Rp Z w f L → Rp Z w' f L
  | ⟨none⟩, L, h => h
  | ⟨some (op, a, b, bi, ty, ls, bo, el, r)⟩, L, h => by
    obtain ⟨LA, lc, B, bc, E, ec, L', rfl, h1, h2, h3, h4⟩ := h
    refine ⟨LA, lc, B, bc, E, ec, L', rfl, h1.keep hk, ?_, ?_, h4.keep hk⟩
    · rcases h2 with h2 | ⟨g, o, M, e, hg, hc, hR⟩
      · exact Or.inl h2
      · exact Or.inr ⟨g, o, M, e, hg, cells_keep hc (hk g hg), hR.keep hk⟩
    · rcases h3 with h3 | ⟨g, o, M, e, hg, hc, hR⟩
      · exact Or.inl h3
      · exact Or.inr ⟨g, o, M, e, hg, cells_keep hc (hk g hg), hR.keep hk⟩
theorem Rp.length : ∀ {f : Fs} {L : List Value}, Rp Z w f L → L.length = f.len * 8
  | ⟨none⟩, L, h => by rw [h]; rfl
  | ⟨some (op, a, b, bi, ty, ls, bo, el, r)⟩, L, h => by
    obtain ⟨LA, lc, B, bc, E, ec, L', rfl, h1, h2, h3, h4⟩ := h
    have := h4.length
    simp only [List.length_cons, Fs.len]
    omega
theorem Rp.one : ∀ {f : Fs} {L : List Value}, Rp Z w f L → ∀ u ∈ L, u.oneCell' = true
  | ⟨none⟩, L, h => by rw [h]; simp
  | ⟨some (op, a, b, bi, ty, ls, bo, el, r)⟩, L, h => by
    obtain ⟨LA, lc, B, bc, E, ec, L', rfl, h1, h2, h3, h4⟩ := h
    have := h4.one
    intro u hu
    simp only [List.mem_cons] at hu
    rcases hu with rfl | rfl | rfl | rfl | rfl | rfl | rfl | rfl | hu
    all_goals first | rfl | exact this u hu
theorem Rp.app : ∀ {f g : Fs} {L M : List Value}, Rp Z w f L → Rp Z w g M → Rp Z w (f.app g) (L ++ M)
  | ⟨none⟩, g, L, M, h, h2 => by rw [h]; exact h2
  | ⟨some (op, a, b, bi, ty, ls, bo, el, r)⟩, g, L, M, h, h2 => by
    obtain ⟨LA, lc, B, bc, E, ec, L', rfl, h1, h3, h4, h5⟩ := h
    exact ⟨LA, lc, B, bc, E, ec, L' ++ M, rfl, h1, h3, h4, h5.app h2⟩
theorem At.mono {g o : Nat} {f : Fs} (h : At Z w g o f) (hz : ∀ k, Z k → Z' k) : At Z' w g o f := by
  obtain ⟨M, h1, h2⟩ := h
  exact ⟨M, h1, h2.mono hz⟩
theorem At.keep {g o : Nat} {f : Fs} (h : At Z w g o f) (hg : Z g) (hk : ∀ k, Z k → k < w.heap.size → w'.heap[k]? = w.heap[k]?) : At Z w' g o f := by
  obtain ⟨M, h1, h2⟩ := h
  exact ⟨M, cells_keep h1 (hk g hg), h2.keep hk⟩
theorem Tr.mono {A : Option Addr} {f : Fs} (h : Tr Z w A f) (hz : ∀ k, Z k → Z' k) : Tr Z' w A f := by
  rcases h with h | ⟨g, o, e, hg, h⟩
  · exact Or.inl h
  · exact Or.inr ⟨g, o, e, hz _ hg, h.mono hz⟩
theorem Tr.keep {A : Option Addr} {f : Fs} (h : Tr Z w A f) (hk : ∀ k, Z k → k < w.heap.size → w'.heap[k]? = w.heap[k]?) : Tr Z w' A f := by
  rcases h with h | ⟨g, o, e, hg, h⟩
  · exact Or.inl h
  · exact Or.inr ⟨g, o, e, hg, h.keep hg hk⟩
theorem Tr.later {A : Option Addr} {f : Fs} (h : Tr Z w A f) (hl : Later w w') : Tr Z w' A f := h.keep fun k _ hk => hl.block hk
theorem At.later {g o : Nat} {f : Fs} (h : At Z w g o f) (hl : Later w w') : At Z w' g o f := by
  obtain ⟨M, h1, h2⟩ := h
  exact ⟨M, cells_keep h1 (fun hk => hl.block hk), h2.keep (fun k _ hk => hl.block hk)⟩
theorem Lq.later {A : Option Addr} {ls : List Int} (h : Lq Z w A ls) (hl : Later w w') : Lq Z w' A ls := h.keep fun k _ hk => hl.block hk
/-- the first instruction of a list, cell by cell -/
theorem At.head {g o : Nat} {op a b bi ty : Int} {ls : List Int} {bo el r : Fs} (h : At Z w g o (.cons op a b bi ty ls bo el r)) : ∃ LA lc B bc E ec,
    w.cell? ⟨g, o, none⟩ = some (.int .i64 op) ∧ w.cell? ⟨g, o + 1, none⟩ = some (.int .i64 a) ∧ w.cell? ⟨g, o + 2, none⟩ = some (.int .i64 b) ∧ w.cell? ⟨g, o + 3, none⟩ = some (.int .i64 bi) ∧ w.cell? ⟨g, o + 4, none⟩ = some (.int .i64 ty) ∧
    w.cell? ⟨g, o + 5, none⟩ = some (.slice LA ls.length lc) ∧ w.cell? ⟨g, o + 6, none⟩ = some (.slice B bo.len bc) ∧ w.cell? ⟨g, o + 7, none⟩ = some (.slice E el.len ec) ∧ Lq Z w LA ls ∧ Tr Z w B bo ∧ Tr Z w E el ∧ At Z w g (o + 8) r := by
  obtain ⟨M, hc, LA, lc, B, bc, E, ec, L', rfl, h1, h2, h3, h4⟩ := h
  refine ⟨LA, lc, B, bc, E, ec, hc 0 _ rfl, hc 1 _ rfl, hc 2 _ rfl, hc 3 _ rfl, hc 4 _ rfl, hc 5 _ rfl, hc 6 _ rfl, hc 7 _ rfl, h1, ?_, ?_, L', fun j u hu => ?_, h4⟩
  · rcases h2 with h2 | ⟨g', o', M, e, hg, hc', hR⟩
    · exact Or.inl h2
    · exact Or.inr ⟨g', o', e, hg, M, hc', hR⟩
  · rcases h3 with h3 | ⟨g', o', M, e, hg, hc', hR⟩
    · exact Or.inl h3
    · exact Or.inr ⟨g', o', e, hg, M, hc', hR⟩
  · have := hc (j + 8) u (by simpa using hu)
    rwa [show o + (j + 8) = o + 8 + j by omega] at this
/-- the cells of one instruction -/
theorem Rp.mk {op a b bi ty : Int} {ls : List Int} {bo el : Fs} {LA B E : Option Addr} {lc bc ec : Nat} (h1 : Lq Z w LA ls) (h2 : Tr Z w B bo) (h3 : Tr Z w E el) : Rp Z w (.cons op a b bi ty ls bo el .nil) [.int .i64 op, .int .i64 a, .int .i64 b, .int .i64 bi, .int .i64 ty, .slice LA ls.length lc, .slice B bo.len bc, .slice E el.len ec] := by
  refine ⟨LA, lc, B, bc, E, ec, [], rfl, h1, ?_, ?_, rfl⟩
  · rcases h2 with h2 | ⟨g, o, e, hg, M, hc, hR⟩
    · exact Or.inl h2
    · exact Or.inr ⟨g, o, M, e, hg, hc, hR⟩
  · rcases h3 with h3 | ⟨g, o, e, hg, M, hc, hR⟩
    · exact Or.inl h3
    · exact Or.inr ⟨g, o, M, e, hg, hc, hR⟩
/-- a row that is owned and holds the cells of a list is the list -/
theorem tr_owns {base : Nat} {e : TypeId} {A : Option Addr} {n cap : Nat} {L : List Value} {f : Fs} (h : w.ownsRow base e 8 (.slice A n cap) n L) (hR : Rp Z w f L) (hz : ∀ g, base ≤ g → (Value.slice A n cap).ownBlock = some g → Z g) : Tr Z w A f := by
  cases f using Fs.split with
  | nil => exact Or.inl rfl
  | cons op a b bi ty ls bo el r =>
    have hl := hR.length
    have hl2 := h.1
    rcases h.2 with ⟨h1, h2⟩ | ⟨g, c, cur, h1, h2, _⟩
    · subst h2
      simp [Fs.len] at hl
      omega
    · injection h1 with h1 _ _
      subst h1
      refine Or.inr ⟨g, 0, rfl, hz g h2 rfl, L, fun j u hu => ?_, hR⟩
      rw [Nat.zero_add]
      exact owns_cell h hu
theorem Lq.move {A : Option Addr} {ls : List Int} (hk : ∀ k, Z k → k < w.heap.size → Z' k ∧ w'.heap[k]? = w.heap[k]?) (h : Lq Z w A ls) : Lq Z' w' A ls := by
  refine ⟨?_, fun hn a ha => ?_⟩
  · rcases h.1 with h0 | ⟨b, o, rfl, hc⟩
    · exact Or.inl h0
    · by_cases hn : ls = []
      · left; rw [hn]; rfl
      · refine Or.inr ⟨b, o, rfl, fun j hj => ?_⟩
        have := hc j hj
        exact (World.cell?_of_block (a := ⟨b, o + j, none⟩) (hk b (h.2 hn _ rfl) (cell_lt this)).2).trans this
  · rcases h.1 with h0 | ⟨b, o, rfl, hc⟩
    · exact absurd (List.length_eq_zero_iff.1 h0) hn
    · cases ha
      exact (hk _ (h.2 hn _ rfl) (cell_lt (hc 0 (List.length_pos_iff.2 hn)))).1
theorem row_lt {g o : Nat} {M : List Value} {f : Fs} (h : ∀ (j : Nat) (u : Value), M[j]? = some u → w.cell? ⟨g, o + j, none⟩ = some u) (hR : Rp Z w f M) (hf : f ≠ .nil) : g < w.heap.size := by
  cases f using Fs.split with
  | nil => exact absurd rfl hf
  | cons op a b bi ty ls bo el r =>
    obtain ⟨LA, lc, B, bc, E, ec, L', rfl, h1, h2, h3, h4⟩ := hR
    exact cell_lt (h 0 _ rfl)
theorem Rp.move (hk : ∀ k, Z k → k < w.heap.size → Z' k ∧ w'.heap[k]? = w.heap[k]?) : ∀ {f : Fs} {L : List Value}, Rp Z w f L → Rp Z' w' f L
  | ⟨none⟩, L, h => h
  | ⟨some (op, a, b, bi, ty, ls, bo, el, r)⟩, L, h => by
    obtain ⟨LA, lc, B, bc, E, ec, L', rfl, h1, h2, h3, h4⟩ := h
    refine ⟨LA, lc, B, bc, E, ec, L', rfl, h1.move hk, ?_, ?_, h4.move hk⟩
    · rcases h2 with h2 | ⟨g, o, M, e, hg, hc, hR⟩
      · exact Or.inl h2
      · by_cases hb : bo = .nil
        · exact Or.inl hb
        · exact Or.inr ⟨g, o, M, e, (hk g hg (row_lt hc hR hb)).1, cells_keep hc (fun hl => (hk g hg hl).2), hR.move hk⟩
    · rcases h3 with h3 | ⟨g, o, M, e, hg, hc, hR⟩
      · exact Or.inl h3
      · by_cases hb : el = .nil
        · exact Or.inl hb
        · exact Or.inr ⟨g, o, M, e, (hk g hg (row_lt hc hR hb)).1, cells_keep hc (fun hl => (hk g hg hl).2), hR.move hk⟩
theorem Tr.move {A : Option Addr} {f : Fs} (hk : ∀ k, Z k → k < w.heap.size → Z' k ∧ w'.heap[k]? = w.heap[k]?) (h : Tr Z w A f) : Tr Z' w' A f := by
  rcases h with h | ⟨g, o, e, hg, M, hc, hR⟩
  · exact Or.inl h
  · by_cases hb : f = .nil
    · exact Or.inl hb
    · exact Or.inr ⟨g, o, e, (hk g hg (row_lt hc hR hb)).1, M, cells_keep hc (fun hl => (hk g hg hl).2), hR.move hk⟩
/-- a list of instructions behind its first ones -/
theorem At.drop {g : Nat} : ∀ {d r : Fs} {o : Nat}, At Z w g o (d.app r) → At Z w g (o + d.len * 8) r
  | ⟨none⟩, r, o, h => by simpa [Fs.app, Fs.len] using h
  | ⟨some (op, a, b, bi, ty, ls, bo, el, d)⟩, r, o, h => by
    obtain ⟨LA, lc, B, bc, E, ec, _, _, _, _, _, _, _, _, _, _, _, h8⟩ := At.head h
    have := At.drop h8
    rwa [show o + 8 + d.len * 8 = o + Fs.len (.cons op a b bi ty ls bo el d) * 8 by simp only [Fs.len]; omega] at this
theorem Tr.at {A : Option Addr} {f : Fs} (h : Tr Z w A f) (hf : f ≠ .nil) : ∃ g o, A = some ⟨g, o, none⟩ ∧ Z g ∧ At Z w g o f := h.resolve_left hf
end Go.Proofs.Ytonnmbmdmkmhmaa


/- Over this seat's translation: a list of instructions being made: its row, its parts, the instruction at hand. -/
set_option linter.unusedVariables false
set_option linter.unusedSimpArgs false
set_option maxRecDepth 100000
set_option maxHeartbeats 4000000
namespace Go.Proofs.Ytonnmbmdmkmhmaa
open Go.RowKit
theorem info_instr : (Try.prog.info? 82).map (fun i => (i.zero, i.size, i.bytes)) = some (some (.agg #[.int .i64 0, .int .i64 0, .int .i64 0, .int .i64 0, .int .i64 0, .slice none 0 0, .slice none 0 0, .slice none 0 0]), 8, 112) := by kernel_rfl
theorem instr_parts : ∃ i, Try.prog.info? 82 = some i ∧ i.zero = some (.agg #[.int .i64 0, .int .i64 0, .int .i64 0, .int .i64 0, .int .i64 0, .slice none 0 0, .slice none 0 0, .slice none 0 0]) ∧ i.size = 8 ∧ i.bytes = 112 := by
  have h := info_instr
  cases hh : Try.prog.info? 82 with
  | none => rw [hh] at h; cases h
  | some i =>
    rw [hh] at h
    simp only [Option.map_some, Option.some.injEq, Prod.mk.injEq] at h
    exact ⟨i, rfl, h⟩
/-- the blocks of what is done -/
def Z5 (B0 : Nat) (lab : Nat → Nat) (k : Nat) : Prop := B0 ≤ k ∧ lab k = 5
/-- a list being made, in a row of its own -/
def Cs (w : World) (lab : Nat → Nat) (wr : World) (v : Value) (d : Fs) : Prop := ∃ L, Later w wr ∧ Fld lab 0 wr w.heap.size 82 8 v d.len L ∧ Rp (Z5 w.heap.size lab) wr d L
variable {w wr wr' : World} {lab lab' : Nat → Nat} {S : Nat → Prop} {v : Value} {d : Fs}
theorem z5_chg {B0 : Nat} (hc : Chg lab S wr wr' lab') (hs : ¬ S 5) : ∀ k, Z5 B0 lab k → k < wr.heap.size → Z5 B0 lab' k ∧ wr'.heap[k]? = wr.heap[k]? := fun k hk hl => by
  have := hc.2 k hl (by rw [hk.2]; exact hs)
  exact ⟨⟨hk.1, this.1.trans hk.2⟩, this.2⟩
theorem Cs.chg (h : Cs w lab wr v d) (hl : Later w wr') (hc : Chg lab S wr wr' lab') (h0 : ¬ S 0) (h5 : ¬ S 5) : Cs w lab' wr' v d := by
  obtain ⟨L, h1, h2, h3⟩ := h
  exact ⟨L, hl, h2.chg hc h0, h3.move (z5_chg hc h5)⟩
theorem Cs.start (w : World) : Cs w (fun _ => 0) w (.slice none 0 0) .nil := ⟨[], Lz _, ⟨World.ownsRow_nil _ _ _ _, fun g hg => by cases hg⟩, rfl⟩
theorem Cs.form (h : Cs w lab wr v d) : ∃ A cap, v = .slice A d.len cap := by
  obtain ⟨L, _, h2, _⟩ := h
  rcases h2.1.2 with ⟨e, h0⟩ | ⟨g, cap', cur, e, _⟩
  · rw [h0]; exact ⟨none, 0, e⟩
  · exact ⟨_, _, e⟩
/-- a list made is a list -/
theorem Cs.tr {A : Option Addr} {cap : Nat} (h : Cs w lab wr (.slice A d.len cap) d) : Tr (w.heap.size ≤ ·) wr A d := by
  obtain ⟨L, h1, h2, h3⟩ := h
  exact tr_owns h2.1 (h3.mono fun k hk => hk.1) (fun g hg _ => hg)
/-- one instruction more -/
theorem Cs.more (h : Cs w lab wr v d) (op a b bi ty : Int) (ls : List Int) (bo el : Fs) (LA B E : Option Addr) (lc bc ec : Nat) (h1 : Lq (Z5 w.heap.size lab) wr LA ls) (h2 : Tr (Z5 w.heap.size lab) wr B bo) (h3 : Tr (Z5 w.heap.size lab) wr E el) (hn : (d.len + 1) * 112 ≤ 140737488355328) :
    ∃ g cap w' lab', (Builtin.append_ #[59, 59] 59 #[v, .slice (some ⟨wr.heap.size, 0, none⟩) 1 1]).run Try.prog (wr.alloc (.cells #[.int .i64 op, .int .i64 a, .int .i64 b, .int .i64 bi, .int .i64 ty, .slice LA ls.length lc, .slice B bo.len bc, .slice E el.len ec] 82)) = .ok (.slice (some ⟨g, 0, none⟩) (d.len + 1) cap) w' ∧ Cs w lab' w' (.slice (some ⟨g, 0, none⟩) (d.len + 1) cap) (d.app (.cons op a b bi ty ls bo el .nil)) ∧ Chg lab (· = 0) wr w' lab' := by
  obtain ⟨i, hi1, hi2, hi3, hi4⟩ := instr_parts
  obtain ⟨L, hL, hF, hR⟩ := h
  have hone : ∀ u ∈ [Value.int .i64 op, .int .i64 a, .int .i64 b, .int .i64 bi, .int .i64 ty, .slice LA ls.length lc, .slice B bo.len bc, .slice E el.len ec], u.oneCell' = true := (Rp.mk (ty := ty) (lc := lc) (bc := bc) (ec := ec) h1 h2 h3).one
  obtain ⟨g, cap, w', lab', r, F, l, C⟩ := fld_more (P := Try.prog) hL 59 59 82 i _ 8 112 Try.underlying59 hi1 hi2 hi3 hi4 rfl (by decide) hF [.int .i64 op, .int .i64 a, .int .i64 b, .int .i64 bi, .int .i64 ty, .slice LA ls.length lc, .slice B bo.len bc, .slice E el.len ec] rfl hone (by unfold maxLen; omega) hn
  refine ⟨g, cap, w', lab', r, ⟨_, l, ?_, (hR.app (Rp.mk (lc := lc) (bc := bc) (ec := ec) h1 h2 h3)).move (z5_chg C (by decide))⟩, C⟩
  rw [Fs.len_app]
  exact F
/-- what is done stays done -/
def K5 (B0 : Nat) (lab : Nat → Nat) (W : World) (lab' : Nat → Nat) (W' : World) : Prop := ∀ k, Z5 B0 lab k → k < W.heap.size → Z5 B0 lab' k ∧ W'.heap[k]? = W.heap[k]?
/-- a list being made and an instruction at hand, in a block of its own -/
def Xs (w wr : World) (lab : Nat → Nat) (W : World) (v : Value) (d : Fs) (p : Nat) (F : Nat → Value) : Prop := Cs w lab W v d ∧ Str lab 7 W wr.heap.size p 82 8 F ∧ Later w wr ∧ Later wr W
theorem Xs.start (h : Cs w lab wr v d) (x0 x1 x2 x3 x4 x5 x6 x7 : Value) : ∃ lab', Xs w wr lab' (wr.alloc (.cells #[x0, x1, x2, x3, x4, x5, x6, x7] 82)) v d wr.heap.size (fun j => [x0, x1, x2, x3, x4, x5, x6, x7].getD j undef) := by
  have hl : Later w wr := h.choose_spec.1
  have hl2 : Later wr (wr.alloc (.cells #[x0, x1, x2, x3, x4, x5, x6, x7] 82)) := La (Lz _)
  obtain ⟨lab', C, hz⟩ := Chg.fresh (lab := lab) (S := fun _ => False) hl2 7
  refine ⟨lab', h.chg (hl.trans hl2) C (fun x => x) (fun x => x), ⟨?_, Nat.le_refl _, hz _ (Nat.le_refl _)⟩, hl, hl2⟩
  exact ⟨_, heap_alloc_new wr _, rfl, fun i hi => by
    match i, hi with
    | 0, _ => rfl
    | 1, _ => rfl
    | 2, _ => rfl
    | 3, _ => rfl
    | 4, _ => rfl
    | 5, _ => rfl
    | 6, _ => rfl
    | 7, _ => rfl⟩
theorem Xs.later {W W' : World} {p : Nat} {F : Nat → Value} (h : Xs w wr lab W v d p F) (hl : Later W W') : ∃ lab', Xs w wr lab' W' v d p F ∧ K5 w.heap.size lab W lab' W' ∧ ∀ k, W.heap.size ≤ k → lab' k = 5 := by
  obtain ⟨h1, h2, h3, h4⟩ := h
  obtain ⟨lab', C, hz⟩ := Chg.fresh (lab := lab) (S := fun _ => False) hl 5
  exact ⟨lab', ⟨h1.chg (h3.trans (h4.trans hl)) C (fun x => x) (fun x => x), h2.chg C (fun x => x), h3, h4.trans hl⟩, z5_chg C (fun x => x), hz⟩
theorem Xs.set {W : World} {p : Nat} {F : Nat → Value} (h : Xs w wr lab W v d p F) (i : Nat) (u : Value) : Xs w wr lab (W.setCell ⟨p, i, none⟩ u) v d p (fun j => if j = i then u else F j) ∧ K5 w.heap.size lab W lab (W.setCell ⟨p, i, none⟩ u) := by
  obtain ⟨h1, h2, h3, h4⟩ := h
  obtain ⟨s1, C⟩ := h2.set i u
  have hl := h2.ltr h4 i u
  exact ⟨⟨h1.chg (h3.trans hl) C (by decide) (by decide), s1, h3, hl⟩, z5_chg C (by decide)⟩
theorem Xs.cell {W : World} {p : Nat} {F : Nat → Value} (h : Xs w wr lab W v d p F) (i : Nat) (hi : i < 8) : W.cell? ⟨p, i, none⟩ = some (F i) := h.2.1.1.cell hi
theorem Xs.frozen {W : World} {p : Nat} {F : Nat → Value} (h : Xs w wr lab W v d p F) (i : Nat) : W.frozen? ⟨p, i, none⟩ = false := h.2.1.1.frozen i
theorem K5.trans {B0 : Nat} {l1 l2 l3 : Nat → Nat} {W1 W2 W3 : World} (h : K5 B0 l1 W1 l2 W2) (h2 : K5 B0 l2 W2 l3 W3) (hs : W1.heap.size ≤ W2.heap.size) : K5 B0 l1 W1 l3 W3 := fun k hk hl => by
  have a := h k hk hl
  have b := h2 k a.1 (by omega)
  exact ⟨b.1, b.2.trans a.2⟩
end Go.Proofs.Ytonnmbmdmkmhmaa

