/- XI: IG, IH, joined. -/
import Derived.Test.YtngciahmoenkiacXE
import Derived.Test.YtngciahmoenkiacXF
import Derived.Test.YtngciahmoenkiacXG
import Derived.Test.YtngciahmoenkiacXH
/- Over this seat's translation: the first error of a list of instructions, by the document: checks. -/
set_option linter.unusedVariables false
set_option linter.unusedSimpArgs false
set_option maxRecDepth 100000
set_option maxHeartbeats 40000000
namespace Go.Proofs.Ytngciahmoenkiac
open Go.RowKit
/-- whether an instruction may be is decided -/
def mayD (op a b bi ty : Int) (ls : List Int) (nb ne : Nat) : Decidable (mayP op a b bi ty ls nb ne) := by
  unfold mayP Wd
  exact inferInstance
/-- the first error of a list so deep, how many were met -/
def ck : Fs → Int → Int → Int × Int
  | ⟨none⟩, _, c => (0, c)
  | ⟨some (op, a, b, bi, ty, ls, bo, el, r)⟩, deep, c =>
    if c + 1 > 8192 then (1400, c + 1)
    else if (fo op = 1 ∨ fo op = 2) ∧ deep ≥ 32 then (1402, c + 1)
    else @ite _ (¬ mayP op a b bi ty ls bo.len el.len) (@instDecidableNot _ (mayD op a b bi ty ls bo.len el.len)) (1400, c + 1)
    (if (ck bo (deep + 1) (c + 1)).1 = 0 then
      if (ck el (deep + 1) (ck bo (deep + 1) (c + 1)).2).1 = 0 then ck r deep (ck el (deep + 1) (ck bo (deep + 1) (c + 1)).2).2
      else ck el (deep + 1) (ck bo (deep + 1) (c + 1)).2
    else ck bo (deep + 1) (c + 1))
theorem ck_rng : ∀ (f : Fs) (deep c : Int), 0 ≤ c → c ≤ 8192 → c ≤ (ck f deep c).2 ∧ (ck f deep c).2 ≤ 8193 ∧ ((ck f deep c).1 = 0 → (ck f deep c).2 ≤ 8192) ∧ ((ck f deep c).1 = 0 ∨ (ck f deep c).1 = 1400 ∨ (ck f deep c).1 = 1402)
  | ⟨none⟩, deep, c, h0, h1 => ⟨Int.le_refl _, by show c ≤ 8193; omega, fun _ => h1, Or.inl rfl⟩
  | ⟨some (op, a, b, bi, ty, ls, bo, el, r)⟩, deep, c, h0, h1 => by
    unfold ck
    split
    · exact ⟨by show c ≤ c + 1; omega, by show c + 1 ≤ 8193; omega, fun h => absurd h (by simp), Or.inr (Or.inl rfl)⟩
    · split
      · exact ⟨by show c ≤ c + 1; omega, by show c + 1 ≤ 8193; omega, fun h => absurd h (by simp), Or.inr (Or.inr rfl)⟩
      · split
        · exact ⟨by show c ≤ c + 1; omega, by show c + 1 ≤ 8193; omega, fun h => absurd h (by simp), Or.inr (Or.inl rfl)⟩
        · have hb := ck_rng bo (deep + 1) (c + 1) (by omega) (by omega)
          split
          · rename_i h4
            have he := ck_rng el (deep + 1) (ck bo (deep + 1) (c + 1)).2 (by omega) (hb.2.2.1 h4)
            split
            · rename_i h5
              have hr := ck_rng r deep (ck el (deep + 1) (ck bo (deep + 1) (c + 1)).2).2 (by omega) (he.2.2.1 h5)
              omega
            · omega
          · omega
/-- a count in a cell of its own, and else nothing turned -/
def Ct (q : Nat) (w wr : World) (c : Int) : Prop := Turned q w wr ∧ wr.rowIs q 3 1 (fun _ => .int .i64 c) ∧ (∃ c0 : Int, w.rowIs q 3 1 (fun _ => .int .i64 c0))
variable {q : Nat} {w wr wr' : World} {c c' : Int}
theorem Ct.start (h : w.rowIs q 3 1 (fun _ => .int .i64 c)) : Ct q w w c := ⟨Turned.refl h, h, c, h⟩
theorem Ct.later (h : Ct q w wr c) (hl : Later wr wr') : Ct q w wr' c := ⟨h.1.later hl, rowIs_later hl h.2.1, h.2.2⟩
theorem Ct.set (h : Ct q w wr c) (x : Int) : Ct q w (wr.setCell ⟨q, 0, none⟩ (.int .i64 x)) x := by
  obtain ⟨h1, h2, c0, h3⟩ := h
  refine ⟨h1.set h3 0 _, ?_, c0, h3⟩
  have := h2.set 0 (.int .i64 x)
  obtain ⟨cs, e1, e2, e3⟩ := this
  exact ⟨cs, e1, e2, fun i hi => by rw [e3 i hi]; simp; omega⟩
theorem Ct.trans (h : Ct q w wr c) (h2 : Ct q wr wr' c') : Ct q w wr' c' := by
  obtain ⟨h1, _, c0, h3⟩ := h
  exact ⟨h1.trans h3 h2.1, h2.2.1, c0, h3⟩
theorem Ct.cell (h : Ct q w wr c) : wr.cell? ⟨q, 0, none⟩ = some (.int .i64 c) := h.2.1.cell (by decide)
theorem Ct.frozen (h : Ct q w wr c) : wr.frozen? ⟨q, 0, none⟩ = false := h.2.1.frozen 0
theorem Ct.size (h : Ct q w wr c) : w.heap.size ≤ wr.heap.size := h.1.size
theorem Ct.block (h : Ct q w wr c) {k : Nat} (hk : k ≠ q) (hl : k < w.heap.size) : wr.heap[k]? = w.heap[k]? := h.1.block hk hl
theorem Ct.cell_of (h : Ct q w wr c) {k i : Nat} {v : Value} (hk : k ≠ q) (hc : w.cell? ⟨k, i, none⟩ = some v) : wr.cell? ⟨k, i, none⟩ = some v := (World.cell?_of_block (a := ⟨k, i, none⟩) (h.block hk (cell_lt hc))).trans hc
theorem Ct.tr {Z : Nat → Prop} {A : Option Addr} {f : Fs} (h : Ct q w wr c) (hz : ∀ k, Z k → k ≠ q) (hT : Tr Z w A f) : Tr Z wr A f := hT.keep fun k hk hl => h.block (hz k hk) hl
theorem Ct.at {Z : Nat → Prop} {g o : Nat} {f : Fs} (h : Ct q w wr c) (hz : ∀ k, Z k → k ≠ q) (hg : Z g) (hT : At Z w g o f) : At Z wr g o f := hT.keep hg fun k hk hl => h.block (hz k hk) hl
theorem Ct.lq {Z : Nat → Prop} {A : Option Addr} {ls : List Int} (h : Ct q w wr c) (hz : ∀ k, Z k → k ≠ q) (hT : Lq Z w A ls) : Lq Z wr A ls := hT.keep fun k hk hl => h.block (hz k hk) hl
end Go.Proofs.Ytngciahmoenkiac


/- Over this seat's translation: the first error of a list of instructions, by the document: checks, whole. -/
set_option linter.unusedVariables false
set_option linter.unusedSimpArgs false
set_option maxRecDepth 100000
set_option maxHeartbeats 40000000
namespace Go.Proofs.Ytngciahmoenkiac
open Go.RowKit
theorem mayP_nil {op a b bi ty : Int} {ls : List Int} {nb ne : Nat} (h : mayP op a b bi ty ls nb ne) (h1 : ¬ fo op = 1) (h2 : ¬ fo op = 2) : nb = 0 ∧ ne = 0 := by
  unfold mayP at h
  repeat' split at h
  all_goals first | exact h.elim | omega
theorem len_nil {f : Fs} (h : f.len = 0) : f = .nil := by
  cases f using Fs.split with
  | nil => rfl
  | cons => simp [Fs.len] at h
end Go.Proofs.Ytngciahmoenkiac

