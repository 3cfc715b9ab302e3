/- A module of one function and one code without instructions: what decode.Module answers, with the code's locals in memory. -/
import Derived.Test.YtngciahmoenkiabFL
set_option linter.unusedVariables false
set_option linter.unusedSimpArgs false
set_option maxRecDepth 100000
set_option maxHeartbeats 8000000
namespace Go.Proofs.Ytngciahmoenkiab
open Go.RowKit
theorem fc_co {Z : Nat → Prop} {w : World} {ls : List Int} {v : Value} (h : Fc fCo Z w [(ls, .nil)] v) : ∃ g o c B cb D cd, v = .slice (some ⟨g, o, none⟩) 1 c ∧ w.cell? ⟨g, o, none⟩ = some (.slice B ls.length cb) ∧ w.cell? ⟨g, o + 1, none⟩ = some (.slice D 0 cd) ∧ Lst w B ls.length (fun j => ls.getD j 0) := by
  obtain ⟨A, c, rfl, h⟩ := h
  rcases h with h | ⟨g, o, L, rfl, hz, hc, v1, L1, rfl, e1, v2, L2, rfl, e2, e3⟩
  · simp at h
  · obtain ⟨B, cb, e1', hl, _⟩ := e1
    obtain ⟨D, cd, e2', _⟩ := e2
    subst e1' e2'
    exact ⟨g, o, c, B, cb, D, cd, rfl, hc 0 _ rfl, hc 1 _ rfl, hl⟩
def DcoP (W : World) (ls : List Int) (e : Ending) (w' : World) : Prop := ∃ (A : Nat → Option Addr) (n c : Nat → Nat) (st : Int) (g o : Nat) (B D : Option Addr) (cb cd : Nat), e = .returned (.tuple #[.agg #[.slice (A 0) (n 0) (c 0), .slice (A 1) (n 1) (c 1), .slice (A 2) (n 2) (c 2), .slice (A 3) (n 3) (c 3), .slice (A 4) (n 4) (c 4), .slice (A 5) (n 5) (c 5), .slice (A 6) (n 6) (c 6), .int .i64 st, .slice (A 8) (n 8) (c 8), .slice (some ⟨g, o, none⟩) 1 (c 9), .slice (A 10) (n 10) (c 10)], .int .i64 0]) ∧ Hid (w'.cell? ⟨g, o, none⟩ = some (.slice B ls.length cb)) ∧ Hid (w'.cell? ⟨g, o + 1, none⟩ = some (.slice D 0 cd)) ∧ Hid (Lst w' B ls.length (fun j => ls.getD j 0)) ∧ Hid (Later W w')
theorem dm_co {s : ByteArray} {ls : List Int} (hs : s.size < 9223372036854775000) (hr : unM s = ({ mdZ (-1) with fu := [0], co := [(ls, .nil)] }, 0)) (W : World) : Calls Try.prog 8 #[.string s] W (DcoP W ls) := by
  refine (dmodule_any s hs W).mono ?_
  rw [hr]
  rintro e w' h
  obtain ⟨L, rfl, C, l⟩ := h.out
  obtain ⟨v0, v1, v2, v3, v4, v5, v6, v8, v9, v10, e, ⟨A0, c0, rfl, _⟩, ⟨A1, c1, rfl, _⟩, ⟨A2, c2, rfl, _⟩, ⟨A3, c3, rfl, _⟩, ⟨A4, c4, rfl, _⟩, ⟨A5, c5, rfl, _⟩, ⟨A6, c6, rfl, _⟩, ⟨A8, c8, rfl, _⟩, h9, ⟨A10, c10, rfl, _⟩⟩ := C
  subst e
  obtain ⟨g, o, cc, B, cb, D, cd, rfl, x1, x2, x3⟩ := fc_co h9
  exact ⟨fun k => [A0, A1, A2, A3, A4, A5, A6, none, A8, none, A10].getD k none, fun k => [0, 0, 1].getD k 0, fun k => [c0, c1, c2, c3, c4, c5, c6, 0, c8, cc, c10].getD k 0, -1, g, o, B, D, cb, cd, rfl, x1, x2, x3, l⟩
end Go.Proofs.Ytngciahmoenkiab
