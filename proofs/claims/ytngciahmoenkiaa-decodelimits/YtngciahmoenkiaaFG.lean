/- A module of one table, of one memory: what decode.Module answers, with the row in memory. -/
import Derived.Test.YtngciahmoenkiaaFF
set_option linter.unusedVariables false
set_option linter.unusedSimpArgs false
set_option maxRecDepth 100000
set_option maxHeartbeats 8000000
namespace Go.Proofs.Ytngciahmoenkiaa
open Go.RowKit
theorem fc_li {Z : Nat → Prop} {w : World} {a b : Int} {v : Value} (h : Fc fLi Z w [(a, b)] v) : ∃ g o c, v = .slice (some ⟨g, o, none⟩) 1 c ∧ Z g ∧ w.cell? ⟨g, o, none⟩ = some (.int .i64 a) ∧ w.cell? ⟨g, o + 1, none⟩ = some (.int .i64 b) := by
  obtain ⟨A, c, rfl, h⟩ := h
  rcases h with h | ⟨g, o, L, rfl, hz, hc, v1, L1, rfl, e1, v2, L2, rfl, e2, e3⟩
  · simp at h
  · have e1' : v1 = .int .i64 a := e1
    have e2' : v2 = .int .i64 b := e2
    subst e1' e2'
    exact ⟨g, o, c, rfl, hz, hc 0 _ rfl, hc 1 _ rfl⟩
def DtabP (W : World) (a b : Int) (e : Ending) (w' : World) : Prop := ∃ (A : Nat → Option Addr) (n c : Nat → Nat) (st : Int) (g o : Nat), e = .returned (.tuple #[.agg #[.slice (A 0) (n 0) (c 0), .slice (A 1) (n 1) (c 1), .slice (A 2) (n 2) (c 2), .slice (some ⟨g, o, none⟩) 1 (c 3), .slice (A 4) (n 4) (c 4), .slice (A 5) (n 5) (c 5), .slice (A 6) (n 6) (c 6), .int .i64 st, .slice (A 8) (n 8) (c 8), .slice (A 9) (n 9) (c 9), .slice (A 10) (n 10) (c 10)], .int .i64 0]) ∧ Hid (W.heap.size ≤ g) ∧ Hid (w'.cell? ⟨g, o, none⟩ = some (.int .i64 a)) ∧ Hid (w'.cell? ⟨g, o + 1, none⟩ = some (.int .i64 b)) ∧ Hid (Later W w')
theorem dm_tab {s : ByteArray} {a b : Int} (hs : s.size < 9223372036854775000) (hr : unM s = ({ mdZ (-1) with ta := [(a, b)] }, 0)) (W : World) : Calls Try.prog 9 #[.string s] W (DtabP W a b) := by
  refine (dmodule_any s hs W).mono ?_
  rw [hr]
  rintro e w' h
  obtain ⟨L, rfl, C, l⟩ := h.out
  obtain ⟨v0, v1, v2, v3, v4, v5, v6, v8, v9, v10, e, ⟨A0, c0, rfl, _⟩, ⟨A1, c1, rfl, _⟩, ⟨A2, c2, rfl, _⟩, h3, h4, ⟨A5, c5, rfl, _⟩, ⟨A6, c6, rfl, _⟩, ⟨A8, c8, rfl, _⟩, ⟨A9, c9, rfl, _⟩, ⟨A10, c10, rfl, _⟩⟩ := C
  subst e
  obtain ⟨g, o, cc, rfl, hz, x1, x2⟩ := fc_li h3
  obtain ⟨AA, ca, rfl, _⟩ := h4
  exact ⟨fun k => [A0, A1, A2, none, AA, A5, A6, none, A8, A9, A10].getD k none, fun _ => 0, fun k => [c0, c1, c2, cc, ca, c5, c6, 0, c8, c9, c10].getD k 0, -1, g, o, rfl, hz.1, x1, x2, l⟩
def DmemP (W : World) (a b : Int) (e : Ending) (w' : World) : Prop := ∃ (A : Nat → Option Addr) (n c : Nat → Nat) (st : Int) (g o : Nat), e = .returned (.tuple #[.agg #[.slice (A 0) (n 0) (c 0), .slice (A 1) (n 1) (c 1), .slice (A 2) (n 2) (c 2), .slice (A 3) (n 3) (c 3), .slice (some ⟨g, o, none⟩) 1 (c 4), .slice (A 5) (n 5) (c 5), .slice (A 6) (n 6) (c 6), .int .i64 st, .slice (A 8) (n 8) (c 8), .slice (A 9) (n 9) (c 9), .slice (A 10) (n 10) (c 10)], .int .i64 0]) ∧ Hid (W.heap.size ≤ g) ∧ Hid (w'.cell? ⟨g, o, none⟩ = some (.int .i64 a)) ∧ Hid (w'.cell? ⟨g, o + 1, none⟩ = some (.int .i64 b)) ∧ Hid (Later W w')
theorem dm_mem {s : ByteArray} {a b : Int} (hs : s.size < 9223372036854775000) (hr : unM s = ({ mdZ (-1) with me := [(a, b)] }, 0)) (W : World) : Calls Try.prog 9 #[.string s] W (DmemP W a b) := by
  refine (dmodule_any s hs W).mono ?_
  rw [hr]
  rintro e w' h
  obtain ⟨L, rfl, C, l⟩ := h.out
  obtain ⟨v0, v1, v2, v3, v4, v5, v6, v8, v9, v10, e, ⟨A0, c0, rfl, _⟩, ⟨A1, c1, rfl, _⟩, ⟨A2, c2, rfl, _⟩, h3, h4, ⟨A5, c5, rfl, _⟩, ⟨A6, c6, rfl, _⟩, ⟨A8, c8, rfl, _⟩, ⟨A9, c9, rfl, _⟩, ⟨A10, c10, rfl, _⟩⟩ := C
  subst e
  obtain ⟨g, o, cc, rfl, hz, x1, x2⟩ := fc_li h4
  obtain ⟨AA, ca, rfl, _⟩ := h3
  exact ⟨fun k => [A0, A1, A2, AA, none, A5, A6, none, A8, A9, A10].getD k none, fun _ => 0, fun k => [c0, c1, c2, ca, cc, c5, c6, 0, c8, c9, c10].getD k 0, -1, g, o, rfl, hz.1, x1, x2, l⟩
end Go.Proofs.Ytngciahmoenkiaa
