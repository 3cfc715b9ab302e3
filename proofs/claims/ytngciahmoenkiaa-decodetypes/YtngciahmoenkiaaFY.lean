/- The document's reader of modules: a type of one parameter and one result; what decode.Module answers, with the type in memory. -/
import Derived.Test.YtngciahmoenkiaaFL
set_option linter.unusedVariables false
set_option linter.unusedSimpArgs false
set_option maxRecDepth 100000
set_option maxHeartbeats 8000000
namespace Go.Proofs.Ytngciahmoenkiaa
open Go.RowKit
theorem skind_no {u : ByteArray} {a : Nat} {x : Int} {d : List Int} (hx : ¬ (124 ≤ x ∧ x ≤ 127)) (h : bl u a (x :: d)) : skind u ⟨(a : Int), 0⟩ = (x, ⟨((a + 1 : Nat) : Int), 1506⟩) := by
  unfold skind
  rw [sbyte_bl h]
  show (x, if (0 : Int) = 0 ∧ ¬ (124 ≤ x ∧ x ≤ 127) then _ else _) = _
  rw [if_pos ⟨rfl, hx⟩]
  rfl
theorem one_bl {u : ByteArray} {a : Nat} {d : List Int} (h : bl u a (1 :: d)) : smany u 1024 ⟨(a : Int), 0⟩ = (1, ⟨((a + 1 : Nat) : Int), 0⟩) := by
  have e := smany_bl (u := u) (p := a) (y := 1) (m := 1024) (by decide) (by decide) (show bl u a (lebL 1) by rw [leb_1]; exact ((bl_app (d := [1])).1 h).1)
  rw [leb_1] at e
  exact e
theorem kinds1_ok {u : ByteArray} {a : Nat} {x : Int} {d : List Int} (hx : 124 ≤ x ∧ x ≤ 127) (h : bl u a (1 :: x :: d)) : skinds u ⟨(a : Int), 0⟩ = ([x], ⟨((a + 2 : Nat) : Int), 0⟩) := by
  have h2 : bl u (a + 1) (x :: d) := h.2.2
  unfold skinds
  rw [one_bl h]
  show srep (skind u) (0 + 1) ⟨((a + 1 : Nat) : Int), 0⟩ = _
  rw [srep_ok _ _ _ rfl, skind_bl hx h2]
  rfl
theorem kinds1_no {u : ByteArray} {a : Nat} {x : Int} {d : List Int} (hx : ¬ (124 ≤ x ∧ x ≤ 127)) (h : bl u a (1 :: x :: d)) : (skinds u ⟨(a : Int), 0⟩).2.code = 1506 := by
  have h2 : bl u (a + 1) (x :: d) := h.2.2
  unfold skinds
  rw [one_bl h]
  show (srep (skind u) (0 + 1) ⟨((a + 1 : Nat) : Int), 0⟩).2.code = _
  rw [srep_ok _ _ _ rfl, skind_no hx h2]
  rfl
theorem stys_1 {u : ByteArray} {d : List Int} (h : bl u 0 (1 :: d)) : stys u ⟨0, 0⟩ = ((sty u ⟨((1 : Nat) : Int), 0⟩).1 :: [], (sty u ⟨((1 : Nat) : Int), 0⟩).2) := by
  unfold stys
  rw [many_1 h 256 (by decide)]
  show srep (sty u) (0 + 1) ⟨((1 : Nat) : Int), 0⟩ = _
  rw [srep_ok _ _ _ rfl]
  rfl
/-- a type section's bytes -/
def tyL (f p q : Int) : List Int := [1, f, 1, p, 1, q]
theorem tyL_byte (f p q : Int) (hf : 0 ≤ f ∧ f < 256) (hp : 0 ≤ p ∧ p < 256) (hq : 0 ≤ q ∧ q < 256) : ∀ b ∈ tyL f p q, 0 ≤ b ∧ b < 256 := by
  intro b hb
  unfold tyL at hb
  simp only [List.mem_cons, List.not_mem_nil, or_false] at hb
  omega
theorem un_ty (f p q : Int) (hf : f = 96) (hp : 124 ≤ p ∧ p ≤ 127) (hq : 124 ≤ q ∧ q ≤ 127) : unM (hd8 ++ secB ((1 : Nat) : Int) (strOfNums (tyL f p q))) = ({ mdZ (-1) with ty := [([p], [q])] }, 0) := by
  subst hf
  have hb := bl_num (tyL 96 p q) (tyL_byte 96 p q (by decide) (by omega) (by omega))
  have h1 : bl (strOfNums (tyL 96 p q)) 1 (96 :: [1, p, 1, q]) := hb.2.2
  have h2 : bl (strOfNums (tyL 96 p q)) 2 (1 :: p :: [1, q]) := h1.2.2
  have h3 : bl (strOfNums (tyL 96 p q)) 4 (1 :: q :: []) := h2.2.2.2.2
  have hz : (strOfNums (tyL 96 p q)).size = 6 := strOfNums_size _
  generalize strOfNums (tyL 96 p q) = u at *
  have e1 := smust_bl h1
  have e2 := kinds1_ok hp h2
  have e3 := kinds1_ok hq h3
  have e4 : sty u ⟨((1 : Nat) : Int), 0⟩ = (([p], [q]), ⟨((6 : Nat) : Int), 0⟩) := by
    unfold sty
    rw [e1]
    show (((skinds u ⟨((2 : Nat) : Int), 0⟩).1, (skinds u (skinds u ⟨((2 : Nat) : Int), 0⟩).2).1), (skinds u (skinds u ⟨((2 : Nat) : Int), 0⟩).2).2) = _
    rw [e2]
    show (([p], (skinds u ⟨((4 : Nat) : Int), 0⟩).1), (skinds u ⟨((4 : Nat) : Int), 0⟩).2) = _
    rw [e3]
  have e5 := stys_1 hb
  rw [e4] at e5
  have hc : ssec0 u ((1 : Nat) : Int) (mdZ (-1)) u.size = ({ mdZ (-1) with ty := [([p], [q])] }, ⟨6, 0⟩) := by
    show (({ mdZ (-1) with ty := (stys u ⟨0, 0⟩).1 } : Md), sclose (u.size : Int) 0 (stys u ⟨0, 0⟩).2) = _
    rw [e5]
    unfold sclose
    rw [if_neg (fun z => z.2 (by show (6 : Int) - 0 = _; omega))]
    rfl
  rw [unM_one 1 u (by decide) (by omega), hc]
  rfl
theorem un_ty_no (f p q : Int) (hf : 0 ≤ f ∧ f < 256) (hp : 0 ≤ p ∧ p < 256) (hq : 0 ≤ q ∧ q < 256) (hn : ¬ (f = 96 ∧ (124 ≤ p ∧ p ≤ 127) ∧ (124 ≤ q ∧ q ≤ 127))) : unM (hd8 ++ secB ((1 : Nat) : Int) (strOfNums (tyL f p q))) = (mdZ 0, 1506) := by
  have hb := bl_num (tyL f p q) (tyL_byte f p q hf hp hq)
  have h1 : bl (strOfNums (tyL f p q)) 1 (f :: [1, p, 1, q]) := hb.2.2
  have h2 : bl (strOfNums (tyL f p q)) 2 (1 :: p :: [1, q]) := h1.2.2
  have h3 : bl (strOfNums (tyL f p q)) 4 (1 :: q :: []) := h2.2.2.2.2
  have hz : (strOfNums (tyL f p q)).size = 6 := strOfNums_size _
  generalize strOfNums (tyL f p q) = u at *
  refine un_err u 1 (by decide) (by omega) 1506 (by decide) ?_
  show (stys u ⟨0, 0⟩).2.code = _
  rw [stys_1 hb]
  show (skinds u (skinds u (smust u 96 ⟨((1 : Nat) : Int), 0⟩)).2).2.code = 1506
  by_cases hf2 : f = 96
  · subst hf2
    rw [smust_bl h1]
    show (skinds u (skinds u ⟨((2 : Nat) : Int), 0⟩).2).2.code = 1506
    by_cases hp2 : 124 ≤ p ∧ p ≤ 127
    · rw [kinds1_ok hp2 h2]
      exact kinds1_no (fun x => hn ⟨rfl, hp2, x⟩) h3
    · have e := kinds1_no hp2 h2
      rw [skinds_bad (by rw [e]; decide)]
      exact e
  · rw [smust_no h1 hf2]
    rw [skinds_bad (by show ¬ (1506 : Int) = 0; decide), skinds_bad (by show ¬ (1506 : Int) = 0; decide)]
theorem fc_ty {Z : Nat → Prop} {w : World} {p q : List Int} {v : Value} (h : Fc fTy Z w [(p, q)] v) : ∃ g o c B cb D cd, v = .slice (some ⟨g, o, none⟩) 1 c ∧ w.cell? ⟨g, o, none⟩ = some (.slice B p.length cb) ∧ w.cell? ⟨g, o + 1, none⟩ = some (.slice D q.length cd) ∧ Lq Z w B p ∧ Lq Z w D q := by
  obtain ⟨A, c, rfl, h⟩ := h
  rcases h with h | ⟨g, o, L, rfl, hz, hc, v1, L1, rfl, e1, v2, L2, rfl, e2, e3⟩
  · simp at h
  · obtain ⟨B, cb, e1', hl⟩ := e1
    obtain ⟨D, cd, e2', hl2⟩ := e2
    subst e1' e2'
    exact ⟨g, o, c, B, cb, D, cd, rfl, hc 0 _ rfl, hc 1 _ rfl, hl, hl2⟩
def DtyP (W : World) (p q : List Int) (e : Ending) (w' : World) : Prop := ∃ (A : Nat → Option Addr) (c : Nat → Nat) (g o : Nat) (B D : Option Addr) (cb cd : Nat), e = .returned (.tuple #[.agg #[.slice (some ⟨g, o, none⟩) 1 (c 0), .slice (A 1) 0 (c 1), .slice (A 2) 0 (c 2), .slice (A 3) 0 (c 3), .slice (A 4) 0 (c 4), .slice (A 5) 0 (c 5), .slice (A 6) 0 (c 6), .int .i64 (-1), .slice (A 8) 0 (c 8), .slice (A 9) 0 (c 9), .slice (A 10) 0 (c 10)], .int .i64 0]) ∧ Hid (w'.cell? ⟨g, o, none⟩ = some (.slice B p.length cb)) ∧ Hid (w'.cell? ⟨g, o + 1, none⟩ = some (.slice D q.length cd)) ∧ Hid (Lq (W.heap.size ≤ ·) w' B p) ∧ Hid (Lq (W.heap.size ≤ ·) w' D q) ∧ Hid (Later W w')
theorem dm_ty {s : ByteArray} {p q : List Int} (hs : s.size < 9223372036854775000) (hr : unM s = ({ mdZ (-1) with ty := [(p, q)] }, 0)) (W : World) : Calls Try.prog 9 #[.string s] W (DtyP W p q) := by
  refine (dmodule_any s hs W).mono ?_
  rw [hr]
  rintro e w' h
  obtain ⟨L, rfl, C, l⟩ := h.out
  obtain ⟨v0, v1, v2, v3, v4, v5, v6, v8, v9, v10, e, h0, ⟨A1, c1, rfl, _⟩, ⟨A2, c2, rfl, _⟩, ⟨A3, c3, rfl, _⟩, ⟨A4, c4, rfl, _⟩, ⟨A5, c5, rfl, _⟩, ⟨A6, c6, rfl, _⟩, ⟨A8, c8, rfl, _⟩, ⟨A9, c9, rfl, _⟩, ⟨A10, c10, rfl, _⟩⟩ := C
  subst e
  obtain ⟨g, o, cc, B, cb, D, cd, rfl, x1, x2, x3, x4⟩ := fc_ty h0
  exact ⟨fun k => [none, A1, A2, A3, A4, A5, A6, none, A8, A9, A10].getD k none, fun k => [cc, c1, c2, c3, c4, c5, c6, 0, c8, c9, c10].getD k 0, g, o, B, D, cb, cd, rfl, x1, x2, x3.mono fun k h => h.1, x4.mono fun k h => h.1, l⟩
end Go.Proofs.Ytngciahmoenkiaa
