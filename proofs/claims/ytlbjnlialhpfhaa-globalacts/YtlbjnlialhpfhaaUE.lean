/- Over this seat's translation: Add of package globals. -/
import Derived.Test.YtlbjnlialhpfhaaUD
set_option linter.unusedVariables false
set_option linter.unusedSimpArgs false
set_option maxRecDepth 100000
set_option maxHeartbeats 4000000
namespace Go.Proofs.Ytlbjnlialhpfhaa
open Go.RowKit
theorem tri_0 (a b c : Value) (v : Value) : (fun j => if j = 0 then v else tri a b c j) = tri v b c := by
  funext j
  unfold tri
  by_cases h : j = 0
  · rw [if_pos h, if_pos h]
  · rw [if_neg h, if_neg h, if_neg h]
theorem tri_1 (a b c : Value) (v : Value) : (fun j => if j = 1 then v else tri a b c j) = tri a v c := by
  funext j
  unfold tri
  by_cases h : j = 1
  · subst h; rfl
  · rw [if_neg h, if_neg h, if_neg h]
theorem str_2 {lab : Nat → Nat} {w : World} {B p : Nat} {T : TypeId} {a b c v : Value} (h : Str lab 0 w B p T 3 (fun j => if j = 2 then v else tri a b c j)) : Str lab 0 w B p T 3 (tri a b v) := by
  refine ⟨h.1.congr fun i hi => ?_, h.2⟩
  match i, hi with
  | 0, _ => rfl
  | 1, _ => rfl
  | 2, _ => rfl
theorem one_int (x : Int) : ∀ u ∈ [Value.int .i64 x], u.oneCell' = true := by
  intro u hu
  simp only [List.mem_cons, List.not_mem_nil, or_false] at hu
  subst hu
  rfl
theorem one_bool (x : Bool) : ∀ u ∈ [Value.bool x], u.oneCell' = true := by
  intro u hu
  simp only [List.mem_cons, List.not_mem_nil, or_false] at hu
  subst hu
  rfl
/-- the three lists one longer, stored one after another -/
theorem add_ok (lab : Nat → Nat) (w0 w : World) (p n : Nat) (t : Nat → Int) (m : Nat → Bool) (b : Nat → Int) (x y : Int) (μ : Bool) (hy : -9223372036854775808 ≤ y ∧ y ≤ 9223372036854775807) (hL : Hid (Later w0 w)) (h : Hid (Glo lab w w0.heap.size p n t m b)) (hm : Hid (may x y = true)) (hn : n < 1024) :
    Calls Try.prog 7 #[.pointer (some ⟨p, 0, none⟩), .agg #[.int .i64 x, .int .i64 y], .bool μ] w fun e w' => e = .returned (.int .i64 0) ∧ Later w0 w' ∧ ∃ lab', Chg lab (· < 10) w w' lab' ∧ Glo lab' w' w0.heap.size p (n + 1) (upd t n x) (upd m n μ) (upd b n y) := by
  obtain ⟨ii, hi1, hi2, hi3, hi4⟩ := int_parts
  obtain ⟨ib, hb1, hb2, hb3, hb4⟩ := bool_parts
  go_enter Try.func7, Try.ntmps7
  go_wp2_with fail
  refine (maybe_any x y hy true hm _).mono ?_
  rintro e w1 ⟨rfl, h1⟩
  have hl1 : decide (1024 ≤ (n : Int)) = false := decide_eq_false (by omega)
  have v0 : w1.cell? ⟨w.heap.size, 0, none⟩ = some (.int .i64 x) := h1.cell_of (by simp [go_sem])
  have v1 : w1.cell? ⟨w.heap.size, 1, none⟩ = some (.int .i64 y) := h1.cell_of (by simp [go_sem])
  have L1 : Later w w1.drew := Ld ((La (Lz _)).trans h1)
  have hlv := cell_lt v0
  obtain ⟨lab1, C1, hz⟩ := Chg.fresh (lab := lab) (S := fun _ => False) L1 99
  have z1 := hz w.heap.size (Nat.le_refl _)
  obtain ⟨_, A1, A2, A3, c1, c2, c3, s0, f1, f2, f3⟩ := h.out.chg C1 (fun k hk => hk.elim)
  have L0 : Later w0 w1.drew := hL.out.trans L1
  have q2 : w1.cell? ⟨p, 2, none⟩ = some (.slice A3 n c3) := s0.1.cell (i := 2) (by decide)
  have q0 : w1.cell? ⟨p, 0, none⟩ = some (.slice A1 n c1) := s0.1.cell (i := 0) (by decide)
  have lp := cell_lt q0
  obtain ⟨g1, d1, w2, lab2, r1, F1, L2, C2⟩ := fld_more (P := Try.prog) L0 52 52 3 ii (.int .i64 0) 1 8 Try.underlying52 hi1 hi2 hi3 hi4 rfl (by decide) f1 [.int .i64 x] rfl (one_int x) (by unfold maxLen; omega) (by omega)
  replace r1 : Hid ((Builtin.append_ #[52, 52] 52 #[.slice A1 n c1, .slice (some ⟨w1.heap.size, 0, none⟩) 1 1]).run Try.prog (w1.alloc (.cells #[.int .i64 x] 3)).drew = .ok (.slice (some ⟨g1, 0, none⟩) (n + 1) d1) w2) := r1
  have t0 := s0.chg C2 (by decide)
  have q00 : w2.cell? ⟨p, 0, none⟩ = some (.slice A1 n c1) := t0.1.cell (i := 0) (by decide)
  have v20 : w2.cell? ⟨w.heap.size, 0, none⟩ = some (.int .i64 x) := C2.cell (by rw [z1]; decide) v0
  have v21 : w2.cell? ⟨w.heap.size, 1, none⟩ = some (.int .i64 y) := C2.cell (by rw [z1]; decide) v1
  have z2 : lab2 w.heap.size = 99 := (C2.lab_eq (w := w1.drew) v0).trans z1
  have fz0 := t0.1.frozen 0
  have lp2 := cell_lt q00
  go_wp2
  go_region_law ((refine step_app (by rfl) _ _ 52 (by rfl) _ _ _ (by rfl) (by rfl) r1.out ?_))
  all_goals
    obtain ⟨u0, C3⟩ := t0.set 0 (.slice (some ⟨g1, 0, none⟩) (n + 1) d1)
    rw [tri_0] at u0
    have L3 := t0.ltr L2 0 (.slice (some ⟨g1, 0, none⟩) (n + 1) d1)
    generalize w2.setCell ⟨p, 0, none⟩ (.slice (some ⟨g1, 0, none⟩) (n + 1) d1) = W2 at *
    have D2 : Chg lab (· < 10) w W2 lab2 := (((C1.wide (fun _ hk => hk.elim))).trans (C2.wide (by omega))).trans (C3.wide (by omega))
    replace F1 := F1.chg C3 (by decide)
    replace f2 := (f2.chg C2 (by decide)).chg C3 (by decide)
    replace f3 := (f3.chg C2 (by decide)).chg C3 (by decide)
    replace v21 := C3.cell (by rw [z2]; decide) v21
    clear v0 v1 v20 h1 L1 L0 L2 C1 C2 C3 s0 t0 f1 q0 q2 q00 r1 fz0 hlv lp lp2 hz z1
    obtain ⟨g2, d2, w3, lab3, r2, F2, L4, C4⟩ := fld_more (P := Try.prog) L3 27 27 4 ib (.bool false) 1 1 Try.underlying27 hb1 hb2 hb3 hb4 rfl (by decide) f2 [.bool μ] rfl (one_bool μ) (by unfold maxLen; omega) (by omega)
    replace r2 : Hid ((Builtin.append_ #[27, 27] 27 #[.slice A2 n c2, .slice (some ⟨W2.heap.size, 0, none⟩) 1 1]).run Try.prog (W2.alloc (.cells #[.bool μ] 4)) = .ok (.slice (some ⟨g2, 0, none⟩) (n + 1) d2) w3) := r2
    have q1 : W2.cell? ⟨p, 1, none⟩ = some (.slice A2 n c2) := u0.1.cell (i := 1) (by decide)
    have lpW := cell_lt q1
    have t1 := u0.chg C4 (by decide)
    have q10 : w3.cell? ⟨p, 1, none⟩ = some (.slice A2 n c2) := t1.1.cell (i := 1) (by decide)
    have fz1 := t1.1.frozen 1
    have z3 : lab3 w.heap.size = 99 := (C4.lab_eq v21).trans z2
    replace v21 := C4.cell (by rw [z2]; decide) v21
    go_wp2_with (at_builtin; refine wpList_app rfl _ _ 27 rfl _ _ _ rfl rfl r2.out ?_)
    obtain ⟨u1, C5⟩ := t1.set 1 (.slice (some ⟨g2, 0, none⟩) (n + 1) d2)
    rw [tri_1] at u1
    have L5 := t1.ltr L4 1 (.slice (some ⟨g2, 0, none⟩) (n + 1) d2)
    generalize w3.setCell ⟨p, 1, none⟩ (.slice (some ⟨g2, 0, none⟩) (n + 1) d2) = W3 at *
    have D3 : Chg lab (· < 10) w W3.drew lab3 := ((D2.trans (C4.wide (by omega))).trans (C5.wide (by omega))).trans (Chg.of_later (Ld (Lz _)))
    replace F1 := ((F1.chg C4 (by decide)).chg C5 (by decide)).chg (S := fun _ => False) (Chg.of_later (Ld (Lz _))) (fun x => x)
    replace F2 := (F2.chg C5 (by decide)).chg (S := fun _ => False) (Chg.of_later (Ld (Lz _))) (fun x => x)
    replace f3 := ((f3.chg C4 (by decide)).chg C5 (by decide)).chg (S := fun _ => False) (Chg.of_later (Ld (Lz _))) (fun x => x)
    replace u1 := u1.chg (S := fun _ => False) (Chg.of_later (Ld (Lz _))) (fun x => x)
    replace v21 := C5.cell (by rw [z3]; decide) v21
    clear L4 C4 C5 u0 t1 f2 q1 q10 r2 fz1 D2 lpW z2 L3
    obtain ⟨g3, d3, w4, lab4, r3, F3, L6, C6⟩ := fld_more (P := Try.prog) (Ld L5) 52 52 3 ii (.int .i64 0) 1 8 Try.underlying52 hi1 hi2 hi3 hi4 rfl (by decide) f3 [.int .i64 y] rfl (one_int y) (by unfold maxLen; omega) (by omega)
    replace r3 : Hid ((Builtin.append_ #[52, 52] 52 #[.slice A3 n c3, .slice (some ⟨W3.heap.size, 0, none⟩) 1 1]).run Try.prog (W3.alloc (.cells #[.int .i64 y] 3)).drew = .ok (.slice (some ⟨g3, 0, none⟩) (n + 1) d3) w4) := r3
    have q2 : W3.cell? ⟨p, 2, none⟩ = some (.slice A3 n c3) := u1.1.cell (i := 2) (by decide)
    have lpW := cell_lt q2
    have lvW := cell_lt v21
    have t2 := u1.chg C6 (by decide)
    have q20 : w4.cell? ⟨p, 2, none⟩ = some (.slice A3 n c3) := t2.1.cell (i := 2) (by decide)
    have fz2 := t2.1.frozen 2
    have lpw := cell_lt q20
    replace v20 := C6.cell (w := W3.drew) (by rw [z3]; decide) v21
    obtain ⟨u2, C7⟩ := t2.set 2 (.slice (some ⟨g3, 0, none⟩) (n + 1) d3)
    replace u2 := str_2 u2
    have L7 := t2.ltr L6 2 (.slice (some ⟨g3, 0, none⟩) (n + 1) d3)
    have hfin : Hid (Later w0 (w4.setCell ⟨p, 2, none⟩ (.slice (some ⟨g3, 0, none⟩) (n + 1) d3)) ∧ ∃ lab', Chg lab (· < 10) w (w4.setCell ⟨p, 2, none⟩ (.slice (some ⟨g3, 0, none⟩) (n + 1) d3)) lab' ∧ Glo lab' (w4.setCell ⟨p, 2, none⟩ (.slice (some ⟨g3, 0, none⟩) (n + 1) d3)) w0.heap.size p (n + 1) (upd t n x) (upd m n μ) (upd b n y)) := by
      refine ⟨L7, lab4, (D3.trans (C6.wide (by omega))).trans (C7.wide (by omega)), hn, _, _, _, _, _, _, u2, ?_, ?_, ?_⟩
      · rw [← xs_upd]; exact (F1.chg C6 (by decide)).chg C7 (by decide)
      · rw [← bs_upd]; exact (F2.chg C6 (by decide)).chg C7 (by decide)
      · rw [← xs_upd]; exact F3.chg C7 (by decide)
    clear L5 C6 C7 u1 u2 t2 f3 F1 F2 F3 L6 L7 D3 z3
    go_region_law ((refine step_app (by rfl) _ _ 52 (by rfl) _ _ _ (by rfl) (by rfl) r3.out ?_))
    all_goals
      go_wp2
      go_ret
      exact ⟨rfl, hfin.out⟩
end Go.Proofs.Ytlbjnlialhpfhaa
