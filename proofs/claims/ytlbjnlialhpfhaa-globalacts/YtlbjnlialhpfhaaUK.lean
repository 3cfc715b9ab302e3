/- Over this seat's translation: Set of the document's globals (package pelorusref8). -/
import Derived.Test.YtlbjnlialhpfhaaUJ
set_option linter.unusedVariables false
set_option linter.unusedSimpArgs false
set_option maxRecDepth 100000
set_option maxHeartbeats 4000000
namespace Go.Proofs.Ytlbjnlialhpfhaa
open Go.RowKit
theorem rset_out1 (lab : Nat → Nat) (w : World) (B p n : Nat) (t : Nat → Int) (m : Nat → Bool) (b : Nat → Int) (k : Int) (x y : Int) (h : Hid (Doc lab w B p n t m b)) (hk : decide (k < 0) = true) :
    Calls Try.prog 11 #[.pointer (some ⟨p, 0, none⟩), .int .i64 k, .agg #[.int .i64 x, .int .i64 y]] w fun e w' => e = .returned (.int .i64 1000) ∧ Later w w' := by
  obtain ⟨_, A1, A2, c1, c2, s0, f1, f2⟩ := h.out
  have q0 : w.cell? ⟨p, 0, none⟩ = some (.slice A1 n c1) := s0.1.cell (i := 0) (by decide)
  clear h s0 f1 f2 
  go_enter Try.func11, Try.ntmps11
  go_wp2_with fail
  obtain ⟨W, hW⟩ : ∃ W : World, W = w.alloc (.cells #[.int .i64 x, .int .i64 y] 31) := ⟨_, rfl⟩
  rw [← hW]
  have LW : Later w W := by rw [hW]; exact La (Lz _)
  have v0 : W.cell? ⟨w.heap.size, 0, none⟩ = some (.int .i64 x) := by rw [hW]; simp [go_sem]
  have v1 : W.cell? ⟨w.heap.size, 1, none⟩ = some (.int .i64 y) := by rw [hW]; simp [go_sem]
  clear hW
  replace q0 := LW.cell_of q0
  have lv0 := cell_lt v0
  have lq0 := cell_lt q0
  replace LW : Hid (Later w W) := LW
  refine wp_region_quiet_far (by kernel_rfl) (by kernel_rfl) ?_
  repeat (go_big_quiet_step (fail))
  refine wpQuiet_nil ?_
  rintro _ ⟨⟨bs, d⟩, rfl⟩
  go_wp2
  go_ret
  exact ⟨rfl, LW.out.trans (by repeat first | exact Lz _ | apply La | apply Lv | apply Ld | apply Ln)⟩
theorem rset_out2 (lab : Nat → Nat) (w : World) (B p n : Nat) (t : Nat → Int) (m : Nat → Bool) (b : Nat → Int) (k : Int) (x y : Int) (h : Hid (Doc lab w B p n t m b)) (hk : decide (k < 0) = false) (hk2 : decide ((n : Int) ≤ k) = true) :
    Calls Try.prog 11 #[.pointer (some ⟨p, 0, none⟩), .int .i64 k, .agg #[.int .i64 x, .int .i64 y]] w fun e w' => e = .returned (.int .i64 1000) ∧ Later w w' := by
  obtain ⟨_, A1, A2, c1, c2, s0, f1, f2⟩ := h.out
  have q0 : w.cell? ⟨p, 0, none⟩ = some (.slice A1 n c1) := s0.1.cell (i := 0) (by decide)
  clear h s0 f1 f2 
  go_enter Try.func11, Try.ntmps11
  go_wp2_with fail
  obtain ⟨W, hW⟩ : ∃ W : World, W = w.alloc (.cells #[.int .i64 x, .int .i64 y] 31) := ⟨_, rfl⟩
  rw [← hW]
  have LW : Later w W := by rw [hW]; exact La (Lz _)
  have v0 : W.cell? ⟨w.heap.size, 0, none⟩ = some (.int .i64 x) := by rw [hW]; simp [go_sem]
  have v1 : W.cell? ⟨w.heap.size, 1, none⟩ = some (.int .i64 y) := by rw [hW]; simp [go_sem]
  clear hW
  replace q0 := LW.cell_of q0
  have lv0 := cell_lt v0
  have lq0 := cell_lt q0
  replace LW : Hid (Later w W) := LW
  refine wp_region_quiet_far (by kernel_rfl) (by kernel_rfl) ?_
  repeat (go_big_quiet_step (fail))
  refine wpQuiet_nil ?_
  rintro _ ⟨⟨bs, d⟩, rfl⟩
  go_wp2
  go_ret
  exact ⟨rfl, LW.out.trans (by repeat first | exact Lz _ | apply La | apply Lv | apply Ld | apply Ln)⟩
theorem rset_form (lab : Nat → Nat) (w : World) (B p n : Nat) (t : Nat → Int) (m : Nat → Bool) (b : Nat → Int) (k : Nat) (x y : Int) (h : Hid (Doc lab w B p n t m b)) (hk : k < n) (hm : Hid (may x y = false)) :
    Calls Try.prog 11 #[.pointer (some ⟨p, 0, none⟩), .int .i64 (k : Int), .agg #[.int .i64 x, .int .i64 y]] w fun e w' => e = .returned (.int .i64 1000) ∧ Later w w' := by
  have hl1 : (k : Int) < (n : Int) := by omega
  have hl2 : decide (n ≤ k) = false := decide_eq_false (by omega)
  have hl3 : decide ((k : Int) < 0) = false := decide_eq_false (by omega)
  obtain ⟨_, A1, A2, c1, c2, s0, f1, f2⟩ := h.out
  have q0 : w.cell? ⟨p, 0, none⟩ = some (.slice A1 n c1) := s0.1.cell (i := 0) (by decide)
  clear h s0 f1 f2 
  go_enter Try.func11, Try.ntmps11
  go_wp2_with fail
  obtain ⟨W, hW⟩ : ∃ W : World, W = w.alloc (.cells #[.int .i64 x, .int .i64 y] 31) := ⟨_, rfl⟩
  rw [← hW]
  have LW : Later w W := by rw [hW]; exact La (Lz _)
  have v0 : W.cell? ⟨w.heap.size, 0, none⟩ = some (.int .i64 x) := by rw [hW]; simp [go_sem]
  have v1 : W.cell? ⟨w.heap.size, 1, none⟩ = some (.int .i64 y) := by rw [hW]; simp [go_sem]
  clear hW
  replace q0 := LW.cell_of q0
  have lv0 := cell_lt v0
  have lq0 := cell_lt q0
  replace LW : Hid (Later w W) := LW
  refine wp_region_quiet_far (by kernel_rfl) (by kernel_rfl) ?_
  repeat (go_big_quiet_step ((go_at_call 19; exact Calls.far_of (valmay_any x y false hm _))))
  refine wpQuiet_nil ?_
  rintro _ ⟨⟨bs, d⟩, rfl⟩
  go_wp2
  go_ret
  exact ⟨rfl, LW.out.trans (by repeat first | exact Lz _ | apply La | apply Lv | apply Ld | apply Ln)⟩
theorem rset_type (lab : Nat → Nat) (w : World) (B p n : Nat) (t : Nat → Int) (m : Nat → Bool) (b : Nat → Int) (k : Nat) (x y : Int) (h : Hid (Doc lab w B p n t m b)) (hk : k < n) (hm : Hid (may x y = true)) (hx : ¬ x = t k) :
    Calls Try.prog 11 #[.pointer (some ⟨p, 0, none⟩), .int .i64 (k : Int), .agg #[.int .i64 x, .int .i64 y]] w fun e w' => e = .returned (.int .i64 1000) ∧ Later w w' := by
  have hne : (x != t k) = true := by simpa using hx
  clear hx
  have hl1 : (k : Int) < (n : Int) := by omega
  have hl2 : decide (n ≤ k) = false := decide_eq_false (by omega)
  have hl3 : decide ((k : Int) < 0) = false := decide_eq_false (by omega)
  obtain ⟨_, A1, A2, c1, c2, s0, f1, f2⟩ := h.out
  have q0 : w.cell? ⟨p, 0, none⟩ = some (.slice A1 n c1) := s0.1.cell (i := 0) (by decide)
  obtain ⟨g1, rfl, _, l1, _, _, _, k1⟩ := f1.at_ (by omega)
  have r1 := k1 _ _ (vs_0 t b n k hk)
  clear h s0 f1 f2 k1
  go_enter Try.func11, Try.ntmps11
  go_wp2_with fail
  obtain ⟨W, hW⟩ : ∃ W : World, W = w.alloc (.cells #[.int .i64 x, .int .i64 y] 31) := ⟨_, rfl⟩
  rw [← hW]
  have LW : Later w W := by rw [hW]; exact La (Lz _)
  have v0 : W.cell? ⟨w.heap.size, 0, none⟩ = some (.int .i64 x) := by rw [hW]; simp [go_sem]
  have v1 : W.cell? ⟨w.heap.size, 1, none⟩ = some (.int .i64 y) := by rw [hW]; simp [go_sem]
  clear hW
  replace q0 := LW.cell_of q0
  replace r1 := LW.cell_of r1
  have lv0 := cell_lt v0
  have lq0 := cell_lt q0
  have lr1 := cell_lt r1
  replace LW : Hid (Later w W) := LW
  refine wp_region_quiet_far (by kernel_rfl) (by kernel_rfl) ?_
  repeat (go_big_quiet_step ((go_at_call 19; exact Calls.far_of (valmay_any x y true hm _))))
  refine wpQuiet_nil ?_
  rintro _ ⟨⟨bs, d⟩, rfl⟩
  go_wp2
  go_ret
  exact ⟨rfl, LW.out.trans (by repeat first | exact Lz _ | apply La | apply Lv | apply Ld | apply Ln)⟩
theorem rset_const (lab : Nat → Nat) (w : World) (B p n : Nat) (t : Nat → Int) (m : Nat → Bool) (b : Nat → Int) (k : Nat) (x y : Int) (h : Hid (Doc lab w B p n t m b)) (hk : k < n) (hm : Hid (may x y = true)) (hx : x = t k) (hc : m k = false) :
    Calls Try.prog 11 #[.pointer (some ⟨p, 0, none⟩), .int .i64 (k : Int), .agg #[.int .i64 x, .int .i64 y]] w fun e w' => e = .returned (.int .i64 1001) ∧ Later w w' := by
  have hne : (x != t k) = false := by simpa using hx
  clear hx
  have hl1 : (k : Int) < (n : Int) := by omega
  have hl2 : decide (n ≤ k) = false := decide_eq_false (by omega)
  have hl3 : decide ((k : Int) < 0) = false := decide_eq_false (by omega)
  obtain ⟨_, A1, A2, c1, c2, s0, f1, f2⟩ := h.out
  have q0 : w.cell? ⟨p, 0, none⟩ = some (.slice A1 n c1) := s0.1.cell (i := 0) (by decide)
  obtain ⟨g1, rfl, _, l1, _, _, _, k1⟩ := f1.at_ (by omega)
  have r1 := k1 _ _ (vs_0 t b n k hk)
  have q1 : w.cell? ⟨p, 1, none⟩ = some (.slice A2 n c2) := s0.1.cell (i := 1) (by decide)
  obtain ⟨g2, rfl, _, l2, _, _, _, k2⟩ := f2.at_ (by omega)
  have r2 := k2 k _ (bs_get m n k hk)
  rw [hc] at r2
  clear h s0 f1 f2 k1 k2
  go_enter Try.func11, Try.ntmps11
  go_wp2_with fail
  obtain ⟨W, hW⟩ : ∃ W : World, W = w.alloc (.cells #[.int .i64 x, .int .i64 y] 31) := ⟨_, rfl⟩
  rw [← hW]
  have LW : Later w W := by rw [hW]; exact La (Lz _)
  have v0 : W.cell? ⟨w.heap.size, 0, none⟩ = some (.int .i64 x) := by rw [hW]; simp [go_sem]
  have v1 : W.cell? ⟨w.heap.size, 1, none⟩ = some (.int .i64 y) := by rw [hW]; simp [go_sem]
  clear hW
  replace q0 := LW.cell_of q0
  replace r1 := LW.cell_of r1
  replace q1 := LW.cell_of q1
  replace r2 := LW.cell_of r2
  have lv0 := cell_lt v0
  have lq0 := cell_lt q0
  have lr1 := cell_lt r1
  have lr2 := cell_lt r2
  replace LW : Hid (Later w W) := LW
  refine wp_region_quiet_far (by kernel_rfl) (by kernel_rfl) ?_
  repeat (go_big_quiet_step ((go_at_call 19; exact Calls.far_of (valmay_any x y true hm _))))
  refine wpQuiet_nil ?_
  rintro _ ⟨⟨bs, d⟩, rfl⟩
  go_wp2
  go_ret
  exact ⟨rfl, LW.out.trans (by repeat first | exact Lz _ | apply La | apply Lv | apply Ld | apply Ln)⟩
theorem rset_ok (lab : Nat → Nat) (w0 w : World) (B p n : Nat) (hB : w0.heap.size ≤ B) (hL : Hid (Later w0 w)) (t : Nat → Int) (m : Nat → Bool) (b : Nat → Int) (k : Nat) (x y : Int) (h : Hid (Doc lab w B p n t m b)) (hk : k < n) (hm : Hid (may x y = true)) (hx : Hid (x = t k)) (hc : m k = true) :
    Calls Try.prog 11 #[.pointer (some ⟨p, 0, none⟩), .int .i64 (k : Int), .agg #[.int .i64 x, .int .i64 y]] w fun e w' => e = .returned (.int .i64 0) ∧ Later w0 w' ∧ ∃ lab', Chg lab (fun k => 10 ≤ k ∧ k < 99) w w' lab' ∧ Doc lab' w' B p n t m (upd b k y) := by
  have hne : (x != t k) = false := by simpa using hx.out
  have hl1 : (k : Int) < (n : Int) := by omega
  have hl2 : decide (n ≤ k) = false := decide_eq_false (by omega)
  have hl3 : decide ((k : Int) < 0) = false := decide_eq_false (by omega)
  obtain ⟨_, A1, A2, c1, c2, s0, f1, f2⟩ := h.out
  have q0 : w.cell? ⟨p, 0, none⟩ = some (.slice A1 n c1) := s0.1.cell (i := 0) (by decide)
  obtain ⟨g1, rfl, _, l1, _, _, _, k1⟩ := f1.at_ (by omega)
  have r1 := k1 _ _ (vs_0 t b n k hk)
  have q1 : w.cell? ⟨p, 1, none⟩ = some (.slice A2 n c2) := s0.1.cell (i := 1) (by decide)
  obtain ⟨g2, rfl, _, l2, _, _, _, k2⟩ := f2.at_ (by omega)
  have r2 := k2 k _ (bs_get m n k hk)
  rw [hc] at r2
  clear s0 f1 f2 k1 k2
  go_enter Try.func11, Try.ntmps11
  go_wp2_with fail
  obtain ⟨W, hW⟩ : ∃ W : World, W = w.alloc (.cells #[.int .i64 x, .int .i64 y] 31) := ⟨_, rfl⟩
  rw [← hW]
  have LW : Later w W := by rw [hW]; exact La (Lz _)
  have v0 : W.cell? ⟨w.heap.size, 0, none⟩ = some (.int .i64 x) := by rw [hW]; simp [go_sem]
  have v1 : W.cell? ⟨w.heap.size, 1, none⟩ = some (.int .i64 y) := by rw [hW]; simp [go_sem]
  clear hW
  replace q0 := LW.cell_of q0
  replace r1 := LW.cell_of r1
  replace q1 := LW.cell_of q1
  replace r2 := LW.cell_of r2
  have lv0 := cell_lt v0
  have lq0 := cell_lt q0
  have lr1 := cell_lt r1
  have lr2 := cell_lt r2
  replace LW : Hid (Later w W) := LW
  refine wp_region_quiet_far (by kernel_rfl) (by kernel_rfl) ?_
  repeat (go_big_quiet_step ((go_at_call 19; exact Calls.far_of (valmay_any x y true hm _))))
  refine wpQuiet_nil ?_
  rintro W3 ⟨⟨bs, d⟩, e3⟩
  have L3 : Later W W3 := ⟨bs, d, e3⟩
  clear e3
  replace q1 := L3.cell_of q1
  replace r2 := L3.cell_of r2
  replace v0 := L3.cell_of v0
  replace v1 := L3.cell_of v1
  have L4 : Later w W3.drew := LW.out.trans (Ld L3)
  obtain ⟨lab1, C1, hz⟩ := Chg.fresh (lab := lab) (S := fun _ => False) L4 99
  obtain ⟨hn, B1, B2, e1, e2, s0, f1, f2⟩ := h.out.chg C1 (fun k hk => hk.elim)
  have q2 : W3.cell? ⟨p, 0, none⟩ = some (.slice B1 n e1) := s0.1.cell (i := 0) (by decide)
  obtain ⟨g3, rfl, b3, l3, y3, _, _, k3⟩ := f1.at_ (by omega)
  have r3 : W3.cell? ⟨g3, k * 2, none⟩ = some (.int .i64 (t k)) := k3 _ _ (vs_0 t b n k hk)
  have r4 : W3.cell? ⟨g3, k * 2 + 1, none⟩ = some (.int .i64 (b k)) := k3 _ _ (vs_1 t b n k hk)
  obtain ⟨F3, C3, L5, fz⟩ := f1.set g3 rfl (k * 2) (.int .i64 x) (by omega)
  obtain ⟨F4, C4, L6, fz2⟩ := F3.set g3 rfl (k * 2 + 1) (.int .i64 y) (by omega)
  have fz3 : W3.frozen? ⟨g3, k * 2 + 1, none⟩ = false := (f1.set g3 rfl (k * 2 + 1) (.int .i64 y) (by omega)).2.2.2
  replace fz : W3.frozen? ⟨g3, k * 2, none⟩ = false := fz
  rw [vs_put t b n k x hx.out.symm y] at F4
  have hfin : Hid (Later w0 ((W3.drew.setCell ⟨g3, k * 2, none⟩ (.int .i64 x)).setCell ⟨g3, k * 2 + 1, none⟩ (.int .i64 y)) ∧ ∃ lab', Chg lab (fun k => 10 ≤ k ∧ k < 99) w ((W3.drew.setCell ⟨g3, k * 2, none⟩ (.int .i64 x)).setCell ⟨g3, k * 2 + 1, none⟩ (.int .i64 y)) lab' ∧ Doc lab' ((W3.drew.setCell ⟨g3, k * 2, none⟩ (.int .i64 x)).setCell ⟨g3, k * 2 + 1, none⟩ (.int .i64 y)) B p n t m (upd b k y)) :=
    ⟨L6 w0 hB (L5 w0 hB (hL.out.trans L4)), lab1, ((C1.wide (fun _ hk => hk.elim)).trans (C3.wide (by omega))).trans (C4.wide (by omega)), hn, _, B2, e1, e2, (s0.chg C3 (by decide)).chg C4 (by decide), F4, (f2.chg C3 (by decide)).chg C4 (by decide)⟩
  have lq1 := cell_lt q1
  replace lr2 := cell_lt r2
  have lr3 := cell_lt r3
  have lv1 := cell_lt v1
  clear F3 F4 C3 C4 L5 L6 C1 L3 L4 s0 f1 f2 k3 hz LW h hL q0 r1 lq0 lr1 lv0
  go_wp2
  go_region
  go_wp2
  go_ret
  exact ⟨rfl, hfin.out⟩
end Go.Proofs.Ytlbjnlialhpfhaa
