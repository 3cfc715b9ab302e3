/- Over this seat's translation: Set of package globals. -/
import Derived.Test.YtlbjnlialhpfhaaUF
set_option linter.unusedVariables false
set_option linter.unusedSimpArgs false
set_option maxRecDepth 100000
set_option maxHeartbeats 4000000
namespace Go.Proofs.Ytlbjnlialhpfhaa
open Go.RowKit
theorem set_out (lab : Nat → Nat) (w : World) (B p n : Nat) (t : Nat → Int) (m : Nat → Bool) (b : Nat → Int) (k x y : Int) (h : Hid (Glo lab w B p n t m b)) (hk : ¬ (0 ≤ k ∧ k < (n : Int))) :
    Calls Try.prog 10 #[.pointer (some ⟨p, 0, none⟩), .int .i64 k, .agg #[.int .i64 x, .int .i64 y]] w fun e w' => e = .returned (.int .i64 1000) ∧ Later w w' := by
  have hh : Hid (∀ w', Later w w' → Calls Try.prog 20 #[.pointer (some ⟨p, 0, none⟩), .int .i64 k] w' fun e w2 => e = .returned (.bool false) ∧ w2 = w') := fun w' hl => has_any lab w' B p n t m b k false (h.out.later hl) (decide_eq_false hk)
  clear hk h
  go_enter Try.func10, Try.ntmps10
  go_wp2_with fail
  go_quiet ((go_at_call 20; exact Calls.quiet_of_same (hh.out _ (by repeat first | exact Lz _ | apply La | apply Lv | apply Ld | apply Ln))))
  go_wp2
  go_ret
  exact ⟨rfl, (by repeat first | exact Lz _ | apply La | apply Lv | apply Ld | apply Ln)⟩
theorem set_form (lab : Nat → Nat) (w : World) (B p n : Nat) (t : Nat → Int) (m : Nat → Bool) (b : Nat → Int) (k : Nat) (x y : Int) (hy : -9223372036854775808 ≤ y ∧ y ≤ 9223372036854775807) (h : Hid (Glo lab w B p n t m b)) (hk : k < n) (hm : Hid (may x y = false)) :
    Calls Try.prog 10 #[.pointer (some ⟨p, 0, none⟩), .int .i64 (k : Int), .agg #[.int .i64 x, .int .i64 y]] w fun e w' => e = .returned (.int .i64 1000) ∧ Later w w' := by
  have hh : Hid (∀ w', Later w w' → Calls Try.prog 20 #[.pointer (some ⟨p, 0, none⟩), .int .i64 (k : Int)] w' fun e w2 => e = .returned (.bool true) ∧ w2 = w') := fun w' hl => has_any lab w' B p n t m b k true (h.out.later hl) (decide_eq_true (by omega))
  have hl1 : (k : Int) < (n : Int) := by omega
  obtain ⟨_, A1, A2, A3, c1, c2, c3, s0, f1, f2, f3⟩ := h.out
  clear h s0 f1 f2 f3 
  go_enter Try.func10, Try.ntmps10
  go_wp2_with fail
  obtain ⟨W, hW⟩ : ∃ W : World, W = w.alloc (.cells #[.int .i64 x, .int .i64 y] 31) := ⟨_, rfl⟩
  rw [← hW]
  have LW : Later w W := by rw [hW]; exact La (Lz _)
  have v0 : W.cell? ⟨w.heap.size, 0, none⟩ = some (.int .i64 x) := by rw [hW]; simp [go_sem]
  have v1 : W.cell? ⟨w.heap.size, 1, none⟩ = some (.int .i64 y) := by rw [hW]; simp [go_sem]
  clear hW
  have lv0 := cell_lt v0
  replace LW : Hid (Later w W) := LW
  refine wp_region_quiet_far (by kernel_rfl) (by kernel_rfl) ?_
  repeat (go_big_quiet_step (first | (go_at_call 20; exact Calls.far_of_same (hh.out _ (LW.out.trans (by repeat first | exact Lz _ | apply La | apply Lv | apply Ld | apply Ln)))) | (go_at_call 18; exact Calls.far_of (maybe_any x y hy false hm _))))
  refine wpQuiet_nil ?_
  rintro _ ⟨⟨bs, d⟩, rfl⟩
  go_wp2
  go_ret
  exact ⟨rfl, LW.out.trans (by repeat first | exact Lz _ | apply La | apply Lv | apply Ld | apply Ln)⟩
theorem set_type (lab : Nat → Nat) (w : World) (B p n : Nat) (t : Nat → Int) (m : Nat → Bool) (b : Nat → Int) (k : Nat) (x y : Int) (hy : -9223372036854775808 ≤ y ∧ y ≤ 9223372036854775807) (h : Hid (Glo lab w B p n t m b)) (hk : k < n) (hm : Hid (may x y = true)) (hx : ¬ x = t k) :
    Calls Try.prog 10 #[.pointer (some ⟨p, 0, none⟩), .int .i64 (k : Int), .agg #[.int .i64 x, .int .i64 y]] w fun e w' => e = .returned (.int .i64 1000) ∧ Later w w' := by
  have hne : (x != t k) = true := by simpa using hx
  clear hx
  have hh : Hid (∀ w', Later w w' → Calls Try.prog 20 #[.pointer (some ⟨p, 0, none⟩), .int .i64 (k : Int)] w' fun e w2 => e = .returned (.bool true) ∧ w2 = w') := fun w' hl => has_any lab w' B p n t m b k true (h.out.later hl) (decide_eq_true (by omega))
  have hl1 : (k : Int) < (n : Int) := by omega
  obtain ⟨_, A1, A2, A3, c1, c2, c3, s0, f1, f2, f3⟩ := h.out
  have q0 : w.cell? ⟨p, 0, none⟩ = some (.slice A1 n c1) := s0.1.cell (i := 0) (by decide)
  obtain ⟨g1, rfl, _, l1, _, _, _, k1⟩ := f1.at_ (by omega)
  have r1 := k1 k _ (xs_get t n k hk)
  clear h s0 f1 f2 f3 k1
  go_enter Try.func10, Try.ntmps10
  go_wp2_with fail
  obtain ⟨W, hW⟩ : ∃ W : World, W = w.alloc (.cells #[.int .i64 x, .int .i64 y] 31) := ⟨_, rfl⟩
  rw [← hW]
  have LW : Later w W := by rw [hW]; exact La (Lz _)
  have v0 : W.cell? ⟨w.heap.size, 0, none⟩ = some (.int .i64 x) := by rw [hW]; simp [go_sem]
  have v1 : W.cell? ⟨w.heap.size, 1, none⟩ = some (.int .i64 y) := by rw [hW]; simp [go_sem]
  clear hW
  replace q0 := LW.cell_of q0
  replace r1 := LW.cell_of r1
  have lv0 := cell_lt v0
  have lq0 := cell_lt q0
  have lr1 := cell_lt r1
  replace LW : Hid (Later w W) := LW
  refine wp_region_quiet_far (by kernel_rfl) (by kernel_rfl) ?_
  repeat (go_big_quiet_step (first | (go_at_call 20; exact Calls.far_of_same (hh.out _ (LW.out.trans (by repeat first | exact Lz _ | apply La | apply Lv | apply Ld | apply Ln)))) | (go_at_call 18; exact Calls.far_of (maybe_any x y hy true hm _))))
  refine wpQuiet_nil ?_
  rintro _ ⟨⟨bs, d⟩, rfl⟩
  go_wp2
  go_ret
  exact ⟨rfl, LW.out.trans (by repeat first | exact Lz _ | apply La | apply Lv | apply Ld | apply Ln)⟩
theorem set_const (lab : Nat → Nat) (w : World) (B p n : Nat) (t : Nat → Int) (m : Nat → Bool) (b : Nat → Int) (k : Nat) (x y : Int) (hy : -9223372036854775808 ≤ y ∧ y ≤ 9223372036854775807) (h : Hid (Glo lab w B p n t m b)) (hk : k < n) (hm : Hid (may x y = true)) (hx : x = t k) (hc : m k = false) :
    Calls Try.prog 10 #[.pointer (some ⟨p, 0, none⟩), .int .i64 (k : Int), .agg #[.int .i64 x, .int .i64 y]] w fun e w' => e = .returned (.int .i64 1001) ∧ Later w w' := by
  have hne : (x != t k) = false := by simpa using hx
  clear hx
  have hh : Hid (∀ w', Later w w' → Calls Try.prog 20 #[.pointer (some ⟨p, 0, none⟩), .int .i64 (k : Int)] w' fun e w2 => e = .returned (.bool true) ∧ w2 = w') := fun w' hl => has_any lab w' B p n t m b k true (h.out.later hl) (decide_eq_true (by omega))
  have hl1 : (k : Int) < (n : Int) := by omega
  obtain ⟨_, A1, A2, A3, c1, c2, c3, s0, f1, f2, f3⟩ := h.out
  have q0 : w.cell? ⟨p, 0, none⟩ = some (.slice A1 n c1) := s0.1.cell (i := 0) (by decide)
  obtain ⟨g1, rfl, _, l1, _, _, _, k1⟩ := f1.at_ (by omega)
  have r1 := k1 k _ (xs_get t n k hk)
  have q1 : w.cell? ⟨p, 1, none⟩ = some (.slice A2 n c2) := s0.1.cell (i := 1) (by decide)
  obtain ⟨g2, rfl, _, l2, _, _, _, k2⟩ := f2.at_ (by omega)
  have r2 := k2 k _ (bs_get m n k hk)
  rw [hc] at r2
  clear h s0 f1 f2 f3 k1 k2
  go_enter Try.func10, Try.ntmps10
  go_wp2_with fail
  obtain ⟨W, hW⟩ : ∃ W : World, W = w.alloc (.cells #[.int .i64 x, .int .i64 y] 31) := ⟨_, rfl⟩
  rw [← hW]
  have LW : Later w W := by rw [hW]; exact La (Lz _)
  have v0 : W.cell? ⟨w.heap.size, 0, none⟩ = some (.int .i64 x) := by rw [hW]; simp [go_sem]
  have v1 : W.cell? ⟨w.heap.size, 1, none⟩ = some (.int .i64 y) := by rw [hW]; simp [go_sem]
  clear hW
  replace q0 := LW.cell_of q0
  replace r1 := LW.cell_of r1
  replace q1 := LW.cell_of q1
  replace r2 := LW.cell_of r2
  have lv0 := cell_lt v0
  have lq0 := cell_lt q0
  have lr1 := cell_lt r1
  have lr2 := cell_lt r2
  replace LW : Hid (Later w W) := LW
  refine wp_region_quiet_far (by kernel_rfl) (by kernel_rfl) ?_
  repeat (go_big_quiet_step (first | (go_at_call 20; exact Calls.far_of_same (hh.out _ (LW.out.trans (by repeat first | exact Lz _ | apply La | apply Lv | apply Ld | apply Ln)))) | (go_at_call 18; exact Calls.far_of (maybe_any x y hy true hm _))))
  refine wpQuiet_nil ?_
  rintro _ ⟨⟨bs, d⟩, rfl⟩
  go_wp2
  go_ret
  exact ⟨rfl, LW.out.trans (by repeat first | exact Lz _ | apply La | apply Lv | apply Ld | apply Ln)⟩
end Go.Proofs.Ytlbjnlialhpfhaa
