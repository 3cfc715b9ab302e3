/- Over this seat's translation: package globals, call by call. -/
import Derived.Test.YtlbjnlialhpfhaaUE
set_option linter.unusedVariables false
set_option linter.unusedSimpArgs false
set_option maxRecDepth 100000
set_option maxHeartbeats 4000000
namespace Go.Proofs.Ytlbjnlialhpfhaa
open Go.RowKit
theorem add_form (lab : Nat → Nat) (w : World) (B p n : Nat) (t : Nat → Int) (m : Nat → Bool) (b : Nat → Int) (x y : Int) (μ : Bool) (hy : -9223372036854775808 ≤ y ∧ y ≤ 9223372036854775807) (h : Hid (Glo lab w B p n t m b)) (hm : Hid (may x y = false)) :
    Calls Try.prog 7 #[.pointer (some ⟨p, 0, none⟩), .agg #[.int .i64 x, .int .i64 y], .bool μ] w fun e w' => e = .returned (.int .i64 1000) ∧ Later w w' := by
  clear h
  go_enter Try.func7, Try.ntmps7
  go_wp2_with fail
  refine (maybe_any x y hy false hm _).mono ?_
  rintro e w1 ⟨rfl, h1⟩
  have L1 : Hid (Later w w1) := (La (Lz _)).trans h1
  clear h1
  go_wp2
  go_ret
  exact ⟨rfl, L1.out⟩
theorem add_full (lab : Nat → Nat) (w : World) (B p n : Nat) (t : Nat → Int) (m : Nat → Bool) (b : Nat → Int) (x y : Int) (μ : Bool) (hy : -9223372036854775808 ≤ y ∧ y ≤ 9223372036854775807) (h : Hid (Glo lab w B p n t m b)) (hm : Hid (may x y = true)) (hn : 1024 ≤ n) :
    Calls Try.prog 7 #[.pointer (some ⟨p, 0, none⟩), .agg #[.int .i64 x, .int .i64 y], .bool μ] w fun e w' => e = .returned (.int .i64 1000) ∧ Later w w' := by
  go_enter Try.func7, Try.ntmps7
  go_wp2_with fail
  refine (maybe_any x y hy true hm _).mono ?_
  rintro e w1 ⟨rfl, h1⟩
  have L1 : Hid (Later w w1) := (La (Lz _)).trans h1
  obtain ⟨_, A1, A2, A3, c1, c2, c3, s0, f1, f2, f3⟩ := h.out.later L1.out
  have q2 : w1.cell? ⟨p, 2, none⟩ = some (.slice A3 n c3) := s0.1.cell (i := 2) (by decide)
  have hl1 : decide (1024 ≤ (n : Int)) = true := decide_eq_true (by omega)
  clear h1 s0 f1 f2 f3
  go_wp2
  go_ret
  exact ⟨rfl, L1.out⟩
theorem get_out (lab : Nat → Nat) (w : World) (B p n : Nat) (t : Nat → Int) (m : Nat → Bool) (b : Nat → Int) (k : Int) (h : Hid (Glo lab w B p n t m b)) (hk : ¬ (0 ≤ k ∧ k < (n : Int))) :
    Calls Try.prog 12 #[.pointer (some ⟨p, 0, none⟩), .int .i64 k] w fun e w' => e = .returned (.tuple #[.agg #[.int .i64 0, .int .i64 0], .int .i64 1000]) ∧ Later w w' := by
  have hh : Hid (∀ w', Later w w' → Calls Try.prog 20 #[.pointer (some ⟨p, 0, none⟩), .int .i64 k] w' fun e w2 => e = .returned (.bool false) ∧ w2 = w') := fun w' hl => has_any lab w' B p n t m b k false (h.out.later hl) (decide_eq_false hk)
  clear hk h
  go_enter Try.func12, Try.ntmps12
  go_wp2_with (go_at_call 20; refine (hh.out _ (by repeat first | exact Lz _ | apply La | apply Lv | apply Ld | apply Ln)).mono ?_; rintro e w' ⟨rfl, rfl⟩)
  refine bodyPost_ret (v := .tuple #[.agg #[.int .i64 0, .int .i64 0], .int .i64 1000]) (by simp [results, Try.results12, go_sem]) rfl ⟨rfl, (by repeat first | exact Lz _ | apply La | apply Lv | apply Ld | apply Ln)⟩
theorem get_in (lab : Nat → Nat) (w : World) (B p n : Nat) (t : Nat → Int) (m : Nat → Bool) (b : Nat → Int) (k : Nat) (h : Hid (Glo lab w B p n t m b)) (hk : k < n) :
    Calls Try.prog 12 #[.pointer (some ⟨p, 0, none⟩), .int .i64 (k : Int)] w fun e w' => e = .returned (.tuple #[.agg #[.int .i64 (t k), .int .i64 (b k)], .int .i64 0]) ∧ Later w w' := by
  have hh : Hid (∀ w', Later w w' → Calls Try.prog 20 #[.pointer (some ⟨p, 0, none⟩), .int .i64 (k : Int)] w' fun e w2 => e = .returned (.bool true) ∧ w2 = w') := fun w' hl => has_any lab w' B p n t m b k true (h.out.later hl) (decide_eq_true (by omega))
  have hv : Hid (∀ w', Later w w' → Calls Try.prog 21 #[.pointer (some ⟨p, 0, none⟩), .int .i64 (k : Int)] w' fun e w2 => e = .returned (.agg #[.int .i64 (t k), .int .i64 (b k)]) ∧ Later w' w2) := fun w' hl => value_any lab w' B p n t m b k hk (h.out.later hl)
  clear hk h
  go_enter Try.func12, Try.ntmps12
  go_wp2_with (first | (go_at_call 20; refine (hh.out _ (by repeat first | exact Lz _ | apply La | apply Lv | apply Ld | apply Ln)).mono ?_; rintro e w' ⟨rfl, rfl⟩) | (go_at_call 21; refine (hv.out _ (by repeat first | exact Lz _ | apply La | apply Lv | apply Ld | apply Ln)).mono ?_; rintro e w' ⟨rfl, bs, n, rfl⟩))
  refine bodyPost_ret (v := .tuple #[.agg #[.int .i64 (t k), .int .i64 (b k)], .int .i64 0]) (by simp [results, Try.results12, go_sem]) rfl ⟨rfl, (by repeat first | exact Lz _ | apply La | apply Lv | apply Ld | apply Ln)⟩
end Go.Proofs.Ytlbjnlialhpfhaa
