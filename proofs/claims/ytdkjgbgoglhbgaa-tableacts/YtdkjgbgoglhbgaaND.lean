/- Over this seat's translation: New of package table. -/
import Derived.Test.YtdkjgbgoglhbgaaNC
set_option linter.unusedVariables false
set_option linter.unusedSimpArgs false
set_option maxRecDepth 100000
set_option maxHeartbeats 4000000
namespace Go.Proofs.Ytdkjgbgoglhbgaa
open Go.RowKit
/-- which limits a table may have -/
def Fine (a m : Int) : Prop := 0 ≤ a ∧ a ≤ 1024 ∧ (m = -1 ∨ (a ≤ m ∧ m ≤ 4294967295))
theorem size_ok (a m : Int) (h : Fine a m) (w : World) :
    Calls Try.prog 19 #[.agg #[.int .i64 a, .int .i64 m]] w fun e w' => e = .returned (.bool true) ∧ Later w w' := by
  obtain ⟨h0, h1, hm⟩ := h
  have k1 : ¬ a < 0 := by omega
  have k2 : ¬ 1024 < a := by omega
  rcases hm with rfl | hm
  · go_enter Try.func19, Try.ntmps19
    go_wp2
    go_ret
    exact ⟨rfl, (by repeat first | exact Lz _ | apply La | apply Ld)⟩
  · have k3 : (m == -1) = false := by simp; omega
    have k4 : a ≤ m := hm.1
    have k5 : m ≤ 4294967295 := hm.2
    go_enter Try.func19, Try.ntmps19
    go_wp2
    go_ret
    exact ⟨rfl, (by repeat first | exact Lz _ | apply La | apply Ld)⟩
theorem size_bad (a m : Int) (hs : ¬ Fine a m) (w : World) :
    Calls Try.prog 19 #[.agg #[.int .i64 a, .int .i64 m]] w fun e w' => e = .returned (.bool false) ∧ Later w w' := by
  unfold Fine at hs
  have h3 : a < 0 ∨ (¬ a < 0 ∧ 1024 < a) ∨ (¬ a < 0 ∧ ¬ 1024 < a ∧ ¬ m = -1 ∧ ¬ a ≤ m) ∨ (¬ a < 0 ∧ ¬ 1024 < a ∧ ¬ m = -1 ∧ a ≤ m ∧ ¬ m ≤ 4294967295) := by omega
  clear hs
  rcases h3 with h | ⟨h1, h⟩ | ⟨h1, h2, h4, h⟩ | ⟨h1, h2, h4, h, h5⟩
  all_goals try replace h4 : (m == -1) = false := beq_eq_false_iff_ne.2 h4
  all_goals
    go_enter Try.func19, Try.ntmps19
    go_wp2
    go_ret
    exact ⟨rfl, (by repeat first | exact Lz _ | apply La | apply Lv | apply Ld)⟩
theorem new_bad (a m : Int) (hs : ¬ Fine a m) (w : World) :
    Calls Try.prog 6 #[.agg #[.int .i64 a, .int .i64 m]] w fun e w' => e = .returned (.tuple #[.pointer none, .int .i64 900]) ∧ Later w w' := by
  replace hs : Hid _ := hs
  go_enter Try.func6, Try.ntmps6
  go_wp2_with (go_at_call 19; refine (size_bad _ _ hs.out _).mono ?_; rintro e w1 ⟨rfl, bs, n, rfl⟩)
  go_ret2
  exact ⟨rfl, (by repeat first | exact Lz _ | apply La | apply Lv | apply Ld)⟩
theorem and_low (q : Nat) (hq : q ≤ 1024) : bits .and .u64 (q : Int) 4294967295 = (q : Int) := by
  have h := u64_and_nat q 4294967295 (by omega) (by decide)
  rw [show ((4294967295 : Nat) : Int) = 4294967295 from rfl] at h
  rw [h, show (4294967295 : Nat) = 2 ^ 32 - 1 from rfl, Nat.and_two_pow_sub_one_eq_mod, Nat.mod_eq_of_lt (by omega)]
theorem mul64_one (q : Nat) (hq : q ≤ 1024) (w : World) :
    Calls Try.prog 28 #[.int .u64 1, .int .u64 (q : Int)] w fun e w' => e = .returned (.tuple #[.int .u64 0, .int .u64 (q : Int)]) ∧ w' = w := by
  have h1 := and_low q hq
  have h2 : (q : Int) / 4294967296 = 0 := by omega
  have h3 : bits .and .u64 1 4294967295 = 1 := by decide +kernel
  have h4 : bits .and .u64 0 4294967295 = 0 := by decide +kernel
  go_enter Try.func28, Try.ntmps28
  go_wp2
  go_ret2
  exact ⟨rfl, rfl⟩
theorem mul_one (q : Nat) (hq : q ≤ 1024) (w : World) :
    Calls Try.prog 25 #[.int .u64 1, .int .u64 (q : Int)] w fun e w' => e = .returned (.tuple #[.int .u64 0, .int .u64 (q : Int)]) ∧ w' = w := by
  go_enter Try.func25, Try.ntmps25
  go_wp2_with (go_at_call 28; refine (mul64_one q hq _).mono ?_; rintro e w1 ⟨rfl, rfl⟩)
  go_ret2
  exact ⟨rfl, rfl⟩
end Go.Proofs.Ytdkjgbgoglhbgaa
