/- Over this seat's translation: which values may be; lists of values and of bools; values held against each other, spoiled (package peloruslaw0). -/
import Derived.Test.YtlckiipkndipiaaNB
import Derived.Test.YtlckiipkndipiaaUA
set_option linter.unusedVariables false
set_option linter.unusedSimpArgs false
set_option maxRecDepth 100000
set_option maxHeartbeats 4000000
namespace Go.Proofs.Ytlckiipkndipiaa
open Go.RowKit
/-- may a value be? -/
def may (t b : Int) : Bool := decide (t = 126 ∨ t = 124 ∨ ((t = 127 ∨ t = 125) ∧ 0 ≤ b ∧ b ≤ 4294967295))
theorem low_any (x : Int) (w : World) :
    Calls Try.prog 29 #[.int .i64 x] w fun e w' => e = .returned (.int .i64 (x % 4294967296)) ∧ w' = w := by
  go_enter Try.func29, Try.ntmps29
  go_wp2
  go_ret
  refine ⟨?_, rfl⟩
  congr 2
theorem istype_any (t : Int) (w : World) :
    Calls Try.prog 30 #[.int .i64 t] w fun e w' => e = .returned (.bool (decide (t = 127 ∨ t = 126 ∨ t = 125 ∨ t = 124))) ∧ w' = w := by
  by_cases h1 : t = 127
  · subst h1
    go_enter Try.func30, Try.ntmps30
    go_wp2
    go_ret
    exact ⟨rfl, rfl⟩
  · by_cases h2 : t = 126
    · subst h2
      go_enter Try.func30, Try.ntmps30
      go_wp2
      go_ret
      exact ⟨rfl, rfl⟩
    · by_cases h3 : t = 125
      · subst h3
        go_enter Try.func30, Try.ntmps30
        go_wp2
        go_ret
        exact ⟨rfl, rfl⟩
      · by_cases h4 : t = 124
        · subst h4
          go_enter Try.func30, Try.ntmps30
          go_wp2
          go_ret
          exact ⟨rfl, rfl⟩
        · rw [decide_eq_false (by omega)]
          replace h1 : (t == 127) = false := beq_eq_false_iff_ne.2 h1
          replace h2 : (t == 126) = false := beq_eq_false_iff_ne.2 h2
          replace h3 : (t == 125) = false := beq_eq_false_iff_ne.2 h3
          replace h4 : (t == 124) = false := beq_eq_false_iff_ne.2 h4
          go_enter Try.func30, Try.ntmps30
          go_wp2
          go_ret
          exact ⟨rfl, rfl⟩
theorem low_same (b : Int) : (b % 4294967296 == b) = decide (0 ≤ b ∧ b ≤ 4294967295) := by
  by_cases h : 0 ≤ b ∧ b ≤ 4294967295
  · rw [decide_eq_true h]; simp; omega
  · rw [decide_eq_false h]; simp; omega
theorem maybe_all (t b : Int) (r : Bool) (hr : Hid (may t b = r)) (w : World) :
    Calls Try.prog 27 #[.agg #[.int .i64 t, .int .i64 b]] w fun e w' => e = .returned (.bool r) ∧ Later w w' := by
  have hr' := hr.out
  clear hr
  subst hr'
  have hq := low_same b
  by_cases h1 : t = 127
  · subst h1
    have e1 : may 127 b = decide (0 ≤ b ∧ b ≤ 4294967295) := by unfold may; congr 1; simp
    rw [e1, ← hq]
    clear hq e1
    go_enter Try.func27, Try.ntmps27
    go_wp2
    go_quiet ((go_at_call 29; exact Calls.quiet_of_same (low_any _ _)))
    go_wp2
    go_ret
    exact ⟨rfl, by repeat first | exact Lz _ | apply La | apply Lv | apply Ld | apply Ln⟩
  · by_cases h3 : t = 125
    · subst h3
      have e1 : may 125 b = decide (0 ≤ b ∧ b ≤ 4294967295) := by unfold may; congr 1; simp
      rw [e1, ← hq]
      clear hq e1
      go_enter Try.func27, Try.ntmps27
      go_wp2
      go_quiet ((go_at_call 29; exact Calls.quiet_of_same (low_any _ _)))
      go_wp2
      go_ret
      exact ⟨rfl, by repeat first | exact Lz _ | apply La | apply Lv | apply Ld | apply Ln⟩
    · have e1 : may t b = decide (t = 127 ∨ t = 126 ∨ t = 125 ∨ t = 124) := by
        unfold may
        rw [decide_eq_decide]
        omega
      obtain ⟨r, hr⟩ : ∃ r, decide (t = 127 ∨ t = 126 ∨ t = 125 ∨ t = 124) = r := ⟨_, rfl⟩
      rw [e1, hr]
      clear hq e1
      have hi : Hid (∀ w : World, Calls Try.prog 30 #[.int .i64 t] w fun e w' => e = .returned (.bool r) ∧ w' = w) := fun w => by rw [← hr]; exact istype_any t w
      clear hr
      replace h1 : (t == 127) = false := beq_eq_false_iff_ne.2 h1
      replace h3 : (t == 125) = false := beq_eq_false_iff_ne.2 h3
      go_enter Try.func27, Try.ntmps27
      go_wp2_with (go_at_call 30; refine (hi.out _).mono ?_; rintro e w' ⟨rfl, rfl⟩)
      go_ret
      exact ⟨rfl, by repeat first | exact Lz _ | apply La | apply Lv | apply Ld | apply Ln⟩
theorem maybe_any (t b : Int) (hb : -9223372036854775808 ≤ b ∧ b ≤ 9223372036854775807) (r : Bool) (hr : Hid (may t b = r)) (w : World) :
    Calls Try.prog 27 #[.agg #[.int .i64 t, .int .i64 b]] w fun e w' => e = .returned (.bool r) ∧ Later w w' := maybe_all t b r hr w
theorem typemay_any (t : Int) (w : World) :
    Calls Try.prog 31 #[.int .i64 t] w fun e w' => e = .returned (.bool (decide (124 ≤ t ∧ t ≤ 127))) ∧ w' = w := by
  by_cases h : 124 ≤ t ∧ t ≤ 127
  · obtain ⟨h1, h2⟩ := id h
    rw [decide_eq_true h]
    clear h
    go_enter Try.func31, Try.ntmps31
    go_wp2
    go_ret
    exact ⟨rfl, rfl⟩
  · rw [decide_eq_false h]
    replace h : t < 124 ∨ (¬ t < 124 ∧ ¬ t ≤ 127) := by omega
    rcases h with h | ⟨h1, h2⟩
    all_goals
      go_enter Try.func31, Try.ntmps31
      go_wp2
      go_ret
      exact ⟨rfl, rfl⟩
theorem valmay_any (t b : Int) (r : Bool) (hr : Hid (may t b = r)) (w : World) :
    Calls Try.prog 28 #[.agg #[.int .i64 t, .int .i64 b]] w fun e w' => e = .returned (.bool r) ∧ Later w w' := by
  have hr' := hr.out
  clear hr
  subst hr'
  by_cases h : 124 ≤ t ∧ t ≤ 127
  · have ht : Hid (∀ w : World, Calls Try.prog 31 #[.int .i64 t] w fun e w' => e = .returned (.bool true) ∧ w' = w) := fun w => by
      have := typemay_any t w
      rwa [decide_eq_true h] at this
    have h4 : t = 126 ∨ t = 124 ∨ (t = 127 ∨ t = 125) := by omega
    rcases h4 with rfl | rfl | h4
    · rw [show may 126 b = true by simp [may]]
      go_enter Try.func28, Try.ntmps28
      go_wp2_with (go_at_call 31; refine (ht.out _).mono ?_; rintro e w' ⟨rfl, rfl⟩)
      go_ret
      exact ⟨rfl, by repeat first | exact Lz _ | apply La | apply Lv | apply Ld | apply Ln⟩
    · rw [show may 124 b = true by simp [may]]
      go_enter Try.func28, Try.ntmps28
      go_wp2_with (go_at_call 31; refine (ht.out _).mono ?_; rintro e w' ⟨rfl, rfl⟩)
      go_ret
      exact ⟨rfl, by repeat first | exact Lz _ | apply La | apply Lv | apply Ld | apply Ln⟩
    · have e1 : may t b = decide (0 ≤ b ∧ b ≤ 4294967295) := by
        unfold may
        rw [decide_eq_decide]
        omega
      rw [e1]
      clear e1 h
      have k1 : (t == 126) = false := by simp; omega
      have k2 : (t == 124) = false := by simp; omega
      clear h4
      by_cases h5 : b < 0
      · rw [decide_eq_false (by omega)]
        go_enter Try.func28, Try.ntmps28
        go_wp2_with (go_at_call 31; refine (ht.out _).mono ?_; rintro e w' ⟨rfl, rfl⟩)
        go_ret
        exact ⟨rfl, by repeat first | exact Lz _ | apply La | apply Lv | apply Ld | apply Ln⟩
      · rw [show decide (0 ≤ b ∧ b ≤ 4294967295) = decide (b ≤ 4294967295) from decide_eq_decide.2 (by omega)]
        go_enter Try.func28, Try.ntmps28
        go_wp2_with (go_at_call 31; refine (ht.out _).mono ?_; rintro e w' ⟨rfl, rfl⟩)
        go_ret
        exact ⟨rfl, by repeat first | exact Lz _ | apply La | apply Lv | apply Ld | apply Ln⟩
  · have ht : Hid (∀ w : World, Calls Try.prog 31 #[.int .i64 t] w fun e w' => e = .returned (.bool false) ∧ w' = w) := fun w => by
      have := typemay_any t w
      rwa [decide_eq_false h] at this
    rw [show may t b = false from decide_eq_false (by omega)]
    go_enter Try.func28, Try.ntmps28
    go_wp2_with (go_at_call 31; refine (ht.out _).mono ?_; rintro e w' ⟨rfl, rfl⟩)
    go_ret
    exact ⟨rfl, by repeat first | exact Lz _ | apply La | apply Lv | apply Ld | apply Ln⟩
end Go.Proofs.Ytlckiipkndipiaa
