/- package instr: small questions: words, types, depths, labels, fields that are zero. -/
import Derived.Test.YtkdfmgdadnlnlaaGA
import Derived.Test.YtkdfmgdadnlnlaaXB
set_option linter.unusedVariables false
set_option linter.unusedSimpArgs false
set_option maxRecDepth 100000
set_option maxHeartbeats 4000000
namespace Go.Proofs.Ytkdfmgdadnlnlaa.gi
open Go.RowKit
theorem ret_int {x y : Int} (h : x = y) : Ending.returned (.int .i64 x) = .returned (.int .i64 y) := by rw [h]
theorem low_any (x : Int) (w : World) :
    Calls Try.prog 72 #[.int .i64 x] w fun e w' => e = .returned (.int .i64 (x % 4294967296)) ∧ w' = w := by
  go_enter Try.func72, Try.ntmps72
  go_wp2
  go_ret
  refine ⟨?_, rfl⟩
  congr 2
theorem sign_any (x : Int) (w : World) :
    Calls Try.prog 78 #[.int .i64 x] w fun e w' => e = .returned (.int .i64 (sg3 x)) ∧ w' = w := by
  have h : sg3 x = wrap32 (x % 4294967296) := by unfold sg3 wrap32; split <;> omega
  rw [h]
  go_enter Try.func78, Try.ntmps78
  go_wp2
  go_ret
  exact ⟨ret_int (by simp only [wrap64, wrap32]; omega), rfl⟩
theorem istype_any (t : Int) (w : World) :
    Calls Try.prog 71 #[.int .i64 t] w fun e w' => e = .returned (.bool (decide (124 ≤ t ∧ t ≤ 127))) ∧ w' = w := by
  by_cases h1 : t = 127 ∨ t = 126 ∨ t = 125 ∨ t = 124
  · rw [decide_eq_true (by omega)]
    rcases h1 with rfl | rfl | rfl | rfl
    all_goals
      go_enter Try.func71, Try.ntmps71
      go_wp2
      go_ret
      exact ⟨rfl, rfl⟩
  · rw [decide_eq_false (by omega)]
    have a1 : ¬ t = 127 := by omega
    have a2 : ¬ t = 126 := by omega
    have a3 : ¬ t = 125 := by omega
    have a4 : ¬ t = 124 := by omega
    clear h1
    go_enter Try.func71, Try.ntmps71
    go_wp2
    go_ret
    exact ⟨rfl, rfl⟩
/-- may a block have that type? -/
def bty (t : Int) : Bool := decide (t = 64 ∨ (124 ≤ t ∧ t ≤ 127))
theorem bty_any (t : Int) (w : World) :
    Calls Try.prog 53 #[.int .i64 t] w fun e w' => e = .returned (.bool (bty t)) ∧ w' = w := by
  unfold bty
  by_cases h1 : t = 64
  · subst h1
    go_enter Try.func53, Try.ntmps53
    go_wp2
    go_ret
    exact ⟨rfl, rfl⟩
  · have n1 : (t == 64) = false := beq_false h1
    by_cases h2 : 124 ≤ t ∧ t ≤ 127
    · rw [decide_eq_true (Or.inr h2)]
      have h3 : Hid (∀ w : World, Calls Try.prog 71 #[.int .i64 t] w fun e w' => e = .returned (.bool true) ∧ w' = w) := fun w => by have := istype_any t w; rwa [decide_eq_true h2] at this
      clear h2
      go_enter Try.func53, Try.ntmps53
      go_wp2_with (go_at_call 71; refine (h3.out _).mono ?_; rintro e w1 ⟨rfl, rfl⟩)
      go_ret
      exact ⟨rfl, rfl⟩
    · rw [decide_eq_false (by omega)]
      have h3 : Hid (∀ w : World, Calls Try.prog 71 #[.int .i64 t] w fun e w' => e = .returned (.bool false) ∧ w' = w) := fun w => by have := istype_any t w; rwa [decide_eq_false h2] at this
      clear h2
      go_enter Try.func53, Try.ntmps53
      go_wp2_with (go_at_call 71; refine (h3.out _).mono ?_; rintro e w1 ⟨rfl, rfl⟩)
      go_ret
      exact ⟨rfl, rfl⟩
/-- is a number one of 32 bits? -/
def wrd (x : Int) : Bool := decide (0 ≤ x ∧ x ≤ 4294967295)
theorem wrd_any (x : Int) (w : World) :
    Calls Try.prog 54 #[.int .i64 x] w fun e w' => e = .returned (.bool (wrd x)) ∧ w' = w := by
  unfold wrd
  by_cases h : 0 ≤ x ∧ x ≤ 4294967295
  · rw [decide_eq_true h]
    have h3 : Hid (∀ w : World, Calls Try.prog 72 #[.int .i64 x] w fun e w' => e = .returned (.int .i64 x) ∧ w' = w) := fun w => by have := low_any x w; rwa [Int.emod_eq_of_lt h.1 (by omega)] at this
    clear h
    go_enter Try.func54, Try.ntmps54
    go_wp2_with (go_at_call 72; refine (h3.out _).mono ?_; rintro e w1 ⟨rfl, rfl⟩)
    go_ret
    exact ⟨rfl, rfl⟩
  · rw [decide_eq_false h]
    have h3 : Hid (∀ w : World, Calls Try.prog 72 #[.int .i64 x] w fun e w' => e = .returned (.int .i64 (x % 4294967296)) ∧ w' = w) := fun w => low_any x w
    have h4 : ¬ x % 4294967296 = x := by omega
    generalize x % 4294967296 = y at *
    clear h
    go_enter Try.func54, Try.ntmps54
    have n4 : (y == x) = false := beq_false h4
    go_wp2_with (go_at_call 72; refine (h3.out _).mono ?_; rintro e w1 ⟨rfl, rfl⟩)
    go_ret
    exact ⟨rfl, rfl⟩
theorem deep_any (l d : Int) (w : World) :
    Calls Try.prog 34 #[.int .i64 l, .int .i64 d] w fun e w' => e = .returned (.bool (decide ((l = 2 ∨ l = 3) ∧ 32 ≤ d))) ∧ w' = w := by
  by_cases h1 : l = 2
  · subst h1
    by_cases h : 32 ≤ d
    · rw [decide_eq_true ⟨Or.inl rfl, h⟩]
      go_enter Try.func34, Try.ntmps34
      go_wp2
      go_ret
      exact ⟨rfl, rfl⟩
    · rw [decide_eq_false (by omega)]
      go_enter Try.func34, Try.ntmps34
      go_wp2
      go_ret
      exact ⟨rfl, rfl⟩
  by_cases h2 : l = 3
  · subst h2
    by_cases h : 32 ≤ d
    · rw [decide_eq_true ⟨Or.inr rfl, h⟩]
      go_enter Try.func34, Try.ntmps34
      go_wp2
      go_ret
      exact ⟨rfl, rfl⟩
    · rw [decide_eq_false (by omega)]
      go_enter Try.func34, Try.ntmps34
      go_wp2
      go_ret
      exact ⟨rfl, rfl⟩
  rw [decide_eq_false (by omega)]
  go_enter Try.func34, Try.ntmps34
  go_wp2
  go_ret
  exact ⟨rfl, rfl⟩
/-- are all fields but Op zero? -/
def iz (a b bi ty : Int) (nl nb ne : Nat) : Bool := decide (a = 0 ∧ b = 0 ∧ bi = 0 ∧ ty = 0 ∧ nl = 0 ∧ nb = 0 ∧ ne = 0)
theorem iz_any (g o : Nat) (a b bi ty : Int) (LA B E : Option Addr) (nl lc nb bc ne ec : Nat) (w : World) (e1 : w.cell? ⟨g, o + 1, none⟩ = some (.int .i64 a)) (e2 : w.cell? ⟨g, o + 2, none⟩ = some (.int .i64 b)) (e3 : w.cell? ⟨g, o + 3, none⟩ = some (.int .i64 bi)) (e4 : w.cell? ⟨g, o + 4, none⟩ = some (.int .i64 ty)) (e5 : w.cell? ⟨g, o + 5, none⟩ = some (.slice LA nl lc)) (e6 : w.cell? ⟨g, o + 6, none⟩ = some (.slice B nb bc)) (e7 : w.cell? ⟨g, o + 7, none⟩ = some (.slice E ne ec)) :
    Calls Try.prog 56 #[.pointer (some ⟨g, o, none⟩)] w fun e w' => e = .returned (.bool (iz a b bi ty nl nb ne)) ∧ w' = w := by
  unfold iz
  have hl := cell_lt e1
  by_cases h1 : a = 0
  case neg =>
    rw [decide_eq_false (by omega)]
    go_enter Try.func56, Try.ntmps56
    go_wp2
    go_ret
    exact ⟨rfl, rfl⟩
  subst h1
  by_cases h2 : b = 0
  case neg =>
    rw [decide_eq_false (by omega)]
    go_enter Try.func56, Try.ntmps56
    go_wp2
    go_ret
    exact ⟨rfl, rfl⟩
  subst h2
  by_cases h3 : bi = 0
  case neg =>
    rw [decide_eq_false (by omega)]
    go_enter Try.func56, Try.ntmps56
    go_wp2
    go_ret
    exact ⟨rfl, rfl⟩
  subst h3
  by_cases h4 : ty = 0
  case neg =>
    rw [decide_eq_false (by omega)]
    go_enter Try.func56, Try.ntmps56
    go_wp2
    go_ret
    exact ⟨rfl, rfl⟩
  subst h4
  by_cases h5 : nl = 0
  case neg =>
    rw [decide_eq_false (by omega)]
    go_enter Try.func56, Try.ntmps56
    go_wp2
    go_ret
    exact ⟨rfl, rfl⟩
  subst h5
  by_cases h6 : nb = 0
  case neg =>
    rw [decide_eq_false (by omega)]
    go_enter Try.func56, Try.ntmps56
    go_wp2
    go_ret
    exact ⟨rfl, rfl⟩
  subst h6
  by_cases h7 : ne = 0
  case neg =>
    rw [decide_eq_false (by omega)]
    have n7 : ((ne : Int) == 0) = false := beq_false (by omega)
    go_enter Try.func56, Try.ntmps56
    go_wp2
    go_ret
    exact ⟨rfl, rfl⟩
  subst h7
  go_enter Try.func56, Try.ntmps56
  go_wp2
  go_ret
  exact ⟨rfl, rfl⟩
end Go.Proofs.Ytkdfmgdadnlnlaa.gi
