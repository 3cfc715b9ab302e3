/- XT: GA, GB, GL, KA, KB, joined. -/
import Derived.Test.YtngciahmoenkiacXE
import Derived.Test.YtngciahmoenkiacXA
import Derived.Test.YtngciahmoenkiacXB
import Derived.Test.YtngciahmoenkiacXN
import Derived.Test.YtngciahmoenkiacXR
import Derived.Test.YtngciahmoenkiacXP
/- package instr: what stands behind an Op (layoutOf), and small questions. -/
set_option linter.unusedVariables false
set_option linter.unusedSimpArgs false
set_option maxRecDepth 100000
set_option maxHeartbeats 4000000
namespace Go.Proofs.Ytngciahmoenkiac.gi
open Go.RowKit
/-- an Op's row of the table -/
def lay (op : Int) : Int :=
  if fo op = 9 then 0 else if fo op = 0 then 1 else if fo op = 1 then 2 else if fo op = 2 then 3 else if fo op = 3 then 4 else if fo op = 4 then 5 else if fo op = 5 then 6 else if fo op = 6 then 7 else if fo op = 7 then 8 else if op = 65 then 9 else if op = 66 then 10 else if op = 67 then 11 else 12
theorem lay_0 (w : World) : Calls Try.prog 66 #[.int .i64 0] w fun e w' => e = .returned (.int .i64 1) ∧ w' = w := by
  go_enter Try.func66, Try.ntmps66
  go_wp2
  go_ret
  exact ⟨rfl, rfl⟩
theorem lay_1 (w : World) : Calls Try.prog 66 #[.int .i64 1] w fun e w' => e = .returned (.int .i64 1) ∧ w' = w := by
  go_enter Try.func66, Try.ntmps66
  go_wp2
  go_ret
  exact ⟨rfl, rfl⟩
theorem lay_15 (w : World) : Calls Try.prog 66 #[.int .i64 15] w fun e w' => e = .returned (.int .i64 1) ∧ w' = w := by
  go_enter Try.func66, Try.ntmps66
  go_wp2
  go_ret
  exact ⟨rfl, rfl⟩
theorem lay_26 (w : World) : Calls Try.prog 66 #[.int .i64 26] w fun e w' => e = .returned (.int .i64 1) ∧ w' = w := by
  go_enter Try.func66, Try.ntmps66
  go_wp2
  go_ret
  exact ⟨rfl, rfl⟩
theorem lay_27 (w : World) : Calls Try.prog 66 #[.int .i64 27] w fun e w' => e = .returned (.int .i64 1) ∧ w' = w := by
  go_enter Try.func66, Try.ntmps66
  go_wp2
  go_ret
  exact ⟨rfl, rfl⟩
theorem lay_2 (w : World) : Calls Try.prog 66 #[.int .i64 2] w fun e w' => e = .returned (.int .i64 2) ∧ w' = w := by
  go_enter Try.func66, Try.ntmps66
  go_wp2
  go_ret
  exact ⟨rfl, rfl⟩
theorem lay_3 (w : World) : Calls Try.prog 66 #[.int .i64 3] w fun e w' => e = .returned (.int .i64 2) ∧ w' = w := by
  go_enter Try.func66, Try.ntmps66
  go_wp2
  go_ret
  exact ⟨rfl, rfl⟩
theorem lay_4 (w : World) : Calls Try.prog 66 #[.int .i64 4] w fun e w' => e = .returned (.int .i64 3) ∧ w' = w := by
  go_enter Try.func66, Try.ntmps66
  go_wp2
  go_ret
  exact ⟨rfl, rfl⟩
theorem lay_12 (w : World) : Calls Try.prog 66 #[.int .i64 12] w fun e w' => e = .returned (.int .i64 4) ∧ w' = w := by
  go_enter Try.func66, Try.ntmps66
  go_wp2
  go_ret
  exact ⟨rfl, rfl⟩
theorem lay_13 (w : World) : Calls Try.prog 66 #[.int .i64 13] w fun e w' => e = .returned (.int .i64 4) ∧ w' = w := by
  go_enter Try.func66, Try.ntmps66
  go_wp2
  go_ret
  exact ⟨rfl, rfl⟩
theorem lay_16 (w : World) : Calls Try.prog 66 #[.int .i64 16] w fun e w' => e = .returned (.int .i64 4) ∧ w' = w := by
  go_enter Try.func66, Try.ntmps66
  go_wp2
  go_ret
  exact ⟨rfl, rfl⟩
theorem lay_14 (w : World) : Calls Try.prog 66 #[.int .i64 14] w fun e w' => e = .returned (.int .i64 5) ∧ w' = w := by
  go_enter Try.func66, Try.ntmps66
  go_wp2
  go_ret
  exact ⟨rfl, rfl⟩
theorem lay_17 (w : World) : Calls Try.prog 66 #[.int .i64 17] w fun e w' => e = .returned (.int .i64 6) ∧ w' = w := by
  go_enter Try.func66, Try.ntmps66
  go_wp2
  go_ret
  exact ⟨rfl, rfl⟩
theorem lay_63 (w : World) : Calls Try.prog 66 #[.int .i64 63] w fun e w' => e = .returned (.int .i64 8) ∧ w' = w := by
  go_enter Try.func66, Try.ntmps66
  go_wp2
  go_ret
  exact ⟨rfl, rfl⟩
theorem lay_64 (w : World) : Calls Try.prog 66 #[.int .i64 64] w fun e w' => e = .returned (.int .i64 8) ∧ w' = w := by
  go_enter Try.func66, Try.ntmps66
  go_wp2
  go_ret
  exact ⟨rfl, rfl⟩
theorem lay_65 (w : World) : Calls Try.prog 66 #[.int .i64 65] w fun e w' => e = .returned (.int .i64 9) ∧ w' = w := by
  go_enter Try.func66, Try.ntmps66
  go_wp2
  go_ret
  exact ⟨rfl, rfl⟩
theorem lay_66 (w : World) : Calls Try.prog 66 #[.int .i64 66] w fun e w' => e = .returned (.int .i64 10) ∧ w' = w := by
  go_enter Try.func66, Try.ntmps66
  go_wp2
  go_ret
  exact ⟨rfl, rfl⟩
theorem lay_67 (w : World) : Calls Try.prog 66 #[.int .i64 67] w fun e w' => e = .returned (.int .i64 11) ∧ w' = w := by
  go_enter Try.func66, Try.ntmps66
  go_wp2
  go_ret
  exact ⟨rfl, rfl⟩
theorem lay_68 (w : World) : Calls Try.prog 66 #[.int .i64 68] w fun e w' => e = .returned (.int .i64 12) ∧ w' = w := by
  go_enter Try.func66, Try.ntmps66
  go_wp2
  go_ret
  exact ⟨rfl, rfl⟩
theorem lay_num (op : Int) (n0 : (op == 0) = false) (n1 : (op == 1) = false) (n15 : (op == 15) = false) (n26 : (op == 26) = false) (n27 : (op == 27) = false) (n2 : (op == 2) = false) (n3 : (op == 3) = false) (n4 : (op == 4) = false) (n12 : (op == 12) = false) (n13 : (op == 13) = false) (n16 : (op == 16) = false) (n14 : (op == 14) = false) (n17 : (op == 17) = false) (n63 : (op == 63) = false) (n64 : (op == 64) = false) (n65 : (op == 65) = false) (n66 : (op == 66) = false) (n67 : (op == 67) = false) (n68 : (op == 68) = false) (h1 : 69 ≤ op) (h2 : op ≤ 191) (w : World) : Calls Try.prog 66 #[.int .i64 op] w fun e w' => e = .returned (.int .i64 1) ∧ w' = w := by
  go_enter Try.func66, Try.ntmps66
  go_wp2
  go_ret
  exact ⟨rfl, rfl⟩
theorem lay_over (op : Int) (n0 : (op == 0) = false) (n1 : (op == 1) = false) (n15 : (op == 15) = false) (n26 : (op == 26) = false) (n27 : (op == 27) = false) (n2 : (op == 2) = false) (n3 : (op == 3) = false) (n4 : (op == 4) = false) (n12 : (op == 12) = false) (n13 : (op == 13) = false) (n16 : (op == 16) = false) (n14 : (op == 14) = false) (n17 : (op == 17) = false) (n63 : (op == 63) = false) (n64 : (op == 64) = false) (n65 : (op == 65) = false) (n66 : (op == 66) = false) (n67 : (op == 67) = false) (n68 : (op == 68) = false) (h1 : 191 < op) (w : World) : Calls Try.prog 66 #[.int .i64 op] w fun e w' => e = .returned (.int .i64 0) ∧ w' = w := by
  go_enter Try.func66, Try.ntmps66
  go_wp2
  go_ret
  exact ⟨rfl, rfl⟩
theorem lay_var (op : Int) (n0 : (op == 0) = false) (n1 : (op == 1) = false) (n15 : (op == 15) = false) (n26 : (op == 26) = false) (n27 : (op == 27) = false) (n2 : (op == 2) = false) (n3 : (op == 3) = false) (n4 : (op == 4) = false) (n12 : (op == 12) = false) (n13 : (op == 13) = false) (n16 : (op == 16) = false) (n14 : (op == 14) = false) (n17 : (op == 17) = false) (n63 : (op == 63) = false) (n64 : (op == 64) = false) (n65 : (op == 65) = false) (n66 : (op == 66) = false) (n67 : (op == 67) = false) (n68 : (op == 68) = false) (h1 : 32 ≤ op) (h2 : op ≤ 36) (w : World) : Calls Try.prog 66 #[.int .i64 op] w fun e w' => e = .returned (.int .i64 4) ∧ w' = w := by
  go_enter Try.func66, Try.ntmps66
  go_wp2
  go_ret
  exact ⟨rfl, rfl⟩
theorem lay_acc (op : Int) (n0 : (op == 0) = false) (n1 : (op == 1) = false) (n15 : (op == 15) = false) (n26 : (op == 26) = false) (n27 : (op == 27) = false) (n2 : (op == 2) = false) (n3 : (op == 3) = false) (n4 : (op == 4) = false) (n12 : (op == 12) = false) (n13 : (op == 13) = false) (n16 : (op == 16) = false) (n14 : (op == 14) = false) (n17 : (op == 17) = false) (n63 : (op == 63) = false) (n64 : (op == 64) = false) (n65 : (op == 65) = false) (n66 : (op == 66) = false) (n67 : (op == 67) = false) (n68 : (op == 68) = false) (h1 : 40 ≤ op) (h2 : op ≤ 62) (w : World) : Calls Try.prog 66 #[.int .i64 op] w fun e w' => e = .returned (.int .i64 7) ∧ w' = w := by
  go_enter Try.func66, Try.ntmps66
  go_wp2
  go_ret
  exact ⟨rfl, rfl⟩
theorem lay_low (op : Int) (n0 : (op == 0) = false) (n1 : (op == 1) = false) (n15 : (op == 15) = false) (n26 : (op == 26) = false) (n27 : (op == 27) = false) (n2 : (op == 2) = false) (n3 : (op == 3) = false) (n4 : (op == 4) = false) (n12 : (op == 12) = false) (n13 : (op == 13) = false) (n16 : (op == 16) = false) (n14 : (op == 14) = false) (n17 : (op == 17) = false) (n63 : (op == 63) = false) (n64 : (op == 64) = false) (n65 : (op == 65) = false) (n66 : (op == 66) = false) (n67 : (op == 67) = false) (n68 : (op == 68) = false) (h1 : op < 32) (w : World) : Calls Try.prog 66 #[.int .i64 op] w fun e w' => e = .returned (.int .i64 0) ∧ w' = w := by
  go_enter Try.func66, Try.ntmps66
  go_wp2
  go_ret
  exact ⟨rfl, rfl⟩
theorem lay_mid (op : Int) (n0 : (op == 0) = false) (n1 : (op == 1) = false) (n15 : (op == 15) = false) (n26 : (op == 26) = false) (n27 : (op == 27) = false) (n2 : (op == 2) = false) (n3 : (op == 3) = false) (n4 : (op == 4) = false) (n12 : (op == 12) = false) (n13 : (op == 13) = false) (n16 : (op == 16) = false) (n14 : (op == 14) = false) (n17 : (op == 17) = false) (n63 : (op == 63) = false) (n64 : (op == 64) = false) (n65 : (op == 65) = false) (n66 : (op == 66) = false) (n67 : (op == 67) = false) (n68 : (op == 68) = false) (h1 : 36 < op) (h2 : op < 40) (w : World) : Calls Try.prog 66 #[.int .i64 op] w fun e w' => e = .returned (.int .i64 0) ∧ w' = w := by
  go_enter Try.func66, Try.ntmps66
  go_wp2
  go_ret
  exact ⟨rfl, rfl⟩
theorem lay_is (op v : Int) (h : lay op = v) (w : World) (h2 : Calls Try.prog 66 #[.int .i64 op] w fun e w' => e = .returned (.int .i64 v) ∧ w' = w) : Calls Try.prog 66 #[.int .i64 op] w fun e w' => e = .returned (.int .i64 (lay op)) ∧ w' = w := by rw [h]; exact h2
theorem lay_any (op : Int) (w : World) : Calls Try.prog 66 #[.int .i64 op] w fun e w' => e = .returned (.int .i64 (lay op)) ∧ w' = w := by
  by_cases e0 : op = 0
  · subst e0; exact lay_is _ _ (by decide) w (lay_0 w)
  by_cases e1 : op = 1
  · subst e1; exact lay_is _ _ (by decide) w (lay_1 w)
  by_cases e15 : op = 15
  · subst e15; exact lay_is _ _ (by decide) w (lay_15 w)
  by_cases e26 : op = 26
  · subst e26; exact lay_is _ _ (by decide) w (lay_26 w)
  by_cases e27 : op = 27
  · subst e27; exact lay_is _ _ (by decide) w (lay_27 w)
  by_cases e2 : op = 2
  · subst e2; exact lay_is _ _ (by decide) w (lay_2 w)
  by_cases e3 : op = 3
  · subst e3; exact lay_is _ _ (by decide) w (lay_3 w)
  by_cases e4 : op = 4
  · subst e4; exact lay_is _ _ (by decide) w (lay_4 w)
  by_cases e12 : op = 12
  · subst e12; exact lay_is _ _ (by decide) w (lay_12 w)
  by_cases e13 : op = 13
  · subst e13; exact lay_is _ _ (by decide) w (lay_13 w)
  by_cases e16 : op = 16
  · subst e16; exact lay_is _ _ (by decide) w (lay_16 w)
  by_cases e14 : op = 14
  · subst e14; exact lay_is _ _ (by decide) w (lay_14 w)
  by_cases e17 : op = 17
  · subst e17; exact lay_is _ _ (by decide) w (lay_17 w)
  by_cases e63 : op = 63
  · subst e63; exact lay_is _ _ (by decide) w (lay_63 w)
  by_cases e64 : op = 64
  · subst e64; exact lay_is _ _ (by decide) w (lay_64 w)
  by_cases e65 : op = 65
  · subst e65; exact lay_is _ _ (by decide) w (lay_65 w)
  by_cases e66 : op = 66
  · subst e66; exact lay_is _ _ (by decide) w (lay_66 w)
  by_cases e67 : op = 67
  · subst e67; exact lay_is _ _ (by decide) w (lay_67 w)
  by_cases e68 : op = 68
  · subst e68; exact lay_is _ _ (by decide) w (lay_68 w)
  by_cases k1 : 69 ≤ op ∧ op ≤ 191
  · have e : fo op = 0 := by unfold fo; (repeat' split) <;> omega
    exact lay_is op 1 (by simp [lay, e]) w (lay_num op (beq_false e0) (beq_false e1) (beq_false e15) (beq_false e26) (beq_false e27) (beq_false e2) (beq_false e3) (beq_false e4) (beq_false e12) (beq_false e13) (beq_false e16) (beq_false e14) (beq_false e17) (beq_false e63) (beq_false e64) (beq_false e65) (beq_false e66) (beq_false e67) (beq_false e68) k1.1 k1.2 w)
  by_cases k2 : 191 < op
  · have e : fo op = 9 := by unfold fo; (repeat' split) <;> omega
    exact lay_is op 0 (by simp [lay, e]) w (lay_over op (beq_false e0) (beq_false e1) (beq_false e15) (beq_false e26) (beq_false e27) (beq_false e2) (beq_false e3) (beq_false e4) (beq_false e12) (beq_false e13) (beq_false e16) (beq_false e14) (beq_false e17) (beq_false e63) (beq_false e64) (beq_false e65) (beq_false e66) (beq_false e67) (beq_false e68) k2 w)
  by_cases k3 : 32 ≤ op ∧ op ≤ 36
  · have e : fo op = 3 := by unfold fo; (repeat' split) <;> omega
    exact lay_is op 4 (by simp [lay, e]) w (lay_var op (beq_false e0) (beq_false e1) (beq_false e15) (beq_false e26) (beq_false e27) (beq_false e2) (beq_false e3) (beq_false e4) (beq_false e12) (beq_false e13) (beq_false e16) (beq_false e14) (beq_false e17) (beq_false e63) (beq_false e64) (beq_false e65) (beq_false e66) (beq_false e67) (beq_false e68) k3.1 k3.2 w)
  by_cases k4 : 40 ≤ op ∧ op ≤ 62
  · have e : fo op = 6 := by unfold fo; (repeat' split) <;> omega
    exact lay_is op 7 (by simp [lay, e]) w (lay_acc op (beq_false e0) (beq_false e1) (beq_false e15) (beq_false e26) (beq_false e27) (beq_false e2) (beq_false e3) (beq_false e4) (beq_false e12) (beq_false e13) (beq_false e16) (beq_false e14) (beq_false e17) (beq_false e63) (beq_false e64) (beq_false e65) (beq_false e66) (beq_false e67) (beq_false e68) k4.1 k4.2 w)
  by_cases k5 : op < 32
  · have e : fo op = 9 := by unfold fo; (repeat' split) <;> omega
    exact lay_is op 0 (by simp [lay, e]) w (lay_low op (beq_false e0) (beq_false e1) (beq_false e15) (beq_false e26) (beq_false e27) (beq_false e2) (beq_false e3) (beq_false e4) (beq_false e12) (beq_false e13) (beq_false e16) (beq_false e14) (beq_false e17) (beq_false e63) (beq_false e64) (beq_false e65) (beq_false e66) (beq_false e67) (beq_false e68) k5 w)
  by_cases k6 : 36 < op ∧ op < 40
  · have e : fo op = 9 := by unfold fo; (repeat' split) <;> omega
    exact lay_is op 0 (by simp [lay, e]) w (lay_mid op (beq_false e0) (beq_false e1) (beq_false e15) (beq_false e26) (beq_false e27) (beq_false e2) (beq_false e3) (beq_false e4) (beq_false e12) (beq_false e13) (beq_false e16) (beq_false e14) (beq_false e17) (beq_false e63) (beq_false e64) (beq_false e65) (beq_false e66) (beq_false e67) (beq_false e68) k6.1 k6.2 w)
  omega
end Go.Proofs.Ytngciahmoenkiac.gi


/- package instr: small questions: words, types, depths, labels, fields that are zero. -/
set_option linter.unusedVariables false
set_option linter.unusedSimpArgs false
set_option maxRecDepth 100000
set_option maxHeartbeats 4000000
namespace Go.Proofs.Ytngciahmoenkiac.gi
open Go.RowKit
theorem ret_int {x y : Int} (h : x = y) : Ending.returned (.int .i64 x) = .returned (.int .i64 y) := by rw [h]
theorem low_any (x : Int) (w : World) :
    Calls Try.prog 50 #[.int .i64 x] w fun e w' => e = .returned (.int .i64 (x % 4294967296)) ∧ w' = w := by
  go_enter Try.func50, Try.ntmps50
  go_wp2
  go_ret
  refine ⟨?_, rfl⟩
  congr 2
theorem sign_any (x : Int) (w : World) :
    Calls Try.prog 83 #[.int .i64 x] w fun e w' => e = .returned (.int .i64 (sg3 x)) ∧ w' = w := by
  have h : sg3 x = wrap32 (x % 4294967296) := by unfold sg3 wrap32; split <;> omega
  rw [h]
  go_enter Try.func83, Try.ntmps83
  go_wp2
  go_ret
  exact ⟨ret_int (by simp only [wrap64, wrap32]; omega), rfl⟩
theorem istype_any (t : Int) (w : World) :
    Calls Try.prog 54 #[.int .i64 t] w fun e w' => e = .returned (.bool (decide (124 ≤ t ∧ t ≤ 127))) ∧ w' = w := by
  by_cases h1 : t = 127 ∨ t = 126 ∨ t = 125 ∨ t = 124
  · rw [decide_eq_true (by omega)]
    rcases h1 with rfl | rfl | rfl | rfl
    all_goals
      go_enter Try.func54, Try.ntmps54
      go_wp2
      go_ret
      exact ⟨rfl, rfl⟩
  · rw [decide_eq_false (by omega)]
    have a1 : ¬ t = 127 := by omega
    have a2 : ¬ t = 126 := by omega
    have a3 : ¬ t = 125 := by omega
    have a4 : ¬ t = 124 := by omega
    clear h1
    go_enter Try.func54, Try.ntmps54
    go_wp2
    go_ret
    exact ⟨rfl, rfl⟩
/-- may a block have that type? -/
def bty (t : Int) : Bool := decide (t = 64 ∨ (124 ≤ t ∧ t ≤ 127))
theorem bty_any (t : Int) (w : World) :
    Calls Try.prog 72 #[.int .i64 t] w fun e w' => e = .returned (.bool (bty t)) ∧ w' = w := by
  unfold bty
  by_cases h1 : t = 64
  · subst h1
    go_enter Try.func72, Try.ntmps72
    go_wp2
    go_ret
    exact ⟨rfl, rfl⟩
  · have n1 : (t == 64) = false := beq_false h1
    by_cases h2 : 124 ≤ t ∧ t ≤ 127
    · rw [decide_eq_true (Or.inr h2)]
      have h3 : Hid (∀ w : World, Calls Try.prog 54 #[.int .i64 t] w fun e w' => e = .returned (.bool true) ∧ w' = w) := fun w => by have := istype_any t w; rwa [decide_eq_true h2] at this
      clear h2
      go_enter Try.func72, Try.ntmps72
      go_wp2_with (go_at_call 54; refine (h3.out _).mono ?_; rintro e w1 ⟨rfl, rfl⟩)
      go_ret
      exact ⟨rfl, rfl⟩
    · rw [decide_eq_false (by omega)]
      have h3 : Hid (∀ w : World, Calls Try.prog 54 #[.int .i64 t] w fun e w' => e = .returned (.bool false) ∧ w' = w) := fun w => by have := istype_any t w; rwa [decide_eq_false h2] at this
      clear h2
      go_enter Try.func72, Try.ntmps72
      go_wp2_with (go_at_call 54; refine (h3.out _).mono ?_; rintro e w1 ⟨rfl, rfl⟩)
      go_ret
      exact ⟨rfl, rfl⟩
/-- is a number one of 32 bits? -/
def wrd (x : Int) : Bool := decide (0 ≤ x ∧ x ≤ 4294967295)
theorem wrd_any (x : Int) (w : World) :
    Calls Try.prog 73 #[.int .i64 x] w fun e w' => e = .returned (.bool (wrd x)) ∧ w' = w := by
  unfold wrd
  by_cases h : 0 ≤ x ∧ x ≤ 4294967295
  · rw [decide_eq_true h]
    have h3 : Hid (∀ w : World, Calls Try.prog 50 #[.int .i64 x] w fun e w' => e = .returned (.int .i64 x) ∧ w' = w) := fun w => by have := low_any x w; rwa [Int.emod_eq_of_lt h.1 (by omega)] at this
    clear h
    go_enter Try.func73, Try.ntmps73
    go_wp2_with (go_at_call 50; refine (h3.out _).mono ?_; rintro e w1 ⟨rfl, rfl⟩)
    go_ret
    exact ⟨rfl, rfl⟩
  · rw [decide_eq_false h]
    have h3 : Hid (∀ w : World, Calls Try.prog 50 #[.int .i64 x] w fun e w' => e = .returned (.int .i64 (x % 4294967296)) ∧ w' = w) := fun w => low_any x w
    have h4 : ¬ x % 4294967296 = x := by omega
    generalize x % 4294967296 = y at *
    clear h
    go_enter Try.func73, Try.ntmps73
    have n4 : (y == x) = false := beq_false h4
    go_wp2_with (go_at_call 50; refine (h3.out _).mono ?_; rintro e w1 ⟨rfl, rfl⟩)
    go_ret
    exact ⟨rfl, rfl⟩
theorem deep_any (l d : Int) (w : World) :
    Calls Try.prog 65 #[.int .i64 l, .int .i64 d] w fun e w' => e = .returned (.bool (decide ((l = 2 ∨ l = 3) ∧ 32 ≤ d))) ∧ w' = w := by
  by_cases h1 : l = 2
  · subst h1
    by_cases h : 32 ≤ d
    · rw [decide_eq_true ⟨Or.inl rfl, h⟩]
      go_enter Try.func65, Try.ntmps65
      go_wp2
      go_ret
      exact ⟨rfl, rfl⟩
    · rw [decide_eq_false (by omega)]
      go_enter Try.func65, Try.ntmps65
      go_wp2
      go_ret
      exact ⟨rfl, rfl⟩
  by_cases h2 : l = 3
  · subst h2
    by_cases h : 32 ≤ d
    · rw [decide_eq_true ⟨Or.inr rfl, h⟩]
      go_enter Try.func65, Try.ntmps65
      go_wp2
      go_ret
      exact ⟨rfl, rfl⟩
    · rw [decide_eq_false (by omega)]
      go_enter Try.func65, Try.ntmps65
      go_wp2
      go_ret
      exact ⟨rfl, rfl⟩
  rw [decide_eq_false (by omega)]
  go_enter Try.func65, Try.ntmps65
  go_wp2
  go_ret
  exact ⟨rfl, rfl⟩
/-- are all fields but Op zero? -/
def iz (a b bi ty : Int) (nl nb ne : Nat) : Bool := decide (a = 0 ∧ b = 0 ∧ bi = 0 ∧ ty = 0 ∧ nl = 0 ∧ nb = 0 ∧ ne = 0)
theorem iz_any (g o : Nat) (a b bi ty : Int) (LA B E : Option Addr) (nl lc nb bc ne ec : Nat) (w : World) (e1 : w.cell? ⟨g, o + 1, none⟩ = some (.int .i64 a)) (e2 : w.cell? ⟨g, o + 2, none⟩ = some (.int .i64 b)) (e3 : w.cell? ⟨g, o + 3, none⟩ = some (.int .i64 bi)) (e4 : w.cell? ⟨g, o + 4, none⟩ = some (.int .i64 ty)) (e5 : w.cell? ⟨g, o + 5, none⟩ = some (.slice LA nl lc)) (e6 : w.cell? ⟨g, o + 6, none⟩ = some (.slice B nb bc)) (e7 : w.cell? ⟨g, o + 7, none⟩ = some (.slice E ne ec)) :
    Calls Try.prog 75 #[.pointer (some ⟨g, o, none⟩)] w fun e w' => e = .returned (.bool (iz a b bi ty nl nb ne)) ∧ w' = w := by
  unfold iz
  have hl := cell_lt e1
  by_cases h1 : a = 0
  case neg =>
    rw [decide_eq_false (by omega)]
    go_enter Try.func75, Try.ntmps75
    go_wp2
    go_ret
    exact ⟨rfl, rfl⟩
  subst h1
  by_cases h2 : b = 0
  case neg =>
    rw [decide_eq_false (by omega)]
    go_enter Try.func75, Try.ntmps75
    go_wp2
    go_ret
    exact ⟨rfl, rfl⟩
  subst h2
  by_cases h3 : bi = 0
  case neg =>
    rw [decide_eq_false (by omega)]
    go_enter Try.func75, Try.ntmps75
    go_wp2
    go_ret
    exact ⟨rfl, rfl⟩
  subst h3
  by_cases h4 : ty = 0
  case neg =>
    rw [decide_eq_false (by omega)]
    go_enter Try.func75, Try.ntmps75
    go_wp2
    go_ret
    exact ⟨rfl, rfl⟩
  subst h4
  by_cases h5 : nl = 0
  case neg =>
    rw [decide_eq_false (by omega)]
    go_enter Try.func75, Try.ntmps75
    go_wp2
    go_ret
    exact ⟨rfl, rfl⟩
  subst h5
  by_cases h6 : nb = 0
  case neg =>
    rw [decide_eq_false (by omega)]
    go_enter Try.func75, Try.ntmps75
    go_wp2
    go_ret
    exact ⟨rfl, rfl⟩
  subst h6
  by_cases h7 : ne = 0
  case neg =>
    rw [decide_eq_false (by omega)]
    have n7 : ((ne : Int) == 0) = false := beq_false (by omega)
    go_enter Try.func75, Try.ntmps75
    go_wp2
    go_ret
    exact ⟨rfl, rfl⟩
  subst h7
  go_enter Try.func75, Try.ntmps75
  go_wp2
  go_ret
  exact ⟨rfl, rfl⟩
end Go.Proofs.Ytngciahmoenkiac.gi


/- Over this seat's translation: what a layout's number says of an Op. -/
set_option linter.unusedVariables false
set_option linter.unusedSimpArgs false
set_option maxRecDepth 100000
set_option maxHeartbeats 4000000
namespace Go.Proofs.Ytngciahmoenkiac.gi
open Go.RowKit
theorem lay_rng (op : Int) : 0 ≤ lay op ∧ lay op ≤ 12 := by
  unfold lay
  repeat' split
  all_goals omega
theorem lay_inv (op : Int) : (lay op = 0 ∧ fo op = 9) ∨ (lay op = 1 ∧ fo op = 0) ∨ (lay op = 2 ∧ fo op = 1) ∨ (lay op = 3 ∧ fo op = 2) ∨ (lay op = 4 ∧ fo op = 3) ∨ (lay op = 5 ∧ fo op = 4) ∨ (lay op = 6 ∧ fo op = 5) ∨ (lay op = 7 ∧ fo op = 6) ∨ (lay op = 8 ∧ fo op = 7) ∨ (lay op = 9 ∧ fo op = 8 ∧ op = 65) ∨ (lay op = 10 ∧ fo op = 8 ∧ op = 66) ∨ (lay op = 11 ∧ fo op = 8 ∧ op = 67) ∨ (lay op = 12 ∧ fo op = 8 ∧ op = 68) := by
  have hr := fo_rng op
  have h8 : fo op = 8 → 65 ≤ op ∧ op ≤ 68 := by
    intro h
    unfold fo at h
    repeat' split at h
    all_goals first | omega | assumption
  by_cases h : fo op = 8
  · have := h8 h
    obtain rfl | rfl | rfl | rfl : op = 65 ∨ op = 66 ∨ op = 67 ∨ op = 68 := by omega
    all_goals simp (decide := true) [lay, h]
  · have : fo op = 0 ∨ fo op = 1 ∨ fo op = 2 ∨ fo op = 3 ∨ fo op = 4 ∨ fo op = 5 ∨ fo op = 6 ∨ fo op = 7 ∨ fo op = 9 := by omega
    rcases this with h | h | h | h | h | h | h | h | h
    all_goals simp [lay, h]
end Go.Proofs.Ytngciahmoenkiac.gi


/- package instr's reader of bytes: its small functions. -/
set_option linter.unusedVariables false
set_option linter.unusedSimpArgs false
set_option maxRecDepth 100000
set_option maxHeartbeats 8000000
namespace Go.Proofs.Ytngciahmoenkiac.gi
open Go.RowKit
/-- a reader's fields -/
def pF (s : ByteArray) (st : Rst) (j : Nat) : Value := [Value.string s, .int .i64 st.at_, .int .i64 (8192 - st.count), .int .i64 st.code].getD j undef
variable {q : Nat} {w wr wr' : World} {s : ByteArray} {st st' : Rst}
theorem pset1 {a b c a' : Int} : ∀ j, j < 4 → (if j = 1 then Value.int .i64 a' else pF s ⟨a, b, c⟩ j) = pF s ⟨a', b, c⟩ j := fun j hj => by
  match j, hj with
  | 0, _ => rfl
  | 1, _ => rfl
  | 2, _ => rfl
  | 3, _ => rfl
theorem pset3 {a b c b' : Int} : ∀ j, j < 4 → (if j = 3 then Value.int .i64 b' else pF s ⟨a, b, c⟩ j) = pF s ⟨a, b', c⟩ j := fun j hj => by
  match j, hj with
  | 0, _ => rfl
  | 1, _ => rfl
  | 2, _ => rfl
  | 3, _ => rfl
theorem ul_zero (s : ByteArray) (a b : Int) (h : ¬ (ulR s a b).2.2 = 0) : (ulR s a b).1 = 0 := by
  unfold ulR at *
  split
  · rename_i h1
    rw [if_pos h1] at h
    split
    · rfl
    · rename_i h2; rw [if_neg h2] at h; exact absurd rfl h
  · rfl
theorem us_zero (s : ByteArray) (a b : Int) (h : ¬ (usR s a b).2.2 = 0) : (usR s a b).1 = 0 := by
  unfold usR at *
  split
  · rename_i h1
    rw [if_pos h1] at h
    split
    · rfl
    · rename_i h2; rw [if_neg h2] at h; exact absurd rfl h
  · rfl
end Go.Proofs.Ytngciahmoenkiac.gi


/- package instr's reader: zero, blockType, lowest, labels. -/
set_option linter.unusedVariables false
set_option linter.unusedSimpArgs false
set_option maxRecDepth 100000
set_option maxHeartbeats 8000000
namespace Go.Proofs.Ytngciahmoenkiac.gi
open Go.RowKit
variable {q : Nat} {w wr W W' : World} {s : ByteArray} {st st' : Rst} {lab : Nat → Nat} {l : List Int} {v : Value}
/-- a new block without a mark -/
def Zn (B : Nat) (W : World) (k : Nat) : Prop := B ≤ k ∧ Nf W k
theorem nf_of {k : Nat} (h : W'.heap[k]? = W.heap[k]?) (hn : Nf W k) : Nf W' k := fun i => (World.frozen?_of_block (w := W) (a := ⟨k, i, none⟩) h).trans (hn i)
theorem nf_row {k : Nat} {cur : Array Value} {e : TypeId} (h : W.heap[k]? = some (.cells cur e (0, 0))) : Nf W k := fun i => by simp [World.frozen?, h]
theorem zn_mv {B B' : Nat} (hB : B' ≤ B) (hs : ∀ k, B ≤ k → k < W.heap.size → W'.heap[k]? = W.heap[k]?) : ∀ k, Zn B W k → k < W.heap.size → Zn B' W' k ∧ W'.heap[k]? = W.heap[k]? := fun k hk hl => ⟨⟨Nat.le_trans hB hk.1, nf_of (hs k hk.1 hl) hk.2⟩, hs k hk.1 hl⟩
theorem rtyp_bty (s : ByteArray) (st : Rst) : rtyp s st = if bty (rbyte s st).1 = true then (rbyte s st).2 else rfail (rbyte s st).2 1400 := by
  unfold rtyp bty
  by_cases h : (rbyte s st).1 = 64 ∨ (124 ≤ (rbyte s st).1 ∧ (rbyte s st).1 ≤ 127)
  · rw [if_neg (by omega), if_pos (by simpa using h)]
  · have hd : ¬ decide ((rbyte s st).1 = 64 ∨ (124 ≤ (rbyte s st).1 ∧ (rbyte s st).1 ≤ 127)) = true := by simpa using h
    by_cases hc : (rbyte s st).2.code = 0
    · rw [if_pos ⟨hc, by omega, by omega⟩, if_neg hd]
    · rw [if_neg (fun x => hc x.1), if_neg hd]
      unfold rfail
      rw [if_neg hc]
theorem rcap_in {s : ByteArray} {st : Rst} (h : Rin s st) (x : Int) : Rin s (rcap x st) := by
  unfold rcap
  split
  · exact rfail_in h _
  · exact h
end Go.Proofs.Ytngciahmoenkiac.gi

