/- XT: GA, GB, GL, KA, KB, joined. -/
import Derived.Test.YtngciahmoenkiabXE
import Derived.Test.YtngciahmoenkiabXA
import Derived.Test.YtngciahmoenkiabXB
import Derived.Test.YtngciahmoenkiabXN
import Derived.Test.YtngciahmoenkiabXR
import Derived.Test.YtngciahmoenkiabXP
/- package instr: what stands behind an Op (layoutOf), and small questions. -/
set_option linter.unusedVariables false
set_option linter.unusedSimpArgs false
set_option maxRecDepth 100000
set_option maxHeartbeats 4000000
namespace Go.Proofs.Ytngciahmoenkiab.gi
open Go.RowKit
/-- an Op's row of the table -/
def lay (op : Int) : Int :=
  if fo op = 9 then 0 else if fo op = 0 then 1 else if fo op = 1 then 2 else if fo op = 2 then 3 else if fo op = 3 then 4 else if fo op = 4 then 5 else if fo op = 5 then 6 else if fo op = 6 then 7 else if fo op = 7 then 8 else if op = 65 then 9 else if op = 66 then 10 else if op = 67 then 11 else 12
theorem lay_0 (w : World) : Calls Try.prog 74 #[.int .i64 0] w fun e w' => e = .returned (.int .i64 1) ∧ w' = w := by
  go_enter Try.func74, Try.ntmps74
  go_wp2
  go_ret
  exact ⟨rfl, rfl⟩
theorem lay_1 (w : World) : Calls Try.prog 74 #[.int .i64 1] w fun e w' => e = .returned (.int .i64 1) ∧ w' = w := by
  go_enter Try.func74, Try.ntmps74
  go_wp2
  go_ret
  exact ⟨rfl, rfl⟩
theorem lay_15 (w : World) : Calls Try.prog 74 #[.int .i64 15] w fun e w' => e = .returned (.int .i64 1) ∧ w' = w := by
  go_enter Try.func74, Try.ntmps74
  go_wp2
  go_ret
  exact ⟨rfl, rfl⟩
theorem lay_26 (w : World) : Calls Try.prog 74 #[.int .i64 26] w fun e w' => e = .returned (.int .i64 1) ∧ w' = w := by
  go_enter Try.func74, Try.ntmps74
  go_wp2
  go_ret
  exact ⟨rfl, rfl⟩
theorem lay_27 (w : World) : Calls Try.prog 74 #[.int .i64 27] w fun e w' => e = .returned (.int .i64 1) ∧ w' = w := by
  go_enter Try.func74, Try.ntmps74
  go_wp2
  go_ret
  exact ⟨rfl, rfl⟩
theorem lay_2 (w : World) : Calls Try.prog 74 #[.int .i64 2] w fun e w' => e = .returned (.int .i64 2) ∧ w' = w := by
  go_enter Try.func74, Try.ntmps74
  go_wp2
  go_ret
  exact ⟨rfl, rfl⟩
theorem lay_3 (w : World) : Calls Try.prog 74 #[.int .i64 3] w fun e w' => e = .returned (.int .i64 2) ∧ w' = w := by
  go_enter Try.func74, Try.ntmps74
  go_wp2
  go_ret
  exact ⟨rfl, rfl⟩
theorem lay_4 (w : World) : Calls Try.prog 74 #[.int .i64 4] w fun e w' => e = .returned (.int .i64 3) ∧ w' = w := by
  go_enter Try.func74, Try.ntmps74
  go_wp2
  go_ret
  exact ⟨rfl, rfl⟩
theorem lay_12 (w : World) : Calls Try.prog 74 #[.int .i64 12] w fun e w' => e = .returned (.int .i64 4) ∧ w' = w := by
  go_enter Try.func74, Try.ntmps74
  go_wp2
  go_ret
  exact ⟨rfl, rfl⟩
theorem lay_13 (w : World) : Calls Try.prog 74 #[.int .i64 13] w fun e w' => e = .returned (.int .i64 4) ∧ w' = w := by
  go_enter Try.func74, Try.ntmps74
  go_wp2
  go_ret
  exact ⟨rfl, rfl⟩
theorem lay_16 (w : World) : Calls Try.prog 74 #[.int .i64 16] w fun e w' => e = .returned (.int .i64 4) ∧ w' = w := by
  go_enter Try.func74, Try.ntmps74
  go_wp2
  go_ret
  exact ⟨rfl, rfl⟩
theorem lay_14 (w : World) : Calls Try.prog 74 #[.int .i64 14] w fun e w' => e = .returned (.int .i64 5) ∧ w' = w := by
  go_enter Try.func74, Try.ntmps74
  go_wp2
  go_ret
  exact ⟨rfl, rfl⟩
theorem lay_17 (w : World) : Calls Try.prog 74 #[.int .i64 17] w fun e w' => e = .returned (.int .i64 6) ∧ w' = w := by
  go_enter Try.func74, Try.ntmps74
  go_wp2
  go_ret
  exact ⟨rfl, rfl⟩
theorem lay_63 (w : World) : Calls Try.prog 74 #[.int .i64 63] w fun e w' => e = .returned (.int .i64 8) ∧ w' = w := by
  go_enter Try.func74, Try.ntmps74
  go_wp2
  go_ret
  exact ⟨rfl, rfl⟩
theorem lay_64 (w : World) : Calls Try.prog 74 #[.int .i64 64] w fun e w' => e = .returned (.int .i64 8) ∧ w' = w := by
  go_enter Try.func74, Try.ntmps74
  go_wp2
  go_ret
  exact ⟨rfl, rfl⟩
theorem lay_65 (w : World) : Calls Try.prog 74 #[.int .i64 65] w fun e w' => e = .returned (.int .i64 9) ∧ w' = w := by
  go_enter Try.func74, Try.ntmps74
  go_wp2
  go_ret
  exact ⟨rfl, rfl⟩
theorem lay_66 (w : World) : Calls Try.prog 74 #[.int .i64 66] w fun e w' => e = .returned (.int .i64 10) ∧ w' = w := by
  go_enter Try.func74, Try.ntmps74
  go_wp2
  go_ret
  exact ⟨rfl, rfl⟩
theorem lay_67 (w : World) : Calls Try.prog 74 #[.int .i64 67] w fun e w' => e = .returned (.int .i64 11) ∧ w' = w := by
  go_enter Try.func74, Try.ntmps74
  go_wp2
  go_ret
  exact ⟨rfl, rfl⟩
theorem lay_68 (w : World) : Calls Try.prog 74 #[.int .i64 68] w fun e w' => e = .returned (.int .i64 12) ∧ w' = w := by
  go_enter Try.func74, Try.ntmps74
  go_wp2
  go_ret
  exact ⟨rfl, rfl⟩
theorem lay_num (op : Int) (n0 : (op == 0) = false) (n1 : (op == 1) = false) (n15 : (op == 15) = false) (n26 : (op == 26) = false) (n27 : (op == 27) = false) (n2 : (op == 2) = false) (n3 : (op == 3) = false) (n4 : (op == 4) = false) (n12 : (op == 12) = false) (n13 : (op == 13) = false) (n16 : (op == 16) = false) (n14 : (op == 14) = false) (n17 : (op == 17) = false) (n63 : (op == 63) = false) (n64 : (op == 64) = false) (n65 : (op == 65) = false) (n66 : (op == 66) = false) (n67 : (op == 67) = false) (n68 : (op == 68) = false) (h1 : 69 ≤ op) (h2 : op ≤ 191) (w : World) : Calls Try.prog 74 #[.int .i64 op] w fun e w' => e = .returned (.int .i64 1) ∧ w' = w := by
  go_enter Try.func74, Try.ntmps74
  go_wp2
  go_ret
  exact ⟨rfl, rfl⟩
theorem lay_over (op : Int) (n0 : (op == 0) = false) (n1 : (op == 1) = false) (n15 : (op == 15) = false) (n26 : (op == 26) = false) (n27 : (op == 27) = false) (n2 : (op == 2) = false) (n3 : (op == 3) = false) (n4 : (op == 4) = false) (n12 : (op == 12) = false) (n13 : (op == 13) = false) (n16 : (op == 16) = false) (n14 : (op == 14) = false) (n17 : (op == 17) = false) (n63 : (op == 63) = false) (n64 : (op == 64) = false) (n65 : (op == 65) = false) (n66 : (op == 66) = false) (n67 : (op == 67) = false) (n68 : (op == 68) = false) (h1 : 191 < op) (w : World) : Calls Try.prog 74 #[.int .i64 op] w fun e w' => e = .returned (.int .i64 0) ∧ w' = w := by
  go_enter Try.func74, Try.ntmps74
  go_wp2
  go_ret
  exact ⟨rfl, rfl⟩
theorem lay_var (op : Int) (n0 : (op == 0) = false) (n1 : (op == 1) = false) (n15 : (op == 15) = false) (n26 : (op == 26) = false) (n27 : (op == 27) = false) (n2 : (op == 2) = false) (n3 : (op == 3) = false) (n4 : (op == 4) = false) (n12 : (op == 12) = false) (n13 : (op == 13) = false) (n16 : (op == 16) = false) (n14 : (op == 14) = false) (n17 : (op == 17) = false) (n63 : (op == 63) = false) (n64 : (op == 64) = false) (n65 : (op == 65) = false) (n66 : (op == 66) = false) (n67 : (op == 67) = false) (n68 : (op == 68) = false) (h1 : 32 ≤ op) (h2 : op ≤ 36) (w : World) : Calls Try.prog 74 #[.int .i64 op] w fun e w' => e = .returned (.int .i64 4) ∧ w' = w := by
  go_enter Try.func74, Try.ntmps74
  go_wp2
  go_ret
  exact ⟨rfl, rfl⟩
theorem lay_acc (op : Int) (n0 : (op == 0) = false) (n1 : (op == 1) = false) (n15 : (op == 15) = false) (n26 : (op == 26) = false) (n27 : (op == 27) = false) (n2 : (op == 2) = false) (n3 : (op == 3) = false) (n4 : (op == 4) = false) (n12 : (op == 12) = false) (n13 : (op == 13) = false) (n16 : (op == 16) = false) (n14 : (op == 14) = false) (n17 : (op == 17) = false) (n63 : (op == 63) = false) (n64 : (op == 64) = false) (n65 : (op == 65) = false) (n66 : (op == 66) = false) (n67 : (op == 67) = false) (n68 : (op == 68) = false) (h1 : 40 ≤ op) (h2 : op ≤ 62) (w : World) : Calls Try.prog 74 #[.int .i64 op] w fun e w' => e = .returned (.int .i64 7) ∧ w' = w := by
  go_enter Try.func74, Try.ntmps74
  go_wp2
  go_ret
  exact ⟨rfl, rfl⟩
theorem lay_low (op : Int) (n0 : (op == 0) = false) (n1 : (op == 1) = false) (n15 : (op == 15) = false) (n26 : (op == 26) = false) (n27 : (op == 27) = false) (n2 : (op == 2) = false) (n3 : (op == 3) = false) (n4 : (op == 4) = false) (n12 : (op == 12) = false) (n13 : (op == 13) = false) (n16 : (op == 16) = false) (n14 : (op == 14) = false) (n17 : (op == 17) = false) (n63 : (op == 63) = false) (n64 : (op == 64) = false) (n65 : (op == 65) = false) (n66 : (op == 66) = false) (n67 : (op == 67) = false) (n68 : (op == 68) = false) (h1 : op < 32) (w : World) : Calls Try.prog 74 #[.int .i64 op] w fun e w' => e = .returned (.int .i64 0) ∧ w' = w := by
  go_enter Try.func74, Try.ntmps74
  go_wp2
  go_ret
  exact ⟨rfl, rfl⟩
theorem lay_mid (op : Int) (n0 : (op == 0) = false) (n1 : (op == 1) = false) (n15 : (op == 15) = false) (n26 : (op == 26) = false) (n27 : (op == 27) = false) (n2 : (op == 2) = false) (n3 : (op == 3) = false) (n4 : (op == 4) = false) (n12 : (op == 12) = false) (n13 : (op == 13) = false) (n16 : (op == 16) = false) (n14 : (op == 14) = false) (n17 : (op == 17) = false) (n63 : (op == 63) = false) (n64 : (op == 64) = false) (n65 : (op == 65) = false) (n66 : (op == 66) = false) (n67 : (op == 67) = false) (n68 : (op == 68) = false) (h1 : 36 < op) (h2 : op < 40) (w : World) : Calls Try.prog 74 #[.int .i64 op] w fun e w' => e = .returned (.int .i64 0) ∧ w' = w := by
  go_enter Try.func74, Try.ntmps74
  go_wp2
  go_ret
  exact ⟨rfl, rfl⟩
theorem lay_is (op v : Int) (h : lay op = v) (w : World) (h2 : Calls Try.prog 74 #[.int .i64 op] w fun e w' => e = .returned (.int .i64 v) ∧ w' = w) : Calls Try.prog 74 #[.int .i64 op] w fun e w' => e = .returned (.int .i64 (lay op)) ∧ w' = w := by rw [h]; exact h2
theorem lay_any (op : Int) (w : World) : Calls Try.prog 74 #[.int .i64 op] w fun e w' => e = .returned (.int .i64 (lay op)) ∧ w' = w := by
  by_cases e0 : op = 0
  · subst e0; exact lay_is _ _ (by decide) w (lay_0 w)
  by_cases e1 : op = 1
  · subst e1; exact lay_is _ _ (by decide) w (lay_1 w)
  by_cases e15 : op = 15
  · subst e15; exact lay_is _ _ (by decide) w (lay_15 w)
  by_cases e26 : op = 26
  · subst e26; exact lay_is _ _ (by decide) w (lay_26 w)
  by_cases e27 : op = 27
  · subst e27; exact lay_is _ _ (by decide) w (lay_27 w)
  by_cases e2 : op = 2
  · subst e2; exact lay_is _ _ (by decide) w (lay_2 w)
  by_cases e3 : op = 3
  · subst e3; exact lay_is _ _ (by decide) w (lay_3 w)
  by_cases e4 : op = 4
  · subst e4; exact lay_is _ _ (by decide) w (lay_4 w)
  by_cases e12 : op = 12
  · subst e12; exact lay_is _ _ (by decide) w (lay_12 w)
  by_cases e13 : op = 13
  · subst e13; exact lay_is _ _ (by decide) w (lay_13 w)
  by_cases e16 : op = 16
  · subst e16; exact lay_is _ _ (by decide) w (lay_16 w)
  by_cases e14 : op = 14
  · subst e14; exact lay_is _ _ (by decide) w (lay_14 w)
  by_cases e17 : op = 17
  · subst e17; exact lay_is _ _ (by decide) w (lay_17 w)
  by_cases e63 : op = 63
  · subst e63; exact lay_is _ _ (by decide) w (lay_63 w)
  by_cases e64 : op = 64
  · subst e64; exact lay_is _ _ (by decide) w (lay_64 w)
  by_cases e65 : op = 65
  · subst e65; exact lay_is _ _ (by decide) w (lay_65 w)
  by_cases e66 : op = 66
  · subst e66; exact lay_is _ _ (by decide) w (lay_66 w)
  by_cases e67 : op = 67
  · subst e67; exact lay_is _ _ (by decide) w (lay_67 w)
  by_cases e68 : op = 68
  · subst e68; exact lay_is _ _ (by decide) w (lay_68 w)
  by_cases k1 : 69 ≤ op ∧ op ≤ 191
  · have e : fo op = 0 := by unfold fo; (repeat' split) <;> omega
    exact lay_is op 1 (by simp [lay, e]) w (lay_num op (beq_false e0) (beq_false e1) (beq_false e15) (beq_false e26) (beq_false e27) (beq_false e2) (beq_false e3) (beq_false e4) (beq_false e12) (beq_false e13) (beq_false e16) (beq_false e14) (beq_false e17) (beq_false e63) (beq_false e64) (beq_false e65) (beq_false e66) (beq_false e67) (beq_false e68) k1.1 k1.2 w)
  by_cases k2 : 191 < op
  · have e : fo op = 9 := by unfold fo; (repeat' split) <;> omega
    exact lay_is op 0 (by simp [lay, e]) w (lay_over op (beq_false e0) (beq_false e1) (beq_false e15) (beq_false e26) (beq_false e27) (beq_false e2) (beq_false e3) (beq_false e4) (beq_false e12) (beq_false e13) (beq_false e16) (beq_false e14) (beq_false e17) (beq_false e63) (beq_false e64) (beq_false e65) (beq_false e66) (beq_false e67) (beq_false e68) k2 w)
  by_cases k3 : 32 ≤ op ∧ op ≤ 36
  · have e : fo op = 3 := by unfold fo; (repeat' split) <;> omega
    exact lay_is op 4 (by simp [lay, e]) w (lay_var op (beq_false e0) (beq_false e1) (beq_false e15) (beq_false e26) (beq_false e27) (beq_false e2) (beq_false e3) (beq_false e4) (beq_false e12) (beq_false e13) (beq_false e16) (beq_false e14) (beq_false e17) (beq_false e63) (beq_false e64) (beq_false e65) (beq_false e66) (beq_false e67) (beq_false e68) k3.1 k3.2 w)
  by_cases k4 : 40 ≤ op ∧ op ≤ 62
  · have e : fo op = 6 := by unfold fo; (repeat' split) <;> omega
    exact lay_is op 7 (by simp [lay, e]) w (lay_acc op (beq_false e0) (beq_false e1) (beq_false e15) (beq_false e26) (beq_false e27) (beq_false e2) (beq_false e3) (beq_false e4) (beq_false e12) (beq_false e13) (beq_false e16) (beq_false e14) (beq_false e17) (beq_false e63) (beq_false e64) (beq_false e65) (beq_false e66) (beq_false e67) (beq_false e68) k4.1 k4.2 w)
  by_cases k5 : op < 32
  · have e : fo op = 9 := by unfold fo; (repeat' split) <;> omega
    exact lay_is op 0 (by simp [lay, e]) w (lay_low op (beq_false e0) (beq_false e1) (beq_false e15) (beq_false e26) (beq_false e27) (beq_false e2) (beq_false e3) (beq_false e4) (beq_false e12) (beq_false e13) (beq_false e16) (beq_false e14) (beq_false e17) (beq_false e63) (beq_false e64) (beq_false e65) (beq_false e66) (beq_false e67) (beq_false e68) k5 w)
  by_cases k6 : 36 < op ∧ op < 40
  · have e : fo op = 9 := by unfold fo; (repeat' split) <;> omega
    exact lay_is op 0 (by simp [lay, e]) w (lay_mid op (beq_false e0) (beq_false e1) (beq_false e15) (beq_false e26) (beq_false e27) (beq_false e2) (beq_false e3) (beq_false e4) (beq_false e12) (beq_false e13) (beq_false e16) (beq_false e14) (beq_false e17) (beq_false e63) (beq_false e64) (beq_false e65) (beq_false e66) (beq_false e67) (beq_false e68) k6.1 k6.2 w)
  omega
end Go.Proofs.Ytngciahmoenkiab.gi


/- package instr: small questions: words, types, depths, labels, fields that are zero. -/
set_option linter.unusedVariables false
set_option linter.unusedSimpArgs false
set_option maxRecDepth 100000
set_option maxHeartbeats 4000000
namespace Go.Proofs.Ytngciahmoenkiab.gi
open Go.RowKit
theorem ret_int {x y : Int} (h : x = y) : Ending.returned (.int .i64 x) = .returned (.int .i64 y) := by rw [h]
theorem low_any (x : Int) (w : World) :
    Calls Try.prog 83 #[.int .i64 x] w fun e w' => e = .returned (.int .i64 (x % 4294967296)) ∧ w' = w := by
  go_enter Try.func83, Try.ntmps83
  go_wp2
  go_ret
  refine ⟨?_, rfl⟩
  congr 2
theorem istype_any (t : Int) (w : World) :
    Calls Try.prog 63 #[.int .i64 t] w fun e w' => e = .returned (.bool (decide (124 ≤ t ∧ t ≤ 127))) ∧ w' = w := by
  by_cases h1 : t = 127 ∨ t = 126 ∨ t = 125 ∨ t = 124
  · rw [decide_eq_true (by omega)]
    rcases h1 with rfl | rfl | rfl | rfl
    all_goals
      go_enter Try.func63, Try.ntmps63
      go_wp2
      go_ret
      exact ⟨rfl, rfl⟩
  · rw [decide_eq_false (by omega)]
    have a1 : ¬ t = 127 := by omega
    have a2 : ¬ t = 126 := by omega
    have a3 : ¬ t = 125 := by omega
    have a4 : ¬ t = 124 := by omega
    clear h1
    go_enter Try.func63, Try.ntmps63
    go_wp2
    go_ret
    exact ⟨rfl, rfl⟩
/-- may a block have that type? -/
def bty (t : Int) : Bool := decide (t = 64 ∨ (124 ≤ t ∧ t ≤ 127))
theorem bty_any (t : Int) (w : World) :
    Calls Try.prog 86 #[.int .i64 t] w fun e w' => e = .returned (.bool (bty t)) ∧ w' = w := by
  unfold bty
  by_cases h1 : t = 64
  · subst h1
    go_enter Try.func86, Try.ntmps86
    go_wp2
    go_ret
    exact ⟨rfl, rfl⟩
  · have n1 : (t == 64) = false := beq_false h1
    by_cases h2 : 124 ≤ t ∧ t ≤ 127
    · rw [decide_eq_true (Or.inr h2)]
      have h3 : Hid (∀ w : World, Calls Try.prog 63 #[.int .i64 t] w fun e w' => e = .returned (.bool true) ∧ w' = w) := fun w => by have := istype_any t w; rwa [decide_eq_true h2] at this
      clear h2
      go_enter Try.func86, Try.ntmps86
      go_wp2_with (go_at_call 63; refine (h3.out _).mono ?_; rintro e w1 ⟨rfl, rfl⟩)
      go_ret
      exact ⟨rfl, rfl⟩
    · rw [decide_eq_false (by omega)]
      have h3 : Hid (∀ w : World, Calls Try.prog 63 #[.int .i64 t] w fun e w' => e = .returned (.bool false) ∧ w' = w) := fun w => by have := istype_any t w; rwa [decide_eq_false h2] at this
      clear h2
      go_enter Try.func86, Try.ntmps86
      go_wp2_with (go_at_call 63; refine (h3.out _).mono ?_; rintro e w1 ⟨rfl, rfl⟩)
      go_ret
      exact ⟨rfl, rfl⟩
/-- is a number one of 32 bits? -/
def wrd (x : Int) : Bool := decide (0 ≤ x ∧ x ≤ 4294967295)
theorem deep_any (l d : Int) (w : World) :
    Calls Try.prog 75 #[.int .i64 l, .int .i64 d] w fun e w' => e = .returned (.bool (decide ((l = 2 ∨ l = 3) ∧ 32 ≤ d))) ∧ w' = w := by
  by_cases h1 : l = 2
  · subst h1
    by_cases h : 32 ≤ d
    · rw [decide_eq_true ⟨Or.inl rfl, h⟩]
      go_enter Try.func75, Try.ntmps75
      go_wp2
      go_ret
      exact ⟨rfl, rfl⟩
    · rw [decide_eq_false (by omega)]
      go_enter Try.func75, Try.ntmps75
      go_wp2
      go_ret
      exact ⟨rfl, rfl⟩
  by_cases h2 : l = 3
  · subst h2
    by_cases h : 32 ≤ d
    · rw [decide_eq_true ⟨Or.inr rfl, h⟩]
      go_enter Try.func75, Try.ntmps75
      go_wp2
      go_ret
      exact ⟨rfl, rfl⟩
    · rw [decide_eq_false (by omega)]
      go_enter Try.func75, Try.ntmps75
      go_wp2
      go_ret
      exact ⟨rfl, rfl⟩
  rw [decide_eq_false (by omega)]
  go_enter Try.func75, Try.ntmps75
  go_wp2
  go_ret
  exact ⟨rfl, rfl⟩
/-- are all fields but Op zero? -/
def iz (a b bi ty : Int) (nl nb ne : Nat) : Bool := decide (a = 0 ∧ b = 0 ∧ bi = 0 ∧ ty = 0 ∧ nl = 0 ∧ nb = 0 ∧ ne = 0)
end Go.Proofs.Ytngciahmoenkiab.gi


/- Over this seat's translation: what a layout's number says of an Op. -/
set_option linter.unusedVariables false
set_option linter.unusedSimpArgs false
set_option maxRecDepth 100000
set_option maxHeartbeats 4000000
namespace Go.Proofs.Ytngciahmoenkiab.gi
open Go.RowKit
theorem lay_rng (op : Int) : 0 ≤ lay op ∧ lay op ≤ 12 := by
  unfold lay
  repeat' split
  all_goals omega
theorem lay_inv (op : Int) : (lay op = 0 ∧ fo op = 9) ∨ (lay op = 1 ∧ fo op = 0) ∨ (lay op = 2 ∧ fo op = 1) ∨ (lay op = 3 ∧ fo op = 2) ∨ (lay op = 4 ∧ fo op = 3) ∨ (lay op = 5 ∧ fo op = 4) ∨ (lay op = 6 ∧ fo op = 5) ∨ (lay op = 7 ∧ fo op = 6) ∨ (lay op = 8 ∧ fo op = 7) ∨ (lay op = 9 ∧ fo op = 8 ∧ op = 65) ∨ (lay op = 10 ∧ fo op = 8 ∧ op = 66) ∨ (lay op = 11 ∧ fo op = 8 ∧ op = 67) ∨ (lay op = 12 ∧ fo op = 8 ∧ op = 68) := by
  have hr := fo_rng op
  have h8 : fo op = 8 → 65 ≤ op ∧ op ≤ 68 := by
    intro h
    unfold fo at h
    repeat' split at h
    all_goals first | omega | assumption
  by_cases h : fo op = 8
  · have := h8 h
    obtain rfl | rfl | rfl | rfl : op = 65 ∨ op = 66 ∨ op = 67 ∨ op = 68 := by omega
    all_goals simp (decide := true) [lay, h]
  · have : fo op = 0 ∨ fo op = 1 ∨ fo op = 2 ∨ fo op = 3 ∨ fo op = 4 ∨ fo op = 5 ∨ fo op = 6 ∨ fo op = 7 ∨ fo op = 9 := by omega
    rcases this with h | h | h | h | h | h | h | h | h
    all_goals simp [lay, h]
end Go.Proofs.Ytngciahmoenkiab.gi


/- package instr's reader of bytes: its small functions. -/
set_option linter.unusedVariables false
set_option linter.unusedSimpArgs false
set_option maxRecDepth 100000
set_option maxHeartbeats 8000000
namespace Go.Proofs.Ytngciahmoenkiab.gi
open Go.RowKit
/-- a reader's fields -/
def pF (s : ByteArray) (st : Rst) (j : Nat) : Value := [Value.string s, .int .i64 st.at_, .int .i64 (8192 - st.count), .int .i64 st.code].getD j undef
/-- a reader in a block of its own, and else nothing turned -/
def Ps (q : Nat) (w wr : World) (s : ByteArray) (st : Rst) : Prop := Turned q w wr ∧ wr.rowIs q 118 4 (pF s st) ∧ ∃ F0, w.rowIs q 118 4 F0
variable {q : Nat} {w wr wr' : World} {s : ByteArray} {st st' : Rst}
theorem Ps.start (h : w.rowIs q 118 4 (pF s st)) : Ps q w w s st := ⟨Turned.refl h, h, _, h⟩
theorem Ps.later (h : Ps q w wr s st) (hl : Later wr wr') : Ps q w wr' s st := ⟨h.1.later hl, rowIs_later hl h.2.1, h.2.2⟩
theorem Ps.trans (h : Ps q w wr s st) (h2 : Ps q wr wr' s st') : Ps q w wr' s st' := by
  obtain ⟨h1, _, F0, h3⟩ := h
  exact ⟨h1.trans h3 h2.1, h2.2.1, F0, h3⟩
theorem Ps.set (h : Ps q w wr s st) (i : Nat) (v : Value) (h2 : ∀ j, j < 4 → (if j = i then v else pF s st j) = pF s st' j) : Ps q w (wr.setCell ⟨q, i, none⟩ v) s st' := by
  obtain ⟨h1, h3, F0, h4⟩ := h
  refine ⟨h1.set h4 i v, ?_, F0, h4⟩
  obtain ⟨cs, e1, e2, e3⟩ := h3.set i v
  exact ⟨cs, e1, e2, fun j hj => by rw [e3 j hj]; exact congrArg some (h2 j hj)⟩
theorem Ps.cell (h : Ps q w wr s st) (i : Nat) (hi : i < 4) : wr.cell? ⟨q, i, none⟩ = some (pF s st i) := h.2.1.cell hi
theorem Ps.frozen (h : Ps q w wr s st) (i : Nat) : wr.frozen? ⟨q, i, none⟩ = false := h.2.1.frozen i
theorem Ps.block (h : Ps q w wr s st) {k : Nat} (hk : k ≠ q) (hl : k < w.heap.size) : wr.heap[k]? = w.heap[k]? := h.1.block hk hl
theorem Ps.size (h : Ps q w wr s st) : w.heap.size ≤ wr.heap.size := h.1.size
theorem Ps.row (h : Ps q w wr s st) : wr.rowIs q 118 4 (pF s st) := h.2.1
theorem Ps.code (h : Ps q w wr s st) : wr.cell? ⟨q, 3, none⟩ = some (.int .i64 st.code) ∧ q < wr.heap.size := ⟨h.cell 3 (by decide), h.2.1.lt⟩
theorem pset1 {a b c a' : Int} : ∀ j, j < 4 → (if j = 1 then Value.int .i64 a' else pF s ⟨a, b, c⟩ j) = pF s ⟨a', b, c⟩ j := fun j hj => by
  match j, hj with
  | 0, _ => rfl
  | 1, _ => rfl
  | 2, _ => rfl
  | 3, _ => rfl
theorem pset3 {a b c b' : Int} : ∀ j, j < 4 → (if j = 3 then Value.int .i64 b' else pF s ⟨a, b, c⟩ j) = pF s ⟨a, b', c⟩ j := fun j hj => by
  match j, hj with
  | 0, _ => rfl
  | 1, _ => rfl
  | 2, _ => rfl
  | 3, _ => rfl
theorem pfail_any (e : Int) (w : World) (h : w.rowIs q 118 4 (pF s st)) :
    Calls Try.prog 73 #[.pointer (some ⟨q, 0, none⟩), .int .i64 e] w fun e' w' => e' = .returned (.tuple #[]) ∧ Hid (Ps q w w' s (rfail st e)) := by
  have R := Ps.start h
  obtain ⟨a0, cd, ct⟩ := st
  have c2 : w.cell? ⟨q, 3, none⟩ = some (.int .i64 cd) := R.cell 3 (by decide)
  have f2 := R.frozen 3
  have hl := cell_lt c2
  unfold rfail
  by_cases h0 : cd = 0
  · rw [if_pos h0]
    have R2 : Hid (Ps q w (w.setCell ⟨q, 3, none⟩ (.int .i64 e)) s ⟨a0, e, ct⟩) := R.set 3 _ pset3
    clear R h
    go_enter Try.func73, Try.ntmps73
    go_wp2_with fail
    go_end0
    exact ⟨rfl, R2⟩
  · rw [if_neg h0]
    have h1 : (cd == 0) = false := beq_false h0
    replace R : Hid (Ps q w w s ⟨a0, cd, ct⟩) := R
    clear h
    go_enter Try.func73, Try.ntmps73
    go_wp2_with fail
    go_end0
    exact ⟨rfl, R⟩
theorem pnext_any (hs : s.size < 9223372036854775000) (hin : Rin s st) (w : World) (h : w.rowIs q 118 4 (pF s st)) :
    Calls Try.prog 70 #[.pointer (some ⟨q, 0, none⟩)] w fun e' w' => e' = .returned (.int .i64 (rbyte s st).1) ∧ Hid (Ps q w w' s (rbyte s st).2) := by
  have R := Ps.start h
  obtain ⟨a0, cd, ct⟩ := st
  have c0 : w.cell? ⟨q, 0, none⟩ = some (.string s) := R.cell 0 (by decide)
  have c1 : w.cell? ⟨q, 1, none⟩ = some (.int .i64 a0) := R.cell 1 (by decide)
  have c2 : w.cell? ⟨q, 3, none⟩ = some (.int .i64 cd) := R.cell 3 (by decide)
  have f1 := R.frozen 1
  have hl := cell_lt c2
  obtain ⟨a, ha⟩ := Int.eq_ofNat_of_zero_le hin.1
  have ha' : a0 = (a : Int) := ha
  subst ha'
  have ha2 : a ≤ s.size := by have := hin.2; simp only [] at this; omega
  unfold rbyte
  simp only []
  by_cases h0 : cd = 0
  · subst h0
    by_cases h1 : (a : Int) < s.size
    · rw [if_pos ⟨rfl, h1⟩]
      have hasz : a < s.size := by omega
      have hb : bt s (a : Int).toNat = (s[a].toNat : Int) := by rw [Int.toNat_natCast]; exact dif_pos hasz
      rw [hb]
      have h3 : ((a : Int) == (s.size : Int)) = false := beq_false (by omega)
      have hwr : wrap64 (s[a].toNat : Int) = (s[a].toNat : Int) := by have := s[a].toNat_lt; unfold wrap64; omega
      replace R : Hid (Ps q w w s ⟨(a : Int), 0, ct⟩) := R
      clear h hb hin ha
      go_enter Try.func70, Try.ntmps70
      go_wp2_with fail
      go_quiet (fail)
      go_wp2_with fail
      go_quiet (fail)
      go_wp2_with fail
      go_ret
      exact ⟨by show Ending.returned (.int .i64 (wrap64 _)) = _; rw [hwr], ((R.out.later (Ln (Lz _))).set (st' := ⟨(a : Int) + 1, 0, ct⟩) 1 _ pset1).later (Ln (Lz _))⟩
    · rw [if_neg (fun x => h1 x.2)]
      have h3 : (a : Int) = (s.size : Int) := by omega
      obtain rfl : a = s.size := by omega
      replace R : Hid (Ps q w w s ⟨(s.size : Int), 0, ct⟩) := R
      have hfail : Hid (∀ W, Later w W → Calls Try.prog 73 #[.pointer (some ⟨q, 0, none⟩), .int .i64 1401] W fun e' w' => e' = .returned (.tuple #[]) ∧ Hid (Ps q W w' s (rfail ⟨(s.size : Int), 0, ct⟩ 1401))) := fun W hW => pfail_any 1401 W (R.out.later hW).2.1
      clear h hin ha h3 h1 ha2
      go_enter Try.func70, Try.ntmps70
      go_wp2_with fail
      go_quiet (fail)
      go_wp2_with (go_at_call 73; refine (hfail.out _ (Ln (Lz _))).mono ?_; rintro e w2 ⟨rfl, R2⟩)
      go_ret
      exact ⟨rfl, (R.out.later (Ln (Lz _))).trans R2.out⟩
  · rw [if_neg (fun x => h0 x.1)]
    have h3 : (cd != 0) = true := by simpa using h0
    have h4 : Hid (rfail ⟨(a : Int), cd, ct⟩ 1401 = ⟨(a : Int), cd, ct⟩) := if_neg h0
    replace R : Hid (Ps q w w s ⟨(a : Int), cd, ct⟩) := R
    clear h hin ha
    go_enter Try.func70, Try.ntmps70
    go_wp2_with fail
    go_ret
    exact ⟨rfl, by rw [h4.out]; exact R⟩
theorem pread_any (x to e : Int) (hx : ¬ e = 0 → x = 0) (w : World) (hc : st.code = 0) (h : w.rowIs q 118 4 (pF s st)) :
    Calls Try.prog 87 #[.pointer (some ⟨q, 0, none⟩), .int .i64 x, .int .i64 to, .int .i64 e] w fun e' w' => e' = .returned (.int .i64 (rmoved st (x, to, e)).1) ∧ Hid (Ps q w w' s (rmoved st (x, to, e)).2) := by
  have R := Ps.start h
  obtain ⟨a0, cd, ct⟩ := st
  obtain rfl : cd = 0 := hc
  have c1 : w.cell? ⟨q, 1, none⟩ = some (.int .i64 a0) := R.cell 1 (by decide)
  have f1 := R.frozen 1
  have hl := cell_lt c1
  have hfail : Hid (∀ (er : Int) W, Later w W → Calls Try.prog 73 #[.pointer (some ⟨q, 0, none⟩), .int .i64 er] W fun e' w' => e' = .returned (.tuple #[]) ∧ Hid (Ps q W w' s (rfail ⟨a0, 0, ct⟩ er))) := fun er W hW => pfail_any er W (R.later hW).2.1
  replace R : Hid (Ps q w w s ⟨a0, 0, ct⟩) := R
  clear h
  unfold rmoved
  simp only []
  rw [if_neg (by simp)]
  by_cases h1 : e = 0
  · subst h1
    rw [if_pos rfl]
    clear hx
    go_enter Try.func87, Try.ntmps87
    go_wp2_with fail
    go_ret
    exact ⟨rfl, R.out.set (st' := ⟨to, 0, ct⟩) 1 _ pset1⟩
  · rw [if_neg h1]
    obtain rfl := hx h1
    clear hx
    have n1 := beq_false h1
    by_cases h2 : e = 1201
    · subst h2
      rw [if_pos rfl]
      go_enter Try.func87, Try.ntmps87
      go_wp2_with (go_at_call 73; refine (hfail.out 1401 _ (Lz _)).mono ?_; rintro e w2 ⟨rfl, R2⟩)
      go_ret
      exact ⟨rfl, R2⟩
    · rw [if_neg h2]
      have n2 := beq_false h2
      go_enter Try.func87, Try.ntmps87
      go_wp2_with (go_at_call 73; refine (hfail.out 1400 _ (Lz _)).mono ?_; rintro e w2 ⟨rfl, R2⟩)
      go_ret
      exact ⟨rfl, R2⟩
theorem ul_zero (s : ByteArray) (a b : Int) (h : ¬ (ulR s a b).2.2 = 0) : (ulR s a b).1 = 0 := by
  unfold ulR at *
  split
  · rename_i h1
    rw [if_pos h1] at h
    split
    · rfl
    · rename_i h2; rw [if_neg h2] at h; exact absurd rfl h
  · rfl
theorem us_zero (s : ByteArray) (a b : Int) (h : ¬ (usR s a b).2.2 = 0) : (usR s a b).1 = 0 := by
  unfold usR at *
  split
  · rename_i h1
    rw [if_pos h1] at h
    split
    · rfl
    · rename_i h2; rw [if_neg h2] at h; exact absurd rfl h
  · rfl
theorem pnum_any (hs : s.size < 9223372036854775000) (hin : Rin s st) (w : World) (h : w.rowIs q 118 4 (pF s st)) :
    Calls Try.prog 80 #[.pointer (some ⟨q, 0, none⟩)] w fun e' w' => e' = .returned (.int .i64 (rnum s st).1) ∧ Hid (Ps q w w' s (rnum s st).2) := by
  have R := Ps.start h
  have ha : -9223372036854775808 ≤ st.at_ ∧ st.at_ ≤ 9223372036854775807 := by have := hin.1; have := hin.2; constructor <;> omega
  obtain ⟨a0, cd, ct⟩ := st
  have c0 : w.cell? ⟨q, 0, none⟩ = some (.string s) := R.cell 0 (by decide)
  have c1 : w.cell? ⟨q, 1, none⟩ = some (.int .i64 a0) := R.cell 1 (by decide)
  have c3 : w.cell? ⟨q, 3, none⟩ = some (.int .i64 cd) := R.cell 3 (by decide)
  have hl := cell_lt c1
  unfold rnum
  by_cases h0 : cd = 0
  · subst h0
    have hu : Hid (∀ W, Calls Try.prog 27 #[.string s, .int .i64 a0, .int .i64 32] W fun e w' => e = .returned (.tuple #[.int .i64 (ulR s a0 32).1, .int .i64 (ulR s a0 32).2.1, .int .i64 (ulR s a0 32).2.2]) ∧ Later W w') := fun W => get_any s hs a0 32 ha (by decide) W
    have hz := ul_zero s a0 32
    simp only []
    generalize ulR s a0 32 = X at *
    obtain ⟨x, to, e⟩ := X
    have hm : Hid (∀ W, Later w W → Calls Try.prog 87 #[.pointer (some ⟨q, 0, none⟩), .int .i64 x, .int .i64 to, .int .i64 e] W fun e' w' => e' = .returned (.int .i64 (rmoved ⟨a0, 0, ct⟩ (x, to, e)).1) ∧ Hid (Ps q W w' s (rmoved ⟨a0, 0, ct⟩ (x, to, e)).2)) := fun W hW => pread_any x to e hz W rfl (R.later hW).2.1
    replace R : Hid (Ps q w w s ⟨a0, 0, ct⟩) := R
    clear h hz hin ha
    go_enter Try.func80, Try.ntmps80
    go_wp2_with fail
    go_region_law (go_simp; go_at_call 27; refine (hu.out _).mono ?_; rintro e1 w2 ⟨rfl, l2⟩; replace l2 : Hid (Later w w2) := (Ld (Lz _)).trans l2)
    all_goals
      go_wp2_with (go_at_call 87; refine (hm.out _ l2.out).mono ?_; rintro e3 w3 ⟨rfl, R2⟩)
      go_ret
      exact ⟨rfl, (R.out.later l2.out).trans R2.out⟩
  · have h3 : (cd != 0) = true := by simpa using h0
    have h4 : Hid (∀ X, rmoved ⟨a0, cd, ct⟩ X = (0, ⟨a0, cd, ct⟩)) := fun X => if_pos h0
    rw [h4.out]
    replace R : Hid (Ps q w w s ⟨a0, cd, ct⟩) := R
    clear h hin ha
    go_enter Try.func80, Try.ntmps80
    go_wp2_with fail
    go_ret
    exact ⟨rfl, R⟩
theorem psgn_any (hs : s.size < 9223372036854775000) (hin : Rin s st) (b : Int) (hb : -9223372036854775808 ≤ b ∧ b ≤ 9223372036854775807) (w : World) (h : w.rowIs q 118 4 (pF s st)) :
    Calls Try.prog 84 #[.pointer (some ⟨q, 0, none⟩), .int .i64 b] w fun e' w' => e' = .returned (.int .i64 (rsgn s st b).1) ∧ Hid (Ps q w w' s (rsgn s st b).2) := by
  have R := Ps.start h
  have ha : -9223372036854775808 ≤ st.at_ ∧ st.at_ ≤ 9223372036854775807 := by have := hin.1; have := hin.2; constructor <;> omega
  obtain ⟨a0, cd, ct⟩ := st
  have c0 : w.cell? ⟨q, 0, none⟩ = some (.string s) := R.cell 0 (by decide)
  have c1 : w.cell? ⟨q, 1, none⟩ = some (.int .i64 a0) := R.cell 1 (by decide)
  have c3 : w.cell? ⟨q, 3, none⟩ = some (.int .i64 cd) := R.cell 3 (by decide)
  have hl := cell_lt c1
  unfold rsgn
  by_cases h0 : cd = 0
  · subst h0
    have hu : Hid (∀ W, Calls Try.prog 88 #[.string s, .int .i64 a0, .int .i64 b] W fun e w' => e = .returned (.tuple #[.int .i64 (usR s a0 b).1, .int .i64 (usR s a0 b).2.1, .int .i64 (usR s a0 b).2.2]) ∧ Later W w') := fun W => gets_any s hs a0 b ha hb W
    have hz := us_zero s a0 b
    simp only []
    generalize usR s a0 b = X at *
    obtain ⟨x, to, e⟩ := X
    have hm : Hid (∀ W, Later w W → Calls Try.prog 87 #[.pointer (some ⟨q, 0, none⟩), .int .i64 x, .int .i64 to, .int .i64 e] W fun e' w' => e' = .returned (.int .i64 (rmoved ⟨a0, 0, ct⟩ (x, to, e)).1) ∧ Hid (Ps q W w' s (rmoved ⟨a0, 0, ct⟩ (x, to, e)).2)) := fun W hW => pread_any x to e hz W rfl (R.later hW).2.1
    replace R : Hid (Ps q w w s ⟨a0, 0, ct⟩) := R
    clear h hz hin ha hb
    go_enter Try.func84, Try.ntmps84
    go_wp2_with fail
    go_region_law (go_simp; go_at_call 88; refine (hu.out _).mono ?_; rintro e1 w2 ⟨rfl, l2⟩; replace l2 : Hid (Later w w2) := (Ld (Lz _)).trans l2)
    all_goals
      go_wp2_with (go_at_call 87; refine (hm.out _ l2.out).mono ?_; rintro e3 w3 ⟨rfl, R2⟩)
      go_ret
      exact ⟨rfl, (R.out.later l2.out).trans R2.out⟩
  · have h3 : (cd != 0) = true := by simpa using h0
    have h4 : Hid (∀ X, rmoved ⟨a0, cd, ct⟩ X = (0, ⟨a0, cd, ct⟩)) := fun X => if_pos h0
    rw [h4.out]
    replace R : Hid (Ps q w w s ⟨a0, cd, ct⟩) := R
    clear h hin ha hb
    go_enter Try.func84, Try.ntmps84
    go_wp2_with fail
    go_ret
    exact ⟨rfl, R⟩
end Go.Proofs.Ytngciahmoenkiab.gi


/- package instr's reader: zero, blockType, lowest, labels. -/
set_option linter.unusedVariables false
set_option linter.unusedSimpArgs false
set_option maxRecDepth 100000
set_option maxHeartbeats 8000000
namespace Go.Proofs.Ytngciahmoenkiab.gi
open Go.RowKit
variable {q : Nat} {w wr W W' : World} {s : ByteArray} {st st' : Rst} {lab : Nat → Nat} {l : List Int} {v : Value}
/-- a new block without a mark -/
def Zn (B : Nat) (W : World) (k : Nat) : Prop := B ≤ k ∧ Nf W k
theorem nf_of {k : Nat} (h : W'.heap[k]? = W.heap[k]?) (hn : Nf W k) : Nf W' k := fun i => (World.frozen?_of_block (w := W) (a := ⟨k, i, none⟩) h).trans (hn i)
theorem nf_row {k : Nat} {cur : Array Value} {e : TypeId} (h : W.heap[k]? = some (.cells cur e (0, 0))) : Nf W k := fun i => by simp [World.frozen?, h]
theorem zn_mv {B B' : Nat} (hB : B' ≤ B) (hs : ∀ k, B ≤ k → k < W.heap.size → W'.heap[k]? = W.heap[k]?) : ∀ k, Zn B W k → k < W.heap.size → Zn B' W' k ∧ W'.heap[k]? = W.heap[k]? := fun k hk hl => ⟨⟨Nat.le_trans hB hk.1, nf_of (hs k hk.1 hl) hk.2⟩, hs k hk.1 hl⟩
theorem pzero_any (hs : s.size < 9223372036854775000) (hin : Rin s st) (w : World) (h : w.rowIs q 118 4 (pF s st)) :
    Calls Try.prog 81 #[.pointer (some ⟨q, 0, none⟩)] w fun e' w' => e' = .returned (.tuple #[]) ∧ Hid (Ps q w w' s (rnought s st)) := by
  have hb : Hid (Calls Try.prog 70 #[.pointer (some ⟨q, 0, none⟩)] w fun e' w' => e' = .returned (.int .i64 (rbyte s st).1) ∧ Hid (Ps q w w' s (rbyte s st).2)) := pnext_any hs hin w h
  have hf : Hid (∀ W, Ps q w W s (rbyte s st).2 → Calls Try.prog 73 #[.pointer (some ⟨q, 0, none⟩), .int .i64 1400] W fun e' w' => e' = .returned (.tuple #[]) ∧ Hid (Ps q W w' s (rfail (rbyte s st).2 1400))) := fun W hW => pfail_any 1400 W hW.2.1
  unfold rnought
  generalize rbyte s st = K at *
  obtain ⟨b, st1⟩ := K
  simp only [] at hb hf ⊢
  clear h
  by_cases h0 : b = 0
  · subst h0
    rw [if_pos rfl]
    go_enter Try.func81, Try.ntmps81
    go_wp2_with (go_at_call 70; refine hb.out.mono ?_; rintro e1 w1 ⟨rfl, R1⟩)
    go_end0
    exact ⟨rfl, R1⟩
  · rw [if_neg h0]
    have h1 : (b != 0) = true := by simpa using h0
    go_enter Try.func81, Try.ntmps81
    go_wp2_with (first | (go_at_call 70; refine hb.out.mono ?_; rintro e1 w1 ⟨rfl, R1⟩) | (go_at_call 73; refine (hf.out _ R1.out).mono ?_; rintro e1 w2 ⟨rfl, R2⟩))
    go_end0
    exact ⟨rfl, R1.out.trans R2.out⟩
theorem rtyp_bty (s : ByteArray) (st : Rst) : rtyp s st = if bty (rbyte s st).1 = true then (rbyte s st).2 else rfail (rbyte s st).2 1400 := by
  unfold rtyp bty
  by_cases h : (rbyte s st).1 = 64 ∨ (124 ≤ (rbyte s st).1 ∧ (rbyte s st).1 ≤ 127)
  · rw [if_neg (by omega), if_pos (by simpa using h)]
  · have hd : ¬ decide ((rbyte s st).1 = 64 ∨ (124 ≤ (rbyte s st).1 ∧ (rbyte s st).1 ≤ 127)) = true := by simpa using h
    by_cases hc : (rbyte s st).2.code = 0
    · rw [if_pos ⟨hc, by omega, by omega⟩, if_neg hd]
    · rw [if_neg (fun x => hc x.1), if_neg hd]
      unfold rfail
      rw [if_neg hc]
theorem ptyp_any (hs : s.size < 9223372036854775000) (hin : Rin s st) (w : World) (h : w.rowIs q 118 4 (pF s st)) :
    Calls Try.prog 79 #[.pointer (some ⟨q, 0, none⟩)] w fun e' w' => e' = .returned (.int .i64 (rbyte s st).1) ∧ Hid (Ps q w w' s (rtyp s st)) := by
  have hb : Hid (Calls Try.prog 70 #[.pointer (some ⟨q, 0, none⟩)] w fun e' w' => e' = .returned (.int .i64 (rbyte s st).1) ∧ Hid (Ps q w w' s (rbyte s st).2)) := pnext_any hs hin w h
  have hf : Hid (∀ W, Ps q w W s (rbyte s st).2 → Calls Try.prog 73 #[.pointer (some ⟨q, 0, none⟩), .int .i64 1400] W fun e' w' => e' = .returned (.tuple #[]) ∧ Hid (Ps q W w' s (rfail (rbyte s st).2 1400))) := fun W hW => pfail_any 1400 W hW.2.1
  have ht : Hid (∀ W, Calls Try.prog 86 #[.int .i64 (rbyte s st).1] W fun e w' => e = .returned (.bool (bty (rbyte s st).1)) ∧ w' = W) := fun W => bty_any _ W
  rw [rtyp_bty]
  generalize rbyte s st = K at *
  obtain ⟨b, st1⟩ := K
  simp only [] at hb hf ht ⊢
  clear h
  generalize bty b = t at *
  cases t with
  | true =>
    rw [if_pos rfl]
    go_enter Try.func79, Try.ntmps79
    go_wp2_with (first | (go_at_call 70; refine hb.out.mono ?_; rintro e1 w1 ⟨rfl, R1⟩) | (go_at_call 86; refine (ht.out _).mono ?_; rintro e2 w2 ⟨rfl, rfl⟩))
    go_ret
    exact ⟨rfl, R1⟩
  | false =>
    rw [if_neg (by decide)]
    go_enter Try.func79, Try.ntmps79
    go_wp2_with (first | (go_at_call 70; refine hb.out.mono ?_; rintro e1 w1 ⟨rfl, R1⟩) | (go_at_call 86; refine (ht.out _).mono ?_; rintro e2 w2 ⟨rfl, rfl⟩) | (go_at_call 73; refine (hf.out _ R1.out).mono ?_; rintro e3 w3 ⟨rfl, R3⟩))
    go_ret
    exact ⟨rfl, R1.out.trans R3.out⟩
theorem pbits_any (hs : s.size < 9223372036854775000) (hin : Rin s st) (k : Nat) (hk : k ≤ 8) (w : World) (h : w.rowIs q 118 4 (pF s st)) :
    Calls Try.prog 85 #[.pointer (some ⟨q, 0, none⟩), .int .i64 (k : Int)] w fun e' w' => e' = .returned (.int .i64 (rbits s k st).1) ∧ Hid (Ps q w w' s (rbits s k st).2) := by
  have R := Ps.start h
  replace R : Hid (Ps q w w s st) := R
  unfold rbits
  clear h
  go_enter Try.func85, Try.ntmps85
  go_wp2_with fail
  go_loopw [5, 8] (fun v i wr => ∃ (j : Nat) (x : Int) (st1 : Rst), j ≤ k ∧ i = .int .i64 (j : Nat) ∧ v = .int .i64 x ∧ Rin s st1 ∧ Ps q w wr s st1 ∧ rbF s k 0 0 st = rbF s (k - j) j x st1) (fun v i _ => k - (intOf i).toNat)
  case atStart => exact ⟨0, 0, st, Nat.zero_le _, rfl, rfl, hin, R.out, rfl⟩
  case round =>
    obtain ⟨j, x, st1, hj, rfl, rfl, hin1, R1, hr⟩ := hrel
    by_cases hlt : j < k
    · have hl1 : (j : Int) < (k : Int) := by omega
      have h8 : 8 * (j : Int) < 64 := by omega
      rw [show k - j = (k - (j + 1)) + 1 by omega] at hr
      conv at hr => rhs; unfold rbF
      have hb : Hid (Calls Try.prog 70 #[.pointer (some ⟨q, 0, none⟩)] wr fun e' w' => e' = .returned (.int .i64 (rbyte s st1).1) ∧ Hid (Ps q wr w' s (rbyte s st1).2)) := pnext_any hs hin1 wr R1.2.1
      have hin2 : Hid (Rin s (rbyte s st1).2) := rbyte_in hin1
      replace hr : Hid (rbF s k 0 0 st = rbF s (k - (j + 1)) (j + 1) (bits .or .i64 x (wrap64 ((rbyte s st1).1 * 2 ^ (8 * j)))) (rbyte s st1).2) := hr
      replace R1 : Hid (Ps q w wr s st1) := R1
      generalize (rbyte s st1).2 = st2 at *
      generalize (rbyte s st1).1 = b at *
      go_wp2_with (go_at_call 70; refine hb.out.mono ?_; clear hb; rintro e1 w1 ⟨rfl, R2⟩)
      go_roundw
      case rel => exact ⟨j + 1, _, st2, by omega, by go_num, rfl, hin2.out, R1.out.trans R2.out, hr.out⟩
      case measure => simp [intOf]; omega
    · have hje : j = k := by omega
      subst hje
      have hr2 : Hid (rbF s j 0 0 st = (x, st1)) := by show _ = _; rw [hr, Nat.sub_self]; rfl
      replace R1 : Hid (Ps q w wr s st1) := R1
      clear hr
      go_wp2_with fail
      go_ret
      rw [hr2.out]
      exact ⟨rfl, R1⟩
/-- labels being read -/
def Pl (q : Nat) (w W : World) (s : ByteArray) (st : Rst) (v : Value) (lab : Nat → Nat) (l : List Int) : Prop := Ps q w W s st ∧ Fld lab 0 W w.heap.size 3 1 v l.length (ints l) ∧ ∀ k, k < w.heap.size → lab k = 99
theorem Ps.qlt (h : Ps q w W s st) : q < w.heap.size := by obtain ⟨_, _, F0, h3⟩ := h; exact h3.lt
theorem Pl.lq {A : Option Addr} {cap : Nat} (h : Pl q w W s st (.slice A l.length cap) lab l) : Lq (Zn w.heap.size W) W A l := by
  have h2 := h.2.1
  by_cases hl : l = []
  · subst hl
    exact ⟨Or.inl rfl, fun x => absurd rfl x⟩
  · obtain ⟨g, rfl, hb, hlt, hlab, hcap, ⟨cur, hcur, _⟩, hc⟩ := h2.at_ (List.length_pos_iff.2 hl)
    refine ⟨Or.inr ⟨g, 0, rfl, fun j hj => ?_⟩, fun _ a ha => ?_⟩
    · rw [Nat.zero_add]
      refine hc j _ ?_
      simp [ints, hj]
    · cases ha
      exact ⟨hb, nf_row hcur⟩
theorem Pl.start (h : Ps q w W s st) : Pl q w W s st (.slice none 0 0) (fun _ => 99) [] := ⟨h, ⟨World.ownsRow_nil _ _ _ _, fun g hg => by cases hg⟩, fun _ _ => rfl⟩
theorem Pl.form (h : Pl q w W s st v lab l) : ∃ A cap, v = .slice A l.length cap := by
  rcases h.2.1.1.2 with ⟨e, h0⟩ | ⟨g, cap', cur, e, _⟩
  · rw [h0]; exact ⟨none, 0, e⟩
  · exact ⟨_, _, e⟩
theorem Pl.ps (h : Pl q w W s st v lab l) (hr : Ps q W W' s st') : Pl q w W' s st' v lab l := by
  obtain ⟨h1, h2, h3⟩ := h
  have hq := Ps.qlt h1
  exact ⟨h1.trans hr, h2.chg (S := (· = 99)) (lab' := lab) ⟨hr.size, fun k hk hs => ⟨rfl, hr.block (fun e => hs (h3 k (by omega))) hk⟩⟩ (by decide), h3⟩
theorem Pl.more (h : Pl q w W s st v lab l) (x : Int) (hn : l.length ≤ 2000) : ∃ g cap w' lab', (Builtin.append_ #[26, 26] 26 #[v, .slice (some ⟨W.heap.size, 0, none⟩) 1 1]).run Try.prog (W.alloc (.cells #[.int .i64 x] 3)) = .ok (.slice (some ⟨g, 0, none⟩) (l.length + 1) cap) w' ∧ Pl q w w' s st (.slice (some ⟨g, 0, none⟩) (l.length + 1) cap) lab' (l ++ [x]) := by
  obtain ⟨h1, h2, h3⟩ := h
  have hq := Ps.qlt h1
  obtain ⟨i0, hi, hz0, hz1, hz2⟩ := int_parts
  obtain ⟨⟨cs, bs, n, e⟩, rq, F0, r0⟩ := id h1
  have hL : Later (w.setRow q cs) W := ⟨bs, n, e⟩
  have hs : (w.setRow q cs).heap.size = w.heap.size := by simp
  have hone : ∀ u ∈ [Value.int .i64 x], u.oneCell' = true := by
    intro u hu
    simp only [List.mem_cons, List.not_mem_nil, or_false] at hu
    subst hu
    rfl
  obtain ⟨g, cap, w', lab', r, G, l2, C⟩ := fld_more (P := Try.prog) hL 26 26 3 i0 (.int .i64 0) 1 8 Try.underlying26 hi hz0 hz1 hz2 rfl (by decide) (by rw [hs]; exact h2) [.int .i64 x] rfl hone (by unfold maxLen; omega) (by omega)
  have kp : ∀ k, k < w.heap.size → k < W.heap.size → lab' k = 99 ∧ w'.heap[k]? = W.heap[k]? := fun k hk hl => by
    have := C.2 k hl (by rw [h3 k hk]; decide)
    exact ⟨this.1.trans (h3 k hk), this.2⟩
  have O1 : Ps q w w' s st := by
    obtain ⟨bs', n', e'⟩ := l2
    exact ⟨⟨cs, bs', n', e'⟩, rq.of_block (kp q hq rq.lt).2, F0, r0⟩
  have hws := h1.size
  refine ⟨g, cap, w', lab', r, O1, ?_, fun k hk => (kp k hk (by omega)).1⟩
  rw [hs] at G
  rw [List.length_append, List.length_singleton, show ints (l ++ [x]) = ints l ++ [.int .i64 x] by simp [ints]]
  exact G
theorem rcap_in {s : ByteArray} {st : Rst} (h : Rin s st) (x : Int) : Rin s (rcap x st) := by
  unfold rcap
  split
  · exact rfail_in h _
  · exact h
theorem plab_any (hs : s.size < 9223372036854775000) (hin : Rin s st) (w : World) (h : w.rowIs q 118 4 (pF s st)) :
    Calls Try.prog 82 #[.pointer (some ⟨q, 0, none⟩)] w fun e w' => ∃ A c, e = .returned (.slice A (rlab s ((rnum s st).1.toNat + 1) (rcap (rnum s st).1 (rnum s st).2)).1.length c) ∧ Hid (Lq (Zn w.heap.size w') w' A (rlab s ((rnum s st).1.toNat + 1) (rcap (rnum s st).1 (rnum s st).2)).1) ∧ Hid (Ps q w w' s (rlab s ((rnum s st).1.toNat + 1) (rcap (rnum s st).1 (rnum s st).2)).2) := by
  have hnum : Hid (Calls Try.prog 80 #[.pointer (some ⟨q, 0, none⟩)] w fun e' w' => e' = .returned (.int .i64 (rnum s st).1) ∧ Hid (Ps q w w' s (rnum s st).2)) := pnum_any hs hin w h
  have hx0 := rnum_pos s st
  have hin1 : Hid (Rin s (rnum s st).2) := rnum_in hin
  have hfail : Hid (∀ W, Ps q w W s (rnum s st).2 → Calls Try.prog 73 #[.pointer (some ⟨q, 0, none⟩), .int .i64 1400] W fun e' w' => e' = .returned (.tuple #[]) ∧ Hid (Ps q W w' s (rfail (rnum s st).2 1400))) := fun W hW => pfail_any 1400 W hW.2.1
  generalize rnum s st = K at *
  obtain ⟨x, st1⟩ := K
  simp only [] at hnum hx0 hin1 hfail ⊢
  clear h hin
  unfold rcap
  by_cases hx : x ≥ 1024
  · rw [if_pos hx]
    have hne := rfail_ne st1 1400 (by decide)
    rw [rlab_stop _ hne]
    generalize rfail st1 1400 = st2 at *
    obtain ⟨a2, cd, ct⟩ := st2
    have n1 : (cd == 0) = false := beq_false hne
    go_enter Try.func82, Try.ntmps82
    go_wp2_with (first | (go_at_call 80; refine hnum.out.mono ?_; rintro e w1 ⟨rfl, R1⟩) | (go_at_call 73; refine (hfail.out _ R1.out).mono ?_; rintro e w2 ⟨rfl, R2⟩))
    have k3 : w2.cell? ⟨q, 3, none⟩ = some (.int .i64 cd) := R2.out.cell 3 (by decide)
    have kl := cell_lt k3
    refine wp_loop_rounds 1 ?_
    rw [rounds_succ]
    go_wp2_with fail
    go_ret
    first | exact ⟨none, 0, rfl, lq_nil _ _ _, R1.out.trans R2.out⟩ | exact ⟨none, ⟨0, rfl⟩, lq_nil _ _ _, R1.out.trans R2.out⟩
  · rw [if_neg hx]
    have hx2 : ¬ 1024 ≤ x := hx
    go_enter Try.func82, Try.ntmps82
    go_wp2_with (go_at_call 80; refine hnum.out.mono ?_; rintro e w1 ⟨rfl, R1⟩)
    go_loopw [4, 5] (fun v i wr => ∃ (lab : Nat → Nat) (l : List Int) (st2 : Rst), i = .int .i64 (l.length : Nat) ∧ (l.length : Int) ≤ x + 1 ∧ Rin s st2 ∧ Pl q w wr s st2 v lab l ∧ rlab s (x.toNat + 1) st1 = (l ++ (rlab s (x.toNat + 1 - l.length) st2).1, (rlab s (x.toNat + 1 - l.length) st2).2)) (fun v i _ => x.toNat + 1 - (intOf i).toNat)
    case atStart => exact ⟨fun _ => 99, [], st1, rfl, by simp; omega, hin1.out, Pl.start R1.out, rfl⟩
    case round =>
      obtain ⟨lab, l, st2, rfl, hj, hin2, OL, hr⟩ := hrel
      obtain ⟨A, cap, rfl⟩ := OL.form
      obtain ⟨a2, cd, ct⟩ := st2
      have k3 : wr.cell? ⟨q, 3, none⟩ = some (.int .i64 cd) := OL.1.cell 3 (by decide)
      have kl := cell_lt k3
      by_cases hgo : (l.length : Int) ≤ x ∧ cd = 0
      · obtain ⟨hg1, rfl⟩ := hgo
        have hnum2 : Hid (Calls Try.prog 80 #[.pointer (some ⟨q, 0, none⟩)] wr fun e' w' => e' = .returned (.int .i64 (rnum s ⟨a2, 0, ct⟩).1) ∧ Hid (Pl q w w' s (rnum s ⟨a2, 0, ct⟩).2 (.slice A l.length cap) lab l)) := by
          refine (pnum_any hs hin2 wr OL.1.row).mono ?_
          rintro e w3 ⟨rfl, R3⟩
          exact ⟨rfl, OL.ps R3.out⟩
        have hmore : Hid (∀ w3, Pl q w w3 s (rnum s ⟨a2, 0, ct⟩).2 (.slice A l.length cap) lab l → ∃ g cap2 w4 lab4, Hid ((Builtin.append_ #[26, 26] 26 #[.slice A l.length cap, .slice (some ⟨w3.heap.size, 0, none⟩) 1 1]).run Try.prog (w3.alloc (.cells #[.int .i64 (rnum s ⟨a2, 0, ct⟩).1] 3)) = .ok (.slice (some ⟨g, 0, none⟩) (l.length + 1) cap2) w4) ∧ Hid (Pl q w w4 s (rnum s ⟨a2, 0, ct⟩).2 (.slice (some ⟨g, 0, none⟩) (l.length + 1) cap2) lab4 (l ++ [(rnum s ⟨a2, 0, ct⟩).1]))) := fun w3 O3 => O3.more _ (by omega)
        have hr2 : Hid (rlab s (x.toNat + 1) st1 = ((l ++ [(rnum s ⟨a2, 0, ct⟩).1]) ++ (rlab s (x.toNat + 1 - (l.length + 1)) (rnum s ⟨a2, 0, ct⟩).2).1, (rlab s (x.toNat + 1 - (l.length + 1)) (rnum s ⟨a2, 0, ct⟩).2).2)) := by
          show _ = _
          rw [hr, show x.toNat + 1 - l.length = (x.toNat + 1 - (l.length + 1)) + 1 by omega]
          conv => lhs; unfold rlab
          simp
        have hin3 : Hid (Rin s (rnum s ⟨a2, 0, ct⟩).2) := rnum_in hin2
        clear hr OL
        replace hin2 : Hid True := trivial
        generalize (rnum s ⟨a2, 0, ct⟩).2 = st3 at *
        generalize (rnum s ⟨a2, 0, ct⟩).1 = y at *
        go_wp2_with (first | (go_at_call 80; refine hnum2.out.mono ?_; rintro e w3 ⟨rfl, O3⟩; obtain ⟨g, cap2, w4, lab4, r4, O4⟩ := hmore.out w3 O3.out) | (at_builtin; refine wpList_app rfl _ _ 26 rfl _ _ _ rfl rfl r4.out ?_))
        refine ⟨⟨lab4, l ++ [y], st3, by simp, by simp; omega, hin3.out, by simpa using O4.out, by simpa using hr2.out⟩, ?_⟩
        simp [intOf]
        omega
      · have hfin : Hid (rlab s (x.toNat + 1) st1 = (l, ⟨a2, cd, ct⟩)) := by
          show _ = _
          rw [hr]
          by_cases hg1 : (l.length : Int) ≤ x
          · have hcd : ¬ cd = 0 := fun e => hgo ⟨hg1, e⟩
            rw [show x.toNat + 1 - l.length = (x.toNat + 1 - (l.length + 1)) + 1 by omega]
            unfold rlab
            simp [hcd]
          · rw [show x.toNat + 1 - l.length = 0 by omega]
            simp [rlab]
        have hlq : Hid (Lq (Zn w.heap.size wr) wr A l) := OL.lq
        have hps : Hid (Ps q w wr s ⟨a2, cd, ct⟩) := OL.1
        have hgo2 : (¬ (l.length : Int) ≤ x) ∨ ((l.length : Int) ≤ x ∧ (cd == 0) = false) := by
          by_cases hg1 : (l.length : Int) ≤ x
          · exact Or.inr ⟨hg1, beq_false (fun e => hgo ⟨hg1, e⟩)⟩
          · exact Or.inl hg1
        clear hgo hr OL hin2
        rcases hgo2 with h9 | ⟨h9, h8⟩
        all_goals
          go_wp2_with fail
          go_ret
          rw [hfin.out]
          first | exact ⟨A, cap, rfl, hlq, hps⟩ | exact ⟨A, ⟨cap, rfl⟩, hlq, hps⟩
end Go.Proofs.Ytngciahmoenkiab.gi

