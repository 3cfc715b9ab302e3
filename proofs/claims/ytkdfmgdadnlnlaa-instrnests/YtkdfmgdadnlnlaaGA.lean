/- package instr: what stands behind an Op (layoutOf), and small questions. -/
import Derived.Test.YtkdfmgdadnlnlaaXE
import Derived.Test.YtkdfmgdadnlnlaaXA
set_option linter.unusedVariables false
set_option linter.unusedSimpArgs false
set_option maxRecDepth 100000
set_option maxHeartbeats 4000000
namespace Go.Proofs.Ytkdfmgdadnlnlaa.gi
open Go.RowKit
/-- an Op's row of the table -/
def lay (op : Int) : Int :=
  if fo op = 9 then 0 else if fo op = 0 then 1 else if fo op = 1 then 2 else if fo op = 2 then 3 else if fo op = 3 then 4 else if fo op = 4 then 5 else if fo op = 5 then 6 else if fo op = 6 then 7 else if fo op = 7 then 8 else if op = 65 then 9 else if op = 66 then 10 else if op = 67 then 11 else 12
theorem lay_0 (w : World) : Calls Try.prog 35 #[.int .i64 0] w fun e w' => e = .returned (.int .i64 1) ∧ w' = w := by
  go_enter Try.func35, Try.ntmps35
  go_wp2
  go_ret
  exact ⟨rfl, rfl⟩
theorem lay_1 (w : World) : Calls Try.prog 35 #[.int .i64 1] w fun e w' => e = .returned (.int .i64 1) ∧ w' = w := by
  go_enter Try.func35, Try.ntmps35
  go_wp2
  go_ret
  exact ⟨rfl, rfl⟩
theorem lay_15 (w : World) : Calls Try.prog 35 #[.int .i64 15] w fun e w' => e = .returned (.int .i64 1) ∧ w' = w := by
  go_enter Try.func35, Try.ntmps35
  go_wp2
  go_ret
  exact ⟨rfl, rfl⟩
theorem lay_26 (w : World) : Calls Try.prog 35 #[.int .i64 26] w fun e w' => e = .returned (.int .i64 1) ∧ w' = w := by
  go_enter Try.func35, Try.ntmps35
  go_wp2
  go_ret
  exact ⟨rfl, rfl⟩
theorem lay_27 (w : World) : Calls Try.prog 35 #[.int .i64 27] w fun e w' => e = .returned (.int .i64 1) ∧ w' = w := by
  go_enter Try.func35, Try.ntmps35
  go_wp2
  go_ret
  exact ⟨rfl, rfl⟩
theorem lay_2 (w : World) : Calls Try.prog 35 #[.int .i64 2] w fun e w' => e = .returned (.int .i64 2) ∧ w' = w := by
  go_enter Try.func35, Try.ntmps35
  go_wp2
  go_ret
  exact ⟨rfl, rfl⟩
theorem lay_3 (w : World) : Calls Try.prog 35 #[.int .i64 3] w fun e w' => e = .returned (.int .i64 2) ∧ w' = w := by
  go_enter Try.func35, Try.ntmps35
  go_wp2
  go_ret
  exact ⟨rfl, rfl⟩
theorem lay_4 (w : World) : Calls Try.prog 35 #[.int .i64 4] w fun e w' => e = .returned (.int .i64 3) ∧ w' = w := by
  go_enter Try.func35, Try.ntmps35
  go_wp2
  go_ret
  exact ⟨rfl, rfl⟩
theorem lay_12 (w : World) : Calls Try.prog 35 #[.int .i64 12] w fun e w' => e = .returned (.int .i64 4) ∧ w' = w := by
  go_enter Try.func35, Try.ntmps35
  go_wp2
  go_ret
  exact ⟨rfl, rfl⟩
theorem lay_13 (w : World) : Calls Try.prog 35 #[.int .i64 13] w fun e w' => e = .returned (.int .i64 4) ∧ w' = w := by
  go_enter Try.func35, Try.ntmps35
  go_wp2
  go_ret
  exact ⟨rfl, rfl⟩
theorem lay_16 (w : World) : Calls Try.prog 35 #[.int .i64 16] w fun e w' => e = .returned (.int .i64 4) ∧ w' = w := by
  go_enter Try.func35, Try.ntmps35
  go_wp2
  go_ret
  exact ⟨rfl, rfl⟩
theorem lay_14 (w : World) : Calls Try.prog 35 #[.int .i64 14] w fun e w' => e = .returned (.int .i64 5) ∧ w' = w := by
  go_enter Try.func35, Try.ntmps35
  go_wp2
  go_ret
  exact ⟨rfl, rfl⟩
theorem lay_17 (w : World) : Calls Try.prog 35 #[.int .i64 17] w fun e w' => e = .returned (.int .i64 6) ∧ w' = w := by
  go_enter Try.func35, Try.ntmps35
  go_wp2
  go_ret
  exact ⟨rfl, rfl⟩
theorem lay_63 (w : World) : Calls Try.prog 35 #[.int .i64 63] w fun e w' => e = .returned (.int .i64 8) ∧ w' = w := by
  go_enter Try.func35, Try.ntmps35
  go_wp2
  go_ret
  exact ⟨rfl, rfl⟩
theorem lay_64 (w : World) : Calls Try.prog 35 #[.int .i64 64] w fun e w' => e = .returned (.int .i64 8) ∧ w' = w := by
  go_enter Try.func35, Try.ntmps35
  go_wp2
  go_ret
  exact ⟨rfl, rfl⟩
theorem lay_65 (w : World) : Calls Try.prog 35 #[.int .i64 65] w fun e w' => e = .returned (.int .i64 9) ∧ w' = w := by
  go_enter Try.func35, Try.ntmps35
  go_wp2
  go_ret
  exact ⟨rfl, rfl⟩
theorem lay_66 (w : World) : Calls Try.prog 35 #[.int .i64 66] w fun e w' => e = .returned (.int .i64 10) ∧ w' = w := by
  go_enter Try.func35, Try.ntmps35
  go_wp2
  go_ret
  exact ⟨rfl, rfl⟩
theorem lay_67 (w : World) : Calls Try.prog 35 #[.int .i64 67] w fun e w' => e = .returned (.int .i64 11) ∧ w' = w := by
  go_enter Try.func35, Try.ntmps35
  go_wp2
  go_ret
  exact ⟨rfl, rfl⟩
theorem lay_68 (w : World) : Calls Try.prog 35 #[.int .i64 68] w fun e w' => e = .returned (.int .i64 12) ∧ w' = w := by
  go_enter Try.func35, Try.ntmps35
  go_wp2
  go_ret
  exact ⟨rfl, rfl⟩
theorem lay_num (op : Int) (n0 : (op == 0) = false) (n1 : (op == 1) = false) (n15 : (op == 15) = false) (n26 : (op == 26) = false) (n27 : (op == 27) = false) (n2 : (op == 2) = false) (n3 : (op == 3) = false) (n4 : (op == 4) = false) (n12 : (op == 12) = false) (n13 : (op == 13) = false) (n16 : (op == 16) = false) (n14 : (op == 14) = false) (n17 : (op == 17) = false) (n63 : (op == 63) = false) (n64 : (op == 64) = false) (n65 : (op == 65) = false) (n66 : (op == 66) = false) (n67 : (op == 67) = false) (n68 : (op == 68) = false) (h1 : 69 ≤ op) (h2 : op ≤ 191) (w : World) : Calls Try.prog 35 #[.int .i64 op] w fun e w' => e = .returned (.int .i64 1) ∧ w' = w := by
  go_enter Try.func35, Try.ntmps35
  go_wp2
  go_ret
  exact ⟨rfl, rfl⟩
theorem lay_over (op : Int) (n0 : (op == 0) = false) (n1 : (op == 1) = false) (n15 : (op == 15) = false) (n26 : (op == 26) = false) (n27 : (op == 27) = false) (n2 : (op == 2) = false) (n3 : (op == 3) = false) (n4 : (op == 4) = false) (n12 : (op == 12) = false) (n13 : (op == 13) = false) (n16 : (op == 16) = false) (n14 : (op == 14) = false) (n17 : (op == 17) = false) (n63 : (op == 63) = false) (n64 : (op == 64) = false) (n65 : (op == 65) = false) (n66 : (op == 66) = false) (n67 : (op == 67) = false) (n68 : (op == 68) = false) (h1 : 191 < op) (w : World) : Calls Try.prog 35 #[.int .i64 op] w fun e w' => e = .returned (.int .i64 0) ∧ w' = w := by
  go_enter Try.func35, Try.ntmps35
  go_wp2
  go_ret
  exact ⟨rfl, rfl⟩
theorem lay_var (op : Int) (n0 : (op == 0) = false) (n1 : (op == 1) = false) (n15 : (op == 15) = false) (n26 : (op == 26) = false) (n27 : (op == 27) = false) (n2 : (op == 2) = false) (n3 : (op == 3) = false) (n4 : (op == 4) = false) (n12 : (op == 12) = false) (n13 : (op == 13) = false) (n16 : (op == 16) = false) (n14 : (op == 14) = false) (n17 : (op == 17) = false) (n63 : (op == 63) = false) (n64 : (op == 64) = false) (n65 : (op == 65) = false) (n66 : (op == 66) = false) (n67 : (op == 67) = false) (n68 : (op == 68) = false) (h1 : 32 ≤ op) (h2 : op ≤ 36) (w : World) : Calls Try.prog 35 #[.int .i64 op] w fun e w' => e = .returned (.int .i64 4) ∧ w' = w := by
  go_enter Try.func35, Try.ntmps35
  go_wp2
  go_ret
  exact ⟨rfl, rfl⟩
theorem lay_acc (op : Int) (n0 : (op == 0) = false) (n1 : (op == 1) = false) (n15 : (op == 15) = false) (n26 : (op == 26) = false) (n27 : (op == 27) = false) (n2 : (op == 2) = false) (n3 : (op == 3) = false) (n4 : (op == 4) = false) (n12 : (op == 12) = false) (n13 : (op == 13) = false) (n16 : (op == 16) = false) (n14 : (op == 14) = false) (n17 : (op == 17) = false) (n63 : (op == 63) = false) (n64 : (op == 64) = false) (n65 : (op == 65) = false) (n66 : (op == 66) = false) (n67 : (op == 67) = false) (n68 : (op == 68) = false) (h1 : 40 ≤ op) (h2 : op ≤ 62) (w : World) : Calls Try.prog 35 #[.int .i64 op] w fun e w' => e = .returned (.int .i64 7) ∧ w' = w := by
  go_enter Try.func35, Try.ntmps35
  go_wp2
  go_ret
  exact ⟨rfl, rfl⟩
theorem lay_low (op : Int) (n0 : (op == 0) = false) (n1 : (op == 1) = false) (n15 : (op == 15) = false) (n26 : (op == 26) = false) (n27 : (op == 27) = false) (n2 : (op == 2) = false) (n3 : (op == 3) = false) (n4 : (op == 4) = false) (n12 : (op == 12) = false) (n13 : (op == 13) = false) (n16 : (op == 16) = false) (n14 : (op == 14) = false) (n17 : (op == 17) = false) (n63 : (op == 63) = false) (n64 : (op == 64) = false) (n65 : (op == 65) = false) (n66 : (op == 66) = false) (n67 : (op == 67) = false) (n68 : (op == 68) = false) (h1 : op < 32) (w : World) : Calls Try.prog 35 #[.int .i64 op] w fun e w' => e = .returned (.int .i64 0) ∧ w' = w := by
  go_enter Try.func35, Try.ntmps35
  go_wp2
  go_ret
  exact ⟨rfl, rfl⟩
theorem lay_mid (op : Int) (n0 : (op == 0) = false) (n1 : (op == 1) = false) (n15 : (op == 15) = false) (n26 : (op == 26) = false) (n27 : (op == 27) = false) (n2 : (op == 2) = false) (n3 : (op == 3) = false) (n4 : (op == 4) = false) (n12 : (op == 12) = false) (n13 : (op == 13) = false) (n16 : (op == 16) = false) (n14 : (op == 14) = false) (n17 : (op == 17) = false) (n63 : (op == 63) = false) (n64 : (op == 64) = false) (n65 : (op == 65) = false) (n66 : (op == 66) = false) (n67 : (op == 67) = false) (n68 : (op == 68) = false) (h1 : 36 < op) (h2 : op < 40) (w : World) : Calls Try.prog 35 #[.int .i64 op] w fun e w' => e = .returned (.int .i64 0) ∧ w' = w := by
  go_enter Try.func35, Try.ntmps35
  go_wp2
  go_ret
  exact ⟨rfl, rfl⟩
theorem lay_is (op v : Int) (h : lay op = v) (w : World) (h2 : Calls Try.prog 35 #[.int .i64 op] w fun e w' => e = .returned (.int .i64 v) ∧ w' = w) : Calls Try.prog 35 #[.int .i64 op] w fun e w' => e = .returned (.int .i64 (lay op)) ∧ w' = w := by rw [h]; exact h2
theorem lay_any (op : Int) (w : World) : Calls Try.prog 35 #[.int .i64 op] w fun e w' => e = .returned (.int .i64 (lay op)) ∧ w' = w := by
  by_cases e0 : op = 0
  · subst e0; exact lay_is _ _ (by decide) w (lay_0 w)
  by_cases e1 : op = 1
  · subst e1; exact lay_is _ _ (by decide) w (lay_1 w)
  by_cases e15 : op = 15
  · subst e15; exact lay_is _ _ (by decide) w (lay_15 w)
  by_cases e26 : op = 26
  · subst e26; exact lay_is _ _ (by decide) w (lay_26 w)
  by_cases e27 : op = 27
  · subst e27; exact lay_is _ _ (by decide) w (lay_27 w)
  by_cases e2 : op = 2
  · subst e2; exact lay_is _ _ (by decide) w (lay_2 w)
  by_cases e3 : op = 3
  · subst e3; exact lay_is _ _ (by decide) w (lay_3 w)
  by_cases e4 : op = 4
  · subst e4; exact lay_is _ _ (by decide) w (lay_4 w)
  by_cases e12 : op = 12
  · subst e12; exact lay_is _ _ (by decide) w (lay_12 w)
  by_cases e13 : op = 13
  · subst e13; exact lay_is _ _ (by decide) w (lay_13 w)
  by_cases e16 : op = 16
  · subst e16; exact lay_is _ _ (by decide) w (lay_16 w)
  by_cases e14 : op = 14
  · subst e14; exact lay_is _ _ (by decide) w (lay_14 w)
  by_cases e17 : op = 17
  · subst e17; exact lay_is _ _ (by decide) w (lay_17 w)
  by_cases e63 : op = 63
  · subst e63; exact lay_is _ _ (by decide) w (lay_63 w)
  by_cases e64 : op = 64
  · subst e64; exact lay_is _ _ (by decide) w (lay_64 w)
  by_cases e65 : op = 65
  · subst e65; exact lay_is _ _ (by decide) w (lay_65 w)
  by_cases e66 : op = 66
  · subst e66; exact lay_is _ _ (by decide) w (lay_66 w)
  by_cases e67 : op = 67
  · subst e67; exact lay_is _ _ (by decide) w (lay_67 w)
  by_cases e68 : op = 68
  · subst e68; exact lay_is _ _ (by decide) w (lay_68 w)
  by_cases k1 : 69 ≤ op ∧ op ≤ 191
  · have e : fo op = 0 := by unfold fo; (repeat' split) <;> omega
    exact lay_is op 1 (by simp [lay, e]) w (lay_num op (beq_false e0) (beq_false e1) (beq_false e15) (beq_false e26) (beq_false e27) (beq_false e2) (beq_false e3) (beq_false e4) (beq_false e12) (beq_false e13) (beq_false e16) (beq_false e14) (beq_false e17) (beq_false e63) (beq_false e64) (beq_false e65) (beq_false e66) (beq_false e67) (beq_false e68) k1.1 k1.2 w)
  by_cases k2 : 191 < op
  · have e : fo op = 9 := by unfold fo; (repeat' split) <;> omega
    exact lay_is op 0 (by simp [lay, e]) w (lay_over op (beq_false e0) (beq_false e1) (beq_false e15) (beq_false e26) (beq_false e27) (beq_false e2) (beq_false e3) (beq_false e4) (beq_false e12) (beq_false e13) (beq_false e16) (beq_false e14) (beq_false e17) (beq_false e63) (beq_false e64) (beq_false e65) (beq_false e66) (beq_false e67) (beq_false e68) k2 w)
  by_cases k3 : 32 ≤ op ∧ op ≤ 36
  · have e : fo op = 3 := by unfold fo; (repeat' split) <;> omega
    exact lay_is op 4 (by simp [lay, e]) w (lay_var op (beq_false e0) (beq_false e1) (beq_false e15) (beq_false e26) (beq_false e27) (beq_false e2) (beq_false e3) (beq_false e4) (beq_false e12) (beq_false e13) (beq_false e16) (beq_false e14) (beq_false e17) (beq_false e63) (beq_false e64) (beq_false e65) (beq_false e66) (beq_false e67) (beq_false e68) k3.1 k3.2 w)
  by_cases k4 : 40 ≤ op ∧ op ≤ 62
  · have e : fo op = 6 := by unfold fo; (repeat' split) <;> omega
    exact lay_is op 7 (by simp [lay, e]) w (lay_acc op (beq_false e0) (beq_false e1) (beq_false e15) (beq_false e26) (beq_false e27) (beq_false e2) (beq_false e3) (beq_false e4) (beq_false e12) (beq_false e13) (beq_false e16) (beq_false e14) (beq_false e17) (beq_false e63) (beq_false e64) (beq_false e65) (beq_false e66) (beq_false e67) (beq_false e68) k4.1 k4.2 w)
  by_cases k5 : op < 32
  · have e : fo op = 9 := by unfold fo; (repeat' split) <;> omega
    exact lay_is op 0 (by simp [lay, e]) w (lay_low op (beq_false e0) (beq_false e1) (beq_false e15) (beq_false e26) (beq_false e27) (beq_false e2) (beq_false e3) (beq_false e4) (beq_false e12) (beq_false e13) (beq_false e16) (beq_false e14) (beq_false e17) (beq_false e63) (beq_false e64) (beq_false e65) (beq_false e66) (beq_false e67) (beq_false e68) k5 w)
  by_cases k6 : 36 < op ∧ op < 40
  · have e : fo op = 9 := by unfold fo; (repeat' split) <;> omega
    exact lay_is op 0 (by simp [lay, e]) w (lay_mid op (beq_false e0) (beq_false e1) (beq_false e15) (beq_false e26) (beq_false e27) (beq_false e2) (beq_false e3) (beq_false e4) (beq_false e12) (beq_false e13) (beq_false e16) (beq_false e14) (beq_false e17) (beq_false e63) (beq_false e64) (beq_false e65) (beq_false e66) (beq_false e67) (beq_false e68) k6.1 k6.2 w)
  omega
end Go.Proofs.Ytkdfmgdadnlnlaa.gi
