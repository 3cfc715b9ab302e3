/- Over this seat's translation: package leb: parts walked. -/
import Derived.Test.YtkdfmgdadnlnlaaLVA
set_option linter.unusedVariables false
set_option linter.unusedSimpArgs false
set_option maxRecDepth 100000
set_option maxHeartbeats 4000000
namespace Go.Proofs.Ytkdfmgdadnlnlaa
open Go.RowKit
theorem most_32 (w : World) : Calls Try.prog 102 #[.int .i64 32] w fun e w' => e = .returned (.int .i64 5) ∧ w' = w := by
  go_enter Try.func102, Try.ntmps102
  go_wp2
  go_ret
  exact ⟨rfl, rfl⟩
theorem most_64 (w : World) : Calls Try.prog 102 #[.int .i64 64] w fun e w' => e = .returned (.int .i64 10) ∧ w' = w := by
  go_enter Try.func102, Try.ntmps102
  go_wp2
  go_ret
  exact ⟨rfl, rfl⟩
theorem room_big (p bits_ : Int) (h0 : 0 ≤ p ∧ p ≤ 100) (h : 7 ≤ bits_ - 7 * (p - 1)) (h2 : bits_ ≤ 100) (w : World) : Calls Try.prog 100 #[.int .i64 p, .int .i64 bits_] w fun e w' => e = .returned (.int .i64 7) ∧ w' = w := by
  have hm : min 7 (bits_ - 7 * (p - 1)) = 7 := by omega
  go_enter Try.func100, Try.ntmps100
  go_wp2
  go_ret
  exact ⟨by simp [hm], rfl⟩
theorem room_32 (w : World) : Calls Try.prog 100 #[.int .i64 5, .int .i64 32] w fun e w' => e = .returned (.int .i64 4) ∧ w' = w := by
  go_enter Try.func100, Try.ntmps100
  go_wp2
  go_ret
  exact ⟨rfl, rfl⟩
theorem room_64 (w : World) : Calls Try.prog 100 #[.int .i64 10, .int .i64 64] w fun e w' => e = .returned (.int .i64 1) ∧ w' = w := by
  go_enter Try.func100, Try.ntmps100
  go_wp2
  go_ret
  exact ⟨rfl, rfl⟩
/-- what a number's parts hold -/
def nbr (low last parts : Int) : Value := .agg #[.int .u64 low, .int .u8 last, .int .i64 parts]
theorem walk_form (s : ByteArray) (at_ bits_ : Int) (h : ¬ ((bits_ = 32 ∨ bits_ = 64) ∧ 0 ≤ at_ ∧ at_ ≤ (s.size : Int))) (w : World) :
    Calls Try.prog 99 #[.string s, .int .i64 at_, .int .i64 bits_] w fun e w' => e = .returned (.tuple #[nbr 0 0 0, .int .i64 1200]) ∧ Later w w' := by
  have h3 : ((bits_ != 32) = true ∧ (bits_ != 64) = true) ∨ (bits_ = 32 ∧ at_ < 0) ∨ (bits_ = 32 ∧ ¬ at_ < 0 ∧ (s.size : Int) < at_) ∨ ((bits_ != 32) = true ∧ bits_ = 64 ∧ at_ < 0) ∨ ((bits_ != 32) = true ∧ bits_ = 64 ∧ ¬ at_ < 0 ∧ (s.size : Int) < at_) := by
    simp only [bne_iff_ne, ne_eq]
    omega
  clear h
  rcases h3 with ⟨h1, h2⟩ | ⟨rfl, h1⟩ | ⟨rfl, h1, h2⟩ | ⟨_, rfl, h1⟩ | ⟨_, rfl, h1, h2⟩
  all_goals
    go_enter Try.func99, Try.ntmps99
    go_wp2
    refine bodyPost_ret (v := .tuple #[nbr 0 0 0, .int .i64 1200]) (by simp [results, Try.results99, go_sem, nbr]) rfl ⟨rfl, (by repeat first | exact Lz _ | apply La | apply Lv | apply Ld | apply Ln)⟩
end Go.Proofs.Ytkdfmgdadnlnlaa
