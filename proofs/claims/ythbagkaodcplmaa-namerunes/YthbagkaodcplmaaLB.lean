/- Over this seat's translation: numbers in parts of 7 bits with their sign: the document's Sleb. -/
import Derived.Test.YthbagkaodcplmaaLA
import Derived.Test.YthbagkaodcplmaaMath
set_option linter.unusedVariables false
set_option linter.unusedSimpArgs false
set_option maxRecDepth 100000
set_option maxHeartbeats 4000000
namespace Go.Proofs.Ythbagkaodcplmaa
open Go.RowKit
def slebF : Nat → Int → List Int
  | 0, x => [x % 128]
  | r + 1, x => if -64 ≤ x ∧ x ≤ 63 then [x % 128] else (x % 128 + 128) :: slebF r (x / 128)
def slebL (x : Int) : List Int := slebF 9 x
theorem slebF_byte : ∀ (r : Nat) (x : Int), ∀ b ∈ slebF r x, 0 ≤ b ∧ b < 256
  | 0, x, b, hb => by
    simp only [slebF, List.mem_cons, List.not_mem_nil, or_false] at hb
    omega
  | r + 1, x, b, hb => by
    unfold slebF at hb
    by_cases hx : -64 ≤ x ∧ x ≤ 63
    · rw [if_pos hx] at hb
      simp only [List.mem_cons, List.not_mem_nil, or_false] at hb
      omega
    · rw [if_neg hx] at hb
      rcases List.mem_cons.1 hb with rfl | hb
      · omega
      · exact slebF_byte r (x / 128) b hb
theorem or_128 (y : Int) : bits .or .i64 (y % 128) 128 = y % 128 + 128 := by
  have h : ∀ n : Nat, n < 128 → bits .or .i64 (n : Int) 128 = (n : Int) + 128 := by decide +kernel
  have := h (y % 128).toNat (by omega)
  rwa [Int.toNat_of_nonneg (by omega)] at this
end Go.Proofs.Ythbagkaodcplmaa
