/- Plain mathematics of words of 64 bits without sign, more: products, sums, differences, long division. -/
import Derived.Test.YtibfjlibkaejnabFW
namespace Go.FM
open Go.RowKit
set_option linter.unusedVariables false

theorem or_add (r p j : Nat) (hp : p < 2 ^ j) : (r * 2 ^ j) ||| p = r * 2 ^ j + p := by
  rw [Nat.mul_comm, Nat.two_pow_add_eq_or_of_lt hp]
theorem mul_parts (a b c d p q r : Nat) (hp : p = b * d) (hq : q = a * d + p / 4294967296) (hr : r = b * c + q % 4294967296) :
    (a * 4294967296 + b) * (c * 4294967296 + d) = (a * c + q / 4294967296 + r / 4294967296) * W64 + (r % 4294967296 * 4294967296 + p % 4294967296) := by
  have e : (a * 4294967296 + b) * (c * 4294967296 + d) = a * c * 18446744073709551616 + (a * d + b * c) * 4294967296 + b * d := by
    rw [Nat.add_mul, Nat.mul_add, Nat.mul_add]
    have e1 : a * 4294967296 * (c * 4294967296) = a * c * 18446744073709551616 := by rw [Nat.mul_mul_mul_comm]
    have e2 : a * 4294967296 * d = a * d * 4294967296 := by rw [Nat.mul_right_comm]
    have e3 : b * (c * 4294967296) = b * c * 4294967296 := by rw [Nat.mul_assoc]
    rw [e1, e2, e3, Nat.add_mul]; omega
  rw [e, ← hp]
  simp only [W64]
  generalize a * c = ac at *
  generalize a * d = ad at *
  generalize b * c = bc at *
  generalize b * d = bd at *
  omega
theorem mul_bound (a d : Nat) (ha : a < 4294967296) (hd : d < 4294967296) : a * d ≤ 18446744065119617025 := by
  have : a * d ≤ 4294967295 * 4294967295 := Nat.mul_le_mul (by omega) (by omega)
  omega
/-- a step of a long division -/
theorem div_step (N y b : Nat) (hb : b < 2) (hy : 0 < y) :
    (2 * N + b) / y = 2 * (N / y) + (if y ≤ 2 * (N % y) + b then 1 else 0) ∧ (2 * N + b) % y = 2 * (N % y) + b - (if y ≤ 2 * (N % y) + b then y else 0) := by
  have h1 := Nat.div_add_mod N y
  have h2 := Nat.mod_lt N hy
  have e : 2 * N + b = (2 * (N % y) + b) + y * (2 * (N / y)) := by
    rw [Nat.mul_left_comm]
    generalize y * (N / y) = z at *
    generalize N % y = r at *
    omega
  generalize hr : N % y = r at *
  generalize N / y = q at *
  rw [e, Nat.add_mul_div_left _ _ hy, Nat.add_mul_mod_self_left]
  by_cases h : y ≤ 2 * r + b
  · rw [if_pos h, if_pos h]
    have e2 : 2 * r + b = (2 * r + b - y) + y * 1 := by omega
    have lt : 2 * r + b - y < y := by omega
    constructor
    · rw [e2, Nat.add_mul_div_left _ _ hy, Nat.div_eq_of_lt lt]; omega
    · conv => lhs; rw [e2, Nat.add_mul_mod_self_left, Nat.mod_eq_of_lt lt]
  · rw [if_neg h, if_neg h, Nat.div_eq_of_lt (by omega), Nat.mod_eq_of_lt (by omega)]
    omega
/-- what was lost, against half: -1 below, 0 half, 1 above; 2: nothing was lost -/
def lost (M k : Nat) : Int := if M % 2 ^ k = 0 then 2 else if 2 * (M % 2 ^ k) < 2 ^ k then -1 else if 2 * (M % 2 ^ k) = 2 ^ k then 0 else 1
theorem lost_at (M k : Nat) : lost M (k + 1) = if M / 2 ^ k % 2 = 1 then (if M % 2 ^ k = 0 then 0 else 1) else (if M % 2 ^ k = 0 then 2 else -1) := by
  have h := Nat.mod_pow_succ (x := M) (b := 2) (k := k)
  have hm : M % 2 ^ k < 2 ^ k := Nat.mod_lt _ (Nat.two_pow_pos k)
  have hp : 2 ^ (k + 1) = 2 * 2 ^ k := by rw [Nat.pow_succ, Nat.mul_comm]
  unfold lost
  rw [h, hp]
  have hb : M / 2 ^ k % 2 = 0 ∨ M / 2 ^ k % 2 = 1 := by omega
  generalize M / 2 ^ k % 2 = b at *
  generalize M % 2 ^ k = r at *
  generalize 2 ^ k = p at *
  rcases hb with rfl | rfl
  · rw [Nat.mul_zero, Nat.add_zero, if_neg (show ¬ (0 : Nat) = 1 by decide)]
    by_cases h0 : r = 0
    · rw [if_pos h0, if_pos h0]
    · rw [if_neg h0, if_neg h0, if_pos (by omega)]
  · rw [if_pos rfl, Nat.mul_one]
    by_cases h0 : r = 0
    · rw [if_pos h0, if_neg (by omega), if_neg (by omega), if_pos (by omega)]
    · rw [if_neg h0, if_neg (by omega), if_neg (by omega), if_neg (by omega)]
theorem low_some (M i : Nat) : (M % 2 ^ (i + 1) = 0) ↔ (M % 2 ^ i = 0 ∧ M / 2 ^ i % 2 = 0) := by
  have h := Nat.mod_pow_succ (x := M) (b := 2) (k := i)
  rw [h]
  have hp : 0 < 2 ^ i := Nat.two_pow_pos i
  constructor
  · intro h0
    have h1 : M % 2 ^ i = 0 := by omega
    have h2 : 2 ^ i * (M / 2 ^ i % 2) = 0 := by omega
    rcases Nat.mul_eq_zero.1 h2 with h3 | h3
    · omega
    · exact ⟨h1, h3⟩
  · rintro ⟨h1, h2⟩
    rw [h1, h2, Nat.mul_zero]
theorem two_down (hi lo j : Nat) (hhi : hi < W64) (hlo : lo < W64) (hj : j < 64) (h0 : 0 < j) :
    two hi lo / 2 ^ j / W64 = hi / 2 ^ j ∧ two hi lo / 2 ^ j % W64 = hi * 2 ^ (64 - j) % W64 + lo / 2 ^ j ∧ lo / 2 ^ j < 2 ^ (64 - j) ∧ hi * 2 ^ (64 - j) % W64 = hi % 2 ^ j * 2 ^ (64 - j) := by
  have e : W64 = 2 ^ j * 2 ^ (64 - j) := by rw [← Nat.pow_add, show j + (64 - j) = 64 from by omega]
  have p1 := Nat.two_pow_pos j
  have p2 := Nat.two_pow_pos (64 - j)
  have h1 : lo / 2 ^ j < 2 ^ (64 - j) := by rw [Nat.div_lt_iff_lt_mul p1, Nat.mul_comm, ← e]; exact hlo
  have h2 : two hi lo / 2 ^ j = hi * 2 ^ (64 - j) + lo / 2 ^ j := by
    unfold two
    rw [e, Nat.mul_left_comm, Nat.mul_comm (2 ^ j), Nat.add_comm, Nat.add_mul_div_right _ _ p1, Nat.add_comm]
  have h3 : hi * 2 ^ (64 - j) % W64 = hi % 2 ^ j * 2 ^ (64 - j) := by rw [e, Nat.mul_mod_mul_right]
  have h4 : hi % 2 ^ j < 2 ^ j := Nat.mod_lt _ p1
  have h5 : hi % 2 ^ j * 2 ^ (64 - j) + lo / 2 ^ j < W64 := by
    have : (hi % 2 ^ j + 1) * 2 ^ (64 - j) ≤ 2 ^ j * 2 ^ (64 - j) := Nat.mul_le_mul_right _ h4
    rw [Nat.add_mul, Nat.one_mul, ← e] at this
    omega
  have h6 : hi * 2 ^ (64 - j) + lo / 2 ^ j = (hi % 2 ^ j * 2 ^ (64 - j) + lo / 2 ^ j) + hi / 2 ^ j * W64 := by
    have := Nat.div_add_mod hi (2 ^ j)
    have e2 : hi * 2 ^ (64 - j) = (2 ^ j * (hi / 2 ^ j) + hi % 2 ^ j) * 2 ^ (64 - j) := by rw [this]
    rw [e2, Nat.add_mul, e, Nat.mul_comm (2 ^ j) (hi / 2 ^ j), Nat.mul_assoc]
    omega
  refine ⟨?_, ?_, h1, h3⟩
  · rw [h2, h6, Nat.add_mul_div_right _ _ (by decide), Nat.div_eq_of_lt h5, Nat.zero_add]
  · rw [h2, h6, Nat.add_mul_mod_self_right, Nat.mod_eq_of_lt h5, h3]
end Go.FM
