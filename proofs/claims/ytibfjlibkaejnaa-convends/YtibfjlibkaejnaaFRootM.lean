/- Plain mathematics of roots by digits: one digit more. -/
import Derived.Test.YtibfjlibkaejnaaFW2
namespace Go.FM
set_option linter.unusedVariables false

theorem sq_add (r P : Nat) : (r + P) * (r + P) = r * r + 2 * (r * P) + P * P := by
  rw [Nat.mul_add, Nat.add_mul, Nat.add_mul, Nat.mul_comm P r]; omega
theorem root_room (r j c : Nat) (N : Nat) (hj : j ≤ 64) (hr : r = c * 2 ^ j) (h : r * r ≤ N) (hN : N < 2 ^ 128) : r + 2 ^ j ≤ 18446744073709551616 := by
  have h1 : r < 2 ^ 64 := by
    rcases Nat.lt_or_ge r (2 ^ 64) with h1 | h1
    · exact h1
    · have := Nat.mul_le_mul h1 h1
      rw [← Nat.pow_add] at this
      omega
  have e : (2 : Nat) ^ 64 = 2 ^ (64 - j) * 2 ^ j := by rw [← Nat.pow_add]; congr 1; omega
  have h2 : c < 2 ^ (64 - j) := by
    rw [hr, e] at h1
    exact Nat.lt_of_mul_lt_mul_right h1
  have h3 := Nat.mul_le_mul_right (2 ^ j) (show c + 1 ≤ 2 ^ (64 - j) from h2)
  rw [Nat.add_mul, Nat.one_mul, ← hr, ← e] at h3
  exact h3
theorem root_yes (r k N : Nat) (h2 : N < (r + 2 ^ (k + 1)) * (r + 2 ^ (k + 1))) : N < (r + 2 ^ k + 2 ^ k) * (r + 2 ^ k + 2 ^ k) := by
  rw [Nat.pow_succ, Nat.mul_two, ← Nat.add_assoc] at h2; exact h2
theorem root_or (r k c : Nat) (hk : k < 64) (hr : r = c * 2 ^ (k + 1)) (hb : r + 2 ^ (k + 1) ≤ 18446744073709551616) : Go.bits .or .u64 (r : Int) ((2 ^ k : Nat) : Int) = ((r + 2 ^ k : Nat) : Int) := by
  have hp := Nat.two_pow_pos k
  have e : 2 ^ (k + 1) = 2 ^ k * 2 := Nat.pow_succ 2 k
  have a1 := or_u r (2 ^ k) (by simp only [W64]; omega) (by simp only [W64]; omega)
  have a2 := or_add c (2 ^ k) (k + 1) (by omega)
  rw [← hr] at a2
  rw [a1, a2]
theorem two_le (p q H : Nat) (hq : q < W64) : (two p q ≤ two H 0) ↔ (p < H ∨ (p = H ∧ q = 0)) := by
  unfold two
  simp only [W64] at *
  omega
theorem two_parts (N : Nat) : two (N / W64) (N % W64) = N := by
  unfold two
  rw [Nat.mul_comm]; exact Nat.div_add_mod N W64
end Go.FM
