/- Plain mathematics: the lowest and the highest one of a number, and how many lie between. -/
import Derived.Test.YtjolnfipacpjgaaDoorOnes
namespace Go.BM
open Go.RowKit
open Lib (popAux)

theorem lt_bitLenAux : ∀ (f x : Nat), x < 2 ^ f → x < 2 ^ Lib.bitLenAux f x
  | 0, x, h => h
  | f + 1, x, h => by
    simp only [Lib.bitLenAux]
    split
    · subst_vars; decide
    · have := lt_bitLenAux f (x / 2) (by rw [Nat.pow_succ] at h; omega)
      rw [Nat.add_comm 1, Nat.pow_succ]
      omega
theorem lt_bitLen (x : Nat) (h : x < 2 ^ 64) : x < 2 ^ Lib.bitLen x := lt_bitLenAux 64 x h
theorem bitLenAux_ge : ∀ (f x k : Nat), 2 ^ k ≤ x → k < f → k < Lib.bitLenAux f x
  | 0, _, _, _, h => absurd h (by omega)
  | f + 1, x, k, h, hk => by
    have hp := Nat.two_pow_pos k
    simp only [Lib.bitLenAux]
    rw [if_neg (by omega)]
    cases k with
    | zero => omega
    | succ k =>
      have := bitLenAux_ge f (x / 2) k (by rw [Nat.pow_succ] at h; omega) (by omega)
      omega
/-- the lowest one: x is an odd number 2^k times -/
theorem low_one (w x : Nat) (h0 : x ≠ 0) (h : x < 2 ^ w) : ∃ m, x = 2 ^ Lib.ctz w x * (2 * m + 1) ∧ Lib.ctz w x < w := by
  obtain ⟨m, h1, h2⟩ := Lib.ctzFrom_spec w x (by omega) h
  have e : Lib.ctz w x = Lib.ctzFrom w x := by simp [Lib.ctz, h0]
  rw [e]
  exact ⟨m, h1, h2⟩
theorem low_bit (w x : Nat) (h0 : x ≠ 0) (h : x < 2 ^ w) : x / 2 ^ Lib.ctz w x % 2 = 1 := by
  obtain ⟨m, h1, h2⟩ := low_one w x h0 h
  generalize Lib.ctz w x = k at *
  subst h1
  rw [Nat.mul_div_cancel_left _ (Nat.two_pow_pos k)]
  omega
theorem low_high (w x : Nat) (hw : w ≤ 64) (h0 : x ≠ 0) (h : x < 2 ^ w) : Lib.ctz w x < Lib.bitLen x := by
  obtain ⟨m, h1, h2⟩ := low_one w x h0 h
  refine bitLenAux_ge 64 x _ ?_ (by omega)
  generalize Lib.ctz w x = k at *
  rw [h1]
  exact Nat.le_mul_of_pos_right _ (by omega)
theorem pop_between (w x : Nat) (hw : w ≤ 64) (h0 : x ≠ 0) (h : x < 2 ^ w) : popAux w x ≤ Lib.bitLen x - Lib.ctz w x := by
  obtain ⟨m, h1, h2⟩ := low_one w x h0 h
  have h3 := low_high w x hw h0 h
  have h4 := lt_bitLen x (Nat.lt_of_lt_of_le h (Nat.pow_le_pow_right (by decide) hw))
  have h5 := Lib.bitLen_le x w hw h
  generalize hb : Lib.bitLen x = L at *
  generalize hk : Lib.ctz w x = k at *
  have e : w = k + ((L - k) + (w - L)) := by omega
  have e1 : popAux w x = popAux k x + popAux ((L - k) + (w - L)) (x / 2 ^ k) := by
    conv => lhs; rw [e]
    exact popAux_split _ _ _
  have e2 : popAux k x = 0 := by
    rw [← popAux_mod, h1, Nat.mul_mod_right, popAux_zero]
  have e3 : x / 2 ^ k / 2 ^ (L - k) = 0 := by
    rw [Nat.div_div_eq_div_mul, ← Nat.pow_add, show k + (L - k) = L from by omega]
    exact Nat.div_eq_of_lt h4
  rw [e1, e2, popAux_split, e3, popAux_zero]
  have := popAux_le (L - k) (x / 2 ^ k)
  omega
theorem pop_pow : ∀ q : Fin 32, popAux 32 (2 ^ q.val) = 1 := by decide +kernel
theorem pop_pow' : ∀ q : Fin 64, popAux 64 (2 ^ q.val) = 1 := by decide +kernel
/-- x & -x: the lowest one alone -/
theorem and_minus (w : Nat) (hw : w ≤ 64) (y : Int) (u : Nat) (hu : y % 18446744073709551616 = (u : Int)) (h0 : u ≠ 0) (h : u < 2 ^ w) :
    bits .and .i64 y (wrap64 (-y)) = wrap64 ((2 ^ Lib.ctz w u : Nat) : Int) := by
  obtain ⟨m, h1, h2⟩ := low_one w u h0 h
  have h3 : u < 2 ^ 64 := Nat.lt_of_lt_of_le h (Nat.pow_le_pow_right (by decide) hw)
  rw [and_i64, hu]
  have e : ((wrap64 (-y)) % 18446744073709551616).toNat = 2 ^ 64 - u := by
    simp only [wrap64]; omega
  rw [e, Int.toNat_natCast]
  have := Lib.and_neg 64 (Lib.ctz w u) m (by rw [← h1]; exact h3)
  rw [← h1] at this
  rw [this]
theorem rot_back (w x k j : Nat) (hk : k < w) (hj : j < w) (h : (j + k) % w = 0) (hx : x < 2 ^ w) : rotl w (rotl w x k) j = x := by
  by_cases hz : k = 0
  · subst hz
    have : j = 0 := by
      rw [Nat.add_zero, Nat.mod_eq_of_lt hj] at h; exact h
    subst this
    rw [rotl_zero w x hx, rotl_zero w x hx]
  · have : j = w - k := by
      have h1 : j + k < 2 * w := by omega
      have h2 : j + k ≠ 0 := by omega
      have h3 : (j + k) / w * w = j + k := Nat.div_mul_cancel (Nat.dvd_of_mod_eq_zero h)
      have h4 : (j + k) / w < 2 := Nat.div_lt_of_lt_mul (by omega)
      generalize (j + k) / w = d at *
      have h5 : d ≠ 0 := by intro h6; rw [h6] at h3; omega
      have h6 : d = 1 := by omega
      rw [h6] at h3
      omega
    rw [this]
    exact rotl_back w x k (by omega) hx
/-! small facts, each in a context of its own -/
theorem wrap_low (t : Nat) (h : t < 2 ^ 32) : (wrap64 (t : Int) % 4294967296).toNat = t := by
  simp only [wrap64]; omega
theorem wrap_small (t : Nat) (h : t < 2 ^ 32) : wrap64 (t : Int) = (t : Int) := by
  simp only [wrap64]; omega
theorem wrap_nil : wrap64 ((0 : Nat) : Int) = 0 := by
  simp only [wrap64]; omega
theorem wrap_u (t : Nat) (h : t < 2 ^ 64) : (IntKind.u64.wrap (wrap64 (t : Int))).toNat = t := by
  rw [IntKind.wrap_u64]; simp only [wrap64]; omega
theorem wrap_u' (t : Nat) (h : t < 2 ^ 64) : IntKind.u64.wrap (wrap64 (t : Int)) = (t : Int) := by
  rw [IntKind.wrap_u64]; simp only [wrap64]; omega
theorem u_nat (y : Int) : ∃ u : Nat, u < 2 ^ 64 ∧ y % 18446744073709551616 = (u : Int) ∧ (IntKind.u64.wrap y).toNat = u ∧ IntKind.u64.wrap y = (u : Int) := by
  refine ⟨(y % 18446744073709551616).toNat, by omega, by omega, by rw [IntKind.wrap_u64], by rw [IntKind.wrap_u64]; omega⟩
theorem u_back (y : Int) (u : Nat) (h : y % 18446744073709551616 = (u : Int)) (hy : -9223372036854775808 ≤ y ∧ y ≤ 9223372036854775807) : wrap64 (u : Int) = y := by
  simp only [wrap64]; omega
theorem back32 (b : Int) : (wrap64 (-b) % 32).toNat < 32 ∧ ((wrap64 (-b) % 32).toNat + (b % 32).toNat) % 32 = 0 := by
  simp only [wrap64]; omega
theorem back64 (b : Int) : (wrap64 (-b) % 64).toNat < 64 ∧ ((wrap64 (-b) % 64).toNat + (b % 64).toNat) % 64 = 0 := by
  simp only [wrap64]; omega
theorem low_sign (y : Int) : wrap32 (y % 4294967296) % 4294967296 = y % 4294967296 := by simp only [wrap32]; omega
theorem div_pow_mod (y : Int) (u q : Nat) (hu : y % 18446744073709551616 = (u : Int)) (hq : q < 64) : y / 2 ^ q % 2 = ((u / 2 ^ q % 2 : Nat) : Int) := by
  have e : y = u + 18446744073709551616 * (y / 18446744073709551616) := by omega
  have e2 : (18446744073709551616 : Int) = 2 ^ q * (2 * 2 ^ (63 - q)) := by
    rw [← Int.pow_succ', ← Int.pow_add, show q + (63 - q + 1) = 64 from by omega]; rfl
  have hp : (0 : Int) < 2 ^ q := Int.pow_pos (by decide)
  generalize y / 18446744073709551616 = t at e
  rw [e2, Int.mul_assoc] at e
  rw [e, Int.add_mul_ediv_left _ _ (by omega), Int.mul_assoc, Int.add_mul_emod_self_left]
  simp
/-- all that the noughts and ones of a number that is not 0 keep to -/
theorem ends (w u : Nat) (hw : w ≤ 64) (hz : u ≠ 0) (hl : u < 2 ^ w) (p q c : Int) (hp : (w : Int) - (Lib.bitLen u : Int) = p) (hq : (Lib.ctz w u : Int) = q) (hc : (popAux w u : Int) = c) :
    0 ≤ p ∧ 0 ≤ q ∧ q ≤ (w : Int) - 1 ∧ p + q < w ∧ c ≤ w - p - q := by
  have h1 := low_high w u hw hz hl
  have h2 := Lib.bitLen_le u w hw hl
  have h3 := pop_between w u hw hz hl
  obtain ⟨_, _, h4⟩ := low_one w u hz hl
  omega
end Go.BM
