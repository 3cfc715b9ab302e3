/- Plain mathematics of bits, of no program: ones counted, rolled bits, the noughts at both ends. -/
import Derived.WalkKit
import Derived.Laws.BitsAllLaws
import Derived.Laws.BitsLemmas
import Derived.Lib.BitFns
import Derived.Lib.TrailingZeros
namespace Go.BM
open Go.RowKit

/-! ### and, or of the model, as plain numbers -/
theorem ofInt64 (x : Int) : (BitVec.ofInt 64 x).toNat = (x % 18446744073709551616).toNat := by
  rw [BitVec.toNat_ofInt]; rfl
theorem and_i64 (a b : Int) : bits .and .i64 a b = wrap64 (((a % 18446744073709551616).toNat &&& (b % 18446744073709551616).toNat : Nat) : Int) := by
  show IntKind.i64.wrap ((BitVec.ofInt 64 a &&& BitVec.ofInt 64 b).toNat : Int) = _
  rw [BitVec.toNat_and, ofInt64, ofInt64, IntKind.wrap_i64, wrap64]
theorem or_i64 (a b : Int) : bits .or .i64 a b = wrap64 (((a % 18446744073709551616).toNat ||| (b % 18446744073709551616).toNat : Nat) : Int) := by
  show IntKind.i64.wrap ((BitVec.ofInt 64 a ||| BitVec.ofInt 64 b).toNat : Int) = _
  rw [BitVec.toNat_or, ofInt64, ofInt64, IntKind.wrap_i64, wrap64]
theorem xor_i64 (a b : Int) : bits .xor .i64 a b = wrap64 (((a % 18446744073709551616).toNat ^^^ (b % 18446744073709551616).toNat : Nat) : Int) := by
  show IntKind.i64.wrap ((BitVec.ofInt 64 a ^^^ BitVec.ofInt 64 b).toNat : Int) = _
  rw [BitVec.toNat_xor, ofInt64, ofInt64, IntKind.wrap_i64, wrap64]

/-- x & (2^j - 1) is x modulo 2^j, of a number with sign too. -/
theorem and_mask (x : Int) (j : Nat) (hj : j < 63) : bits .and .i64 x ((2 ^ j : Nat) - 1 : Int) = x % (2 ^ j : Nat) := by
  have hp : 2 ^ j ∣ 18446744073709551616 := by
    have e : j + (64 - j) = 64 := by omega
    have : (18446744073709551616 : Nat) = 2 ^ j * 2 ^ (64 - j) := by rw [← Nat.pow_add, e]
    exact ⟨_, this⟩
  have h1 : 2 ^ j < 2 ^ 63 := Nat.pow_lt_pow_right (by decide) hj
  have h0 : 0 < 2 ^ j := Nat.two_pow_pos j
  rw [and_i64]
  have e : (((2 ^ j : Nat) - 1 : Int) % 18446744073709551616).toNat = 2 ^ j - 1 := by
    generalize 2 ^ j = p at *; omega
  rw [e, Nat.and_two_pow_sub_one_eq_mod]
  have e2 : (((x % 18446744073709551616).toNat % 2 ^ j : Nat) : Int) = x % (2 ^ j : Nat) := by
    rw [Int.natCast_emod, Int.toNat_of_nonneg (Int.emod_nonneg _ (by decide))]
    exact Int.emod_emod_of_dvd _ (Int.natCast_dvd_natCast.mpr hp)
  rw [e2]
  have h2 := Int.emod_nonneg x (b := ((2 ^ j : Nat) : Int)) (by omega)
  have h3 := Int.emod_lt_of_pos x (b := ((2 ^ j : Nat) : Int)) (by omega)
  generalize 2 ^ j = p at *
  simp only [wrap64]
  omega

theorem and1 (x : Int) : bits .and .i64 x 1 = x % 2 := and_mask x 1 (by decide)
theorem and31 (x : Int) : bits .and .i64 x 31 = x % 32 := and_mask x 5 (by decide)
theorem and63 (x : Int) : bits .and .i64 x 63 = x % 64 := and_mask x 6 (by decide)
theorem and127 (x : Int) : bits .and .i64 x 127 = x % 128 := and_mask x 7 (by decide)
theorem and32 (x : Int) : bits .and .i64 x 4294967295 = x % 4294967296 := and_mask x 32 (by decide)
theorem uand31 (k : Int) (h0 : 0 ≤ k) (h1 : k ≤ 31) : bits .and .u64 k 31 = k := by
  have := u64_and k 31 h0 (by omega) (by decide) (by decide)
  rw [this]; simp only [show (31 : Int).toNat = 31 from rfl, nat_mask5]; omega
theorem uand63 (k : Int) (h0 : 0 ≤ k) (h1 : k ≤ 63) : bits .and .u64 k 63 = k := by
  have := u64_and k 63 h0 (by omega) (by decide) (by decide)
  rw [this]; simp only [show (63 : Int).toNat = 63 from rfl, nat_mask6]; omega

/-! ### ones counted: 'Lib.popAux w x': of the low w bits -/
open Lib (popAux)
theorem popAux_le : ∀ w x, popAux w x ≤ w
  | 0, _ => Nat.le_refl _
  | w + 1, x => by have := popAux_le w (x / 2); simp only [popAux]; omega
theorem popAux_zero : ∀ w, popAux w 0 = 0
  | 0 => rfl
  | w + 1 => by simp [popAux, popAux_zero w]
/-- the low k bits, then the others -/
theorem popAux_split : ∀ (k m x : Nat), popAux (k + m) x = popAux k x + popAux m (x / 2 ^ k)
  | 0, m, x => by simp [popAux]
  | k + 1, m, x => by
    rw [show k + 1 + m = (k + m) + 1 from by omega]
    simp only [popAux]
    rw [popAux_split k m (x / 2), Nat.div_div_eq_div_mul, Nat.pow_succ, Nat.mul_comm 2]
    omega
theorem popAux_mod : ∀ (k x : Nat), popAux k (x % 2 ^ k) = popAux k x
  | 0, x => rfl
  | k + 1, x => by
    simp only [popAux]
    have e1 : x % 2 ^ (k + 1) % 2 = x % 2 := by rw [Nat.pow_succ, Nat.mod_mul_left_mod]
    have e2 : x % 2 ^ (k + 1) / 2 = x / 2 % 2 ^ k := by rw [Nat.pow_succ, Nat.mul_comm, Nat.mod_mul_right_div_self]
    rw [e1, e2, popAux_mod k (x / 2)]
theorem popAux_mul (k m a b : Nat) (hb : b < 2 ^ k) : popAux (k + m) (a * 2 ^ k + b) = popAux k b + popAux m a := by
  rw [popAux_split, ← popAux_mod]
  have hp : 0 < 2 ^ k := Nat.two_pow_pos k
  rw [Nat.mul_comm a, Nat.mul_add_mod, Nat.mod_eq_of_lt hb, Nat.mul_add_div hp, Nat.div_eq_of_lt hb, Nat.add_zero]

theorem u32and255 (x : Int) (h0 : 0 ≤ x) (h1 : x ≤ 4294967295) : bits .and .u32 x 255 = x % 256 := by
  rw [u32_and x 255 h0 (by omega) (by decide) (by decide)]
  simp only [show (255 : Int).toNat = 255 from rfl, nat_mask8]; omega

/-! ### rolled -/
def rotl (w x k : Nat) : Nat := x % 2 ^ (w - k) * 2 ^ k + x / 2 ^ (w - k)
theorem two_split (w k : Nat) (h : k ≤ w) : 2 ^ w = 2 ^ (w - k) * 2 ^ k := by rw [← Nat.pow_add]; congr 1; omega
theorem top_lt (w x k : Nat) (h : k ≤ w) (hx : x < 2 ^ w) : x / 2 ^ (w - k) < 2 ^ k := by
  rw [two_split w k h] at hx
  exact Nat.div_lt_of_lt_mul hx
theorem rotl_lt (w x k : Nat) (h : k ≤ w) (hx : x < 2 ^ w) : rotl w x k < 2 ^ w := by
  have h1 := top_lt w x k h hx
  have h2 := Nat.mod_lt x (Nat.two_pow_pos (w - k))
  rw [two_split w k h]
  unfold rotl
  generalize x / 2 ^ (w - k) = t at *
  generalize x % 2 ^ (w - k) = m at *
  generalize 2 ^ (w - k) = p at *
  have : (m + 1) * 2 ^ k ≤ p * 2 ^ k := Nat.mul_le_mul_right _ h2
  rw [Nat.add_mul] at this
  omega
theorem rotl_or (w x k : Nat) (h : k ≤ w) (hx : x < 2 ^ w) : x * 2 ^ k % 2 ^ w ||| x / 2 ^ (w - k) = rotl w x k := by
  have e : x * 2 ^ k % 2 ^ w = x % 2 ^ (w - k) * 2 ^ k := by rw [two_split w k h, Nat.mul_mod_mul_right]
  rw [e, nat_join k _ _ (Nat.mul_mod_left _ _) (top_lt w x k h hx)]
  rfl
theorem rotl_pop (w x k : Nat) (h : k ≤ w) (hx : x < 2 ^ w) : popAux w (rotl w x k) = popAux w x := by
  have e : w = k + (w - k) := by omega
  have e' : w = (w - k) + k := by omega
  unfold rotl
  rw [show popAux w (x % 2 ^ (w - k) * 2 ^ k + x / 2 ^ (w - k)) = popAux (k + (w - k)) (x % 2 ^ (w - k) * 2 ^ k + x / 2 ^ (w - k)) from by rw [← e]]
  rw [popAux_mul k (w - k) _ _ (top_lt w x k h hx), popAux_mod]
  rw [show popAux w x = popAux ((w - k) + k) x from by rw [← e'], popAux_split]
  omega
theorem rotl_zero (w x : Nat) (hx : x < 2 ^ w) : rotl w x 0 = x := by
  unfold rotl
  simp [Nat.mod_eq_of_lt hx, Nat.div_eq_of_lt hx]
theorem rotl_nil (w k : Nat) : rotl w 0 k = 0 := by simp [rotl]
theorem rotl_back (w x k : Nat) (h : k ≤ w) (hx : x < 2 ^ w) : rotl w (rotl w x k) (w - k) = x := by
  have h1 := top_lt w x k h hx
  have e : w - (w - k) = k := by omega
  have hp : 0 < 2 ^ k := Nat.two_pow_pos k
  show rotl w x k % 2 ^ (w - (w - k)) * 2 ^ (w - k) + rotl w x k / 2 ^ (w - (w - k)) = x
  rw [e]
  unfold rotl
  rw [Nat.mul_comm _ (2 ^ k), Nat.mul_add_mod, Nat.mod_eq_of_lt h1, Nat.mul_add_div hp, Nat.div_eq_of_lt h1, Nat.add_zero]
  exact Nat.div_add_mod' x _
theorem or32 (x k : Int) (h0 : 0 ≤ x) (h1 : x ≤ 4294967295) (hk0 : 0 ≤ k) (hk1 : k ≤ 31) :
    bits .or .u32 (x * 2 ^ k.toNat % 4294967296) (x / 2 ^ (32 - k).toNat) = (rotl 32 x.toNat k.toNat : Int) := by
  obtain ⟨n, rfl⟩ := Int.eq_ofNat_of_zero_le h0
  obtain ⟨j, rfl⟩ := Int.eq_ofNat_of_zero_le hk0
  simp only [Int.toNat_natCast] at *
  have e1 : ((n : Int) * 2 ^ j % 4294967296) = ((n * 2 ^ j % 2 ^ 32 : Nat) : Int) := by simp
  have e2 : ((n : Int) / 2 ^ (32 - (j : Int)).toNat) = ((n / 2 ^ (32 - j) : Nat) : Int) := by
    have : (32 - (j : Int)).toNat = 32 - j := by omega
    rw [this]; simp
  rw [e1, e2, u32_or_nat _ _ (Nat.mod_lt _ (by decide)) (by have := Nat.div_le_self n (2 ^ (32 - j)); omega)]
  rw [rotl_or 32 n j (by omega) (by omega)]
theorem or64 (x k : Int) (h0 : 0 ≤ x) (h1 : x ≤ 18446744073709551615) (hk0 : 0 ≤ k) (hk1 : k ≤ 63) :
    bits .or .u64 (IntKind.u64.wrap (x * 2 ^ k.toNat)) (x / 2 ^ (64 - k).toNat) = (rotl 64 x.toNat k.toNat : Int) := by
  obtain ⟨n, rfl⟩ := Int.eq_ofNat_of_zero_le h0
  obtain ⟨j, rfl⟩ := Int.eq_ofNat_of_zero_le hk0
  simp only [Int.toNat_natCast] at *
  have e1 : IntKind.u64.wrap ((n : Int) * 2 ^ j) = ((n * 2 ^ j % 2 ^ 64 : Nat) : Int) := by rw [IntKind.wrap_u64]; simp
  have e2 : ((n : Int) / 2 ^ (64 - (j : Int)).toNat) = ((n / 2 ^ (64 - j) : Nat) : Int) := by
    have : (64 - (j : Int)).toNat = 64 - j := by omega
    rw [this]; simp
  rw [e1, e2, u64_or_nat _ _ (Nat.mod_lt _ (by decide)) (by have := Nat.div_le_self n (2 ^ (64 - j)); omega)]
  rw [rotl_or 64 n j (by omega) (by omega)]
end Go.BM
