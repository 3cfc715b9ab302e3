/- Plain mathematics of words of 64 bits without sign: what the document's floats do with them. -/
import Derived.Test.YtibfjlibkaejnabFMath2
import Derived.WalkKit
namespace Go.FM
open Go.RowKit
set_option linter.unusedVariables false

abbrev W64 : Nat := 18446744073709551616
theorem ofInt_u (x : Nat) (h : x < W64) : (BitVec.ofInt 64 (x : Int)).toNat = x := by
  rw [BitVec.toNat_ofInt]; show ((x : Int) % 18446744073709551616).toNat = x; simp only [W64] at h; omega
theorem and_u (x y : Nat) (hx : x < W64) (hy : y < W64) : bits .and .u64 (x : Int) (y : Int) = ((x &&& y : Nat) : Int) := by
  show IntKind.u64.wrap ((BitVec.ofInt 64 (x : Int) &&& BitVec.ofInt 64 (y : Int)).toNat : Int) = _
  rw [BitVec.toNat_and, ofInt_u x hx, ofInt_u y hy, IntKind.wrap_u64]
  have : x &&& y ≤ x := Nat.and_le_left
  simp only [W64] at hx; omega
theorem or_u (x y : Nat) (hx : x < W64) (hy : y < W64) : bits .or .u64 (x : Int) (y : Int) = ((x ||| y : Nat) : Int) := by
  show IntKind.u64.wrap ((BitVec.ofInt 64 (x : Int) ||| BitVec.ofInt 64 (y : Int)).toNat : Int) = _
  rw [BitVec.toNat_or, ofInt_u x hx, ofInt_u y hy, IntKind.wrap_u64]
  have : x ||| y < 2 ^ 64 := Nat.or_lt_two_pow (by simpa [W64] using hx) (by simpa [W64] using hy)
  omega
theorem xor_u (x y : Nat) (hx : x < W64) (hy : y < W64) : bits .xor .u64 (x : Int) (y : Int) = ((x ^^^ y : Nat) : Int) := by
  show IntKind.u64.wrap ((BitVec.ofInt 64 (x : Int) ^^^ BitVec.ofInt 64 (y : Int)).toNat : Int) = _
  rw [BitVec.toNat_xor, ofInt_u x hx, ofInt_u y hy, IntKind.wrap_u64]
  have : x ^^^ y < 2 ^ 64 := Nat.xor_lt_two_pow (by simpa [W64] using hx) (by simpa [W64] using hy)
  omega
theorem mask_u (x j : Nat) (hx : x < W64) (hj : j ≤ 64) : bits .and .u64 (x : Int) ((2 ^ j - 1 : Nat) : Int) = ((x % 2 ^ j : Nat) : Int) := by
  have h2 : 2 ^ j ≤ 2 ^ 64 := Nat.pow_le_pow_right (by decide) hj
  have h3 : 0 < 2 ^ j := Nat.two_pow_pos j
  have e : (2 : Nat) ^ 64 = W64 := by decide
  rw [and_u x _ hx (by omega), Nat.and_two_pow_sub_one_eq_mod]
theorem and1_u (x : Nat) (hx : x < W64) : bits .and .u64 (x : Int) 1 = ((x % 2 : Nat) : Int) := mask_u x 1 hx (by decide)
/-- a number's length in bits -/
def bl (x : Nat) : Nat := if x = 0 then 0 else x.log2 + 1
theorem bl_zero : bl 0 = 0 := rfl
theorem bl_half (x : Nat) (h : x ≠ 0) : bl x = bl (x / 2) + 1 := by
  unfold bl
  rw [if_neg h]
  by_cases h2 : x / 2 = 0
  · have : x = 1 := by omega
    subst this; decide
  · rw [if_neg h2]
    congr 1
    rw [Nat.log2_eq_iff h]
    obtain ⟨l1, l2⟩ := (Nat.log2_eq_iff h2).1 rfl
    rw [Nat.pow_succ 2 ((x / 2).log2 + 1)]
    rw [Nat.pow_succ] at *
    omega
theorem bl_le (x j : Nat) (h : x < 2 ^ j) : bl x ≤ j := by
  unfold bl
  by_cases h0 : x = 0
  · rw [if_pos h0]; omega
  · rw [if_neg h0]; exact (Nat.log2_lt h0).2 h
theorem bl_two (hi lo : Nat) (h : hi ≠ 0) (hl : lo < W64) : bl (hi * W64 + lo) = 64 + bl hi := by
  have e : W64 = 2 ^ 64 := by decide
  have h1 : hi * W64 + lo ≠ 0 := by simp only [W64]; omega
  unfold bl
  rw [if_neg h, if_neg h1, ← Nat.add_assoc]
  congr 1
  rw [Nat.log2_eq_iff h1]
  obtain ⟨l1, l2⟩ := (Nat.log2_eq_iff h).1 rfl
  rw [show 64 + hi.log2 + 1 = hi.log2 + 1 + 64 from by omega, Nat.add_comm 64, Nat.pow_add 2 (hi.log2 + 1), Nat.pow_add, ← e]
  constructor
  · exact Nat.le_trans (Nat.mul_le_mul_right _ l1) (Nat.le_add_right _ _)
  · have : (hi + 1) * W64 ≤ 2 ^ (hi.log2 + 1) * W64 := Nat.mul_le_mul_right _ l2
    rw [Nat.add_mul, Nat.one_mul] at this
    omega
/-- of two words the one they make -/
def two (hi lo : Nat) : Nat := hi * W64 + lo
theorem two_lt (hi lo : Nat) (h : hi < W64) (hl : lo < W64) : two hi lo < 2 ^ 128 := by
  have e : (2 : Nat) ^ 128 = W64 * W64 := by decide
  have : (hi + 1) * W64 ≤ W64 * W64 := Nat.mul_le_mul_right _ h
  rw [Nat.add_mul, Nat.one_mul] at this
  unfold two; rw [e]; omega
theorem two_div_low (hi lo k : Nat) (hl : lo < W64) (hk : k ≤ 64) : two hi lo / 2 ^ k % 2 ^ (64 - k) = lo / 2 ^ k := by
  have e : W64 = 2 ^ k * 2 ^ (64 - k) := by rw [← Nat.pow_add, show k + (64 - k) = 64 from by omega]
  unfold two
  rw [e, Nat.mul_left_comm, Nat.mul_comm (2 ^ k), Nat.add_comm, Nat.add_mul_div_right _ _ (Nat.two_pow_pos k), Nat.add_mul_mod_self_right]
  refine Nat.mod_eq_of_lt ?_
  rw [Nat.div_lt_iff_lt_mul (Nat.two_pow_pos k), Nat.mul_comm, ← e]; exact hl
theorem two_bit_low (hi lo k : Nat) (hl : lo < W64) (hk : k < 64) : two hi lo / 2 ^ k % 2 = lo / 2 ^ k % 2 := by
  have h := two_div_low hi lo k hl (by omega)
  have e : 2 ^ (64 - k) = 2 * 2 ^ (63 - k) := by rw [Nat.mul_comm, ← Nat.pow_succ]; congr 1; omega
  rw [← h, e, Nat.mod_mul_right_mod]
theorem two_div_high (hi lo k : Nat) (hl : lo < W64) (hk : 64 ≤ k) : two hi lo / 2 ^ k = hi / 2 ^ (k - 64) := by
  have e : 2 ^ k = W64 * 2 ^ (k - 64) := by rw [show W64 = 2 ^ 64 from by decide, ← Nat.pow_add]; congr 1; omega
  unfold two
  rw [e, ← Nat.div_div_eq_div_mul, Nat.add_comm, Nat.add_mul_div_right _ _ (by decide), Nat.div_eq_of_lt hl, Nat.zero_add]
end Go.FM
