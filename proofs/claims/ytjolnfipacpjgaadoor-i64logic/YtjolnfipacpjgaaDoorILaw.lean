/- Plain mathematics of the rules of package i32n's operations: sums and products, order, and/or/xor, shifts, counts, divisions. -/
import Derived.Test.YtjolnfipacpjgaaDoorIMath
namespace Go.BM
open Go.RowKit
open Lib (popAux)

theorem mulmod (p z : Int) : p % 4294967296 * z % 4294967296 = p * z % 4294967296 := by
  rw [Int.mul_emod, Int.emod_emod_of_dvd _ (Int.dvd_refl _), ← Int.mul_emod]
theorem ring_sum (x y z : Int) : (x + y) % 4294967296 * z % 4294967296 = (x * z % 4294967296 + y * z % 4294967296) % 4294967296 := by
  rw [mulmod, ← Int.add_emod, Int.add_mul]
/-! and, or -/
theorem u_of (t : Nat) (h : t < 2 ^ 32) : ((t : Int) % 18446744073709551616).toNat = t := by omega
theorem andNot_sub (a b : Int) (h : (a % 18446744073709551616).toNat &&& (b % 18446744073709551616).toNat = (a % 18446744073709551616).toNat) : bits .andNot .i64 a b = 0 := by
  show IntKind.i64.wrap ((BitVec.ofInt 64 a &&& ~~~BitVec.ofInt 64 b).toNat : Int) = 0
  have e : BitVec.ofInt 64 a &&& BitVec.ofInt 64 b = BitVec.ofInt 64 a := BitVec.eq_of_toNat_eq (by rw [BitVec.toNat_and, ofInt64, ofInt64, h])
  have e2 : BitVec.ofInt 64 a &&& ~~~BitVec.ofInt 64 b = 0#64 := by
    rw [← e, BitVec.and_assoc]
    generalize BitVec.ofInt 64 a = A
    generalize BitVec.ofInt 64 b = B
    ext i hi
    simp
  rw [e2]; decide +kernel
theorem and_sub (X Y : Nat) : (X &&& Y) &&& X = X &&& Y := by
  rw [Nat.and_comm X Y, Nat.and_assoc, Nat.and_self]
theorem sub_or (X Y : Nat) : X &&& (X ||| Y) = X := by
  apply Nat.eq_of_testBit_eq
  intro i
  simp only [Nat.testBit_and, Nat.testBit_or]
  cases X.testBit i <;> rfl
/-! order -/
theorem cmp_at (x y : Int) : cmp32 70 x y = (x == y) ∧ cmp32 71 x y = (x != y) ∧ cmp32 72 x y = decide (sg x < sg y) ∧ cmp32 73 x y = decide (x < y) ∧ cmp32 74 x y = decide (sg y < sg x) ∧ cmp32 75 x y = decide (y < x)
    ∧ cmp32 76 x y = decide (sg x ≤ sg y) ∧ cmp32 77 x y = decide (x ≤ y) ∧ cmp32 78 x y = decide (sg y ≤ sg x) ∧ cmp32 79 x y = decide (y ≤ x) := ⟨rfl, rfl, rfl, rfl, rfl, rfl, rfl, rfl, rfl, rfl⟩
theorem flag_cases (b : Bool) : flagI b = 0 ∨ flagI b = 1 := by cases b; exact Or.inl rfl; exact Or.inr rfl
/-! shifts -/
theorem pow_k (k : Nat) (hk : k < 32) : (0 : Int) < 2 ^ k ∧ (2 : Int) ^ k < 4294967296 := by
  have h : 2 ^ k ≤ 2 ^ 31 := Nat.pow_le_pow_right (by decide) (by omega)
  have h0 : 0 < 2 ^ k := Nat.two_pow_pos k
  have e : (2 : Int) ^ k = ((2 ^ k : Nat) : Int) := by simp
  rw [e]; generalize 2 ^ k = z at *; omega
theorem pow_31 (k : Nat) (hk : k < 32) : (0 : Int) < 2 ^ k ∧ 1 ≤ (2 : Int) ^ k ∧ (2 : Int) ^ k ≤ 2147483648 := by
  have h : 2 ^ k ≤ 2 ^ 31 := Nat.pow_le_pow_right (by decide) (by omega)
  have h0 : 0 < 2 ^ k := Nat.two_pow_pos k
  have e : (2 : Int) ^ k = ((2 ^ k : Nat) : Int) := by simp
  rw [e]; generalize 2 ^ k = z at *; omega
theorem and1023 (x : Int) : bits .and .i64 x 1023 = x % 1024 := and_mask x 10 (by decide)
/-! counts -/
theorem bitLen_up (u : Nat) (hz : u ≠ 0) (hl : u < 2 ^ 32) : Lib.bitLen (u * 2 ^ (32 - Lib.bitLen u) % 2 ^ 32) = 32 := by
  have h1 := lt_bitLen u (Nat.lt_of_lt_of_le hl (by decide))
  have h2 := Lib.bitLen_le u 32 (by decide) hl
  have h3 : 2 ^ (Lib.bitLen u - 1) ≤ u := by
    rcases Nat.lt_or_ge u (2 ^ (Lib.bitLen u - 1)) with h | h
    · have := Lib.bitLen_le u (Lib.bitLen u - 1) (by omega) h
      have h0 : Lib.bitLen u ≠ 0 := by
        intro h0; rw [h0] at h1; omega
      omega
    · exact h
  have h0 : Lib.bitLen u ≠ 0 := by
    intro h0; rw [h0] at h1; omega
  generalize Lib.bitLen u = L at *
  have e1 : u * 2 ^ (32 - L) < 2 ^ 32 := by
    have : 2 ^ 32 = 2 ^ L * 2 ^ (32 - L) := by rw [← Nat.pow_add]; congr 1; omega
    rw [this]
    exact Nat.mul_lt_mul_of_pos_right h1 (Nat.two_pow_pos _)
  have e2 : 2 ^ 31 ≤ u * 2 ^ (32 - L) := by
    have : 2 ^ 31 = 2 ^ (L - 1) * 2 ^ (32 - L) := by rw [← Nat.pow_add]; congr 1; omega
    rw [this]
    exact Nat.mul_le_mul_right _ h3
  rw [Nat.mod_eq_of_lt e1]
  have a := bitLenAux_ge 64 _ 31 e2 (by decide)
  have b := Lib.bitLen_le _ 32 (by decide) e1
  have c : 31 < Lib.bitLen (u * 2 ^ (32 - L)) := a
  omega
theorem ctz_odd (w m : Nat) (h : m % 2 = 1) (hl : m < 2 ^ w) : Lib.ctz w m = 0 := by
  have hz : m ≠ 0 := by omega
  obtain ⟨t, h1, h2⟩ := low_one w m hz hl
  generalize Lib.ctz w m = k at *
  cases k with
  | zero => rfl
  | succ k =>
    rw [Nat.pow_succ, Nat.mul_assoc, Nat.mul_left_comm] at h1
    generalize 2 ^ k * (2 * t + 1) = z at *
    omega
theorem ctz_down (u : Nat) (hz : u ≠ 0) (hl : u < 2 ^ 32) : Lib.ctz 32 (u / 2 ^ Lib.ctz 32 u) = 0 :=
  ctz_odd 32 _ (low_bit 32 u hz hl) (Nat.lt_of_le_of_lt (Nat.div_le_self _ _) hl)
theorem pop_at (W u k : Nat) (h : k < W) (hb : u / 2 ^ k % 2 = 1) : 1 ≤ popAux W u := by
  obtain ⟨d, rfl⟩ : ∃ d, W = k + (1 + d) := ⟨W - k - 1, by omega⟩
  have e3 : popAux 1 (u / 2 ^ k) = u / 2 ^ k % 2 := by
    show u / 2 ^ k % 2 + popAux 0 _ = _
    rfl
  rw [popAux_split, popAux_split, e3, hb]
  omega
theorem pop_pos (u : Nat) (hz : u ≠ 0) (hl : u < 2 ^ 32) : 1 ≤ popAux 32 u := by
  obtain ⟨m, h1, h2⟩ := low_one 32 u hz hl
  have hb := low_bit 32 u hz hl
  generalize Lib.ctz 32 u = k at *
  exact pop_at 32 u k h2 hb
theorem bitLen_pos (u : Nat) (hz : u ≠ 0) (hl : u < 2 ^ 32) : 1 ≤ Lib.bitLen u := by
  have h1 := lt_bitLen u (Nat.lt_of_lt_of_le hl (by decide))
  rcases Nat.eq_zero_or_pos (Lib.bitLen u) with h | h
  · rw [h] at h1; omega
  · exact h
theorem up_nat (X L : Nat) (hl : X < 2 ^ 32) (h1 : 1 ≤ L) (h2 : L ≤ 32) : ((X : Int) % 4294967296 * 2 ^ ((32 - (L : Int)) % 32).toNat % 4294967296 % 4294967296).toNat = X * 2 ^ (32 - L) % 2 ^ 32 := by
  rw [show ((32 - (L : Int)) % 32).toNat = 32 - L from by omega, show (X : Int) % 4294967296 = X from by omega]
  rw [show ((X : Int) * 2 ^ (32 - L)) = ((X * 2 ^ (32 - L) : Nat) : Int) from by simp]
  generalize X * 2 ^ (32 - L) = z
  omega
theorem down_nat (X k : Nat) (hl : X < 2 ^ 32) (hk : k < 32) : ((X : Int) % 4294967296 / 2 ^ ((k : Int) % 32).toNat % 4294967296).toNat = X / 2 ^ k := by
  rw [show ((k : Int) % 32).toNat = k from by omega, show (X : Int) % 4294967296 = X from by omega]
  rw [show ((X : Int) / 2 ^ k) = ((X / 2 ^ k : Nat) : Int) from by simp]
  have := Nat.div_le_self X (2 ^ k)
  generalize X / 2 ^ k = z at *
  omega
theorem roll_back (x y : Int) (x0 : 0 ≤ x) (x1 : x < 4294967296) : bin32 120 (rotl 32 (x % 4294967296).toNat (y % 32).toNat : Nat) y = (x, 0) := by
  have hk : (y % 32).toNat < 32 := by omega
  have hj : ((-y) % 32).toNat < 32 := by omega
  have hjk : (((-y) % 32).toNat + (y % 32).toNat) % 32 = 0 := by omega
  have hl : (x % 4294967296).toNat < 2 ^ 32 := by omega
  have hr := rotl_lt 32 _ _ (Nat.le_of_lt hk) hl
  rw [b_rotr]
  have e : (((rotl 32 (x % 4294967296).toNat (y % 32).toNat : Nat) : Int) % 4294967296).toNat = rotl 32 (x % 4294967296).toNat (y % 32).toNat := by
    clear hjk hj; generalize rotl 32 (x % 4294967296).toNat (y % 32).toNat = r at *; omega
  rw [e, rot_back 32 _ _ _ hk hj hjk hl]
  congr 1; omega
/-! divisions -/
theorem div_back_s (s t x y : Int) (hs : s % 4294967296 = x) (ht : t % 4294967296 = y) : ((s.tdiv t % 4294967296) * y % 4294967296 + s.tmod t % 4294967296) % 4294967296 = x := by
  rw [mulmod, ← Int.add_emod, ← ht]
  have e : s.tdiv t * (t % 4294967296) % 4294967296 = s.tdiv t * t % 4294967296 := by
    rw [Int.mul_comm, mulmod, Int.mul_comm]
  rw [Int.add_emod, e, ← Int.add_emod, Int.mul_comm, Int.mul_tdiv_add_tmod, hs]
theorem div_back_u (x y : Int) (hx : 0 ≤ x ∧ x < 4294967296) : ((x / y) * y % 4294967296 + x % y) % 4294967296 = x := by
  rw [Int.emod_add_emod, Int.mul_comm, Int.mul_ediv_add_emod]
  omega
theorem signs (s t a b : Int) (ha : 0 ≤ a) (hb : 0 < b) (h1 : s = a ∨ s = -a) (h2 : t = b ∨ t = -b) :
    ((s = a ∧ t = b) → s.tdiv t = a / b) ∧ ((s = a ∧ t = -b) → s.tdiv t = -(a / b)) ∧ ((s = -a ∧ t = b) → s.tdiv t = -(a / b)) ∧ ((s = -a ∧ t = -b) → s.tdiv t = a / b) := by
  refine ⟨?_, ?_, ?_, ?_⟩
  all_goals rintro ⟨rfl, rfl⟩
  all_goals try simp only [Int.neg_tdiv, Int.tdiv_neg, Int.neg_neg]
  all_goals rw [Int.tdiv_eq_ediv_of_nonneg ha]
theorem low_quo (x y : Int) (hx : 0 ≤ x ∧ x < 4294967296) (hy : 0 < y) : (x / y % 4294967296 == x / y) = true := by
  have h1 := Int.ediv_nonneg hx.1 (Int.le_of_lt hy)
  have h2 := Int.ediv_le_self y hx.1
  rw [beq_iff_eq]
  generalize x / y = z at *
  omega
theorem neg_yes (x : Int) (h : 2147483648 ≤ x % 4294967296) : bin32 72 x 0 = (1, 0) := by
  have e : cmp32 72 (x % 4294967296) (0 % 4294967296) = true := by
    show decide (sg (x % 4294967296) < sg (0 % 4294967296)) = true
    rw [sg_low, sg_low, show sg 0 = 0 from by decide +kernel]
    have := sg_cases x
    simp; omega
  rw [b_cmp 72 x 0 (by decide), e]; rfl
theorem neg_no (x : Int) (h : x % 4294967296 < 2147483648) : bin32 72 x 0 = (0, 0) := by
  have e : cmp32 72 (x % 4294967296) (0 % 4294967296) = false := by
    show decide (sg (x % 4294967296) < sg (0 % 4294967296)) = false
    rw [sg_low, sg_low, show sg 0 = 0 from by decide +kernel]
    have := sg_cases x
    simp; omega
  rw [b_cmp 72 x 0 (by decide), e]; rfl
end Go.BM
