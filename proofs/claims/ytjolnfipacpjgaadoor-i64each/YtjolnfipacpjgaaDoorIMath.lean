/- Plain mathematics: what package i32n's operations make of numbers, as functions; and what the statements' rules need of them. -/
import Derived.Test.YtjolnfipacpjgaaDoorRefMath
namespace Go.BM
open Go.RowKit
open Lib (popAux)

/-- the low 32 bits as a number with sign -/
def sg (x : Int) : Int := wrap32 (x % 4294967296)
def cmp32 (op x y : Int) : Bool :=
  if op = 70 then x == y else if op = 71 then x != y
  else if op = 72 then decide (sg x < sg y) else if op = 73 then decide (x < y)
  else if op = 74 then decide (sg y < sg x) else if op = 75 then decide (y < x)
  else if op = 76 then decide (sg x ≤ sg y) else if op = 77 then decide (x ≤ y)
  else if op = 78 then decide (sg y ≤ sg x) else decide (y ≤ x)
def flagI (b : Bool) : Int := if b then 1 else 0
def un32 (op a : Int) : Int × Int :=
  if op = 69 then (flagI (a % 4294967296 == 0), 0)
  else if op = 103 then (32 - (Lib.bitLen (a % 4294967296).toNat : Int), 0)
  else if op = 104 then (Lib.ctz 32 (a % 4294967296).toNat, 0)
  else if op = 105 then (popAux 32 (a % 4294967296).toNat, 0)
  else (0, 200)
def bin32 (op a b : Int) : Int × Int :=
  if 70 ≤ op ∧ op ≤ 79 then (flagI (cmp32 op (a % 4294967296) (b % 4294967296)), 0)
  else if op = 106 then ((a % 4294967296 + b % 4294967296) % 4294967296, 0)
  else if op = 107 then ((a % 4294967296 - b % 4294967296) % 4294967296, 0)
  else if op = 108 then (a % 4294967296 * (b % 4294967296) % 4294967296, 0)
  else if op = 109 then if b % 4294967296 = 0 then (0, 201) else if sg a = -2147483648 ∧ sg b = -1 then (0, 202) else ((sg a).tdiv (sg b) % 4294967296, 0)
  else if op = 110 then if b % 4294967296 = 0 then (0, 201) else (a % 4294967296 / (b % 4294967296), 0)
  else if op = 111 then if b % 4294967296 = 0 then (0, 201) else ((sg a).tmod (sg b) % 4294967296, 0)
  else if op = 112 then if b % 4294967296 = 0 then (0, 201) else (a % 4294967296 % (b % 4294967296), 0)
  else if op = 113 then (((a % 4294967296).toNat &&& (b % 4294967296).toNat : Nat), 0)
  else if op = 114 then (((a % 4294967296).toNat ||| (b % 4294967296).toNat : Nat), 0)
  else if op = 115 then (((a % 4294967296).toNat ^^^ (b % 4294967296).toNat : Nat), 0)
  else if op = 116 then (a % 4294967296 * 2 ^ (b % 32).toNat % 4294967296, 0)
  else if op = 117 then (sg a / 2 ^ (b % 32).toNat % 4294967296, 0)
  else if op = 118 then (a % 4294967296 / 2 ^ (b % 32).toNat, 0)
  else if op = 119 then (rotl 32 (a % 4294967296).toNat (b % 32).toNat, 0)
  else if op = 120 then (rotl 32 (a % 4294967296).toNat ((-b) % 32).toNat, 0)
  else (0, 200)

theorem sg_low (x : Int) : sg (x % 4294967296) = sg x := by unfold sg; rw [Int.emod_emod_of_dvd _ (Int.dvd_refl _)]
theorem sg_cases (x : Int) : (sg x = x % 4294967296 ∧ x % 4294967296 < 2147483648) ∨ (sg x = x % 4294967296 - 4294967296 ∧ 2147483648 ≤ x % 4294967296) := by
  unfold sg; simp only [wrap32]; omega
theorem sg_bounds (x : Int) : -2147483648 ≤ sg x ∧ sg x ≤ 2147483647 := by
  have := sg_cases x; omega
theorem sg_mod (x : Int) : sg x % 4294967296 = x % 4294967296 := low_sign x
theorem sg_zero (x : Int) : sg x = 0 ↔ x % 4294967296 = 0 := by
  have := sg_cases x; omega
theorem sg_eq (x y : Int) : sg x = sg y ↔ x % 4294967296 = y % 4294967296 := by
  have := sg_cases x; have := sg_cases y; omega
/-! of numbers that are low already -/
theorem and_low (x y : Int) (hx : 0 ≤ x) (hx' : x < 4294967296) (hy : 0 ≤ y) (hy' : y < 4294967296) : bits .and .i64 x y = ((x.toNat &&& y.toNat : Nat) : Int) := by
  rw [and_i64, show x % 18446744073709551616 = x from by omega, show y % 18446744073709551616 = y from by omega]
  exact wrap_small _ (Nat.and_lt_two_pow _ (by omega))
theorem or_low (x y : Int) (hx : 0 ≤ x) (hx' : x < 4294967296) (hy : 0 ≤ y) (hy' : y < 4294967296) : bits .or .i64 x y = ((x.toNat ||| y.toNat : Nat) : Int) := by
  rw [or_i64, show x % 18446744073709551616 = x from by omega, show y % 18446744073709551616 = y from by omega]
  exact wrap_small _ (Nat.or_lt_two_pow (by omega) (by omega))
theorem xor_low (x y : Int) (hx : 0 ≤ x) (hx' : x < 4294967296) (hy : 0 ≤ y) (hy' : y < 4294967296) : bits .xor .i64 x y = ((x.toNat ^^^ y.toNat : Nat) : Int) := by
  rw [xor_i64, show x % 18446744073709551616 = x from by omega, show y % 18446744073709551616 = y from by omega]
  exact wrap_small _ (Nat.xor_lt_two_pow (by omega) (by omega))
theorem wrap_mod32 (z : Int) : wrap64 z % 4294967296 = z % 4294967296 := by simp only [wrap64]; omega
theorem tdiv_low (s t : Int) (hs : -2147483648 ≤ s ∧ s ≤ 2147483647) : -2147483648 ≤ s.tdiv t ∧ s.tdiv t ≤ 2147483648 := by
  have h : (s.tdiv t).natAbs = s.natAbs / t.natAbs := Int.natAbs_tdiv s t
  have h2 := Nat.div_le_self s.natAbs t.natAbs
  generalize s.tdiv t = q at *
  generalize s.natAbs / t.natAbs = r at *
  omega
theorem tmod_low (s t : Int) (hs : -2147483648 ≤ s ∧ s ≤ 2147483647) : -2147483648 ≤ s.tmod t ∧ s.tmod t ≤ 2147483648 := by
  have h : (s.tmod t).natAbs = s.natAbs % t.natAbs := Int.natAbs_tmod s t
  have h2 := Nat.mod_le s.natAbs t.natAbs
  have h3 : 0 ≤ s → 0 ≤ s.tmod t := fun h => Int.tmod_nonneg t h
  generalize s.tmod t = q at *
  generalize s.natAbs % t.natAbs = r at *
  omega
theorem shl_low (x : Int) (k : Nat) (hx : 0 ≤ x) (hx' : x < 4294967296) (hk : k < 32) : 0 ≤ x * 2 ^ k ∧ x * 2 ^ k < 9223372036854775808 := by
  obtain ⟨n, rfl⟩ := Int.eq_ofNat_of_zero_le hx
  have h1 : n < 2 ^ 32 := by omega
  have h2 : n * 2 ^ k ≤ n * 2 ^ 31 := Nat.mul_le_mul_left _ (Nat.pow_le_pow_right (by decide) (by omega))
  have e : ((n : Int) * 2 ^ k) = ((n * 2 ^ k : Nat) : Int) := by simp
  rw [e]
  generalize n * 2 ^ k = z at *
  omega
theorem shr_low (x : Int) (k : Nat) (hx : 0 ≤ x) : 0 ≤ x / 2 ^ k ∧ x / 2 ^ k ≤ x := by
  refine ⟨Int.ediv_nonneg hx (Int.le_of_lt (Int.pow_pos (by decide))), Int.ediv_le_self _ hx⟩
theorem sar_low (s : Int) (k : Nat) (hs : -2147483648 ≤ s ∧ s ≤ 2147483647) : -2147483648 ≤ s / 2 ^ k ∧ s / 2 ^ k ≤ 2147483647 := by
  have hp : (0 : Int) < 2 ^ k := Int.pow_pos (by decide)
  constructor
  · rw [Int.le_ediv_iff_mul_le hp]
    have : (-2147483648 : Int) * 2 ^ k ≤ -2147483648 * 1 := Int.mul_le_mul_of_nonpos_left (by decide) (by omega)
    omega
  · by_cases h : 0 ≤ s
    · have := shr_low s k h; omega
    · have : s / 2 ^ k < 0 := Int.ediv_neg_of_neg_of_pos (by omega) hp
      omega

/-! each operation by its number -/
theorem b_cmp (op a b : Int) (h : 70 ≤ op ∧ op ≤ 79) : bin32 op a b = (flagI (cmp32 op (a % 4294967296) (b % 4294967296)), 0) := by unfold bin32; rw [if_pos h]
theorem b_add (a b : Int) : bin32 106 a b = ((a + b) % 4294967296, 0) := by
  show ((a % 4294967296 + b % 4294967296) % 4294967296, (0 : Int)) = _
  rw [← Int.add_emod]
theorem b_sub (a b : Int) : bin32 107 a b = ((a - b) % 4294967296, 0) := by
  show ((a % 4294967296 - b % 4294967296) % 4294967296, (0 : Int)) = _
  rw [← Int.sub_emod]
theorem b_mul (a b : Int) : bin32 108 a b = (a * b % 4294967296, 0) := by
  show (a % 4294967296 * (b % 4294967296) % 4294967296, (0 : Int)) = _
  rw [← Int.mul_emod]
theorem b_and (a b : Int) : bin32 113 a b = ((((a % 4294967296).toNat &&& (b % 4294967296).toNat : Nat) : Int), 0) := rfl
theorem b_or (a b : Int) : bin32 114 a b = ((((a % 4294967296).toNat ||| (b % 4294967296).toNat : Nat) : Int), 0) := rfl
theorem b_xor (a b : Int) : bin32 115 a b = ((((a % 4294967296).toNat ^^^ (b % 4294967296).toNat : Nat) : Int), 0) := rfl
theorem b_shl (a b : Int) : bin32 116 a b = (a % 4294967296 * 2 ^ (b % 32).toNat % 4294967296, 0) := rfl
theorem b_sar (a b : Int) : bin32 117 a b = (sg a / 2 ^ (b % 32).toNat % 4294967296, 0) := rfl
theorem b_shr (a b : Int) : bin32 118 a b = (a % 4294967296 / 2 ^ (b % 32).toNat, 0) := rfl
theorem b_rotl (a b : Int) : bin32 119 a b = ((rotl 32 (a % 4294967296).toNat (b % 32).toNat : Int), 0) := rfl
theorem b_rotr (a b : Int) : bin32 120 a b = ((rotl 32 (a % 4294967296).toNat ((-b) % 32).toNat : Int), 0) := rfl
theorem b_div0 (a b : Int) (h : b % 4294967296 = 0) : bin32 109 a b = (0, 201) ∧ bin32 110 a b = (0, 201) ∧ bin32 111 a b = (0, 201) ∧ bin32 112 a b = (0, 201) := by
  refine ⟨?_, ?_, ?_, ?_⟩
  · show (if b % 4294967296 = 0 then ((0 : Int), (201 : Int)) else _) = _; rw [if_pos h]
  · show (if b % 4294967296 = 0 then ((0 : Int), (201 : Int)) else _) = _; rw [if_pos h]
  · show (if b % 4294967296 = 0 then ((0 : Int), (201 : Int)) else _) = _; rw [if_pos h]
  · show (if b % 4294967296 = 0 then ((0 : Int), (201 : Int)) else _) = _; rw [if_pos h]
theorem b_over (a b : Int) (h : b % 4294967296 ≠ 0) (h' : sg a = -2147483648 ∧ sg b = -1) : bin32 109 a b = (0, 202) := by
  show (if b % 4294967296 = 0 then ((0 : Int), (201 : Int)) else _) = _; rw [if_neg h, if_pos h']
theorem b_divs (a b : Int) (h : b % 4294967296 ≠ 0) (h' : ¬ (sg a = -2147483648 ∧ sg b = -1)) : bin32 109 a b = ((sg a).tdiv (sg b) % 4294967296, 0) := by
  show (if b % 4294967296 = 0 then ((0 : Int), (201 : Int)) else _) = _; rw [if_neg h, if_neg h']
theorem b_divu (a b : Int) (h : b % 4294967296 ≠ 0) : bin32 110 a b = (a % 4294967296 / (b % 4294967296), 0) := by
  show (if b % 4294967296 = 0 then ((0 : Int), (201 : Int)) else _) = _; rw [if_neg h]
theorem b_rems (a b : Int) (h : b % 4294967296 ≠ 0) : bin32 111 a b = ((sg a).tmod (sg b) % 4294967296, 0) := by
  show (if b % 4294967296 = 0 then ((0 : Int), (201 : Int)) else _) = _; rw [if_neg h]
theorem b_remu (a b : Int) (h : b % 4294967296 ≠ 0) : bin32 112 a b = (a % 4294967296 % (b % 4294967296), 0) := by
  show (if b % 4294967296 = 0 then ((0 : Int), (201 : Int)) else _) = _; rw [if_neg h]
theorem b_bad (op a b : Int) (h : op < 70 ∨ (79 < op ∧ op < 106) ∨ 120 < op) : bin32 op a b = (0, 200) := by
  unfold bin32
  repeat rw [if_neg (by omega)]
theorem u_bad (op a : Int) (h1 : ¬ op = 69) (h2 : ¬ op = 103) (h3 : ¬ op = 104) (h4 : ¬ op = 105) : un32 op a = (0, 200) := by
  unfold un32
  rw [if_neg h1, if_neg h2, if_neg h3, if_neg h4]
theorem u_eqz (a : Int) : un32 69 a = (flagI (a % 4294967296 == 0), 0) := rfl
theorem u_clz (a : Int) : un32 103 a = (32 - (Lib.bitLen (a % 4294967296).toNat : Int), 0) := rfl
theorem u_ctz (a : Int) : un32 104 a = ((Lib.ctz 32 (a % 4294967296).toNat : Int), 0) := rfl
theorem u_pop (a : Int) : un32 105 a = ((popAux 32 (a % 4294967296).toNat : Int), 0) := rfl

/-! and, or, exclusive or by one another -/
theorem and_or_add (x y : Nat) : (x &&& y) + (x ||| y) = x + y ∧ (x ^^^ y) + (x &&& y) = x ||| y := by
  induction x using Nat.strongRecOn generalizing y with
  | _ x ih =>
    by_cases hx : x = 0
    · subst hx; simp
    · obtain ⟨h1, h2⟩ := ih (x / 2) (by omega) (y / 2)
      have a1 := Nat.and_div_two (a := x) (b := y)
      have a2 := Nat.or_div_two (a := x) (b := y)
      have a3 := Nat.xor_div_two (a := x) (b := y)
      have b1 := Nat.and_mod_two_eq_one (a := x) (b := y)
      have b2 := Nat.or_mod_two_eq_one (a := x) (b := y)
      have b3 : (x ^^^ y) % 2 = 1 ↔ ¬ (x % 2 = 1 ↔ y % 2 = 1) := Nat.xor_mod_two_eq_one
      omega
theorem xor_back (x y : Nat) : (x ^^^ y) ^^^ y = x := by rw [Nat.xor_assoc, Nat.xor_self, Nat.xor_zero]
end Go.BM
