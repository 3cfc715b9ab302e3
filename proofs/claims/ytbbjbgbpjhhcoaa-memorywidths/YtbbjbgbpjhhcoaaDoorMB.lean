/- Bytes and words: what loads make of bytes, what stores make of words. -/
import Derived.WalkKit
import Derived.Test.YtbbjbgbpjhhcoaaDoorMath
set_option linter.unusedVariables false
namespace Go.BY
open Go.RowKit

/-- the word of k bytes from a on, the lowest first -/
def wd (f : Nat → Nat) (a : Nat) : Nat → Nat
  | 0 => 0
  | k + 1 => wd f a k + f (a + k) * 256 ^ k
theorem wd_lt (f : Nat → Nat) (a : Nat) (h : ∀ i, f i < 256) : ∀ k, wd f a k < 256 ^ k
  | 0 => by simp [wd]
  | k + 1 => by
    have ih := wd_lt f a h k
    have hf := h (a + k)
    have h2 : f (a + k) * 256 ^ k ≤ 255 * 256 ^ k := Nat.mul_le_mul_right _ (by omega)
    simp only [wd, Nat.pow_succ]
    omega
/-- byte i of a word -/
def byt (x i : Nat) : Nat := x / 256 ^ i % 256
theorem byt_lt (x i : Nat) : byt x i < 256 := Nat.mod_lt _ (by decide)
/-- what a store of n bytes makes -/
def put (f : Nat → Nat) (a n x : Nat) : Nat → Nat := fun j => if a ≤ j ∧ j < a + n then byt x (j - a) else f j
theorem put_lt (f : Nat → Nat) (a n x : Nat) (h : ∀ i, f i < 256) (i : Nat) : put f a n x i < 256 := by
  unfold put; split
  · exact byt_lt _ _
  · exact h i
theorem put_zero (f : Nat → Nat) (a x : Nat) : put f a 0 x = f := by
  funext j; unfold put; rw [if_neg (by omega)]
theorem put_succ (f : Nat → Nat) (a n x : Nat) : (fun j => if j = a + n then byt x n else put f a n x j) = put f a (n + 1) x := by
  funext j; unfold put
  by_cases h : j = a + n
  · subst h; rw [if_pos rfl, if_pos (by omega), Nat.add_sub_cancel_left]
  · rw [if_neg h]
    by_cases h2 : a ≤ j ∧ j < a + n
    · rw [if_pos h2, if_pos (by omega)]
    · rw [if_neg h2, if_neg (by omega)]
theorem wd_congr (f g : Nat → Nat) (a b : Nat) : ∀ k, (∀ i, i < k → f (a + i) = g (b + i)) → wd f a k = wd g b k
  | 0, _ => rfl
  | k + 1, h => by simp only [wd]; rw [wd_congr f g a b k (fun i hi => h i (by omega)), h k (by omega)]
theorem wd_byt (x : Nat) : ∀ k, wd (byt x) 0 k = x % 256 ^ k
  | 0 => by simp [wd, Nat.mod_one]
  | k + 1 => by
    simp only [wd, Nat.zero_add]
    rw [wd_byt x k, Nat.pow_succ, Nat.mod_mul, byt, Nat.mul_comm]
theorem wd_put (f : Nat → Nat) (a n x k : Nat) (h : k ≤ n) : wd (put f a n x) a k = x % 256 ^ k := by
  rw [← wd_byt, wd_congr _ (byt x) a 0 k]
  intro i hi
  unfold put
  rw [if_pos (by omega), Nat.add_sub_cancel_left, Nat.zero_add]
theorem wd_at (f : Nat → Nat) (a n x d k : Nat) (h : d + k ≤ n) : wd (put f a n x) (a + d) k = x / 256 ^ d % 256 ^ k := by
  rw [← wd_byt, wd_congr _ (byt (x / 256 ^ d)) (a + d) 0 k]
  intro i hi
  unfold put
  rw [if_pos (by omega), Nat.zero_add]
  unfold byt
  rw [Nat.div_div_eq_div_mul, ← Nat.pow_add]
  congr 3
  omega
theorem wd_off (f : Nat → Nat) (a n x b k : Nat) (h : b + k ≤ a ∨ a + n ≤ b) : wd (put f a n x) b k = wd f b k := by
  apply wd_congr
  intro i hi
  unfold put
  rw [if_neg (by omega)]
theorem wd_zero (a k : Nat) : wd (fun _ => 0) a k = 0 := by
  induction k with
  | zero => rfl
  | succ k ih => simp [wd, ih]
theorem lor_step (v b k : Nat) (hv : v < 256 ^ k) : v ||| b * 256 ^ k = v + b * 256 ^ k := by
  have e : (256 : Nat) ^ k = 2 ^ (8 * k) := by rw [Nat.pow_mul]
  rw [e] at hv ⊢
  have := Nat.two_pow_add_eq_or_of_lt hv b
  rw [Nat.or_comm, Nat.mul_comm b, ← this]
  omega
theorem or_u64 (a b : Nat) (ha : a < 18446744073709551616) (hb : b < 18446744073709551616) : bits .or .u64 (a : Int) (b : Int) = ((a ||| b : Nat) : Int) := u64_or_nat a b ha hb
theorem pow_le (k : Nat) (hk : k < 8) : 256 ^ (k + 1) ≤ 18446744073709551616 := by
  rcases (by omega : k = 0 ∨ k = 1 ∨ k = 2 ∨ k = 3 ∨ k = 4 ∨ k = 5 ∨ k = 6 ∨ k = 7) with rfl | rfl | rfl | rfl | rfl | rfl | rfl | rfl <;> decide
theorem or_step (f : Nat → Nat) (a k : Nat) (hf : ∀ i, f i < 256) (hk : k < 8) :
    bits .or .u64 (wd f a k : Nat) (IntKind.u64.wrap (IntKind.u64.wrap (f (a + k) : Nat) * 2 ^ (8 * k))) = ((wd f a (k + 1) : Nat) : Int) := by
  have h1 := wd_lt f a hf k
  have h2 := wd_lt f a hf (k + 1)
  have h3 := pow_le k hk
  have hx := hf (a + k)
  have e : (2 : Int) ^ (8 * k) = ((256 ^ k : Nat) : Int) := by rw [Int.pow_mul]; simp
  have hp : 256 ^ k ≤ 256 ^ (k + 1) := Nat.pow_le_pow_right (by decide) (by omega)
  have hm : f (a + k) * 256 ^ k ≤ wd f a (k + 1) := by simp only [wd]; omega
  rw [IntKind.wrap_u64, IntKind.wrap_u64, e, Int.emod_eq_of_lt (a := ((f (a + k) : Nat) : Int)) (by omega) (by omega), ← Int.natCast_mul, Int.emod_eq_of_lt (by omega) (by omega), or_u64 _ _ (by omega) (by omega), lor_step _ _ _ h1]
  rfl
/-- a word of so many bytes, with its sign -/
def sx (n : Nat) (v : Nat) : Int := if 2 ^ (8 * n - 1) ≤ v then (v : Int) - 2 ^ (8 * n) else v
/-- what a load makes of its bytes -/
def lv (n : Nat) (s w : Bool) (v : Nat) : Int :=
  let b := if s then sx n v else wrap64 (v : Int)
  if w then b else b % 4294967296
theorem sx1 (x : Nat) (h : x < 256) : wrap64 ((x : Int) * 72057594037927936) / 72057594037927936 = sx 1 x := by
  simp only [sx, wrap64]; split <;> omega
theorem sx2 (x : Nat) (h : x < 65536) : wrap64 ((x : Int) * 281474976710656) / 281474976710656 = sx 2 x := by
  simp only [sx, wrap64]; split <;> omega
theorem sx4 (x : Nat) (h : x < 4294967296) : wrap64 ((x : Int) * 4294967296) / 4294967296 = sx 4 x := by
  simp only [sx, wrap64]; split <;> omega
end Go.BY
