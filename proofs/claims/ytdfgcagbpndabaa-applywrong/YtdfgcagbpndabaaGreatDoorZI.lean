/- Plain mathematics of bits, of no program: ones counted, rolled bits, the noughts at both ends. -/
import Derived.WalkKit
import Derived.Laws.BitsAllLaws
import Derived.Laws.BitsLemmas
import Derived.Lib.BitFns
import Derived.Lib.TrailingZeros
set_option linter.unusedVariables false
namespace Go.BM
open Go.RowKit
theorem ofInt64 (x : Int) : (BitVec.ofInt 64 x).toNat = (x % 18446744073709551616).toNat := by
  rw [BitVec.toNat_ofInt]; rfl
theorem and_i64 (a b : Int) : bits .and .i64 a b = wrap64 (((a % 18446744073709551616).toNat &&& (b % 18446744073709551616).toNat : Nat) : Int) := by
  show IntKind.i64.wrap ((BitVec.ofInt 64 a &&& BitVec.ofInt 64 b).toNat : Int) = _
  rw [BitVec.toNat_and, ofInt64, ofInt64, IntKind.wrap_i64, wrap64]
theorem or_i64 (a b : Int) : bits .or .i64 a b = wrap64 (((a % 18446744073709551616).toNat ||| (b % 18446744073709551616).toNat : Nat) : Int) := by
  show IntKind.i64.wrap ((BitVec.ofInt 64 a ||| BitVec.ofInt 64 b).toNat : Int) = _
  rw [BitVec.toNat_or, ofInt64, ofInt64, IntKind.wrap_i64, wrap64]
theorem xor_i64 (a b : Int) : bits .xor .i64 a b = wrap64 (((a % 18446744073709551616).toNat ^^^ (b % 18446744073709551616).toNat : Nat) : Int) := by
  show IntKind.i64.wrap ((BitVec.ofInt 64 a ^^^ BitVec.ofInt 64 b).toNat : Int) = _
  rw [BitVec.toNat_xor, ofInt64, ofInt64, IntKind.wrap_i64, wrap64]
theorem and_mask (x : Int) (j : Nat) (hj : j < 63) : bits .and .i64 x ((2 ^ j : Nat) - 1 : Int) = x % (2 ^ j : Nat) := by
  have hp : 2 ^ j ∣ 18446744073709551616 := by
    have e : j + (64 - j) = 64 := by omega
    have : (18446744073709551616 : Nat) = 2 ^ j * 2 ^ (64 - j) := by rw [← Nat.pow_add, e]
    exact ⟨_, this⟩
  have h1 : 2 ^ j < 2 ^ 63 := Nat.pow_lt_pow_right (by decide) hj
  have h0 : 0 < 2 ^ j := Nat.two_pow_pos j
  rw [and_i64]
  have e : (((2 ^ j : Nat) - 1 : Int) % 18446744073709551616).toNat = 2 ^ j - 1 := by
    generalize 2 ^ j = p at *; omega
  rw [e, Nat.and_two_pow_sub_one_eq_mod]
  have e2 : (((x % 18446744073709551616).toNat % 2 ^ j : Nat) : Int) = x % (2 ^ j : Nat) := by
    rw [Int.natCast_emod, Int.toNat_of_nonneg (Int.emod_nonneg _ (by decide))]
    exact Int.emod_emod_of_dvd _ (Int.natCast_dvd_natCast.mpr hp)
  rw [e2]
  have h2 := Int.emod_nonneg x (b := ((2 ^ j : Nat) : Int)) (by omega)
  have h3 := Int.emod_lt_of_pos x (b := ((2 ^ j : Nat) : Int)) (by omega)
  generalize 2 ^ j = p at *
  simp only [wrap64]
  omega
theorem and1 (x : Int) : bits .and .i64 x 1 = x % 2 := and_mask x 1 (by decide)
theorem and31 (x : Int) : bits .and .i64 x 31 = x % 32 := and_mask x 5 (by decide)
theorem and63 (x : Int) : bits .and .i64 x 63 = x % 64 := and_mask x 6 (by decide)
theorem and127 (x : Int) : bits .and .i64 x 127 = x % 128 := and_mask x 7 (by decide)
theorem and32 (x : Int) : bits .and .i64 x 4294967295 = x % 4294967296 := and_mask x 32 (by decide)
theorem uand31 (k : Int) (h0 : 0 ≤ k) (h1 : k ≤ 31) : bits .and .u64 k 31 = k := by
  have := u64_and k 31 h0 (by omega) (by decide) (by decide)
  rw [this]; simp only [show (31 : Int).toNat = 31 from rfl, nat_mask5]; omega
theorem uand63 (k : Int) (h0 : 0 ≤ k) (h1 : k ≤ 63) : bits .and .u64 k 63 = k := by
  have := u64_and k 63 h0 (by omega) (by decide) (by decide)
  rw [this]; simp only [show (63 : Int).toNat = 63 from rfl, nat_mask6]; omega
open Lib (popAux)
theorem popAux_le : ∀ w x, popAux w x ≤ w
  | 0, _ => Nat.le_refl _
  | w + 1, x => by have := popAux_le w (x / 2); simp only [popAux]; omega
theorem popAux_split : ∀ (k m x : Nat), popAux (k + m) x = popAux k x + popAux m (x / 2 ^ k)
  | 0, m, x => by simp [popAux]
  | k + 1, m, x => by
    rw [show k + 1 + m = (k + m) + 1 from by omega]
    simp only [popAux]
    rw [popAux_split k m (x / 2), Nat.div_div_eq_div_mul, Nat.pow_succ, Nat.mul_comm 2]
    omega
theorem popAux_mod : ∀ (k x : Nat), popAux k (x % 2 ^ k) = popAux k x
  | 0, x => rfl
  | k + 1, x => by
    simp only [popAux]
    have e1 : x % 2 ^ (k + 1) % 2 = x % 2 := by rw [Nat.pow_succ, Nat.mod_mul_left_mod]
    have e2 : x % 2 ^ (k + 1) / 2 = x / 2 % 2 ^ k := by rw [Nat.pow_succ, Nat.mul_comm, Nat.mod_mul_right_div_self]
    rw [e1, e2, popAux_mod k (x / 2)]
theorem u32and255 (x : Int) (h0 : 0 ≤ x) (h1 : x ≤ 4294967295) : bits .and .u32 x 255 = x % 256 := by
  rw [u32_and x 255 h0 (by omega) (by decide) (by decide)]
  simp only [show (255 : Int).toNat = 255 from rfl, nat_mask8]; omega
def rotl (w x k : Nat) : Nat := x % 2 ^ (w - k) * 2 ^ k + x / 2 ^ (w - k)
theorem two_split (w k : Nat) (h : k ≤ w) : 2 ^ w = 2 ^ (w - k) * 2 ^ k := by rw [← Nat.pow_add]; congr 1; omega
theorem top_lt (w x k : Nat) (h : k ≤ w) (hx : x < 2 ^ w) : x / 2 ^ (w - k) < 2 ^ k := by
  rw [two_split w k h] at hx
  exact Nat.div_lt_of_lt_mul hx
theorem rotl_lt (w x k : Nat) (h : k ≤ w) (hx : x < 2 ^ w) : rotl w x k < 2 ^ w := by
  have h1 := top_lt w x k h hx
  have h2 := Nat.mod_lt x (Nat.two_pow_pos (w - k))
  rw [two_split w k h]
  unfold rotl
  generalize x / 2 ^ (w - k) = t at *
  generalize x % 2 ^ (w - k) = m at *
  generalize 2 ^ (w - k) = p at *
  have : (m + 1) * 2 ^ k ≤ p * 2 ^ k := Nat.mul_le_mul_right _ h2
  rw [Nat.add_mul] at this
  omega
theorem rotl_or (w x k : Nat) (h : k ≤ w) (hx : x < 2 ^ w) : x * 2 ^ k % 2 ^ w ||| x / 2 ^ (w - k) = rotl w x k := by
  have e : x * 2 ^ k % 2 ^ w = x % 2 ^ (w - k) * 2 ^ k := by rw [two_split w k h, Nat.mul_mod_mul_right]
  rw [e, nat_join k _ _ (Nat.mul_mod_left _ _) (top_lt w x k h hx)]
  rfl
theorem or32 (x k : Int) (h0 : 0 ≤ x) (h1 : x ≤ 4294967295) (hk0 : 0 ≤ k) (hk1 : k ≤ 31) :
    bits .or .u32 (x * 2 ^ k.toNat % 4294967296) (x / 2 ^ (32 - k).toNat) = (rotl 32 x.toNat k.toNat : Int) := by
  obtain ⟨n, rfl⟩ := Int.eq_ofNat_of_zero_le h0
  obtain ⟨j, rfl⟩ := Int.eq_ofNat_of_zero_le hk0
  simp only [Int.toNat_natCast] at *
  have e1 : ((n : Int) * 2 ^ j % 4294967296) = ((n * 2 ^ j % 2 ^ 32 : Nat) : Int) := by simp
  have e2 : ((n : Int) / 2 ^ (32 - (j : Int)).toNat) = ((n / 2 ^ (32 - j) : Nat) : Int) := by
    have : (32 - (j : Int)).toNat = 32 - j := by omega
    rw [this]; simp
  rw [e1, e2, u32_or_nat _ _ (Nat.mod_lt _ (by decide)) (by have := Nat.div_le_self n (2 ^ (32 - j)); omega)]
  rw [rotl_or 32 n j (by omega) (by omega)]
theorem or64 (x k : Int) (h0 : 0 ≤ x) (h1 : x ≤ 18446744073709551615) (hk0 : 0 ≤ k) (hk1 : k ≤ 63) :
    bits .or .u64 (IntKind.u64.wrap (x * 2 ^ k.toNat)) (x / 2 ^ (64 - k).toNat) = (rotl 64 x.toNat k.toNat : Int) := by
  obtain ⟨n, rfl⟩ := Int.eq_ofNat_of_zero_le h0
  obtain ⟨j, rfl⟩ := Int.eq_ofNat_of_zero_le hk0
  simp only [Int.toNat_natCast] at *
  have e1 : IntKind.u64.wrap ((n : Int) * 2 ^ j) = ((n * 2 ^ j % 2 ^ 64 : Nat) : Int) := by rw [IntKind.wrap_u64]; simp
  have e2 : ((n : Int) / 2 ^ (64 - (j : Int)).toNat) = ((n / 2 ^ (64 - j) : Nat) : Int) := by
    have : (64 - (j : Int)).toNat = 64 - j := by omega
    rw [this]; simp
  rw [e1, e2, u64_or_nat _ _ (Nat.mod_lt _ (by decide)) (by have := Nat.div_le_self n (2 ^ (64 - j)); omega)]
  rw [rotl_or 64 n j (by omega) (by omega)]
end Go.BM
namespace Go.BM
open Go.RowKit
open Lib (popAux)
theorem pop8_pop : ∀ n : Fin 256, Lib.pop8 (n.val : Int) = (popAux 8 n.val : Int) := by decide +kernel
theorem pop8_int (b : Int) (h0 : 0 ≤ b) (h1 : b ≤ 255) : Lib.pop8 b = (popAux 8 b.toNat : Int) := by
  have e := pop8_pop ⟨b.toNat, by omega⟩
  simpa only [Int.toNat_of_nonneg h0] using e
theorem popAux_byte (m x : Nat) : popAux (8 + m) x = popAux 8 (x % 256) + popAux m (x / 256) := by
  rw [popAux_split]; congr 1; exact (popAux_mod 8 x).symm
theorem ones32 (x : Int) (h0 : 0 ≤ x) (h1 : x ≤ 4294967295) :
    (Lib.pop8 (x / 16777216) + Lib.pop8 (x / 65536 % 256) + Lib.pop8 (x / 256 % 256) + Lib.pop8 (x % 256)) % 256 = (popAux 32 x.toNat : Int) := by
  rw [pop8_int _ (by omega) (by omega), pop8_int _ (by omega) (by omega), pop8_int _ (by omega) (by omega), pop8_int _ (by omega) (by omega)]
  have e : popAux 32 x.toNat = popAux 8 (x.toNat % 256) + (popAux 8 (x.toNat / 256 % 256) + (popAux 8 (x.toNat / 256 / 256 % 256) + popAux 8 (x.toNat / 256 / 256 / 256))) := by
    rw [popAux_byte 24, popAux_byte 16, popAux_byte 8]
  have a1 : (x / 16777216).toNat = x.toNat / 256 / 256 / 256 := by omega
  have a2 : (x / 65536 % 256).toNat = x.toNat / 256 / 256 % 256 := by omega
  have a3 : (x / 256 % 256).toNat = x.toNat / 256 % 256 := by omega
  have a4 : (x % 256).toNat = x.toNat % 256 := by omega
  rw [a1, a2, a3, a4, e]
  have l1 := popAux_le 8 (x.toNat / 256 / 256 / 256)
  have l2 := popAux_le 8 (x.toNat / 256 / 256 % 256)
  have l3 := popAux_le 8 (x.toNat / 256 % 256)
  have l4 := popAux_le 8 (x.toNat % 256)
  omega
def bsum : Nat → (Nat → Nat) → Nat → Nat
  | 0, _, _ => 0
  | n + 1, f, x => bsum n f (x / 256) * 256 + f (x % 256)
def rep : Nat → Nat → Nat
  | 0, _ => 0
  | n + 1, m => rep n m * 256 + m
theorem and_byte (x y : Nat) : x &&& y = (x / 256 &&& y / 256) * 256 + (x % 256 &&& y % 256) := by
  have h1 : (x &&& y) / 2 ^ 8 = x / 2 ^ 8 &&& y / 2 ^ 8 := Nat.and_div_two_pow
  have h2 : (x &&& y) % 2 ^ 8 = (x % 2 ^ 8) &&& (y % 2 ^ 8) := Nat.and_mod_two_pow
  have := Nat.div_add_mod' (x &&& y) (2 ^ 8)
  rw [h1, h2] at this
  exact this.symm
theorem and_rep : ∀ (n m x : Nat), m < 256 → x &&& rep n m = bsum n (fun b => b &&& m) x
  | 0, m, x, _ => by simp [rep, bsum]
  | n + 1, m, x, hm => by
    rw [and_byte]
    have e1 : rep (n + 1) m / 256 = rep n m := by simp only [rep]; omega
    have e2 : rep (n + 1) m % 256 = m := by simp only [rep]; omega
    rw [e1, e2, and_rep n m (x / 256) hm]
    rfl
theorem bsum_add : ∀ (n : Nat) (f g : Nat → Nat) (x : Nat), bsum n f x + bsum n g x = bsum n (fun b => f b + g b) x
  | 0, _, _, _ => rfl
  | n + 1, f, g, x => by
    have := bsum_add n f g (x / 256)
    simp only [bsum]
    rw [← this]
    omega
theorem bsum_congr : ∀ (n : Nat) (f g : Nat → Nat) (x : Nat), (∀ b, b < 256 → f b = g b) → bsum n f x = bsum n g x
  | 0, _, _, _, _ => rfl
  | n + 1, f, g, x, h => by
    simp only [bsum]
    rw [bsum_congr n f g (x / 256) h, h _ (Nat.mod_lt _ (by decide))]
theorem bsum_comp : ∀ (n : Nat) (f g : Nat → Nat) (x : Nat), (∀ b, b < 256 → g b < 256) → bsum n f (bsum n g x) = bsum n (fun b => f (g b)) x
  | 0, _, _, _, _ => rfl
  | n + 1, f, g, x, h => by
    have hb := h (x % 256) (Nat.mod_lt _ (by decide))
    have e1 : bsum (n + 1) g x / 256 = bsum n g (x / 256) := by simp only [bsum]; omega
    have e2 : bsum (n + 1) g x % 256 = g (x % 256) := by simp only [bsum]; omega
    show bsum n f (bsum (n + 1) g x / 256) * 256 + f (bsum (n + 1) g x % 256) = _
    rw [e1, e2, bsum_comp n f g (x / 256) h]
    rfl
theorem bsum_lt : ∀ (n : Nat) (f : Nat → Nat) (x : Nat), (∀ b, b < 256 → f b < 256) → bsum n f x < 256 ^ n
  | 0, _, _, _ => by simp [bsum]
  | n + 1, f, x, h => by
    have h1 := bsum_lt n f (x / 256) h
    have h2 := h (x % 256) (Nat.mod_lt _ (by decide))
    simp only [bsum]
    rw [Nat.pow_succ]
    omega
theorem shift1 : ∀ (b : Fin 256) (d : Fin 2), ((b.val / 2 + 128 * d.val) &&& 85) = (b.val / 2 &&& 85) := by decide +kernel
theorem shift2 : ∀ (b : Fin 256) (d : Fin 4), ((b.val / 4 + 64 * d.val) &&& 51) = (b.val / 4 &&& 51) := by decide +kernel
theorem half_bytes : ∀ (n x : Nat), bsum n (fun b => b &&& 85) (x / 2) = bsum n (fun b => b / 2 &&& 85) x
  | 0, _ => rfl
  | n + 1, x => by
    simp only [bsum]
    have e1 : x / 2 / 256 = x / 256 / 2 := by omega
    have e2 : x / 2 % 256 = x % 256 / 2 + 128 * (x / 256 % 2) := by omega
    have e3 := shift1 ⟨x % 256, Nat.mod_lt _ (by decide)⟩ ⟨x / 256 % 2, Nat.mod_lt _ (by decide)⟩
    simp only at e3
    rw [e1, e2, e3, half_bytes n (x / 256)]
theorem quarter_bytes : ∀ (n x : Nat), bsum n (fun b => b &&& 51) (x / 4) = bsum n (fun b => b / 4 &&& 51) x
  | 0, _ => rfl
  | n + 1, x => by
    simp only [bsum]
    have e1 : x / 4 / 256 = x / 256 / 4 := by omega
    have e2 : x / 4 % 256 = x % 256 / 4 + 64 * (x / 256 % 4) := by omega
    have e3 := shift2 ⟨x % 256, Nat.mod_lt _ (by decide)⟩ ⟨x / 256 % 4, Nat.mod_lt _ (by decide)⟩
    simp only at e3
    rw [e1, e2, e3, quarter_bytes n (x / 256)]
theorem bsum_mod16 (n : Nat) (g : Nat → Nat) (x : Nat) (h : ∀ b, b < 256 → g b % 16 ≤ 4) : bsum n g x % 16 ≤ 4 := by
  cases n with
  | zero => simp [bsum]
  | succ n =>
    have := h (x % 256) (Nat.mod_lt _ (by decide))
    simp only [bsum]
    omega
theorem nibbles : ∀ (n : Nat) (g : Nat → Nat) (x : Nat), (∀ b, b < 256 → g b ≤ 68) → (∀ b, b < 256 → g b % 16 ≤ 4) →
    (bsum n g x / 16 + bsum n g x) &&& rep n 15 = bsum n (fun b => g b / 16 + g b % 16) x
  | 0, _, _, _, _ => by simp [bsum, rep]
  | n + 1, g, x, h1, h2 => by
    have ih := nibbles n g (x / 256) h1 h2
    have c1 := h1 (x % 256) (Nat.mod_lt _ (by decide))
    have c2 := h2 (x % 256) (Nat.mod_lt _ (by decide))
    have c3 := bsum_mod16 n g (x / 256) h2
    rw [and_byte]
    simp only [bsum, rep]
    generalize hq : bsum n g (x / 256) = q at *
    generalize g (x % 256) = c at *
    have e1 : ((q * 256 + c) / 16 + (q * 256 + c)) / 256 = q / 16 + q := by omega
    have e2 : ((q * 256 + c) / 16 + (q * 256 + c)) % 256 = c / 16 + 16 * (q % 16) + c := by omega
    have e3 : (rep n 15 * 256 + 15) / 256 = rep n 15 := by omega
    have e4 : (rep n 15 * 256 + 15) % 256 = 15 := by omega
    rw [e1, e2, e3, e4, ih, nat_mask4]
    omega
def s1 (b : Nat) : Nat := (b / 2 &&& 85) + (b &&& 85)
def s2 (b : Nat) : Nat := (b / 4 &&& 51) + (b &&& 51)
theorem s1_lt : ∀ b : Fin 256, s1 b.val < 256 := by decide +kernel
theorem s12 : ∀ b : Fin 256, s2 (s1 b.val) ≤ 68 ∧ s2 (s1 b.val) % 16 ≤ 4 ∧ s2 (s1 b.val) / 16 + s2 (s1 b.val) % 16 = popAux 8 b.val := by decide +kernel
theorem sum8 (x p0 p1 p2 p3 p4 p5 p6 p7 : Nat) (h0 : p0 ≤ 8) (h1 : p1 ≤ 8) (h2 : p2 ≤ 8) (h3 : p3 ≤ 8) (h4 : p4 ≤ 8) (h5 : p5 ≤ 8) (h6 : p6 ≤ 8) (h7 : p7 ≤ 8)
    (hx : x = p0 + 256 * p1 + 65536 * p2 + 16777216 * p3 + 4294967296 * p4 + 1099511627776 * p5 + 281474976710656 * p6 + 72057594037927936 * p7) (y z t : Nat)
    (hy : y = x + x / 256) (hz : z = y + y / 65536) (ht : t = z + z / 4294967296) :
    t % 128 = p0 + p1 + p2 + p3 + p4 + p5 + p6 + p7 ∧ y < 18446744073709551616 ∧ z < 18446744073709551616 ∧ t < 18446744073709551616 := by
  have ey : y = (p0 + p1) + 256 * (p1 + p2) + 65536 * (p2 + p3) + 16777216 * (p3 + p4) + 4294967296 * (p4 + p5) + 1099511627776 * (p5 + p6) + 281474976710656 * (p6 + p7) + 72057594037927936 * p7 := by
    subst hx; omega
  have ez : z = (p0 + p1 + p2 + p3) + 256 * (p1 + p2 + p3 + p4) + 65536 * (p2 + p3 + p4 + p5) + 16777216 * (p3 + p4 + p5 + p6) + 4294967296 * (p4 + p5 + p6 + p7) + 1099511627776 * (p5 + p6 + p7) + 281474976710656 * (p6 + p7) + 72057594037927936 * p7 := by
    clear hx hy; subst ey; omega
  have ed : z / 4294967296 = (p4 + p5 + p6 + p7) + 256 * (p5 + p6 + p7) + 65536 * (p6 + p7) + 16777216 * p7 := by
    have e : z = ((p0 + p1 + p2 + p3) + 256 * (p1 + p2 + p3 + p4) + 65536 * (p2 + p3 + p4 + p5) + 16777216 * (p3 + p4 + p5 + p6)) + 4294967296 * ((p4 + p5 + p6 + p7) + 256 * (p5 + p6 + p7) + 65536 * (p6 + p7) + 16777216 * p7) := by
      rw [ez]; clear hx hy hz ht ey ez; omega
    rw [e, Nat.add_mul_div_left _ _ (by decide), Nat.div_eq_of_lt (by clear hx hy hz ht ey ez e; omega), Nat.zero_add]
  have et : t = (p0 + p1 + p2 + p3 + p4 + p5 + p6 + p7) + 128 * (2 * ((p1 + p2 + p3 + p4) + (p5 + p6 + p7)) + 512 * ((p2 + p3 + p4 + p5) + (p6 + p7)) + 131072 * ((p3 + p4 + p5 + p6) + p7) + 33554432 * (p4 + p5 + p6 + p7) + 8589934592 * (p5 + p6 + p7) + 2199023255552 * (p6 + p7) + 562949953421312 * p7) := by
    rw [ht, ed, ez]; clear hx hy hz ht ey ed ez; omega
  refine ⟨?_, ?_, ?_, ?_⟩
  · rw [et, Nat.add_mul_mod_self_left]
    exact Nat.mod_eq_of_lt (by clear hx hy hz ht ey ez ed et; omega)
  · rw [ey]; clear hx hy hz ht ey ez ed et; omega
  · rw [ez]; clear hx hy hz ht ey ez ed et; omega
  · rw [et]; clear hx hy hz ht ey ez ed et; omega
theorem ones64_nat (x : Nat) (hx : x < 18446744073709551616) :
    ∃ y1 y2 y3 y4 y5 y6 : Nat, (x / 2 &&& 6148914691236517205) + (x &&& 6148914691236517205) = y1 ∧ (y1 / 4 &&& 3689348814741910323) + (y1 &&& 3689348814741910323) = y2 ∧
      ((y2 / 16 + y2) &&& 1085102592571150095) = y3 ∧ y3 + y3 / 256 = y4 ∧ y4 + y4 / 65536 = y5 ∧ y5 + y5 / 4294967296 = y6 ∧ y6 % 128 = popAux 64 x ∧
      y1 < 18446744073709551616 ∧ y2 < 1152921504606846976 * 5 ∧ y3 < 18446744073709551616 ∧ y4 < 18446744073709551616 ∧ y5 < 18446744073709551616 ∧ y6 < 18446744073709551616 := by
  have r1 : (6148914691236517205 : Nat) = rep 8 85 := by decide
  have r2 : (3689348814741910323 : Nat) = rep 8 51 := by decide
  have r3 : (1085102592571150095 : Nat) = rep 8 15 := by decide
  have k1 : ∀ b, b < 256 → s1 b < 256 := fun b hb => s1_lt ⟨b, hb⟩
  have k2 : ∀ b, b < 256 → s2 (s1 b) ≤ 68 := fun b hb => (s12 ⟨b, hb⟩).1
  have k3 : ∀ b, b < 256 → s2 (s1 b) % 16 ≤ 4 := fun b hb => (s12 ⟨b, hb⟩).2.1
  have k4 : ∀ b, b < 256 → s2 (s1 b) / 16 + s2 (s1 b) % 16 = popAux 8 b := fun b hb => (s12 ⟨b, hb⟩).2.2
  have e1 : (x / 2 &&& 6148914691236517205) + (x &&& 6148914691236517205) = bsum 8 s1 x := by
    rw [r1, and_rep 8 85 _ (by decide), and_rep 8 85 _ (by decide), half_bytes, bsum_add]; rfl
  have e2 : (bsum 8 s1 x / 4 &&& 3689348814741910323) + (bsum 8 s1 x &&& 3689348814741910323) = bsum 8 (fun b => s2 (s1 b)) x := by
    rw [r2, and_rep 8 51 _ (by decide), and_rep 8 51 _ (by decide), quarter_bytes, bsum_add, ← bsum_comp 8 s2 s1 x k1]; rfl
  have e3 : ((bsum 8 (fun b => s2 (s1 b)) x / 16 + bsum 8 (fun b => s2 (s1 b)) x) &&& 1085102592571150095) = bsum 8 (popAux 8) x := by
    rw [r3, nibbles 8 _ x k2 k3]; exact bsum_congr 8 _ _ x k4
  have b1 : bsum 8 s1 x < 256 ^ 8 := bsum_lt 8 _ x k1
  have b2 : bsum 8 (fun b => s2 (s1 b)) x < 1152921504606846976 * 5 := by
    have t1 := k2 (x / 256 / 256 / 256 / 256 / 256 / 256 / 256 % 256) (Nat.mod_lt _ (by decide))
    have t2 := bsum_lt 7 (fun b => s2 (s1 b)) x (fun b hb => by have := k2 b hb; omega)
    have t3 : ∀ (n : Nat) (f : Nat → Nat) (x : Nat), (∀ b, b < 256 → f b ≤ 68) → bsum n f x ≤ 68 * rep n 1 := by
      intro n
      induction n with
      | zero => intro f x _; simp [bsum, rep]
      | succ n ih =>
        intro f x h
        have a := ih f (x / 256) h
        have b := h (x % 256) (Nat.mod_lt _ (by decide))
        simp only [bsum, rep]
        omega
    have t4 := t3 8 _ x k2
    have t5 : 68 * rep 8 1 < 1152921504606846976 * 5 := by decide
    omega
  have b3 : bsum 8 (popAux 8) x < 256 ^ 8 := bsum_lt 8 _ x (fun b _ => by have := popAux_le 8 b; omega)
  have ep : popAux 64 x = popAux 8 (x % 256) + popAux 8 (x / 256 % 256) + popAux 8 (x / 256 / 256 % 256) + popAux 8 (x / 256 / 256 / 256 % 256) + popAux 8 (x / 256 / 256 / 256 / 256 % 256) + popAux 8 (x / 256 / 256 / 256 / 256 / 256 % 256) + popAux 8 (x / 256 / 256 / 256 / 256 / 256 / 256 % 256) + popAux 8 (x / 256 / 256 / 256 / 256 / 256 / 256 / 256 % 256) := by
    rw [popAux_byte 56, popAux_byte 48, popAux_byte 40, popAux_byte 32, popAux_byte 24, popAux_byte 16, popAux_byte 8]
    rw [Nat.mod_eq_of_lt (show x / 256 / 256 / 256 / 256 / 256 / 256 / 256 < 256 by omega)]
    omega
  have es := sum8 (bsum 8 (popAux 8) x) _ _ _ _ _ _ _ _ (popAux_le 8 (x % 256)) (popAux_le 8 (x / 256 % 256)) (popAux_le 8 (x / 256 / 256 % 256)) (popAux_le 8 (x / 256 / 256 / 256 % 256)) (popAux_le 8 (x / 256 / 256 / 256 / 256 % 256)) (popAux_le 8 (x / 256 / 256 / 256 / 256 / 256 % 256)) (popAux_le 8 (x / 256 / 256 / 256 / 256 / 256 / 256 % 256)) (popAux_le 8 (x / 256 / 256 / 256 / 256 / 256 / 256 / 256 % 256))
    (by simp only [bsum]; omega) _ _ _ rfl rfl rfl
  refine ⟨_, _, _, _, _, _, e1, e2, e3, rfl, rfl, rfl, ?_, ?_, ?_, ?_, es.2.1, es.2.2.1, es.2.2.2⟩
  · rw [es.1, ep]
  · exact b1
  · exact b2
  · exact b3
theorem andlit (x m : Int) (a b : Nat) (hx : x = (a : Int)) (hm : m = (b : Int)) (ha : a < 18446744073709551616) (hb : b < 18446744073709551616) :
    bits .and .u64 x m = ((a &&& b : Nat) : Int) := by
  subst hx; subst hm; exact u64_and_nat a b ha hb
theorem wrap_sum (a b y : Nat) (h : a + b = y) (hy : y < 18446744073709551616) : IntKind.u64.wrap ((a : Int) + (b : Int)) = (y : Int) := by
  rw [IntKind.wrap_u64]; omega
end Go.BM
namespace Go.BM
open Go.RowKit
open Lib (popAux)
theorem bitLenAux_ge : ∀ (f x k : Nat), 2 ^ k ≤ x → k < f → k < Lib.bitLenAux f x
  | 0, _, _, _, h => absurd h (by omega)
  | f + 1, x, k, h, hk => by
    have hp := Nat.two_pow_pos k
    simp only [Lib.bitLenAux]
    rw [if_neg (by omega)]
    cases k with
    | zero => omega
    | succ k =>
      have := bitLenAux_ge f (x / 2) k (by rw [Nat.pow_succ] at h; omega) (by omega)
      omega
theorem low_one (w x : Nat) (h0 : x ≠ 0) (h : x < 2 ^ w) : ∃ m, x = 2 ^ Lib.ctz w x * (2 * m + 1) ∧ Lib.ctz w x < w := by
  obtain ⟨m, h1, h2⟩ := Lib.ctzFrom_spec w x (by omega) h
  have e : Lib.ctz w x = Lib.ctzFrom w x := by simp [Lib.ctz, h0]
  rw [e]
  exact ⟨m, h1, h2⟩
theorem low_bit (w x : Nat) (h0 : x ≠ 0) (h : x < 2 ^ w) : x / 2 ^ Lib.ctz w x % 2 = 1 := by
  obtain ⟨m, h1, h2⟩ := low_one w x h0 h
  generalize Lib.ctz w x = k at *
  subst h1
  rw [Nat.mul_div_cancel_left _ (Nat.two_pow_pos k)]
  omega
theorem wrap_small (t : Nat) (h : t < 2 ^ 32) : wrap64 (t : Int) = (t : Int) := by
  simp only [wrap64]; omega
theorem wrap_nil : wrap64 ((0 : Nat) : Int) = 0 := by
  simp only [wrap64]; omega
end Go.BM
namespace Go.BM
open Go.RowKit
open Lib (popAux)
theorem div_pow_modW (y : Int) (u q W : Nat) (hu : y % ((2 ^ W : Nat) : Int) = (u : Int)) (hq : q < W) : y / 2 ^ q % 2 = ((u / 2 ^ q % 2 : Nat) : Int) := by
  have e : y = u + ((2 ^ W : Nat) : Int) * (y / ((2 ^ W : Nat) : Int)) := by
    have := Int.emod_add_mul_ediv y ((2 ^ W : Nat) : Int); omega
  have e2 : ((2 ^ W : Nat) : Int) = 2 ^ q * (2 * 2 ^ (W - 1 - q)) := by
    rw [← Int.pow_succ', ← Int.pow_add, show q + (W - 1 - q + 1) = W from by omega]; simp
  have hp : (0 : Int) < 2 ^ q := Int.pow_pos (by decide)
  generalize y / ((2 ^ W : Nat) : Int) = t at e
  rw [e2, Int.mul_assoc] at e
  rw [e, Int.add_mul_ediv_left _ _ (by omega), Int.mul_assoc, Int.add_mul_emod_self_left]
  simp
theorem popAux_snoc (j u : Nat) : popAux (j + 1) u = popAux j u + u / 2 ^ j % 2 := by
  rw [popAux_split j 1 u]; simp [popAux]
theorem below_of_bits (u W : Nat) (hl : u < 2 ^ W) : ∀ j, j ≤ W → (∀ i, i < j → u / 2 ^ (W - 1 - i) % 2 = 0) → u < 2 ^ (W - j)
  | 0, _, _ => by simpa using hl
  | j + 1, hj, h => by
    have ih := below_of_bits u W hl j (by omega) (fun i hi => h i (by omega))
    have hb := h j (by omega)
    rw [show W - j = (W - 1 - j) + 1 from by omega, Nat.pow_succ] at ih
    rw [show W - (j + 1) = W - 1 - j from by omega]
    have hp := Nat.two_pow_pos (W - 1 - j)
    generalize 2 ^ (W - 1 - j) = p at *
    have h1 : u / p < 2 := Nat.div_lt_of_lt_mul ih
    have h2 : u / p = 0 := by generalize u / p = t at h1 hb ⊢; omega
    exact (Nat.div_eq_zero_iff_lt hp).1 h2
theorem clz_of (u W j : Nat) (hW : W ≤ 64) (hl : u < 2 ^ W) (hj : j ≤ W) (h : ∀ i, i < j → u / 2 ^ (W - 1 - i) % 2 = 0) (h' : j = W ∨ u / 2 ^ (W - 1 - j) % 2 = 1) :
    (W : Int) - (Lib.bitLen u : Int) = (j : Int) := by
  have hb := below_of_bits u W hl j hj h
  have h1 := Lib.bitLen_le u (W - j) (by omega) hb
  rcases h' with rfl | h'
  · rw [Nat.sub_self] at h1; omega
  · have h2 : 2 ^ (W - 1 - j) ≤ u := by
      have hp := Nat.two_pow_pos (W - 1 - j)
      generalize 2 ^ (W - 1 - j) = p at *
      have : u / p ≠ 0 := by intro h0; rw [h0] at h'; omega
      exact Nat.le_of_not_lt fun hlt => this (Nat.div_eq_of_lt hlt)
    by_cases hjW : j = W
    · omega
    · have h3 : W - 1 - j < Lib.bitLen u := bitLenAux_ge 64 u _ h2 (by omega)
      omega
theorem ctz_of (u W j : Nat) (hl : u < 2 ^ W) (hj : j ≤ W) (h : ∀ i, i < j → u / 2 ^ i % 2 = 0) (h' : j = W ∨ u / 2 ^ j % 2 = 1) :
    Lib.ctz W u = j := by
  by_cases hz : u = 0
  · rcases h' with rfl | h'
    · simp [Lib.ctz, hz]
    · subst hz; simp at h'
  · obtain ⟨m, h1, h2⟩ := low_one W u hz hl
    have h3 := low_bit W u hz hl
    generalize Lib.ctz W u = k at *
    rcases Nat.lt_trichotomy k j with hk | hk | hk
    · have := h k hk; omega
    · exact hk
    · rcases h' with rfl | h'
      · omega
      · exfalso
        have e : 2 ^ k = 2 ^ j * (2 * 2 ^ (k - j - 1)) := by
          rw [← Nat.pow_succ', ← Nat.pow_add]; congr 1; omega
        rw [h1, e, Nat.mul_assoc, Nat.mul_div_cancel_left _ (Nat.two_pow_pos j), Nat.mul_assoc] at h'
        omega
def rollN (u d W : Nat) : Nat → Nat
  | 0 => 0
  | j + 1 => if u / 2 ^ j % 2 = 1 then rollN u d W j ||| 2 ^ ((j + d) % W) else rollN u d W j
theorem rollN_lt (u d W : Nat) (hW : 0 < W) : ∀ n, rollN u d W n < 2 ^ W
  | 0 => Nat.two_pow_pos W
  | n + 1 => by
    have ih := rollN_lt u d W hW n
    simp only [rollN]
    split
    · exact Nat.or_lt_two_pow ih (Nat.pow_lt_pow_right (by decide) (Nat.mod_lt _ hW))
    · exact ih
theorem testBit_eq (u j : Nat) : u.testBit j = decide (u / 2 ^ j % 2 = 1) := by
  rw [Nat.testBit_eq_decide_div_mod_eq]
theorem src (W d t n : Nat) (hd : d < W) (ht : t < W) (hn : n < W) : (n + d) % W = t ↔ n = (if t < d then t + W - d else t - d) := by
  have hm : (n + d) % W = if n + d < W then n + d else n + d - W := by
    split
    · exact Nat.mod_eq_of_lt (by assumption)
    · rw [Nat.mod_eq_sub_mod (by omega), Nat.mod_eq_of_lt (by omega)]
  rw [hm]
  split <;> split <;> omega
theorem rollN_bit (u d W t : Nat) (hd : d < W) (ht : t < W) : ∀ n, n ≤ W → (rollN u d W n).testBit t = (decide ((if t < d then t + W - d else t - d) < n) && u.testBit (if t < d then t + W - d else t - d))
  | 0, _ => by simp [rollN]
  | n + 1, hn => by
    have ih := rollN_bit u d W t hd ht n (by omega)
    have hs := src W d t n hd ht (by omega)
    generalize (if t < d then t + W - d else t - d) = s at *
    simp only [rollN]
    by_cases hb : u / 2 ^ n % 2 = 1
    · rw [if_pos hb, Nat.testBit_or, ih, Nat.testBit_two_pow]
      by_cases hns : n = s
      · have hx := hs.2 hns
        have hub : u.testBit s = true := by rw [testBit_eq, ← hns]; simpa using hb
        rw [hx, hub]
        simp [hns]
      · have hx : ¬ (n + d) % W = t := fun h => hns (hs.1 h)
        have h2 : decide (s < n + 1) = decide (s < n) := by
          rw [decide_eq_decide]; omega
        simp [hx, h2]
    · rw [if_neg hb, ih]
      by_cases hns : n = s
      · have hub : u.testBit s = false := by rw [testBit_eq, ← hns]; simpa using hb
        simp [hub]
      · have h2 : decide (s < n + 1) = decide (s < n) := by
          rw [decide_eq_decide]; omega
        rw [h2]
theorem rollN_rotl (u d W : Nat) (hd : d < W) (hl : u < 2 ^ W) : rollN u d W W = rotl W u d := by
  apply Nat.eq_of_testBit_eq
  intro t
  by_cases ht : t < W
  · rw [rollN_bit u d W t hd ht W (Nat.le_refl _)]
    unfold rotl
    rw [Nat.mul_comm, Nat.testBit_two_pow_mul_add _ (top_lt W u d (by omega) hl)]
    by_cases htd : t < d
    · rw [if_pos htd, if_pos htd, Nat.testBit_div_two_pow, show t + W - d = t + (W - d) from by omega]
      simp; omega
    · rw [if_neg htd, if_neg htd, Nat.testBit_mod_two_pow]
      have h1 : decide (t - d < W) = true := by simp; omega
      have h2 : decide (t - d < W - d) = true := by simp; omega
      rw [h1, h2]
  · have h1 := rollN_lt u d W (by omega) W
    have h2 := rotl_lt W u d (by omega) hl
    have h3 : 2 ^ W ≤ 2 ^ t := Nat.pow_le_pow_right (by decide) (by omega)
    rw [Nat.testBit_lt_two_pow (by omega), Nat.testBit_lt_two_pow (by omega)]
theorem or_step (a e : Nat) (ha : a < 2 ^ 64) (he : e < 64) : bits .or .i64 (wrap64 (a : Int)) (wrap64 (2 ^ e)) = wrap64 ((a ||| 2 ^ e : Nat) : Int) := by
  have h1 : (wrap64 (a : Int) % 18446744073709551616).toNat = a := by simp only [wrap64]; omega
  have h2 : (wrap64 (2 ^ e) % 18446744073709551616).toNat = 2 ^ e := by
    have h3 : 2 ^ e < 2 ^ 64 := Nat.pow_lt_pow_right (by decide) he
    have h4 : ((2 : Int) ^ e) = ((2 ^ e : Nat) : Int) := by simp
    rw [h4]
    generalize 2 ^ e = p at *
    simp only [wrap64]; omega
  rw [or_i64, h1, h2]
end Go.BM
namespace Go.BM
open Go.RowKit
open Lib (popAux)
def sg (x : Int) : Int := wrap32 (x % 4294967296)
def cmp32 (op x y : Int) : Bool :=
  if op = 70 then x == y else if op = 71 then x != y
  else if op = 72 then decide (sg x < sg y) else if op = 73 then decide (x < y)
  else if op = 74 then decide (sg y < sg x) else if op = 75 then decide (y < x)
  else if op = 76 then decide (sg x ≤ sg y) else if op = 77 then decide (x ≤ y)
  else if op = 78 then decide (sg y ≤ sg x) else decide (y ≤ x)
def flagI (b : Bool) : Int := if b then 1 else 0
def un32 (op a : Int) : Int × Int :=
  if op = 69 then (flagI (a % 4294967296 == 0), 0)
  else if op = 103 then (32 - (Lib.bitLen (a % 4294967296).toNat : Int), 0)
  else if op = 104 then (Lib.ctz 32 (a % 4294967296).toNat, 0)
  else if op = 105 then (popAux 32 (a % 4294967296).toNat, 0)
  else (0, 200)
def bin32 (op a b : Int) : Int × Int :=
  if 70 ≤ op ∧ op ≤ 79 then (flagI (cmp32 op (a % 4294967296) (b % 4294967296)), 0)
  else if op = 106 then ((a % 4294967296 + b % 4294967296) % 4294967296, 0)
  else if op = 107 then ((a % 4294967296 - b % 4294967296) % 4294967296, 0)
  else if op = 108 then (a % 4294967296 * (b % 4294967296) % 4294967296, 0)
  else if op = 109 then if b % 4294967296 = 0 then (0, 201) else if sg a = -2147483648 ∧ sg b = -1 then (0, 202) else ((sg a).tdiv (sg b) % 4294967296, 0)
  else if op = 110 then if b % 4294967296 = 0 then (0, 201) else (a % 4294967296 / (b % 4294967296), 0)
  else if op = 111 then if b % 4294967296 = 0 then (0, 201) else ((sg a).tmod (sg b) % 4294967296, 0)
  else if op = 112 then if b % 4294967296 = 0 then (0, 201) else (a % 4294967296 % (b % 4294967296), 0)
  else if op = 113 then (((a % 4294967296).toNat &&& (b % 4294967296).toNat : Nat), 0)
  else if op = 114 then (((a % 4294967296).toNat ||| (b % 4294967296).toNat : Nat), 0)
  else if op = 115 then (((a % 4294967296).toNat ^^^ (b % 4294967296).toNat : Nat), 0)
  else if op = 116 then (a % 4294967296 * 2 ^ (b % 32).toNat % 4294967296, 0)
  else if op = 117 then (sg a / 2 ^ (b % 32).toNat % 4294967296, 0)
  else if op = 118 then (a % 4294967296 / 2 ^ (b % 32).toNat, 0)
  else if op = 119 then (rotl 32 (a % 4294967296).toNat (b % 32).toNat, 0)
  else if op = 120 then (rotl 32 (a % 4294967296).toNat ((-b) % 32).toNat, 0)
  else (0, 200)
theorem sg_low (x : Int) : sg (x % 4294967296) = sg x := by unfold sg; rw [Int.emod_emod_of_dvd _ (Int.dvd_refl _)]
theorem sg_cases (x : Int) : (sg x = x % 4294967296 ∧ x % 4294967296 < 2147483648) ∨ (sg x = x % 4294967296 - 4294967296 ∧ 2147483648 ≤ x % 4294967296) := by
  unfold sg; simp only [wrap32]; omega
theorem sg_bounds (x : Int) : -2147483648 ≤ sg x ∧ sg x ≤ 2147483647 := by
  have := sg_cases x; omega
theorem sg_zero (x : Int) : sg x = 0 ↔ x % 4294967296 = 0 := by
  have := sg_cases x; omega
theorem sg_eq (x y : Int) : sg x = sg y ↔ x % 4294967296 = y % 4294967296 := by
  have := sg_cases x; have := sg_cases y; omega
theorem and_low (x y : Int) (hx : 0 ≤ x) (hx' : x < 4294967296) (hy : 0 ≤ y) (hy' : y < 4294967296) : bits .and .i64 x y = ((x.toNat &&& y.toNat : Nat) : Int) := by
  rw [and_i64, show x % 18446744073709551616 = x from by omega, show y % 18446744073709551616 = y from by omega]
  exact wrap_small _ (Nat.and_lt_two_pow _ (by omega))
theorem or_low (x y : Int) (hx : 0 ≤ x) (hx' : x < 4294967296) (hy : 0 ≤ y) (hy' : y < 4294967296) : bits .or .i64 x y = ((x.toNat ||| y.toNat : Nat) : Int) := by
  rw [or_i64, show x % 18446744073709551616 = x from by omega, show y % 18446744073709551616 = y from by omega]
  exact wrap_small _ (Nat.or_lt_two_pow (by omega) (by omega))
theorem xor_low (x y : Int) (hx : 0 ≤ x) (hx' : x < 4294967296) (hy : 0 ≤ y) (hy' : y < 4294967296) : bits .xor .i64 x y = ((x.toNat ^^^ y.toNat : Nat) : Int) := by
  rw [xor_i64, show x % 18446744073709551616 = x from by omega, show y % 18446744073709551616 = y from by omega]
  exact wrap_small _ (Nat.xor_lt_two_pow (by omega) (by omega))
theorem wrap_mod32 (z : Int) : wrap64 z % 4294967296 = z % 4294967296 := by simp only [wrap64]; omega
theorem b_cmp (op a b : Int) (h : 70 ≤ op ∧ op ≤ 79) : bin32 op a b = (flagI (cmp32 op (a % 4294967296) (b % 4294967296)), 0) := by unfold bin32; rw [if_pos h]
theorem b_add (a b : Int) : bin32 106 a b = ((a + b) % 4294967296, 0) := by
  show ((a % 4294967296 + b % 4294967296) % 4294967296, (0 : Int)) = _
  rw [← Int.add_emod]
theorem b_sub (a b : Int) : bin32 107 a b = ((a - b) % 4294967296, 0) := by
  show ((a % 4294967296 - b % 4294967296) % 4294967296, (0 : Int)) = _
  rw [← Int.sub_emod]
theorem b_div0 (a b : Int) (h : b % 4294967296 = 0) : bin32 109 a b = (0, 201) ∧ bin32 110 a b = (0, 201) ∧ bin32 111 a b = (0, 201) ∧ bin32 112 a b = (0, 201) := by
  refine ⟨?_, ?_, ?_, ?_⟩
  · show (if b % 4294967296 = 0 then ((0 : Int), (201 : Int)) else _) = _; rw [if_pos h]
  · show (if b % 4294967296 = 0 then ((0 : Int), (201 : Int)) else _) = _; rw [if_pos h]
  · show (if b % 4294967296 = 0 then ((0 : Int), (201 : Int)) else _) = _; rw [if_pos h]
  · show (if b % 4294967296 = 0 then ((0 : Int), (201 : Int)) else _) = _; rw [if_pos h]
theorem b_over (a b : Int) (h : b % 4294967296 ≠ 0) (h' : sg a = -2147483648 ∧ sg b = -1) : bin32 109 a b = (0, 202) := by
  show (if b % 4294967296 = 0 then ((0 : Int), (201 : Int)) else _) = _; rw [if_neg h, if_pos h']
theorem b_divs (a b : Int) (h : b % 4294967296 ≠ 0) (h' : ¬ (sg a = -2147483648 ∧ sg b = -1)) : bin32 109 a b = ((sg a).tdiv (sg b) % 4294967296, 0) := by
  show (if b % 4294967296 = 0 then ((0 : Int), (201 : Int)) else _) = _; rw [if_neg h, if_neg h']
theorem b_divu (a b : Int) (h : b % 4294967296 ≠ 0) : bin32 110 a b = (a % 4294967296 / (b % 4294967296), 0) := by
  show (if b % 4294967296 = 0 then ((0 : Int), (201 : Int)) else _) = _; rw [if_neg h]
theorem b_rems (a b : Int) (h : b % 4294967296 ≠ 0) : bin32 111 a b = ((sg a).tmod (sg b) % 4294967296, 0) := by
  show (if b % 4294967296 = 0 then ((0 : Int), (201 : Int)) else _) = _; rw [if_neg h]
theorem b_remu (a b : Int) (h : b % 4294967296 ≠ 0) : bin32 112 a b = (a % 4294967296 % (b % 4294967296), 0) := by
  show (if b % 4294967296 = 0 then ((0 : Int), (201 : Int)) else _) = _; rw [if_neg h]
theorem b_bad (op a b : Int) (h : op < 70 ∨ (79 < op ∧ op < 106) ∨ 120 < op) : bin32 op a b = (0, 200) := by
  unfold bin32
  repeat rw [if_neg (by omega)]
theorem u_bad (op a : Int) (h1 : ¬ op = 69) (h2 : ¬ op = 103) (h3 : ¬ op = 104) (h4 : ¬ op = 105) : un32 op a = (0, 200) := by
  unfold un32
  rw [if_neg h1, if_neg h2, if_neg h3, if_neg h4]
end Go.BM
namespace Go.BM
open Go.RowKit
open Lib (popAux)
end Go.BM
namespace Go.BM
open Go.RowKit
open Lib (popAux)
def uu (x : Int) : Int := IntKind.u64.wrap x
theorem uu_is (x : Int) : uu x = x % 18446744073709551616 := by unfold uu; rw [IntKind.wrap_u64]
def cmp64 (op x y : Int) : Bool :=
  if op = 81 then x == y else if op = 82 then x != y
  else if op = 83 then decide (x < y) else if op = 84 then decide (uu x < uu y)
  else if op = 85 then decide (y < x) else if op = 86 then decide (uu y < uu x)
  else if op = 87 then decide (x ≤ y) else if op = 88 then decide (uu x ≤ uu y)
  else if op = 89 then decide (y ≤ x) else decide (uu y ≤ uu x)
def un64 (op a : Int) : Int × Int :=
  if op = 80 then (flagI (a == 0), 0)
  else if op = 121 then (64 - (Lib.bitLen (uu a).toNat : Int), 0)
  else if op = 122 then (Lib.ctz 64 (uu a).toNat, 0)
  else if op = 123 then (popAux 64 (uu a).toNat, 0)
  else (0, 300)
def bin64 (op a b : Int) : Int × Int :=
  if 81 ≤ op ∧ op ≤ 90 then (flagI (cmp64 op a b), 0)
  else if op = 124 then (wrap64 (a + b), 0)
  else if op = 125 then (wrap64 (a - b), 0)
  else if op = 126 then (wrap64 (a * b), 0)
  else if op = 127 then if b = 0 then (0, 301) else if a = -9223372036854775808 ∧ b = -1 then (0, 302) else (wrap64 (a.tdiv b), 0)
  else if op = 128 then if b = 0 then (0, 301) else (wrap64 (uu a / uu b), 0)
  else if op = 129 then if b = 0 then (0, 301) else (a.tmod b, 0)
  else if op = 130 then if b = 0 then (0, 301) else (wrap64 (uu a % uu b), 0)
  else if op = 131 then (bits .and .i64 a b, 0)
  else if op = 132 then (bits .or .i64 a b, 0)
  else if op = 133 then (bits .xor .i64 a b, 0)
  else if op = 134 then (wrap64 (a * 2 ^ (b % 64).toNat), 0)
  else if op = 135 then (a / 2 ^ (b % 64).toNat, 0)
  else if op = 136 then (wrap64 (uu a / 2 ^ (b % 64).toNat), 0)
  else if op = 137 then (wrap64 (rotl 64 (uu a).toNat (b % 64).toNat : Nat), 0)
  else if op = 138 then (wrap64 (rotl 64 (uu a).toNat ((-b) % 64).toNat : Nat), 0)
  else (0, 300)
theorem wrap_congr (y z : Int) (h : y % 18446744073709551616 = z % 18446744073709551616) : wrap64 y = wrap64 z := by simp only [wrap64]; omega
theorem uu_in (x : Int) : 0 ≤ uu x ∧ uu x < 18446744073709551616 := by rw [uu_is]; omega
theorem c_cmp (op a b : Int) (h : 81 ≤ op ∧ op ≤ 90) : bin64 op a b = (flagI (cmp64 op a b), 0) := by unfold bin64; rw [if_pos h]
theorem c_add (a b : Int) : bin64 124 a b = (wrap64 (a + b), 0) := rfl
theorem c_sub (a b : Int) : bin64 125 a b = (wrap64 (a - b), 0) := rfl
theorem c_mul (a b : Int) : bin64 126 a b = (wrap64 (a * b), 0) := rfl
theorem c_and (a b : Int) : bin64 131 a b = (bits .and .i64 a b, 0) := rfl
theorem c_or (a b : Int) : bin64 132 a b = (bits .or .i64 a b, 0) := rfl
theorem c_xor (a b : Int) : bin64 133 a b = (bits .xor .i64 a b, 0) := rfl
theorem c_shl (a b : Int) : bin64 134 a b = (wrap64 (a * 2 ^ (b % 64).toNat), 0) := rfl
theorem c_sar (a b : Int) : bin64 135 a b = (a / 2 ^ (b % 64).toNat, 0) := rfl
theorem c_shr (a b : Int) : bin64 136 a b = (wrap64 (uu a / 2 ^ (b % 64).toNat), 0) := rfl
theorem c_rotl (a b : Int) : bin64 137 a b = (wrap64 (rotl 64 (uu a).toNat (b % 64).toNat : Nat), 0) := rfl
theorem c_rotr (a b : Int) : bin64 138 a b = (wrap64 (rotl 64 (uu a).toNat ((-b) % 64).toNat : Nat), 0) := rfl
theorem c_div0 (a b : Int) (h : b = 0) : bin64 127 a b = (0, 301) ∧ bin64 128 a b = (0, 301) ∧ bin64 129 a b = (0, 301) ∧ bin64 130 a b = (0, 301) := by
  refine ⟨?_, ?_, ?_, ?_⟩
  · show (if b = 0 then ((0 : Int), (301 : Int)) else _) = _; rw [if_pos h]
  · show (if b = 0 then ((0 : Int), (301 : Int)) else _) = _; rw [if_pos h]
  · show (if b = 0 then ((0 : Int), (301 : Int)) else _) = _; rw [if_pos h]
  · show (if b = 0 then ((0 : Int), (301 : Int)) else _) = _; rw [if_pos h]
theorem c_over (a b : Int) (h : b ≠ 0) (h' : a = -9223372036854775808 ∧ b = -1) : bin64 127 a b = (0, 302) := by
  show (if b = 0 then ((0 : Int), (301 : Int)) else _) = _; rw [if_neg h, if_pos h']
theorem c_divs (a b : Int) (h : b ≠ 0) (h' : ¬ (a = -9223372036854775808 ∧ b = -1)) : bin64 127 a b = (wrap64 (a.tdiv b), 0) := by
  show (if b = 0 then ((0 : Int), (301 : Int)) else _) = _; rw [if_neg h, if_neg h']
theorem c_divu (a b : Int) (h : b ≠ 0) : bin64 128 a b = (wrap64 (uu a / uu b), 0) := by
  show (if b = 0 then ((0 : Int), (301 : Int)) else _) = _; rw [if_neg h]
theorem c_rems (a b : Int) (h : b ≠ 0) : bin64 129 a b = (a.tmod b, 0) := by
  show (if b = 0 then ((0 : Int), (301 : Int)) else _) = _; rw [if_neg h]
theorem c_remu (a b : Int) (h : b ≠ 0) : bin64 130 a b = (wrap64 (uu a % uu b), 0) := by
  show (if b = 0 then ((0 : Int), (301 : Int)) else _) = _; rw [if_neg h]
theorem c_bad (op a b : Int) (h : op < 81 ∨ (90 < op ∧ op < 124) ∨ 138 < op) : bin64 op a b = (0, 300) := by
  unfold bin64
  repeat rw [if_neg (by omega)]
theorem v_bad (op a : Int) (h1 : ¬ op = 80) (h2 : ¬ op = 121) (h3 : ¬ op = 122) (h4 : ¬ op = 123) : un64 op a = (0, 300) := by
  unfold un64
  rw [if_neg h1, if_neg h2, if_neg h3, if_neg h4]
theorem uu_inj (x y : Int) (hx : -9223372036854775808 ≤ x ∧ x ≤ 9223372036854775807) (hy : -9223372036854775808 ≤ y ∧ y ≤ 9223372036854775807) (h : uu x = uu y) : x = y := by rw [uu_is, uu_is] at h; omega
theorem tmod_one (a : Int) : a.tmod (-1) = 0 := by rw [Int.tmod_neg, Int.tmod_one]
end Go.BM
