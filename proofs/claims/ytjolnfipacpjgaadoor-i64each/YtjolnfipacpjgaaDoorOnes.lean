/- Plain mathematics: the library's ways to count ones (a table of bytes; sums in parallel) come to the number of ones. -/
import Derived.Test.YtjolnfipacpjgaaDoorMath
namespace Go.BM
open Go.RowKit
open Lib (popAux)

theorem pop8_pop : ∀ n : Fin 256, Lib.pop8 (n.val : Int) = (popAux 8 n.val : Int) := by decide +kernel
theorem pop8_int (b : Int) (h0 : 0 ≤ b) (h1 : b ≤ 255) : Lib.pop8 b = (popAux 8 b.toNat : Int) := by
  have e := pop8_pop ⟨b.toNat, by omega⟩
  simpa only [Int.toNat_of_nonneg h0] using e
theorem popAux_byte (m x : Nat) : popAux (8 + m) x = popAux 8 (x % 256) + popAux m (x / 256) := by
  rw [popAux_split]; congr 1; exact (popAux_mod 8 x).symm
theorem ones32 (x : Int) (h0 : 0 ≤ x) (h1 : x ≤ 4294967295) :
    (Lib.pop8 (x / 16777216) + Lib.pop8 (x / 65536 % 256) + Lib.pop8 (x / 256 % 256) + Lib.pop8 (x % 256)) % 256 = (popAux 32 x.toNat : Int) := by
  rw [pop8_int _ (by omega) (by omega), pop8_int _ (by omega) (by omega), pop8_int _ (by omega) (by omega), pop8_int _ (by omega) (by omega)]
  have e : popAux 32 x.toNat = popAux 8 (x.toNat % 256) + (popAux 8 (x.toNat / 256 % 256) + (popAux 8 (x.toNat / 256 / 256 % 256) + popAux 8 (x.toNat / 256 / 256 / 256))) := by
    rw [popAux_byte 24, popAux_byte 16, popAux_byte 8]
  have a1 : (x / 16777216).toNat = x.toNat / 256 / 256 / 256 := by omega
  have a2 : (x / 65536 % 256).toNat = x.toNat / 256 / 256 % 256 := by omega
  have a3 : (x / 256 % 256).toNat = x.toNat / 256 % 256 := by omega
  have a4 : (x % 256).toNat = x.toNat % 256 := by omega
  rw [a1, a2, a3, a4, e]
  have l1 := popAux_le 8 (x.toNat / 256 / 256 / 256)
  have l2 := popAux_le 8 (x.toNat / 256 / 256 % 256)
  have l3 := popAux_le 8 (x.toNat / 256 % 256)
  have l4 := popAux_le 8 (x.toNat % 256)
  omega

/-- n bytes of x, each by f. -/
def bsum : Nat → (Nat → Nat) → Nat → Nat
  | 0, _, _ => 0
  | n + 1, f, x => bsum n f (x / 256) * 256 + f (x % 256)
/-- a mask of n bytes m -/
def rep : Nat → Nat → Nat
  | 0, _ => 0
  | n + 1, m => rep n m * 256 + m

theorem and_byte (x y : Nat) : x &&& y = (x / 256 &&& y / 256) * 256 + (x % 256 &&& y % 256) := by
  have h1 : (x &&& y) / 2 ^ 8 = x / 2 ^ 8 &&& y / 2 ^ 8 := Nat.and_div_two_pow
  have h2 : (x &&& y) % 2 ^ 8 = (x % 2 ^ 8) &&& (y % 2 ^ 8) := Nat.and_mod_two_pow
  have := Nat.div_add_mod' (x &&& y) (2 ^ 8)
  rw [h1, h2] at this
  exact this.symm
theorem and_rep : ∀ (n m x : Nat), m < 256 → x &&& rep n m = bsum n (fun b => b &&& m) x
  | 0, m, x, _ => by simp [rep, bsum]
  | n + 1, m, x, hm => by
    rw [and_byte]
    have e1 : rep (n + 1) m / 256 = rep n m := by simp only [rep]; omega
    have e2 : rep (n + 1) m % 256 = m := by simp only [rep]; omega
    rw [e1, e2, and_rep n m (x / 256) hm]
    rfl
theorem bsum_add : ∀ (n : Nat) (f g : Nat → Nat) (x : Nat), bsum n f x + bsum n g x = bsum n (fun b => f b + g b) x
  | 0, _, _, _ => rfl
  | n + 1, f, g, x => by
    have := bsum_add n f g (x / 256)
    simp only [bsum]
    rw [← this]
    omega
theorem bsum_congr : ∀ (n : Nat) (f g : Nat → Nat) (x : Nat), (∀ b, b < 256 → f b = g b) → bsum n f x = bsum n g x
  | 0, _, _, _, _ => rfl
  | n + 1, f, g, x, h => by
    simp only [bsum]
    rw [bsum_congr n f g (x / 256) h, h _ (Nat.mod_lt _ (by decide))]
theorem bsum_comp : ∀ (n : Nat) (f g : Nat → Nat) (x : Nat), (∀ b, b < 256 → g b < 256) → bsum n f (bsum n g x) = bsum n (fun b => f (g b)) x
  | 0, _, _, _, _ => rfl
  | n + 1, f, g, x, h => by
    have hb := h (x % 256) (Nat.mod_lt _ (by decide))
    have e1 : bsum (n + 1) g x / 256 = bsum n g (x / 256) := by simp only [bsum]; omega
    have e2 : bsum (n + 1) g x % 256 = g (x % 256) := by simp only [bsum]; omega
    show bsum n f (bsum (n + 1) g x / 256) * 256 + f (bsum (n + 1) g x % 256) = _
    rw [e1, e2, bsum_comp n f g (x / 256) h]
    rfl
theorem bsum_lt : ∀ (n : Nat) (f : Nat → Nat) (x : Nat), (∀ b, b < 256 → f b < 256) → bsum n f x < 256 ^ n
  | 0, _, _, _ => by simp [bsum]
  | n + 1, f, x, h => by
    have h1 := bsum_lt n f (x / 256) h
    have h2 := h (x % 256) (Nat.mod_lt _ (by decide))
    simp only [bsum]
    rw [Nat.pow_succ]
    omega
theorem shift1 : ∀ (b : Fin 256) (d : Fin 2), ((b.val / 2 + 128 * d.val) &&& 85) = (b.val / 2 &&& 85) := by decide +kernel
theorem shift2 : ∀ (b : Fin 256) (d : Fin 4), ((b.val / 4 + 64 * d.val) &&& 51) = (b.val / 4 &&& 51) := by decide +kernel
theorem half_bytes : ∀ (n x : Nat), bsum n (fun b => b &&& 85) (x / 2) = bsum n (fun b => b / 2 &&& 85) x
  | 0, _ => rfl
  | n + 1, x => by
    simp only [bsum]
    have e1 : x / 2 / 256 = x / 256 / 2 := by omega
    have e2 : x / 2 % 256 = x % 256 / 2 + 128 * (x / 256 % 2) := by omega
    have e3 := shift1 ⟨x % 256, Nat.mod_lt _ (by decide)⟩ ⟨x / 256 % 2, Nat.mod_lt _ (by decide)⟩
    simp only at e3
    rw [e1, e2, e3, half_bytes n (x / 256)]
theorem quarter_bytes : ∀ (n x : Nat), bsum n (fun b => b &&& 51) (x / 4) = bsum n (fun b => b / 4 &&& 51) x
  | 0, _ => rfl
  | n + 1, x => by
    simp only [bsum]
    have e1 : x / 4 / 256 = x / 256 / 4 := by omega
    have e2 : x / 4 % 256 = x % 256 / 4 + 64 * (x / 256 % 4) := by omega
    have e3 := shift2 ⟨x % 256, Nat.mod_lt _ (by decide)⟩ ⟨x / 256 % 4, Nat.mod_lt _ (by decide)⟩
    simp only at e3
    rw [e1, e2, e3, quarter_bytes n (x / 256)]
theorem bsum_mod16 (n : Nat) (g : Nat → Nat) (x : Nat) (h : ∀ b, b < 256 → g b % 16 ≤ 4) : bsum n g x % 16 ≤ 4 := by
  cases n with
  | zero => simp [bsum]
  | succ n =>
    have := h (x % 256) (Nat.mod_lt _ (by decide))
    simp only [bsum]
    omega
theorem nibbles : ∀ (n : Nat) (g : Nat → Nat) (x : Nat), (∀ b, b < 256 → g b ≤ 68) → (∀ b, b < 256 → g b % 16 ≤ 4) →
    (bsum n g x / 16 + bsum n g x) &&& rep n 15 = bsum n (fun b => g b / 16 + g b % 16) x
  | 0, _, _, _, _ => by simp [bsum, rep]
  | n + 1, g, x, h1, h2 => by
    have ih := nibbles n g (x / 256) h1 h2
    have c1 := h1 (x % 256) (Nat.mod_lt _ (by decide))
    have c2 := h2 (x % 256) (Nat.mod_lt _ (by decide))
    have c3 := bsum_mod16 n g (x / 256) h2
    rw [and_byte]
    simp only [bsum, rep]
    generalize hq : bsum n g (x / 256) = q at *
    generalize g (x % 256) = c at *
    have e1 : ((q * 256 + c) / 16 + (q * 256 + c)) / 256 = q / 16 + q := by omega
    have e2 : ((q * 256 + c) / 16 + (q * 256 + c)) % 256 = c / 16 + 16 * (q % 16) + c := by omega
    have e3 : (rep n 15 * 256 + 15) / 256 = rep n 15 := by omega
    have e4 : (rep n 15 * 256 + 15) % 256 = 15 := by omega
    rw [e1, e2, e3, e4, ih, nat_mask4]
    omega

def s1 (b : Nat) : Nat := (b / 2 &&& 85) + (b &&& 85)
def s2 (b : Nat) : Nat := (b / 4 &&& 51) + (b &&& 51)
theorem s1_lt : ∀ b : Fin 256, s1 b.val < 256 := by decide +kernel
theorem s12 : ∀ b : Fin 256, s2 (s1 b.val) ≤ 68 ∧ s2 (s1 b.val) % 16 ≤ 4 ∧ s2 (s1 b.val) / 16 + s2 (s1 b.val) % 16 = popAux 8 b.val := by decide +kernel

theorem sum8 (x p0 p1 p2 p3 p4 p5 p6 p7 : Nat) (h0 : p0 ≤ 8) (h1 : p1 ≤ 8) (h2 : p2 ≤ 8) (h3 : p3 ≤ 8) (h4 : p4 ≤ 8) (h5 : p5 ≤ 8) (h6 : p6 ≤ 8) (h7 : p7 ≤ 8)
    (hx : x = p0 + 256 * p1 + 65536 * p2 + 16777216 * p3 + 4294967296 * p4 + 1099511627776 * p5 + 281474976710656 * p6 + 72057594037927936 * p7) (y z t : Nat)
    (hy : y = x + x / 256) (hz : z = y + y / 65536) (ht : t = z + z / 4294967296) :
    t % 128 = p0 + p1 + p2 + p3 + p4 + p5 + p6 + p7 ∧ y < 18446744073709551616 ∧ z < 18446744073709551616 ∧ t < 18446744073709551616 := by
  have ey : y = (p0 + p1) + 256 * (p1 + p2) + 65536 * (p2 + p3) + 16777216 * (p3 + p4) + 4294967296 * (p4 + p5) + 1099511627776 * (p5 + p6) + 281474976710656 * (p6 + p7) + 72057594037927936 * p7 := by
    subst hx; omega
  have ez : z = (p0 + p1 + p2 + p3) + 256 * (p1 + p2 + p3 + p4) + 65536 * (p2 + p3 + p4 + p5) + 16777216 * (p3 + p4 + p5 + p6) + 4294967296 * (p4 + p5 + p6 + p7) + 1099511627776 * (p5 + p6 + p7) + 281474976710656 * (p6 + p7) + 72057594037927936 * p7 := by
    clear hx hy; subst ey; omega
  have ed : z / 4294967296 = (p4 + p5 + p6 + p7) + 256 * (p5 + p6 + p7) + 65536 * (p6 + p7) + 16777216 * p7 := by
    have e : z = ((p0 + p1 + p2 + p3) + 256 * (p1 + p2 + p3 + p4) + 65536 * (p2 + p3 + p4 + p5) + 16777216 * (p3 + p4 + p5 + p6)) + 4294967296 * ((p4 + p5 + p6 + p7) + 256 * (p5 + p6 + p7) + 65536 * (p6 + p7) + 16777216 * p7) := by
      rw [ez]; clear hx hy hz ht ey ez; omega
    rw [e, Nat.add_mul_div_left _ _ (by decide), Nat.div_eq_of_lt (by clear hx hy hz ht ey ez e; omega), Nat.zero_add]
  have et : t = (p0 + p1 + p2 + p3 + p4 + p5 + p6 + p7) + 128 * (2 * ((p1 + p2 + p3 + p4) + (p5 + p6 + p7)) + 512 * ((p2 + p3 + p4 + p5) + (p6 + p7)) + 131072 * ((p3 + p4 + p5 + p6) + p7) + 33554432 * (p4 + p5 + p6 + p7) + 8589934592 * (p5 + p6 + p7) + 2199023255552 * (p6 + p7) + 562949953421312 * p7) := by
    rw [ht, ed, ez]; clear hx hy hz ht ey ed ez; omega
  refine ⟨?_, ?_, ?_, ?_⟩
  · rw [et, Nat.add_mul_mod_self_left]
    exact Nat.mod_eq_of_lt (by clear hx hy hz ht ey ez ed et; omega)
  · rw [ey]; clear hx hy hz ht ey ez ed et; omega
  · rw [ez]; clear hx hy hz ht ey ez ed et; omega
  · rw [et]; clear hx hy hz ht ey ez ed et; omega

theorem ones64_nat (x : Nat) (hx : x < 18446744073709551616) :
    ∃ y1 y2 y3 y4 y5 y6 : Nat, (x / 2 &&& 6148914691236517205) + (x &&& 6148914691236517205) = y1 ∧ (y1 / 4 &&& 3689348814741910323) + (y1 &&& 3689348814741910323) = y2 ∧
      ((y2 / 16 + y2) &&& 1085102592571150095) = y3 ∧ y3 + y3 / 256 = y4 ∧ y4 + y4 / 65536 = y5 ∧ y5 + y5 / 4294967296 = y6 ∧ y6 % 128 = popAux 64 x ∧
      y1 < 18446744073709551616 ∧ y2 < 1152921504606846976 * 5 ∧ y3 < 18446744073709551616 ∧ y4 < 18446744073709551616 ∧ y5 < 18446744073709551616 ∧ y6 < 18446744073709551616 := by
  have r1 : (6148914691236517205 : Nat) = rep 8 85 := by decide
  have r2 : (3689348814741910323 : Nat) = rep 8 51 := by decide
  have r3 : (1085102592571150095 : Nat) = rep 8 15 := by decide
  have k1 : ∀ b, b < 256 → s1 b < 256 := fun b hb => s1_lt ⟨b, hb⟩
  have k2 : ∀ b, b < 256 → s2 (s1 b) ≤ 68 := fun b hb => (s12 ⟨b, hb⟩).1
  have k3 : ∀ b, b < 256 → s2 (s1 b) % 16 ≤ 4 := fun b hb => (s12 ⟨b, hb⟩).2.1
  have k4 : ∀ b, b < 256 → s2 (s1 b) / 16 + s2 (s1 b) % 16 = popAux 8 b := fun b hb => (s12 ⟨b, hb⟩).2.2
  have e1 : (x / 2 &&& 6148914691236517205) + (x &&& 6148914691236517205) = bsum 8 s1 x := by
    rw [r1, and_rep 8 85 _ (by decide), and_rep 8 85 _ (by decide), half_bytes, bsum_add]; rfl
  have e2 : (bsum 8 s1 x / 4 &&& 3689348814741910323) + (bsum 8 s1 x &&& 3689348814741910323) = bsum 8 (fun b => s2 (s1 b)) x := by
    rw [r2, and_rep 8 51 _ (by decide), and_rep 8 51 _ (by decide), quarter_bytes, bsum_add, ← bsum_comp 8 s2 s1 x k1]; rfl
  have e3 : ((bsum 8 (fun b => s2 (s1 b)) x / 16 + bsum 8 (fun b => s2 (s1 b)) x) &&& 1085102592571150095) = bsum 8 (popAux 8) x := by
    rw [r3, nibbles 8 _ x k2 k3]; exact bsum_congr 8 _ _ x k4
  have b1 : bsum 8 s1 x < 256 ^ 8 := bsum_lt 8 _ x k1
  have b2 : bsum 8 (fun b => s2 (s1 b)) x < 1152921504606846976 * 5 := by
    have t1 := k2 (x / 256 / 256 / 256 / 256 / 256 / 256 / 256 % 256) (Nat.mod_lt _ (by decide))
    have t2 := bsum_lt 7 (fun b => s2 (s1 b)) x (fun b hb => by have := k2 b hb; omega)
    have t3 : ∀ (n : Nat) (f : Nat → Nat) (x : Nat), (∀ b, b < 256 → f b ≤ 68) → bsum n f x ≤ 68 * rep n 1 := by
      intro n
      induction n with
      | zero => intro f x _; simp [bsum, rep]
      | succ n ih =>
        intro f x h
        have a := ih f (x / 256) h
        have b := h (x % 256) (Nat.mod_lt _ (by decide))
        simp only [bsum, rep]
        omega
    have t4 := t3 8 _ x k2
    have t5 : 68 * rep 8 1 < 1152921504606846976 * 5 := by decide
    omega
  have b3 : bsum 8 (popAux 8) x < 256 ^ 8 := bsum_lt 8 _ x (fun b _ => by have := popAux_le 8 b; omega)
  have ep : popAux 64 x = popAux 8 (x % 256) + popAux 8 (x / 256 % 256) + popAux 8 (x / 256 / 256 % 256) + popAux 8 (x / 256 / 256 / 256 % 256) + popAux 8 (x / 256 / 256 / 256 / 256 % 256) + popAux 8 (x / 256 / 256 / 256 / 256 / 256 % 256) + popAux 8 (x / 256 / 256 / 256 / 256 / 256 / 256 % 256) + popAux 8 (x / 256 / 256 / 256 / 256 / 256 / 256 / 256 % 256) := by
    rw [popAux_byte 56, popAux_byte 48, popAux_byte 40, popAux_byte 32, popAux_byte 24, popAux_byte 16, popAux_byte 8]
    rw [Nat.mod_eq_of_lt (show x / 256 / 256 / 256 / 256 / 256 / 256 / 256 < 256 by omega)]
    omega
  have es := sum8 (bsum 8 (popAux 8) x) _ _ _ _ _ _ _ _ (popAux_le 8 (x % 256)) (popAux_le 8 (x / 256 % 256)) (popAux_le 8 (x / 256 / 256 % 256)) (popAux_le 8 (x / 256 / 256 / 256 % 256)) (popAux_le 8 (x / 256 / 256 / 256 / 256 % 256)) (popAux_le 8 (x / 256 / 256 / 256 / 256 / 256 % 256)) (popAux_le 8 (x / 256 / 256 / 256 / 256 / 256 / 256 % 256)) (popAux_le 8 (x / 256 / 256 / 256 / 256 / 256 / 256 / 256 % 256))
    (by simp only [bsum]; omega) _ _ _ rfl rfl rfl
  refine ⟨_, _, _, _, _, _, e1, e2, e3, rfl, rfl, rfl, ?_, ?_, ?_, ?_, es.2.1, es.2.2.1, es.2.2.2⟩
  · rw [es.1, ep]
  · exact b1
  · exact b2
  · exact b3

theorem andlit (x m : Int) (a b : Nat) (hx : x = (a : Int)) (hm : m = (b : Int)) (ha : a < 18446744073709551616) (hb : b < 18446744073709551616) :
    bits .and .u64 x m = ((a &&& b : Nat) : Int) := by
  subst hx; subst hm; exact u64_and_nat a b ha hb
theorem wrap_sum (a b y : Nat) (h : a + b = y) (hy : y < 18446744073709551616) : IntKind.u64.wrap ((a : Int) + (b : Int)) = (y : Int) := by
  rw [IntKind.wrap_u64]; omega
theorem div_cast (a b : Nat) : ((a : Int) / (b : Int)) = ((a / b : Nat) : Int) := by simp
theorem wrap_sum' (x : Int) (a b y : Nat) (hx : x = (a : Int)) (h : b + a = y) (hy : y < 18446744073709551616) : IntKind.u64.wrap ((b : Int) + x) = (y : Int) := by
  subst hx; exact wrap_sum b a y h hy
end Go.BM
