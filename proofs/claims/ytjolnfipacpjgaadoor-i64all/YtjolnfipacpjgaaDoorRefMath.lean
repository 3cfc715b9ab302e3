/- Plain mathematics: the document's loops over bits come to the same counts and the same rolled number. -/
import Derived.Test.YtjolnfipacpjgaaDoorLow
namespace Go.BM
open Go.RowKit
open Lib (popAux)

theorem div_pow_modW (y : Int) (u q W : Nat) (hu : y % ((2 ^ W : Nat) : Int) = (u : Int)) (hq : q < W) : y / 2 ^ q % 2 = ((u / 2 ^ q % 2 : Nat) : Int) := by
  have e : y = u + ((2 ^ W : Nat) : Int) * (y / ((2 ^ W : Nat) : Int)) := by
    have := Int.emod_add_mul_ediv y ((2 ^ W : Nat) : Int); omega
  have e2 : ((2 ^ W : Nat) : Int) = 2 ^ q * (2 * 2 ^ (W - 1 - q)) := by
    rw [← Int.pow_succ', ← Int.pow_add, show q + (W - 1 - q + 1) = W from by omega]; simp
  have hp : (0 : Int) < 2 ^ q := Int.pow_pos (by decide)
  generalize y / ((2 ^ W : Nat) : Int) = t at e
  rw [e2, Int.mul_assoc] at e
  rw [e, Int.add_mul_ediv_left _ _ (by omega), Int.mul_assoc, Int.add_mul_emod_self_left]
  simp
theorem popAux_snoc (j u : Nat) : popAux (j + 1) u = popAux j u + u / 2 ^ j % 2 := by
  rw [popAux_split j 1 u]; simp [popAux]
/-- no one above: the number is below -/
theorem below_of_bits (u W : Nat) (hl : u < 2 ^ W) : ∀ j, j ≤ W → (∀ i, i < j → u / 2 ^ (W - 1 - i) % 2 = 0) → u < 2 ^ (W - j)
  | 0, _, _ => by simpa using hl
  | j + 1, hj, h => by
    have ih := below_of_bits u W hl j (by omega) (fun i hi => h i (by omega))
    have hb := h j (by omega)
    rw [show W - j = (W - 1 - j) + 1 from by omega, Nat.pow_succ] at ih
    rw [show W - (j + 1) = W - 1 - j from by omega]
    have hp := Nat.two_pow_pos (W - 1 - j)
    generalize 2 ^ (W - 1 - j) = p at *
    have h1 : u / p < 2 := Nat.div_lt_of_lt_mul ih
    have h2 : u / p = 0 := by generalize u / p = t at h1 hb ⊢; omega
    exact (Nat.div_eq_zero_iff_lt hp).1 h2
theorem clz_of (u W j : Nat) (hW : W ≤ 64) (hl : u < 2 ^ W) (hj : j ≤ W) (h : ∀ i, i < j → u / 2 ^ (W - 1 - i) % 2 = 0) (h' : j = W ∨ u / 2 ^ (W - 1 - j) % 2 = 1) :
    (W : Int) - (Lib.bitLen u : Int) = (j : Int) := by
  have hb := below_of_bits u W hl j hj h
  have h1 := Lib.bitLen_le u (W - j) (by omega) hb
  rcases h' with rfl | h'
  · rw [Nat.sub_self] at h1; omega
  · have h2 : 2 ^ (W - 1 - j) ≤ u := by
      have hp := Nat.two_pow_pos (W - 1 - j)
      generalize 2 ^ (W - 1 - j) = p at *
      have : u / p ≠ 0 := by intro h0; rw [h0] at h'; omega
      exact Nat.le_of_not_lt fun hlt => this (Nat.div_eq_of_lt hlt)
    by_cases hjW : j = W
    · omega
    · have h3 : W - 1 - j < Lib.bitLen u := bitLenAux_ge 64 u _ h2 (by omega)
      omega
theorem ctz_of (u W j : Nat) (hl : u < 2 ^ W) (hj : j ≤ W) (h : ∀ i, i < j → u / 2 ^ i % 2 = 0) (h' : j = W ∨ u / 2 ^ j % 2 = 1) :
    Lib.ctz W u = j := by
  by_cases hz : u = 0
  · rcases h' with rfl | h'
    · simp [Lib.ctz, hz]
    · subst hz; simp at h'
  · obtain ⟨m, h1, h2⟩ := low_one W u hz hl
    have h3 := low_bit W u hz hl
    generalize Lib.ctz W u = k at *
    rcases Nat.lt_trichotomy k j with hk | hk | hk
    · have := h k hk; omega
    · exact hk
    · rcases h' with rfl | h'
      · omega
      · exfalso
        have e : 2 ^ k = 2 ^ j * (2 * 2 ^ (k - j - 1)) := by
          rw [← Nat.pow_succ', ← Nat.pow_add]; congr 1; omega
        rw [h1, e, Nat.mul_assoc, Nat.mul_div_cancel_left _ (Nat.two_pow_pos j), Nat.mul_assoc] at h'
        omega

def rollN (u d W : Nat) : Nat → Nat
  | 0 => 0
  | j + 1 => if u / 2 ^ j % 2 = 1 then rollN u d W j ||| 2 ^ ((j + d) % W) else rollN u d W j
theorem rollN_lt (u d W : Nat) (hW : 0 < W) : ∀ n, rollN u d W n < 2 ^ W
  | 0 => Nat.two_pow_pos W
  | n + 1 => by
    have ih := rollN_lt u d W hW n
    simp only [rollN]
    split
    · exact Nat.or_lt_two_pow ih (Nat.pow_lt_pow_right (by decide) (Nat.mod_lt _ hW))
    · exact ih
theorem testBit_eq (u j : Nat) : u.testBit j = decide (u / 2 ^ j % 2 = 1) := by
  rw [Nat.testBit_eq_decide_div_mod_eq]
theorem src (W d t n : Nat) (hd : d < W) (ht : t < W) (hn : n < W) : (n + d) % W = t ↔ n = (if t < d then t + W - d else t - d) := by
  have hm : (n + d) % W = if n + d < W then n + d else n + d - W := by
    split
    · exact Nat.mod_eq_of_lt (by assumption)
    · rw [Nat.mod_eq_sub_mod (by omega), Nat.mod_eq_of_lt (by omega)]
  rw [hm]
  split <;> split <;> omega
theorem rollN_bit (u d W t : Nat) (hd : d < W) (ht : t < W) : ∀ n, n ≤ W → (rollN u d W n).testBit t = (decide ((if t < d then t + W - d else t - d) < n) && u.testBit (if t < d then t + W - d else t - d))
  | 0, _ => by simp [rollN]
  | n + 1, hn => by
    have ih := rollN_bit u d W t hd ht n (by omega)
    have hs := src W d t n hd ht (by omega)
    generalize (if t < d then t + W - d else t - d) = s at *
    simp only [rollN]
    by_cases hb : u / 2 ^ n % 2 = 1
    · rw [if_pos hb, Nat.testBit_or, ih, Nat.testBit_two_pow]
      by_cases hns : n = s
      · have hx := hs.2 hns
        have hub : u.testBit s = true := by rw [testBit_eq, ← hns]; simpa using hb
        rw [hx, hub]
        simp [hns]
      · have hx : ¬ (n + d) % W = t := fun h => hns (hs.1 h)
        have h2 : decide (s < n + 1) = decide (s < n) := by
          rw [decide_eq_decide]; omega
        simp [hx, h2]
    · rw [if_neg hb, ih]
      by_cases hns : n = s
      · have hub : u.testBit s = false := by rw [testBit_eq, ← hns]; simpa using hb
        simp [hub]
      · have h2 : decide (s < n + 1) = decide (s < n) := by
          rw [decide_eq_decide]; omega
        rw [h2]
theorem rollN_rotl (u d W : Nat) (hd : d < W) (hl : u < 2 ^ W) : rollN u d W W = rotl W u d := by
  apply Nat.eq_of_testBit_eq
  intro t
  by_cases ht : t < W
  · rw [rollN_bit u d W t hd ht W (Nat.le_refl _)]
    unfold rotl
    rw [Nat.mul_comm, Nat.testBit_two_pow_mul_add _ (top_lt W u d (by omega) hl)]
    by_cases htd : t < d
    · rw [if_pos htd, if_pos htd, Nat.testBit_div_two_pow, show t + W - d = t + (W - d) from by omega]
      simp; omega
    · rw [if_neg htd, if_neg htd, Nat.testBit_mod_two_pow]
      have h1 : decide (t - d < W) = true := by simp; omega
      have h2 : decide (t - d < W - d) = true := by simp; omega
      rw [h1, h2]
  · have h1 := rollN_lt u d W (by omega) W
    have h2 := rotl_lt W u d (by omega) hl
    have h3 : 2 ^ W ≤ 2 ^ t := Nat.pow_le_pow_right (by decide) (by omega)
    rw [Nat.testBit_lt_two_pow (by omega), Nat.testBit_lt_two_pow (by omega)]
theorem or_step (a e : Nat) (ha : a < 2 ^ 64) (he : e < 64) : bits .or .i64 (wrap64 (a : Int)) (wrap64 (2 ^ e)) = wrap64 ((a ||| 2 ^ e : Nat) : Int) := by
  have h1 : (wrap64 (a : Int) % 18446744073709551616).toNat = a := by simp only [wrap64]; omega
  have h2 : (wrap64 (2 ^ e) % 18446744073709551616).toNat = 2 ^ e := by
    have h3 : 2 ^ e < 2 ^ 64 := Nat.pow_lt_pow_right (by decide) he
    have h4 : ((2 : Int) ^ e) = ((2 ^ e : Nat) : Int) := by simp
    rw [h4]
    generalize 2 ^ e = p at *
    simp only [wrap64]; omega
  rw [or_i64, h1, h2]
end Go.BM
