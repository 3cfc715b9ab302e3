/- Plain mathematics of floats: the word that the document's rounding makes is the nearest one. -/
import Derived.Test.YtibfjlibkaejnaaFW2
namespace Go.FM
open Ieee
set_option linter.unusedVariables false

/-- by how much the document shifts down -/
def byOf (f : Format) (M : Nat) (e : Int) : Int := max ((bl M : Int) - f.fractionBits - 1) (f.leastPlace - e)
theorem last_by (f : Format) (M : Nat) (e : Int) (h : M ≠ 0) : lastP f M e = e + byOf f M e := by
  unfold lastP byOf bl
  rw [if_neg h]
  omega
/-- what is kept, and rounded -/
def kept (f : Format) (M : Nat) (e : Int) : Nat := keep (M * 2 ^ (-byOf f M e).toNat) (byOf f M e).toNat
theorem nearest_kept (f : Format) (neg : Bool) (M : Nat) (e : Int) (h : M ≠ 0) :
    f.nearest neg M e = f.word neg (min ((e + byOf f M e - f.leastPlace).toNat * f.binade + kept f M e) f.infRung) := by
  rw [nearest_eq f neg M e h, last_by f M e h]
  unfold kept
  rw [show e - (e + byOf f M e) = -byOf f M e from by omega, show e + byOf f M e - e = byOf f M e from by omega]
theorem keep_bounds (n d : Nat) : n / 2 ^ d ≤ keep n d ∧ keep n d ≤ n / 2 ^ d + 1 := by
  unfold keep; split <;> omega
theorem pow_bl (M : Nat) (h : M ≠ 0) : 2 ^ (bl M - 1) ≤ M ∧ M < 2 ^ bl M ∧ 1 ≤ bl M := by
  unfold bl; rw [if_neg h]
  obtain ⟨l1, l2⟩ := (Nat.log2_eq_iff h).1 rfl
  exact ⟨by simpa using l1, l2, by omega⟩
theorem kept_le (f : Format) (M : Nat) (e : Int) (h : M ≠ 0) : kept f M e ≤ 2 ^ (f.fractionBits + 1) := by
  obtain ⟨b1, b2, b3⟩ := pow_bl M h
  have hb : (bl M : Int) - f.fractionBits - 1 ≤ byOf f M e := by unfold byOf; omega
  unfold kept
  generalize byOf f M e = b at *
  rcases Int.le_total 0 b with h0 | h0
  · rw [show (-b).toNat = 0 from by omega, Nat.pow_zero, Nat.mul_one]
    refine Nat.le_trans (keep_bounds _ _).2 ?_
    have : M / 2 ^ b.toNat < 2 ^ (f.fractionBits + 1) := by
      rw [Nat.div_lt_iff_lt_mul (Nat.two_pow_pos _), ← Nat.pow_add]
      exact Nat.lt_of_lt_of_le b2 (Nat.pow_le_pow_right (by decide) (by omega))
    omega
  · rw [show b.toNat = 0 from by omega, keep_zero]
    have : M * 2 ^ (-b).toNat < 2 ^ bl M * 2 ^ (-b).toNat := Nat.mul_lt_mul_of_pos_right b2 (Nat.two_pow_pos _)
    rw [← Nat.pow_add] at this
    exact Nat.le_of_lt (Nat.lt_of_lt_of_le this (Nat.pow_le_pow_right (by decide) (by omega)))
theorem kept_small (f : Format) (M : Nat) (e : Int) (h : M ≠ 0) (hk : kept f M e < 2 ^ f.fractionBits) : e + byOf f M e = f.leastPlace := by
  obtain ⟨b1, b2, b3⟩ := pow_bl M h
  have hc : byOf f M e = (bl M : Int) - f.fractionBits - 1 ∨ byOf f M e = f.leastPlace - e := by unfold byOf; omega
  rcases hc with hc | hc
  · exfalso
    have hk2 : 2 ^ f.fractionBits ≤ kept f M e := by
      unfold kept
      rw [hc]
      rcases Nat.le_total (f.fractionBits + 1) (bl M) with h0 | h0
      · rw [show (-((bl M : Int) - f.fractionBits - 1)).toNat = 0 from by omega, Nat.pow_zero, Nat.mul_one]
        refine Nat.le_trans ?_ (keep_bounds _ _).1
        rw [Nat.le_div_iff_mul_le (Nat.two_pow_pos _), ← Nat.pow_add]
        exact Nat.le_trans (Nat.pow_le_pow_right (by decide) (by omega)) b1
      · rw [show ((bl M : Int) - f.fractionBits - 1).toNat = 0 from by omega, keep_zero]
        have : 2 ^ (bl M - 1) * 2 ^ (-((bl M : Int) - f.fractionBits - 1)).toNat ≤ M * 2 ^ (-((bl M : Int) - f.fractionBits - 1)).toNat := Nat.mul_le_mul_right _ b1
        rw [← Nat.pow_add] at this
        exact Nat.le_trans (Nat.pow_le_pow_right (by decide) (by omega)) this
    omega
  · omega
/-- c says whether to go up -/
theorem keep_lost (M k : Nat) : keep M k = M / 2 ^ k + (if lost M k = 1 ∨ (lost M k = 0 ∧ M / 2 ^ k % 2 = 1) then 1 else 0) := by
  unfold keep
  congr 1
  apply ite_iff
  unfold lost
  have hp := Nat.two_pow_pos k
  generalize 2 ^ k = p at *
  generalize M % p = r at *
  by_cases h0 : r = 0
  · rw [if_pos h0]; omega
  · rw [if_neg h0]
    by_cases h1 : 2 * r < p
    · rw [if_pos h1]; omega
    · rw [if_neg h1]
      by_cases h2 : 2 * r = p
      · rw [if_pos h2]; omega
      · rw [if_neg h2]; omega
end Go.FM
