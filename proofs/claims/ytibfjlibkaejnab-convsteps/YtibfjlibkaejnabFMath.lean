/- Plain mathematics of floats: what rounding to the nearest does (over the model's own words for it): what a digit more or less changes. -/
import Ieee.Arith
import Derived.Laws.FloatBits
namespace Go.FM
open Ieee
set_option linter.unusedVariables false

theorem ite_iff {p q : Prop} [Decidable p] [Decidable q] (h : p ↔ q) : (if p then 1 else 0 : Nat) = if q then 1 else 0 := by
  by_cases hp : p
  · rw [if_pos hp, if_pos (h.1 hp)]
  · rw [if_neg hp, if_neg (fun hq => hp (h.2 hq))]
/-- n / 2 ^ d, to the nearest, of two the even one -/
def keep (n d : Nat) : Nat := n / 2 ^ d + (if 2 ^ d < 2 * (n % 2 ^ d) ∨ (2 ^ d = 2 * (n % 2 ^ d) ∧ n / 2 ^ d % 2 = 1) then 1 else 0)
theorem keep_zero (n : Nat) : keep n 0 = n := by
  unfold keep
  rw [Nat.pow_zero, Nat.mod_one, Nat.div_one, if_neg (by omega)]; rfl
theorem keep_small (n d : Nat) (h : n.log2 + 2 ≤ d) : keep n d = 0 := by
  have h1 : n < 2 ^ (n.log2 + 1) := Nat.lt_log2_self
  have h2 : 2 ^ (n.log2 + 1) * 2 ≤ 2 ^ d := by rw [← Nat.pow_succ]; exact Nat.pow_le_pow_right (by decide) h
  unfold keep
  rw [Nat.div_eq_of_lt (by omega), Nat.mod_eq_of_lt (by omega), if_neg (by omega)]
theorem keep_scale (n k d : Nat) : keep (n * 2 ^ k) (d + k) = keep n d := by
  have hk : 0 < 2 ^ k := Nat.two_pow_pos k
  unfold keep
  rw [Nat.pow_add, Nat.mul_div_mul_right _ _ hk, Nat.mul_mod_mul_right]
  have e1 : (2 ^ d * 2 ^ k < 2 * (n % 2 ^ d * 2 ^ k)) ↔ (2 ^ d < 2 * (n % 2 ^ d)) := by
    rw [← Nat.mul_assoc]; exact Nat.mul_lt_mul_right hk
  have e2 : (2 ^ d * 2 ^ k = 2 * (n % 2 ^ d * 2 ^ k)) ↔ (2 ^ d = 2 * (n % 2 ^ d)) := by
    rw [← Nat.mul_assoc]; exact Nat.mul_left_inj (by omega)
  rw [ite_iff (or_congr e1 (and_congr e2 Iff.rfl))]
theorem bool_toNat (b : Bool) : b.toNat = if b = true then 1 else 0 := by cases b <;> rfl
theorem cut_even (neg : Bool) (n d : Nat) : Toward.even.cut neg n d = keep n d := by
  have gen : ∀ k, n / 1 <<< k + (decide (1 <<< k < 2 * (n % 1 <<< k)) || (1 <<< k == 2 * (n % 1 <<< k) && n / 1 <<< k % 2 == 1)).toNat = keep n k := by
    intro k
    unfold keep
    rw [Nat.shiftLeft_eq, Nat.one_mul, bool_toNat]
    congr 1
    refine ite_iff ?_
    simp
  show n / 1 <<< min d (n.log2 + 2) + (decide (1 <<< min d (n.log2 + 2) < 2 * (n % 1 <<< min d (n.log2 + 2))) || (1 <<< min d (n.log2 + 2) == 2 * (n % 1 <<< min d (n.log2 + 2)) && n / 1 <<< min d (n.log2 + 2) % 2 == 1)).toNat = keep n d
  rw [gen]
  rcases Nat.le_total d (n.log2 + 2) with h | h
  · rw [Nat.min_eq_left h]
  · rw [Nat.min_eq_right h, keep_small n d h, keep_small n _ (Nat.le_refl _)]
/-- the place of the last digit that is kept -/
def lastP (f : Format) (M : Nat) (e : Int) : Int := max (e + M.log2 - f.fractionBits) f.leastPlace
theorem nearest_eq (f : Format) (neg : Bool) (M : Nat) (e : Int) (hM : M ≠ 0) :
    f.nearest neg M e = f.word neg (min ((lastP f M e - f.leastPlace).toNat * f.binade + keep (M * 2 ^ (e - lastP f M e).toNat) (lastP f M e - e).toNat) f.infRung) := by
  unfold Format.nearest
  rw [if_neg hM]
  show f.word neg (min ((lastP f M e - f.leastPlace).toNat * f.binade + Toward.even.cut neg (M <<< (e - lastP f M e).toNat) (lastP f M e - e).toNat) f.infRung) = _
  rw [cut_even, Nat.shiftLeft_eq]
theorem nearest_zero (f : Format) (neg : Bool) (e : Int) : f.nearest neg 0 e = f.word neg 0 := by
  unfold Format.nearest; rw [if_pos rfl]
theorem log2_scale (M k : Nat) (h : M ≠ 0) : (M * 2 ^ k).log2 = M.log2 + k := by
  have hk : 0 < 2 ^ k := Nat.two_pow_pos k
  rw [Nat.log2_eq_iff (Nat.mul_ne_zero h (by omega))]
  obtain ⟨h1, h2⟩ := (Nat.log2_eq_iff h).1 rfl
  constructor
  · rw [Nat.pow_add]; exact Nat.mul_le_mul_right _ h1
  · rw [show M.log2 + k + 1 = M.log2 + 1 + k from by omega, Nat.pow_add]; exact Nat.mul_lt_mul_of_pos_right h2 hk
theorem nearest_scale (f : Format) (neg : Bool) (M k : Nat) (e : Int) : f.nearest neg (M * 2 ^ k) e = f.nearest neg M (e + k) := by
  by_cases hM : M = 0
  · subst hM; rw [Nat.zero_mul, nearest_zero, nearest_zero]
  have hk : 0 < 2 ^ k := Nat.two_pow_pos k
  rw [nearest_eq f neg _ _ hM, nearest_eq f neg _ _ (Nat.mul_ne_zero hM (by omega))]
  have hl : lastP f (M * 2 ^ k) e = lastP f M (e + k) := by
    unfold lastP; rw [log2_scale M k hM]; congr 2; simp; omega
  rw [hl]
  generalize lastP f M (e + k) = l
  congr 3
  rcases Int.le_total l e with h | h
  · rw [show (l - e).toNat = 0 from by omega, show (l - (e + k)).toNat = 0 from by omega, keep_zero, keep_zero, Nat.mul_assoc, ← Nat.pow_add]
    congr 2; omega
  · rcases Int.le_total l (e + k) with h' | h'
    · obtain ⟨b, hb⟩ : ∃ b : Nat, l = e + b := ⟨(l - e).toNat, by omega⟩
      obtain ⟨a, ha⟩ : ∃ a : Nat, k = a + b := ⟨k - b, by omega⟩
      rw [show (e - l).toNat = 0 from by omega, show (l - e).toNat = b from by omega, show (e + k - l).toNat = a from by omega, show (l - (e + k)).toNat = 0 from by omega, Nat.pow_zero, Nat.mul_one, keep_zero, ha, Nat.pow_add, ← Nat.mul_assoc]
      have := keep_scale (M * 2 ^ a) b 0
      rw [Nat.zero_add, keep_zero] at this
      exact this
    · obtain ⟨d, hd⟩ : ∃ d : Nat, l = e + k + d := ⟨(l - (e + k)).toNat, by omega⟩
      rw [show (e - l).toNat = 0 from by omega, show (l - e).toNat = d + k from by omega, show (e + k - l).toNat = 0 from by omega, show (l - (e + k)).toNat = d from by omega, Nat.pow_zero, Nat.mul_one, Nat.mul_one, keep_scale]
/-- all digits above place k, and one more, which is 1 where anything is left over -/
def stick (M k : Nat) : Nat := 2 * (M / 2 ^ k) + (if M % 2 ^ k = 0 then 0 else 1)
theorem stick_half (M k : Nat) : stick M k / 2 = M / 2 ^ k := by unfold stick; split <;> omega
theorem keep_stick (M k d : Nat) (h : k + 1 ≤ d) : keep M d = keep (stick M k) (d - k + 1) := by
  obtain ⟨c, rfl⟩ : ∃ c, d = k + (c + 1) := ⟨d - k - 1, by omega⟩
  rw [show k + (c + 1) - k + 1 = 1 + (c + 1) from by omega]
  unfold keep
  have q : M / 2 ^ (k + (c + 1)) = stick M k / 2 ^ (1 + (c + 1)) := by
    rw [Nat.pow_add, ← Nat.div_div_eq_div_mul, Nat.pow_add 2 1, ← Nat.div_div_eq_div_mul, Nat.pow_one, stick_half]
  have r1 : M % 2 ^ (k + (c + 1)) = M % 2 ^ k + 2 ^ k * (M / 2 ^ k % 2 ^ (c + 1)) := by rw [Nat.pow_add, Nat.mod_mul]
  have r2 : stick M k % 2 ^ (1 + (c + 1)) = stick M k % 2 + 2 * (M / 2 ^ k % 2 ^ (c + 1)) := by
    rw [Nat.pow_add, Nat.mod_mul, Nat.pow_one, stick_half]
  have hs : stick M k % 2 = if M % 2 ^ k = 0 then 0 else 1 := by unfold stick; split <;> omega
  have hu : M % 2 ^ k < 2 ^ k := Nat.mod_lt _ (Nat.two_pow_pos k)
  have ht : M / 2 ^ k % 2 ^ (c + 1) < 2 ^ (c + 1) := Nat.mod_lt _ (Nat.two_pow_pos _)
  rw [← q, r1, r2, hs]
  clear r1 r2 hs q
  have p1 : 2 ^ (k + (c + 1)) = 2 ^ k * (2 * 2 ^ c) := by rw [Nat.pow_add, Nat.pow_succ, Nat.mul_comm (2 ^ c)]
  have p2 : 2 ^ (1 + (c + 1)) = 2 * (2 * 2 ^ c) := by rw [Nat.pow_add, Nat.pow_succ 2 c, Nat.pow_one, Nat.mul_comm (2 ^ c)]
  rw [p1, p2]
  generalize M / 2 ^ k % 2 ^ (c + 1) = t at *
  generalize M % 2 ^ k = u at *
  generalize 2 ^ c = g at *
  generalize 2 ^ k = K at *
  have key : (K * (2 * g) < 2 * (u + K * t) ↔ 2 * (2 * g) < 2 * ((if u = 0 then 0 else 1) + 2 * t)) ∧ (K * (2 * g) = 2 * (u + K * t) ↔ 2 * (2 * g) = 2 * ((if u = 0 then 0 else 1) + 2 * t)) := by
    rcases Nat.lt_trichotomy t g with h1 | h1 | h1
    · have : K * (t + 1) ≤ K * g := Nat.mul_le_mul_left _ h1
      rw [Nat.mul_add, Nat.mul_one] at this
      rw [Nat.mul_left_comm]
      generalize K * g = x at *
      generalize K * t = y at *
      split <;> omega
    · subst h1
      rw [Nat.mul_left_comm]
      generalize K * t = y at *
      split <;> omega
    · have : K * (g + 1) ≤ K * t := Nat.mul_le_mul_left _ h1
      rw [Nat.mul_add, Nat.mul_one] at this
      rw [Nat.mul_left_comm]
      generalize K * g = x at *
      generalize K * t = y at *
      split <;> omega
  rw [ite_iff (or_congr key.1 (and_congr key.2 Iff.rfl))]
theorem stick_log (M k : Nat) (h : 1 ≤ M / 2 ^ k) : (stick M k).log2 = M.log2 - k + 1 ∧ k ≤ M.log2 ∧ M ≠ 0 ∧ stick M k ≠ 0 := by
  have hk : 0 < 2 ^ k := Nat.two_pow_pos k
  have hM : M ≠ 0 := by intro h0; rw [h0, Nat.zero_div] at h; omega
  have h1 : 2 ^ k ≤ M := by
    have := (Nat.le_div_iff_mul_le hk).1 h
    omega
  have h2 : k ≤ M.log2 := (Nat.le_log2 hM).2 h1
  have hs : stick M k ≠ 0 := by unfold stick; omega
  refine ⟨?_, h2, hM, hs⟩
  obtain ⟨l1, l2⟩ := (Nat.log2_eq_iff hM).1 rfl
  rw [Nat.log2_eq_iff hs]
  have a1 : 2 ^ (M.log2 - k) ≤ M / 2 ^ k := by
    rw [Nat.le_div_iff_mul_le hk, ← Nat.pow_add, show M.log2 - k + k = M.log2 from by omega]; exact l1
  have a2 : M / 2 ^ k < 2 ^ (M.log2 - k + 1) := by
    rw [Nat.div_lt_iff_lt_mul hk, ← Nat.pow_add, show M.log2 - k + 1 + k = M.log2 + 1 from by omega]; exact l2
  rw [Nat.pow_succ 2 (M.log2 - k + 1), Nat.pow_succ 2 (M.log2 - k)] at *
  unfold stick
  generalize M / 2 ^ k = q at *
  generalize 2 ^ (M.log2 - k) = p at *
  split <;> omega
theorem nearest_stick (f : Format) (neg : Bool) (M k : Nat) (e : Int) (h : 2 ^ (f.fractionBits + 1) ≤ M / 2 ^ k) :
    f.nearest neg M e = f.nearest neg (stick M k) (e + k - 1) := by
  have hp : 0 < 2 ^ (f.fractionBits + 1) := Nat.two_pow_pos _
  obtain ⟨hl, hk, hM, hS⟩ := stick_log M k (by omega)
  have hf : f.fractionBits + 1 + k ≤ M.log2 := by
    rw [Nat.le_log2 hM, Nat.pow_add]
    exact (Nat.le_div_iff_mul_le (Nat.two_pow_pos k)).1 h
  rw [nearest_eq f neg _ _ hM, nearest_eq f neg _ _ hS]
  have hlast : lastP f (stick M k) (e + k - 1) = lastP f M e := by
    unfold lastP; rw [hl]; congr 2; omega
  rw [hlast]
  have hge : e + k + 1 ≤ lastP f M e := by
    unfold lastP; omega
  generalize lastP f M e = l at *
  rw [show (e - l).toNat = 0 from by omega, show (e + k - 1 - l).toNat = 0 from by omega, Nat.pow_zero, Nat.mul_one, Nat.mul_one]
  rw [keep_stick M k (l - e).toNat (by omega), show (l - e).toNat - k + 1 = (l - (e + k - 1)).toNat from by omega]
end Go.FM
