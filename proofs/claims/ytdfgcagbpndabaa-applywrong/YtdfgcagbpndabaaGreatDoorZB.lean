/- Plain mathematics of floats: what rounding to the nearest does (over the model's own words for it): what a digit more or less changes. -/
import Ieee.Arith
import Derived.Laws.FloatBits
import Derived.WalkKit
set_option linter.unusedVariables false
namespace Go.FM
open Ieee
theorem ite_iff {p q : Prop} [Decidable p] [Decidable q] (h : p ↔ q) : (if p then 1 else 0 : Nat) = if q then 1 else 0 := by
  by_cases hp : p
  · rw [if_pos hp, if_pos (h.1 hp)]
  · rw [if_neg hp, if_neg (fun hq => hp (h.2 hq))]
def keep (n d : Nat) : Nat := n / 2 ^ d + (if 2 ^ d < 2 * (n % 2 ^ d) ∨ (2 ^ d = 2 * (n % 2 ^ d) ∧ n / 2 ^ d % 2 = 1) then 1 else 0)
theorem keep_zero (n : Nat) : keep n 0 = n := by
  unfold keep
  rw [Nat.pow_zero, Nat.mod_one, Nat.div_one, if_neg (by omega)]; rfl
theorem keep_small (n d : Nat) (h : n.log2 + 2 ≤ d) : keep n d = 0 := by
  have h1 : n < 2 ^ (n.log2 + 1) := Nat.lt_log2_self
  have h2 : 2 ^ (n.log2 + 1) * 2 ≤ 2 ^ d := by rw [← Nat.pow_succ]; exact Nat.pow_le_pow_right (by decide) h
  unfold keep
  rw [Nat.div_eq_of_lt (by omega), Nat.mod_eq_of_lt (by omega), if_neg (by omega)]
theorem keep_scale (n k d : Nat) : keep (n * 2 ^ k) (d + k) = keep n d := by
  have hk : 0 < 2 ^ k := Nat.two_pow_pos k
  unfold keep
  rw [Nat.pow_add, Nat.mul_div_mul_right _ _ hk, Nat.mul_mod_mul_right]
  have e1 : (2 ^ d * 2 ^ k < 2 * (n % 2 ^ d * 2 ^ k)) ↔ (2 ^ d < 2 * (n % 2 ^ d)) := by
    rw [← Nat.mul_assoc]; exact Nat.mul_lt_mul_right hk
  have e2 : (2 ^ d * 2 ^ k = 2 * (n % 2 ^ d * 2 ^ k)) ↔ (2 ^ d = 2 * (n % 2 ^ d)) := by
    rw [← Nat.mul_assoc]; exact Nat.mul_left_inj (by omega)
  rw [ite_iff (or_congr e1 (and_congr e2 Iff.rfl))]
theorem bool_toNat (b : Bool) : b.toNat = if b = true then 1 else 0 := by cases b <;> rfl
theorem cut_even (neg : Bool) (n d : Nat) : Toward.even.cut neg n d = keep n d := by
  have gen : ∀ k, n / 1 <<< k + (decide (1 <<< k < 2 * (n % 1 <<< k)) || (1 <<< k == 2 * (n % 1 <<< k) && n / 1 <<< k % 2 == 1)).toNat = keep n k := by
    intro k
    unfold keep
    rw [Nat.shiftLeft_eq, Nat.one_mul, bool_toNat]
    congr 1
    refine ite_iff ?_
    simp
  show n / 1 <<< min d (n.log2 + 2) + (decide (1 <<< min d (n.log2 + 2) < 2 * (n % 1 <<< min d (n.log2 + 2))) || (1 <<< min d (n.log2 + 2) == 2 * (n % 1 <<< min d (n.log2 + 2)) && n / 1 <<< min d (n.log2 + 2) % 2 == 1)).toNat = keep n d
  rw [gen]
  rcases Nat.le_total d (n.log2 + 2) with h | h
  · rw [Nat.min_eq_left h]
  · rw [Nat.min_eq_right h, keep_small n d h, keep_small n _ (Nat.le_refl _)]
def lastP (f : Format) (M : Nat) (e : Int) : Int := max (e + M.log2 - f.fractionBits) f.leastPlace
theorem nearest_eq (f : Format) (neg : Bool) (M : Nat) (e : Int) (hM : M ≠ 0) :
    f.nearest neg M e = f.word neg (min ((lastP f M e - f.leastPlace).toNat * f.binade + keep (M * 2 ^ (e - lastP f M e).toNat) (lastP f M e - e).toNat) f.infRung) := by
  unfold Format.nearest
  rw [if_neg hM]
  show f.word neg (min ((lastP f M e - f.leastPlace).toNat * f.binade + Toward.even.cut neg (M <<< (e - lastP f M e).toNat) (lastP f M e - e).toNat) f.infRung) = _
  rw [cut_even, Nat.shiftLeft_eq]
theorem nearest_zero (f : Format) (neg : Bool) (e : Int) : f.nearest neg 0 e = f.word neg 0 := by
  unfold Format.nearest; rw [if_pos rfl]
theorem log2_scale (M k : Nat) (h : M ≠ 0) : (M * 2 ^ k).log2 = M.log2 + k := by
  have hk : 0 < 2 ^ k := Nat.two_pow_pos k
  rw [Nat.log2_eq_iff (Nat.mul_ne_zero h (by omega))]
  obtain ⟨h1, h2⟩ := (Nat.log2_eq_iff h).1 rfl
  constructor
  · rw [Nat.pow_add]; exact Nat.mul_le_mul_right _ h1
  · rw [show M.log2 + k + 1 = M.log2 + 1 + k from by omega, Nat.pow_add]; exact Nat.mul_lt_mul_of_pos_right h2 hk
theorem nearest_scale (f : Format) (neg : Bool) (M k : Nat) (e : Int) : f.nearest neg (M * 2 ^ k) e = f.nearest neg M (e + k) := by
  by_cases hM : M = 0
  · subst hM; rw [Nat.zero_mul, nearest_zero, nearest_zero]
  have hk : 0 < 2 ^ k := Nat.two_pow_pos k
  rw [nearest_eq f neg _ _ hM, nearest_eq f neg _ _ (Nat.mul_ne_zero hM (by omega))]
  have hl : lastP f (M * 2 ^ k) e = lastP f M (e + k) := by
    unfold lastP; rw [log2_scale M k hM]; congr 2; simp; omega
  rw [hl]
  generalize lastP f M (e + k) = l
  congr 3
  rcases Int.le_total l e with h | h
  · rw [show (l - e).toNat = 0 from by omega, show (l - (e + k)).toNat = 0 from by omega, keep_zero, keep_zero, Nat.mul_assoc, ← Nat.pow_add]
    congr 2; omega
  · rcases Int.le_total l (e + k) with h' | h'
    · obtain ⟨b, hb⟩ : ∃ b : Nat, l = e + b := ⟨(l - e).toNat, by omega⟩
      obtain ⟨a, ha⟩ : ∃ a : Nat, k = a + b := ⟨k - b, by omega⟩
      rw [show (e - l).toNat = 0 from by omega, show (l - e).toNat = b from by omega, show (e + k - l).toNat = a from by omega, show (l - (e + k)).toNat = 0 from by omega, Nat.pow_zero, Nat.mul_one, keep_zero, ha, Nat.pow_add, ← Nat.mul_assoc]
      have := keep_scale (M * 2 ^ a) b 0
      rw [Nat.zero_add, keep_zero] at this
      exact this
    · obtain ⟨d, hd⟩ : ∃ d : Nat, l = e + k + d := ⟨(l - (e + k)).toNat, by omega⟩
      rw [show (e - l).toNat = 0 from by omega, show (l - e).toNat = d + k from by omega, show (e + k - l).toNat = 0 from by omega, show (l - (e + k)).toNat = d from by omega, Nat.pow_zero, Nat.mul_one, Nat.mul_one, keep_scale]
def stick (M k : Nat) : Nat := 2 * (M / 2 ^ k) + (if M % 2 ^ k = 0 then 0 else 1)
theorem stick_half (M k : Nat) : stick M k / 2 = M / 2 ^ k := by unfold stick; split <;> omega
theorem keep_stick (M k d : Nat) (h : k + 1 ≤ d) : keep M d = keep (stick M k) (d - k + 1) := by
  obtain ⟨c, rfl⟩ : ∃ c, d = k + (c + 1) := ⟨d - k - 1, by omega⟩
  rw [show k + (c + 1) - k + 1 = 1 + (c + 1) from by omega]
  unfold keep
  have q : M / 2 ^ (k + (c + 1)) = stick M k / 2 ^ (1 + (c + 1)) := by
    rw [Nat.pow_add, ← Nat.div_div_eq_div_mul, Nat.pow_add 2 1, ← Nat.div_div_eq_div_mul, Nat.pow_one, stick_half]
  have r1 : M % 2 ^ (k + (c + 1)) = M % 2 ^ k + 2 ^ k * (M / 2 ^ k % 2 ^ (c + 1)) := by rw [Nat.pow_add, Nat.mod_mul]
  have r2 : stick M k % 2 ^ (1 + (c + 1)) = stick M k % 2 + 2 * (M / 2 ^ k % 2 ^ (c + 1)) := by
    rw [Nat.pow_add, Nat.mod_mul, Nat.pow_one, stick_half]
  have hs : stick M k % 2 = if M % 2 ^ k = 0 then 0 else 1 := by unfold stick; split <;> omega
  have hu : M % 2 ^ k < 2 ^ k := Nat.mod_lt _ (Nat.two_pow_pos k)
  have ht : M / 2 ^ k % 2 ^ (c + 1) < 2 ^ (c + 1) := Nat.mod_lt _ (Nat.two_pow_pos _)
  rw [← q, r1, r2, hs]
  clear r1 r2 hs q
  have p1 : 2 ^ (k + (c + 1)) = 2 ^ k * (2 * 2 ^ c) := by rw [Nat.pow_add, Nat.pow_succ, Nat.mul_comm (2 ^ c)]
  have p2 : 2 ^ (1 + (c + 1)) = 2 * (2 * 2 ^ c) := by rw [Nat.pow_add, Nat.pow_succ 2 c, Nat.pow_one, Nat.mul_comm (2 ^ c)]
  rw [p1, p2]
  generalize M / 2 ^ k % 2 ^ (c + 1) = t at *
  generalize M % 2 ^ k = u at *
  generalize 2 ^ c = g at *
  generalize 2 ^ k = K at *
  have key : (K * (2 * g) < 2 * (u + K * t) ↔ 2 * (2 * g) < 2 * ((if u = 0 then 0 else 1) + 2 * t)) ∧ (K * (2 * g) = 2 * (u + K * t) ↔ 2 * (2 * g) = 2 * ((if u = 0 then 0 else 1) + 2 * t)) := by
    rcases Nat.lt_trichotomy t g with h1 | h1 | h1
    · have : K * (t + 1) ≤ K * g := Nat.mul_le_mul_left _ h1
      rw [Nat.mul_add, Nat.mul_one] at this
      rw [Nat.mul_left_comm]
      generalize K * g = x at *
      generalize K * t = y at *
      split <;> omega
    · subst h1
      rw [Nat.mul_left_comm]
      generalize K * t = y at *
      split <;> omega
    · have : K * (g + 1) ≤ K * t := Nat.mul_le_mul_left _ h1
      rw [Nat.mul_add, Nat.mul_one] at this
      rw [Nat.mul_left_comm]
      generalize K * g = x at *
      generalize K * t = y at *
      split <;> omega
  rw [ite_iff (or_congr key.1 (and_congr key.2 Iff.rfl))]
theorem stick_log (M k : Nat) (h : 1 ≤ M / 2 ^ k) : (stick M k).log2 = M.log2 - k + 1 ∧ k ≤ M.log2 ∧ M ≠ 0 ∧ stick M k ≠ 0 := by
  have hk : 0 < 2 ^ k := Nat.two_pow_pos k
  have hM : M ≠ 0 := by intro h0; rw [h0, Nat.zero_div] at h; omega
  have h1 : 2 ^ k ≤ M := by
    have := (Nat.le_div_iff_mul_le hk).1 h
    omega
  have h2 : k ≤ M.log2 := (Nat.le_log2 hM).2 h1
  have hs : stick M k ≠ 0 := by unfold stick; omega
  refine ⟨?_, h2, hM, hs⟩
  obtain ⟨l1, l2⟩ := (Nat.log2_eq_iff hM).1 rfl
  rw [Nat.log2_eq_iff hs]
  have a1 : 2 ^ (M.log2 - k) ≤ M / 2 ^ k := by
    rw [Nat.le_div_iff_mul_le hk, ← Nat.pow_add, show M.log2 - k + k = M.log2 from by omega]; exact l1
  have a2 : M / 2 ^ k < 2 ^ (M.log2 - k + 1) := by
    rw [Nat.div_lt_iff_lt_mul hk, ← Nat.pow_add, show M.log2 - k + 1 + k = M.log2 + 1 from by omega]; exact l2
  rw [Nat.pow_succ 2 (M.log2 - k + 1), Nat.pow_succ 2 (M.log2 - k)] at *
  unfold stick
  generalize M / 2 ^ k = q at *
  generalize 2 ^ (M.log2 - k) = p at *
  split <;> omega
theorem nearest_stick (f : Format) (neg : Bool) (M k : Nat) (e : Int) (h : 2 ^ (f.fractionBits + 1) ≤ M / 2 ^ k) :
    f.nearest neg M e = f.nearest neg (stick M k) (e + k - 1) := by
  have hp : 0 < 2 ^ (f.fractionBits + 1) := Nat.two_pow_pos _
  obtain ⟨hl, hk, hM, hS⟩ := stick_log M k (by omega)
  have hf : f.fractionBits + 1 + k ≤ M.log2 := by
    rw [Nat.le_log2 hM, Nat.pow_add]
    exact (Nat.le_div_iff_mul_le (Nat.two_pow_pos k)).1 h
  rw [nearest_eq f neg _ _ hM, nearest_eq f neg _ _ hS]
  have hlast : lastP f (stick M k) (e + k - 1) = lastP f M e := by
    unfold lastP; rw [hl]; congr 2; omega
  rw [hlast]
  have hge : e + k + 1 ≤ lastP f M e := by
    unfold lastP; omega
  generalize lastP f M e = l at *
  rw [show (e - l).toNat = 0 from by omega, show (e + k - 1 - l).toNat = 0 from by omega, Nat.pow_zero, Nat.mul_one, Nat.mul_one]
  rw [keep_stick M k (l - e).toNat (by omega), show (l - e).toNat - k + 1 = (l - (e + k - 1)).toNat from by omega]
end Go.FM
namespace Go.FM
open Ieee
theorem ite_iff' {p q : Prop} [Decidable p] [Decidable q] (h : p ↔ q) : (if p then 0 else 1 : Nat) = if q then 0 else 1 := by
  by_cases hp : p
  · rw [if_pos hp, if_pos (h.1 hp)]
  · rw [if_neg hp, if_neg (fun hq => hp (h.2 hq))]
def qs (m n t : Nat) : Nat := 2 * (m * 2 ^ t / n) + (if m * 2 ^ t % n = 0 then 0 else 1)
theorem qs_half (m n t : Nat) : qs m n t / 2 = m * 2 ^ t / n := by unfold qs; split <;> omega
theorem qs_stick (m n t k : Nat) (hn : 0 < n) : stick (qs m n (t + k)) (k + 1) = qs m n t := by
  have hk : 0 < 2 ^ k := Nat.two_pow_pos k
  have d1 : qs m n (t + k) / 2 ^ (k + 1) = m * 2 ^ t / n := by
    rw [Nat.add_comm k 1, Nat.pow_add, ← Nat.div_div_eq_div_mul, Nat.pow_one, qs_half, Nat.pow_add, ← Nat.mul_assoc, Nat.div_div_eq_div_mul, Nat.mul_div_mul_right _ _ hk]
  have d2 : qs m n (t + k) % 2 ^ (k + 1) = 0 ↔ m * 2 ^ t % n = 0 := by
    have a1 : qs m n (t + k) % 2 ^ (k + 1) = qs m n (t + k) % 2 + 2 * (m * 2 ^ (t + k) / n % 2 ^ k) := by
      rw [Nat.add_comm k 1, Nat.pow_add, Nat.mod_mul, Nat.pow_one, qs_half]
    have a2 : qs m n (t + k) % 2 = if m * 2 ^ (t + k) % n = 0 then 0 else 1 := by unfold qs; split <;> omega
    have a3 : m * 2 ^ t % n * 2 ^ k = m * 2 ^ (t + k) % n + n * (m * 2 ^ (t + k) / n % 2 ^ k) := by
      rw [← Nat.mod_mul, Nat.pow_add, ← Nat.mul_assoc, Nat.mul_mod_mul_right]
    rw [a1, a2]
    generalize m * 2 ^ (t + k) % n = u at *
    generalize m * 2 ^ (t + k) / n % 2 ^ k = A at *
    generalize m * 2 ^ t % n = x at *
    constructor
    · intro h
      have hu : u = 0 := by
        by_cases hu : u = 0
        · exact hu
        · rw [if_neg hu] at h; omega
      have hA : A = 0 := by omega
      rw [hu, hA, Nat.mul_zero] at a3
      rcases Nat.mul_eq_zero.1 a3 with h | h
      · exact h
      · omega
    · intro h
      rw [h, Nat.zero_mul] at a3
      have hu : u = 0 := by omega
      have hA : n * A = 0 := by omega
      have hA' : A = 0 := by
        rcases Nat.mul_eq_zero.1 hA with h | h
        · omega
        · exact h
      rw [if_pos hu, hA']
  unfold stick
  rw [d1, ite_iff' d2]
  rfl
theorem nearest_quo (f : Format) (neg : Bool) (m n t k : Nat) (P : Int) (hn : 0 < n) (h : 2 ^ (f.fractionBits + 1) ≤ m * 2 ^ t / n) :
    f.nearest neg (qs m n (t + k)) (P - (t + k : Nat) - 1) = f.nearest neg (qs m n t) (P - t - 1) := by
  have h1 : 2 ^ (f.fractionBits + 1) ≤ qs m n (t + k) / 2 ^ (k + 1) := by
    have := congrArg (· / 2) (qs_stick m n t k hn)
    simp only [stick_half, qs_half] at this
    rw [this]; exact h
  rw [nearest_stick f neg _ (k + 1) _ h1, qs_stick m n t k hn]
  congr 1; omega
def IsRoot (n r : Nat) : Prop := r * r ≤ n ∧ n < (r + 1) * (r + 1)
def rs (n r : Nat) : Nat := 2 * r + (if r * r = n then 0 else 1)
theorem rs_half (n r : Nat) : rs n r / 2 = r := by unfold rs; split <;> omega
theorem sq_le {a b : Nat} (h : a * a < (b + 1) * (b + 1)) : a ≤ b := by
  rcases Nat.lt_or_ge b a with h' | h'
  · have : (b + 1) * (b + 1) ≤ a * a := Nat.mul_le_mul h' h'
    omega
  · exact h'
theorem root_scale {n r r' k : Nat} (h : IsRoot n r) (h' : IsRoot (n * 2 ^ (2 * k)) r') : r' / 2 ^ k = r ∧ r * 2 ^ k ≤ r' := by
  have hk : 0 < 2 ^ k := Nat.two_pow_pos k
  have p : 2 ^ (2 * k) = 2 ^ k * 2 ^ k := by rw [Nat.two_mul, Nat.pow_add]
  have sq : ∀ a : Nat, a * 2 ^ k * (a * 2 ^ k) = a * a * 2 ^ (2 * k) := by
    intro a; rw [p, Nat.mul_mul_mul_comm]
  have h1 : r * 2 ^ k ≤ r' := by
    refine sq_le (Nat.lt_of_le_of_lt ?_ h'.2)
    rw [sq]; exact Nat.mul_le_mul_right _ h.1
  have h2 : r' < (r + 1) * 2 ^ k := by
    rcases Nat.lt_or_ge r' ((r + 1) * 2 ^ k) with h3 | h3
    · exact h3
    · have a1 := Nat.mul_le_mul h3 h3
      rw [sq] at a1
      have a2 : n * 2 ^ (2 * k) < (r + 1) * (r + 1) * 2 ^ (2 * k) := Nat.mul_lt_mul_of_pos_right h.2 (Nat.two_pow_pos _)
      have a3 := h'.1
      omega
  refine ⟨Nat.le_antisymm ?_ ?_, h1⟩
  · have := (Nat.div_lt_iff_lt_mul hk).2 h2
    omega
  · exact (Nat.le_div_iff_mul_le hk).2 h1
theorem rs_stick {n r r' k : Nat} (h : IsRoot n r) (h' : IsRoot (n * 2 ^ (2 * k)) r') : stick (rs (n * 2 ^ (2 * k)) r') (k + 1) = rs n r := by
  obtain ⟨d, hle⟩ := root_scale h h'
  have hk : 0 < 2 ^ k := Nat.two_pow_pos k
  have p : 2 ^ (2 * k) = 2 ^ k * 2 ^ k := by rw [Nat.two_mul, Nat.pow_add]
  have sq : ∀ a : Nat, a * 2 ^ k * (a * 2 ^ k) = a * a * 2 ^ (2 * k) := by
    intro a; rw [p, Nat.mul_mul_mul_comm]
  have d1 : rs (n * 2 ^ (2 * k)) r' / 2 ^ (k + 1) = r := by
    rw [Nat.add_comm k 1, Nat.pow_add, ← Nat.div_div_eq_div_mul, Nat.pow_one, rs_half, d]
  have d2 : rs (n * 2 ^ (2 * k)) r' % 2 ^ (k + 1) = 0 ↔ r * r = n := by
    have a1 : rs (n * 2 ^ (2 * k)) r' % 2 ^ (k + 1) = rs (n * 2 ^ (2 * k)) r' % 2 + 2 * (r' % 2 ^ k) := by
      rw [Nat.add_comm k 1, Nat.pow_add, Nat.mod_mul, Nat.pow_one, rs_half]
    have a2 : rs (n * 2 ^ (2 * k)) r' % 2 = if r' * r' = n * 2 ^ (2 * k) then 0 else 1 := by unfold rs; split <;> omega
    have a3 := Nat.div_add_mod r' (2 ^ k)
    rw [d, Nat.mul_comm] at a3
    rw [a1, a2]
    constructor
    · intro h
      have hu : r' * r' = n * 2 ^ (2 * k) := by
        by_cases hu : r' * r' = n * 2 ^ (2 * k)
        · exact hu
        · rw [if_neg hu] at h; omega
      have hA : r' % 2 ^ k = 0 := by omega
      rw [hA, Nat.add_zero] at a3
      rw [← a3, sq] at hu
      exact Nat.eq_of_mul_eq_mul_right (Nat.two_pow_pos _) hu
    · intro hr
      have e : r * 2 ^ k * (r * 2 ^ k) = n * 2 ^ (2 * k) := by rw [sq, hr]
      have hle' : r' ≤ r * 2 ^ k := by
        refine sq_le (Nat.lt_of_le_of_lt h'.1 ?_)
        rw [← e]; exact Nat.mul_lt_mul'' (Nat.lt_succ_self _) (Nat.lt_succ_self _)
      have er : r' = r * 2 ^ k := Nat.le_antisymm hle' hle
      rw [if_pos (by rw [er, e])]
      omega
  unfold stick
  rw [d1, ite_iff' d2]
  rfl
theorem nearest_root (f : Format) (neg : Bool) (n r r' k : Nat) (P : Int) (h : IsRoot n r) (h' : IsRoot (n * 2 ^ (2 * k)) r') (hr : 2 ^ (f.fractionBits + 1) ≤ r) :
    f.nearest neg (rs (n * 2 ^ (2 * k)) r') (P - k - 1) = f.nearest neg (rs n r) (P - 1) := by
  have h1 : 2 ^ (f.fractionBits + 1) ≤ rs (n * 2 ^ (2 * k)) r' / 2 ^ (k + 1) := by
    have := congrArg (· / 2) (rs_stick h h')
    simp only [stick_half, rs_half] at this
    rw [this]; exact hr
  rw [nearest_stick f neg _ (k + 1) _ h1, rs_stick h h']
  congr 1; omega
theorem rootFrom_is (n : Nat) : ∀ (todo root c : Nat), root = c * 2 ^ todo → root * root ≤ n → n < (root + 2 ^ todo) * (root + 2 ^ todo) → IsRoot n (Datum.rootFrom n todo root)
  | 0, root, c, hc, h1, h2 => ⟨h1, h2⟩
  | todo + 1, root, c, hc, h1, h2 => by
    unfold Datum.rootFrom
    dsimp only
    rw [Nat.shiftLeft_eq, Nat.one_mul]
    have p : 2 ^ (todo + 1) = 2 ^ todo + 2 ^ todo := by rw [Nat.pow_succ, Nat.mul_two]
    by_cases h : (root + 2 ^ todo) * (root + 2 ^ todo) ≤ n
    · rw [if_pos h]
      exact rootFrom_is n todo _ (2 * c + 1) (by rw [hc, Nat.pow_succ, Nat.add_mul, Nat.one_mul, Nat.mul_assoc 2, Nat.mul_comm 2, Nat.mul_assoc]) h (by rw [Nat.add_assoc, ← p]; exact h2)
    · rw [if_neg h]
      exact rootFrom_is n todo _ (2 * c) (by rw [hc, Nat.pow_succ, Nat.mul_comm 2, Nat.mul_assoc, Nat.mul_comm 2]) h1 (by omega)
theorem rootFrom_root (n : Nat) : IsRoot n (Datum.rootFrom n (n.log2 / 2 + 1) 0) := by
  refine rootFrom_is n _ 0 0 (by rw [Nat.zero_mul]) (Nat.zero_le _) ?_
  rw [Nat.zero_add, ← Nat.pow_add]
  refine Nat.lt_of_lt_of_le Nat.lt_log2_self (Nat.pow_le_pow_right (by decide) (by omega))
theorem root_one {n r s : Nat} (h : IsRoot n r) (h' : IsRoot n s) : r = s :=
  Nat.le_antisymm (sq_le (Nat.lt_of_le_of_lt h.1 h'.2)) (sq_le (Nat.lt_of_le_of_lt h'.1 h.2))
theorem stick_plus (a b k : Nat) (h0 : 0 < b) (h : b < 2 ^ k) : stick (a * 2 ^ k + b) k = 2 * a + 1 := by
  have hk : 0 < 2 ^ k := Nat.two_pow_pos k
  unfold stick
  rw [Nat.add_comm (a * 2 ^ k) b, Nat.add_mul_div_right _ _ hk, Nat.add_mul_mod_self_right, Nat.div_eq_of_lt h, Nat.mod_eq_of_lt h, if_neg (by omega), Nat.zero_add]
theorem stick_minus (a b k : Nat) (h0 : 0 < b) (h : b < 2 ^ k) (ha : 0 < a) : stick (a * 2 ^ k - b) k = 2 * (a - 1) + 1 := by
  obtain ⟨c, rfl⟩ : ∃ c, a = c + 1 := ⟨a - 1, by omega⟩
  have e : (c + 1) * 2 ^ k - b = c * 2 ^ k + (2 ^ k - b) := by rw [Nat.add_mul, Nat.one_mul]; omega
  rw [e, stick_plus c _ k (by omega) (by omega)]; rfl
theorem far_plus (f : Format) (neg : Bool) (a b by1 : Nat) (e : Int) (hf : f.fractionBits ≤ 52) (ha : 2 ^ f.fractionBits ≤ a) (hb0 : 0 < b) (hb : b < 2 ^ 53) (hby : 70 < by1) :
    f.nearest neg (a * 2 ^ by1 + b) e = f.nearest neg (a * 2 ^ 70 + 1) (e + by1 - 70) := by
  have hb' : b < 2 ^ (by1 - 10) := Nat.lt_of_lt_of_le hb (Nat.pow_le_pow_right (by decide) (by omega))
  have e1 : a * 2 ^ by1 = a * 2 ^ 10 * 2 ^ (by1 - 10) := by rw [Nat.mul_assoc, ← Nat.pow_add]; congr 2; omega
  have e2 : a * 2 ^ 70 = a * 2 ^ 10 * 2 ^ 60 := by rw [Nat.mul_assoc, ← Nat.pow_add]
  have big : 2 ^ (f.fractionBits + 1) ≤ a * 2 ^ 10 := by
    rw [Nat.pow_succ]; exact Nat.mul_le_mul ha (by decide)
  have s1 := stick_plus (a * 2 ^ 10) b (by1 - 10) hb0 hb'
  have s2 := stick_plus (a * 2 ^ 10) 1 60 (by decide) (by decide)
  rw [e1, e2]
  refine (nearest_stick f neg _ (by1 - 10) e (by rw [← stick_half, s1]; omega)).trans (Eq.trans ?_ (nearest_stick f neg _ 60 _ (by rw [← stick_half, s2]; omega)).symm)
  rw [s1, s2]
  congr 1; omega
theorem far_minus (f : Format) (neg : Bool) (a b by1 : Nat) (e : Int) (hf : f.fractionBits ≤ 52) (ha : 2 ^ f.fractionBits ≤ a) (hb0 : 0 < b) (hb : b < 2 ^ 53) (hby : 70 < by1) :
    f.nearest neg (a * 2 ^ by1 - b) e = f.nearest neg (a * 2 ^ 70 - 1) (e + by1 - 70) := by
  have hb' : b < 2 ^ (by1 - 10) := Nat.lt_of_lt_of_le hb (Nat.pow_le_pow_right (by decide) (by omega))
  have e1 : a * 2 ^ by1 = a * 2 ^ 10 * 2 ^ (by1 - 10) := by rw [Nat.mul_assoc, ← Nat.pow_add]; congr 2; omega
  have e2 : a * 2 ^ 70 = a * 2 ^ 10 * 2 ^ 60 := by rw [Nat.mul_assoc, ← Nat.pow_add]
  have hp : 0 < 2 ^ f.fractionBits := Nat.two_pow_pos _
  have big : 2 ^ (f.fractionBits + 1) ≤ a * 2 ^ 10 - 1 := by
    rw [Nat.pow_succ]
    have h10 : (2 : Nat) ^ 10 = 1024 := by decide
    rw [h10]
    generalize 2 ^ f.fractionBits = z at *
    clear e1 e2 hb hb' hf
    omega
  have pos : 0 < a * 2 ^ 10 := by omega
  have s1 := stick_minus (a * 2 ^ 10) b (by1 - 10) hb0 hb' pos
  have s2 := stick_minus (a * 2 ^ 10) 1 60 (by decide) (by decide) pos
  rw [e1, e2]
  refine (nearest_stick f neg _ (by1 - 10) e (by rw [← stick_half, s1]; omega)).trans (Eq.trans ?_ (nearest_stick f neg _ 60 _ (by rw [← stick_half, s2]; omega)).symm)
  rw [s1, s2]
  congr 1; omega
end Go.FM
namespace Go.FM
open Go.RowKit
abbrev W64 : Nat := 18446744073709551616
theorem ofInt_u (x : Nat) (h : x < W64) : (BitVec.ofInt 64 (x : Int)).toNat = x := by
  rw [BitVec.toNat_ofInt]; show ((x : Int) % 18446744073709551616).toNat = x; simp only [W64] at h; omega
theorem and_u (x y : Nat) (hx : x < W64) (hy : y < W64) : bits .and .u64 (x : Int) (y : Int) = ((x &&& y : Nat) : Int) := by
  show IntKind.u64.wrap ((BitVec.ofInt 64 (x : Int) &&& BitVec.ofInt 64 (y : Int)).toNat : Int) = _
  rw [BitVec.toNat_and, ofInt_u x hx, ofInt_u y hy, IntKind.wrap_u64]
  have : x &&& y ≤ x := Nat.and_le_left
  simp only [W64] at hx; omega
theorem or_u (x y : Nat) (hx : x < W64) (hy : y < W64) : bits .or .u64 (x : Int) (y : Int) = ((x ||| y : Nat) : Int) := by
  show IntKind.u64.wrap ((BitVec.ofInt 64 (x : Int) ||| BitVec.ofInt 64 (y : Int)).toNat : Int) = _
  rw [BitVec.toNat_or, ofInt_u x hx, ofInt_u y hy, IntKind.wrap_u64]
  have : x ||| y < 2 ^ 64 := Nat.or_lt_two_pow (by simpa [W64] using hx) (by simpa [W64] using hy)
  omega
theorem xor_u (x y : Nat) (hx : x < W64) (hy : y < W64) : bits .xor .u64 (x : Int) (y : Int) = ((x ^^^ y : Nat) : Int) := by
  show IntKind.u64.wrap ((BitVec.ofInt 64 (x : Int) ^^^ BitVec.ofInt 64 (y : Int)).toNat : Int) = _
  rw [BitVec.toNat_xor, ofInt_u x hx, ofInt_u y hy, IntKind.wrap_u64]
  have : x ^^^ y < 2 ^ 64 := Nat.xor_lt_two_pow (by simpa [W64] using hx) (by simpa [W64] using hy)
  omega
theorem mask_u (x j : Nat) (hx : x < W64) (hj : j ≤ 64) : bits .and .u64 (x : Int) ((2 ^ j - 1 : Nat) : Int) = ((x % 2 ^ j : Nat) : Int) := by
  have h2 : 2 ^ j ≤ 2 ^ 64 := Nat.pow_le_pow_right (by decide) hj
  have h3 : 0 < 2 ^ j := Nat.two_pow_pos j
  have e : (2 : Nat) ^ 64 = W64 := by decide
  rw [and_u x _ hx (by omega), Nat.and_two_pow_sub_one_eq_mod]
theorem and1_u (x : Nat) (hx : x < W64) : bits .and .u64 (x : Int) 1 = ((x % 2 : Nat) : Int) := mask_u x 1 hx (by decide)
def bl (x : Nat) : Nat := if x = 0 then 0 else x.log2 + 1
theorem bl_zero : bl 0 = 0 := rfl
theorem bl_half (x : Nat) (h : x ≠ 0) : bl x = bl (x / 2) + 1 := by
  unfold bl
  rw [if_neg h]
  by_cases h2 : x / 2 = 0
  · have : x = 1 := by omega
    subst this; decide
  · rw [if_neg h2]
    congr 1
    rw [Nat.log2_eq_iff h]
    obtain ⟨l1, l2⟩ := (Nat.log2_eq_iff h2).1 rfl
    rw [Nat.pow_succ 2 ((x / 2).log2 + 1)]
    rw [Nat.pow_succ] at *
    omega
theorem bl_le (x j : Nat) (h : x < 2 ^ j) : bl x ≤ j := by
  unfold bl
  by_cases h0 : x = 0
  · rw [if_pos h0]; omega
  · rw [if_neg h0]; exact (Nat.log2_lt h0).2 h
theorem bl_two (hi lo : Nat) (h : hi ≠ 0) (hl : lo < W64) : bl (hi * W64 + lo) = 64 + bl hi := by
  have e : W64 = 2 ^ 64 := by decide
  have h1 : hi * W64 + lo ≠ 0 := by simp only [W64]; omega
  unfold bl
  rw [if_neg h, if_neg h1, ← Nat.add_assoc]
  congr 1
  rw [Nat.log2_eq_iff h1]
  obtain ⟨l1, l2⟩ := (Nat.log2_eq_iff h).1 rfl
  rw [show 64 + hi.log2 + 1 = hi.log2 + 1 + 64 from by omega, Nat.add_comm 64, Nat.pow_add 2 (hi.log2 + 1), Nat.pow_add, ← e]
  constructor
  · exact Nat.le_trans (Nat.mul_le_mul_right _ l1) (Nat.le_add_right _ _)
  · have : (hi + 1) * W64 ≤ 2 ^ (hi.log2 + 1) * W64 := Nat.mul_le_mul_right _ l2
    rw [Nat.add_mul, Nat.one_mul] at this
    omega
def two (hi lo : Nat) : Nat := hi * W64 + lo
theorem two_lt (hi lo : Nat) (h : hi < W64) (hl : lo < W64) : two hi lo < 2 ^ 128 := by
  have e : (2 : Nat) ^ 128 = W64 * W64 := by decide
  have : (hi + 1) * W64 ≤ W64 * W64 := Nat.mul_le_mul_right _ h
  rw [Nat.add_mul, Nat.one_mul] at this
  unfold two; rw [e]; omega
theorem two_div_low (hi lo k : Nat) (hl : lo < W64) (hk : k ≤ 64) : two hi lo / 2 ^ k % 2 ^ (64 - k) = lo / 2 ^ k := by
  have e : W64 = 2 ^ k * 2 ^ (64 - k) := by rw [← Nat.pow_add, show k + (64 - k) = 64 from by omega]
  unfold two
  rw [e, Nat.mul_left_comm, Nat.mul_comm (2 ^ k), Nat.add_comm, Nat.add_mul_div_right _ _ (Nat.two_pow_pos k), Nat.add_mul_mod_self_right]
  refine Nat.mod_eq_of_lt ?_
  rw [Nat.div_lt_iff_lt_mul (Nat.two_pow_pos k), Nat.mul_comm, ← e]; exact hl
theorem two_bit_low (hi lo k : Nat) (hl : lo < W64) (hk : k < 64) : two hi lo / 2 ^ k % 2 = lo / 2 ^ k % 2 := by
  have h := two_div_low hi lo k hl (by omega)
  have e : 2 ^ (64 - k) = 2 * 2 ^ (63 - k) := by rw [Nat.mul_comm, ← Nat.pow_succ]; congr 1; omega
  rw [← h, e, Nat.mod_mul_right_mod]
theorem two_div_high (hi lo k : Nat) (hl : lo < W64) (hk : 64 ≤ k) : two hi lo / 2 ^ k = hi / 2 ^ (k - 64) := by
  have e : 2 ^ k = W64 * 2 ^ (k - 64) := by rw [show W64 = 2 ^ 64 from by decide, ← Nat.pow_add]; congr 1; omega
  unfold two
  rw [e, ← Nat.div_div_eq_div_mul, Nat.add_comm, Nat.add_mul_div_right _ _ (by decide), Nat.div_eq_of_lt hl, Nat.zero_add]
end Go.FM
namespace Go.FM
open Go.RowKit
theorem or_add (r p j : Nat) (hp : p < 2 ^ j) : (r * 2 ^ j) ||| p = r * 2 ^ j + p := by
  rw [Nat.mul_comm, Nat.two_pow_add_eq_or_of_lt hp]
theorem mul_parts (a b c d p q r : Nat) (hp : p = b * d) (hq : q = a * d + p / 4294967296) (hr : r = b * c + q % 4294967296) :
    (a * 4294967296 + b) * (c * 4294967296 + d) = (a * c + q / 4294967296 + r / 4294967296) * W64 + (r % 4294967296 * 4294967296 + p % 4294967296) := by
  have e : (a * 4294967296 + b) * (c * 4294967296 + d) = a * c * 18446744073709551616 + (a * d + b * c) * 4294967296 + b * d := by
    rw [Nat.add_mul, Nat.mul_add, Nat.mul_add]
    have e1 : a * 4294967296 * (c * 4294967296) = a * c * 18446744073709551616 := by rw [Nat.mul_mul_mul_comm]
    have e2 : a * 4294967296 * d = a * d * 4294967296 := by rw [Nat.mul_right_comm]
    have e3 : b * (c * 4294967296) = b * c * 4294967296 := by rw [Nat.mul_assoc]
    rw [e1, e2, e3, Nat.add_mul]; omega
  rw [e, ← hp]
  simp only [W64]
  generalize a * c = ac at *
  generalize a * d = ad at *
  generalize b * c = bc at *
  generalize b * d = bd at *
  omega
theorem mul_bound (a d : Nat) (ha : a < 4294967296) (hd : d < 4294967296) : a * d ≤ 18446744065119617025 := by
  have : a * d ≤ 4294967295 * 4294967295 := Nat.mul_le_mul (by omega) (by omega)
  omega
theorem div_step (N y b : Nat) (hb : b < 2) (hy : 0 < y) :
    (2 * N + b) / y = 2 * (N / y) + (if y ≤ 2 * (N % y) + b then 1 else 0) ∧ (2 * N + b) % y = 2 * (N % y) + b - (if y ≤ 2 * (N % y) + b then y else 0) := by
  have h1 := Nat.div_add_mod N y
  have h2 := Nat.mod_lt N hy
  have e : 2 * N + b = (2 * (N % y) + b) + y * (2 * (N / y)) := by
    rw [Nat.mul_left_comm]
    generalize y * (N / y) = z at *
    generalize N % y = r at *
    omega
  generalize hr : N % y = r at *
  generalize N / y = q at *
  rw [e, Nat.add_mul_div_left _ _ hy, Nat.add_mul_mod_self_left]
  by_cases h : y ≤ 2 * r + b
  · rw [if_pos h, if_pos h]
    have e2 : 2 * r + b = (2 * r + b - y) + y * 1 := by omega
    have lt : 2 * r + b - y < y := by omega
    constructor
    · rw [e2, Nat.add_mul_div_left _ _ hy, Nat.div_eq_of_lt lt]; omega
    · conv => lhs; rw [e2, Nat.add_mul_mod_self_left, Nat.mod_eq_of_lt lt]
  · rw [if_neg h, if_neg h, Nat.div_eq_of_lt (by omega), Nat.mod_eq_of_lt (by omega)]
    omega
def lost (M k : Nat) : Int := if M % 2 ^ k = 0 then 2 else if 2 * (M % 2 ^ k) < 2 ^ k then -1 else if 2 * (M % 2 ^ k) = 2 ^ k then 0 else 1
theorem lost_at (M k : Nat) : lost M (k + 1) = if M / 2 ^ k % 2 = 1 then (if M % 2 ^ k = 0 then 0 else 1) else (if M % 2 ^ k = 0 then 2 else -1) := by
  have h := Nat.mod_pow_succ (x := M) (b := 2) (k := k)
  have hm : M % 2 ^ k < 2 ^ k := Nat.mod_lt _ (Nat.two_pow_pos k)
  have hp : 2 ^ (k + 1) = 2 * 2 ^ k := by rw [Nat.pow_succ, Nat.mul_comm]
  unfold lost
  rw [h, hp]
  have hb : M / 2 ^ k % 2 = 0 ∨ M / 2 ^ k % 2 = 1 := by omega
  generalize M / 2 ^ k % 2 = b at *
  generalize M % 2 ^ k = r at *
  generalize 2 ^ k = p at *
  rcases hb with rfl | rfl
  · rw [Nat.mul_zero, Nat.add_zero, if_neg (show ¬ (0 : Nat) = 1 by decide)]
    by_cases h0 : r = 0
    · rw [if_pos h0, if_pos h0]
    · rw [if_neg h0, if_neg h0, if_pos (by omega)]
  · rw [if_pos rfl, Nat.mul_one]
    by_cases h0 : r = 0
    · rw [if_pos h0, if_neg (by omega), if_neg (by omega), if_pos (by omega)]
    · rw [if_neg h0, if_neg (by omega), if_neg (by omega), if_neg (by omega)]
theorem low_some (M i : Nat) : (M % 2 ^ (i + 1) = 0) ↔ (M % 2 ^ i = 0 ∧ M / 2 ^ i % 2 = 0) := by
  have h := Nat.mod_pow_succ (x := M) (b := 2) (k := i)
  rw [h]
  have hp : 0 < 2 ^ i := Nat.two_pow_pos i
  constructor
  · intro h0
    have h1 : M % 2 ^ i = 0 := by omega
    have h2 : 2 ^ i * (M / 2 ^ i % 2) = 0 := by omega
    rcases Nat.mul_eq_zero.1 h2 with h3 | h3
    · omega
    · exact ⟨h1, h3⟩
  · rintro ⟨h1, h2⟩
    rw [h1, h2, Nat.mul_zero]
theorem two_down (hi lo j : Nat) (hhi : hi < W64) (hlo : lo < W64) (hj : j < 64) (h0 : 0 < j) :
    two hi lo / 2 ^ j / W64 = hi / 2 ^ j ∧ two hi lo / 2 ^ j % W64 = hi * 2 ^ (64 - j) % W64 + lo / 2 ^ j ∧ lo / 2 ^ j < 2 ^ (64 - j) ∧ hi * 2 ^ (64 - j) % W64 = hi % 2 ^ j * 2 ^ (64 - j) := by
  have e : W64 = 2 ^ j * 2 ^ (64 - j) := by rw [← Nat.pow_add, show j + (64 - j) = 64 from by omega]
  have p1 := Nat.two_pow_pos j
  have p2 := Nat.two_pow_pos (64 - j)
  have h1 : lo / 2 ^ j < 2 ^ (64 - j) := by rw [Nat.div_lt_iff_lt_mul p1, Nat.mul_comm, ← e]; exact hlo
  have h2 : two hi lo / 2 ^ j = hi * 2 ^ (64 - j) + lo / 2 ^ j := by
    unfold two
    rw [e, Nat.mul_left_comm, Nat.mul_comm (2 ^ j), Nat.add_comm, Nat.add_mul_div_right _ _ p1, Nat.add_comm]
  have h3 : hi * 2 ^ (64 - j) % W64 = hi % 2 ^ j * 2 ^ (64 - j) := by rw [e, Nat.mul_mod_mul_right]
  have h4 : hi % 2 ^ j < 2 ^ j := Nat.mod_lt _ p1
  have h5 : hi % 2 ^ j * 2 ^ (64 - j) + lo / 2 ^ j < W64 := by
    have : (hi % 2 ^ j + 1) * 2 ^ (64 - j) ≤ 2 ^ j * 2 ^ (64 - j) := Nat.mul_le_mul_right _ h4
    rw [Nat.add_mul, Nat.one_mul, ← e] at this
    omega
  have h6 : hi * 2 ^ (64 - j) + lo / 2 ^ j = (hi % 2 ^ j * 2 ^ (64 - j) + lo / 2 ^ j) + hi / 2 ^ j * W64 := by
    have := Nat.div_add_mod hi (2 ^ j)
    have e2 : hi * 2 ^ (64 - j) = (2 ^ j * (hi / 2 ^ j) + hi % 2 ^ j) * 2 ^ (64 - j) := by rw [this]
    rw [e2, Nat.add_mul, e, Nat.mul_comm (2 ^ j) (hi / 2 ^ j), Nat.mul_assoc]
    omega
  refine ⟨?_, ?_, h1, h3⟩
  · rw [h2, h6, Nat.add_mul_div_right _ _ (by decide), Nat.div_eq_of_lt h5, Nat.zero_add]
  · rw [h2, h6, Nat.add_mul_mod_self_right, Nat.mod_eq_of_lt h5, h3]
end Go.FM
namespace Go.FM
open Ieee
def byOf (f : Format) (M : Nat) (e : Int) : Int := max ((bl M : Int) - f.fractionBits - 1) (f.leastPlace - e)
theorem last_by (f : Format) (M : Nat) (e : Int) (h : M ≠ 0) : lastP f M e = e + byOf f M e := by
  unfold lastP byOf bl
  rw [if_neg h]
  omega
def kept (f : Format) (M : Nat) (e : Int) : Nat := keep (M * 2 ^ (-byOf f M e).toNat) (byOf f M e).toNat
theorem nearest_kept (f : Format) (neg : Bool) (M : Nat) (e : Int) (h : M ≠ 0) :
    f.nearest neg M e = f.word neg (min ((e + byOf f M e - f.leastPlace).toNat * f.binade + kept f M e) f.infRung) := by
  rw [nearest_eq f neg M e h, last_by f M e h]
  unfold kept
  rw [show e - (e + byOf f M e) = -byOf f M e from by omega, show e + byOf f M e - e = byOf f M e from by omega]
theorem keep_bounds (n d : Nat) : n / 2 ^ d ≤ keep n d ∧ keep n d ≤ n / 2 ^ d + 1 := by
  unfold keep; split <;> omega
theorem pow_bl (M : Nat) (h : M ≠ 0) : 2 ^ (bl M - 1) ≤ M ∧ M < 2 ^ bl M ∧ 1 ≤ bl M := by
  unfold bl; rw [if_neg h]
  obtain ⟨l1, l2⟩ := (Nat.log2_eq_iff h).1 rfl
  exact ⟨by simpa using l1, l2, by omega⟩
theorem kept_le (f : Format) (M : Nat) (e : Int) (h : M ≠ 0) : kept f M e ≤ 2 ^ (f.fractionBits + 1) := by
  obtain ⟨b1, b2, b3⟩ := pow_bl M h
  have hb : (bl M : Int) - f.fractionBits - 1 ≤ byOf f M e := by unfold byOf; omega
  unfold kept
  generalize byOf f M e = b at *
  rcases Int.le_total 0 b with h0 | h0
  · rw [show (-b).toNat = 0 from by omega, Nat.pow_zero, Nat.mul_one]
    refine Nat.le_trans (keep_bounds _ _).2 ?_
    have : M / 2 ^ b.toNat < 2 ^ (f.fractionBits + 1) := by
      rw [Nat.div_lt_iff_lt_mul (Nat.two_pow_pos _), ← Nat.pow_add]
      exact Nat.lt_of_lt_of_le b2 (Nat.pow_le_pow_right (by decide) (by omega))
    omega
  · rw [show b.toNat = 0 from by omega, keep_zero]
    have : M * 2 ^ (-b).toNat < 2 ^ bl M * 2 ^ (-b).toNat := Nat.mul_lt_mul_of_pos_right b2 (Nat.two_pow_pos _)
    rw [← Nat.pow_add] at this
    exact Nat.le_of_lt (Nat.lt_of_lt_of_le this (Nat.pow_le_pow_right (by decide) (by omega)))
theorem kept_small (f : Format) (M : Nat) (e : Int) (h : M ≠ 0) (hk : kept f M e < 2 ^ f.fractionBits) : e + byOf f M e = f.leastPlace := by
  obtain ⟨b1, b2, b3⟩ := pow_bl M h
  have hc : byOf f M e = (bl M : Int) - f.fractionBits - 1 ∨ byOf f M e = f.leastPlace - e := by unfold byOf; omega
  rcases hc with hc | hc
  · exfalso
    have hk2 : 2 ^ f.fractionBits ≤ kept f M e := by
      unfold kept
      rw [hc]
      rcases Nat.le_total (f.fractionBits + 1) (bl M) with h0 | h0
      · rw [show (-((bl M : Int) - f.fractionBits - 1)).toNat = 0 from by omega, Nat.pow_zero, Nat.mul_one]
        refine Nat.le_trans ?_ (keep_bounds _ _).1
        rw [Nat.le_div_iff_mul_le (Nat.two_pow_pos _), ← Nat.pow_add]
        exact Nat.le_trans (Nat.pow_le_pow_right (by decide) (by omega)) b1
      · rw [show ((bl M : Int) - f.fractionBits - 1).toNat = 0 from by omega, keep_zero]
        have : 2 ^ (bl M - 1) * 2 ^ (-((bl M : Int) - f.fractionBits - 1)).toNat ≤ M * 2 ^ (-((bl M : Int) - f.fractionBits - 1)).toNat := Nat.mul_le_mul_right _ b1
        rw [← Nat.pow_add] at this
        exact Nat.le_trans (Nat.pow_le_pow_right (by decide) (by omega)) this
    omega
  · omega
theorem keep_lost (M k : Nat) : keep M k = M / 2 ^ k + (if lost M k = 1 ∨ (lost M k = 0 ∧ M / 2 ^ k % 2 = 1) then 1 else 0) := by
  unfold keep
  congr 1
  apply ite_iff
  unfold lost
  have hp := Nat.two_pow_pos k
  generalize 2 ^ k = p at *
  generalize M % p = r at *
  by_cases h0 : r = 0
  · rw [if_pos h0]; omega
  · rw [if_neg h0]
    by_cases h1 : 2 * r < p
    · rw [if_pos h1]; omega
    · rw [if_neg h1]
      by_cases h2 : 2 * r = p
      · rw [if_pos h2]; omega
      · rw [if_neg h2]; omega
end Go.FM
namespace Go.FM
open Ieee
def val (f : Format) (r : Nat) : Nat := if r < f.binade then r else (f.binade + r % f.binade) * 2 ^ (r / f.binade - 1)
theorem binade_pos (f : Format) : 0 < f.binade := Nat.two_pow_pos _
theorem val_at (f : Format) (b q : Nat) (h : b = 0 ∨ f.binade ≤ q) (hq : q ≤ 2 * f.binade) : val f (b * f.binade + q) = q * 2 ^ b := by
  have hp := binade_pos f
  unfold val
  generalize f.binade = K at *
  rcases Nat.lt_or_ge q K with h1 | h1
  · have hb : b = 0 := by omega
    subst hb
    rw [Nat.zero_mul, Nat.zero_add, if_pos h1, Nat.pow_zero, Nat.mul_one]
  · have e : b * K + q = (q - K) + (b + 1) * K := by rw [Nat.add_mul, Nat.one_mul]; omega
    rw [if_neg (by rw [e, Nat.add_mul, Nat.one_mul]; omega)]
    rcases Nat.lt_or_ge q (2 * K) with h2 | h2
    · rw [e, Nat.add_mul_mod_self_right, Nat.mod_eq_of_lt (by omega), Nat.add_mul_div_right _ _ hp, Nat.div_eq_of_lt (by omega), Nat.zero_add, Nat.add_sub_cancel, Nat.add_comm K, Nat.sub_add_cancel h1]
    · have e2 : q = 2 * K := by omega
      subst e2
      have e3 : b * K + 2 * K = (b + 2) * K := by rw [Nat.add_mul]
      rw [e3, Nat.mul_mod_left, Nat.mul_div_cancel _ hp, Nat.add_zero, show b + 2 - 1 = b + 1 from rfl, Nat.pow_succ, Nat.mul_comm 2 K, Nat.mul_assoc, Nat.mul_comm 2]
theorem rung_parts (f : Format) (r : Nat) : ∃ b q, r = b * f.binade + q ∧ (b = 0 ∨ f.binade ≤ q) ∧ q < 2 * f.binade := by
  have hp := binade_pos f
  generalize f.binade = K at *
  refine ⟨r / K - 1, r - (r / K - 1) * K, ?_⟩
  have h1 := Nat.div_add_mod r K
  have h2 := Nat.mod_lt r hp
  rw [Nat.mul_comm] at h1
  generalize r / K = c at *
  generalize r % K = d at *
  rcases Nat.eq_zero_or_pos c with h | h
  · subst h
    rw [Nat.zero_mul, Nat.zero_add] at h1
    simp only [Nat.zero_sub, Nat.zero_mul, Nat.sub_zero, Nat.zero_add]
    exact ⟨trivial, Or.inl trivial, by omega⟩
  · obtain ⟨a, rfl⟩ : ∃ a, c = a + 1 := ⟨c - 1, by omega⟩
    rw [Nat.add_sub_cancel]
    rw [Nat.add_mul, Nat.one_mul] at h1
    exact ⟨by omega, by omega, by omega⟩
theorem val_succ (f : Format) (r : Nat) : val f r < val f (r + 1) := by
  obtain ⟨b, q, rfl, h1, h2⟩ := rung_parts f r
  rw [val_at f b q h1 (by omega), Nat.add_assoc, val_at f b (q + 1) (by omega) (by omega)]
  exact Nat.mul_lt_mul_of_pos_right (Nat.lt_succ_self q) (Nat.two_pow_pos b)
theorem val_lt (f : Format) {r s : Nat} (h : r < s) : val f r < val f s := by
  induction s with
  | zero => omega
  | succ s ih =>
    rcases Nat.lt_or_ge r s with h1 | h1
    · exact Nat.lt_trans (ih h1) (val_succ f s)
    · have : r = s := by omega
      subst this; exact val_succ f r
theorem val_le (f : Format) {r s : Nat} (h : r ≤ s) : val f r ≤ val f s := by
  rcases Nat.lt_or_ge r s with h1 | h1
  · exact Nat.le_of_lt (val_lt f h1)
  · have : r = s := by omega
    subst this; exact Nat.le_refl _
theorem val_lt_iff (f : Format) {r s : Nat} : val f r < val f s ↔ r < s :=
  ⟨fun h => by rcases Nat.lt_or_ge r s with h1 | h1; exact h1; have := val_le f h1; omega, val_lt f⟩
theorem val_inj (f : Format) {r s : Nat} (h : val f r = val f s) : r = s := by
  rcases Nat.lt_trichotomy r s with h1 | h1 | h1
  · have := val_lt f h1; omega
  · exact h1
  · have := val_lt f h1; omega
theorem val_zero (f : Format) : val f 0 = 0 := by unfold val; rw [if_pos (binade_pos f)]
theorem keep_up (n d q : Nat) (h : 2 * n < (2 * q + 1) * 2 ^ d) : keep n d ≤ q := by
  unfold keep
  have hp := Nat.two_pow_pos d
  have h1 := Nat.div_add_mod n (2 ^ d)
  have h2 := Nat.mod_lt n hp
  rw [Nat.add_mul, Nat.one_mul, Nat.mul_assoc] at h
  rw [Nat.mul_comm] at h1
  generalize n / 2 ^ d = c at *
  generalize n % 2 ^ d = r at *
  generalize 2 ^ d = p at *
  rcases Nat.lt_trichotomy c q with h3 | h3 | h3
  · split <;> omega
  · subst h3
    generalize c * p = y at *
    rw [if_neg (by omega)]; omega
  · have := Nat.mul_le_mul_right p h3
    rw [Nat.succ_mul] at this
    generalize c * p = y at *
    generalize q * p = z at *
    omega
theorem keep_down (n d q : Nat) (h : (2 * q + 1) * 2 ^ d < 2 * n) : q + 1 ≤ keep n d := by
  unfold keep
  have hp := Nat.two_pow_pos d
  have h1 := Nat.div_add_mod n (2 ^ d)
  have h2 := Nat.mod_lt n hp
  rw [Nat.add_mul, Nat.one_mul, Nat.mul_assoc] at h
  rw [Nat.mul_comm] at h1
  generalize n / 2 ^ d = c at *
  generalize n % 2 ^ d = r at *
  generalize 2 ^ d = p at *
  rcases Nat.lt_trichotomy c q with h3 | h3 | h3
  · have := Nat.mul_le_mul_right p h3
    rw [Nat.succ_mul] at this
    generalize c * p = y at *
    generalize q * p = z at *
    omega
  · subst h3
    generalize c * p = y at *
    rw [if_pos (by omega)]; omega
  · omega
def near (f : Format) (M : Nat) (e : Int) : Nat := if M = 0 then 0 else min ((e + byOf f M e - f.leastPlace).toNat * f.binade + kept f M e) f.infRung
theorem nearest_near (f : Format) (neg : Bool) (M : Nat) (e : Int) : f.nearest neg M e = f.word neg (near f M e) := by
  unfold near
  by_cases h : M = 0
  · rw [if_pos h, h, nearest_zero]
  · rw [if_neg h, nearest_kept f neg M e h]
theorem near_inf (f : Format) (M : Nat) (e : Int) : near f M e ≤ f.infRung := by
  unfold near; split
  · omega
  · exact Nat.min_le_right _ _
theorem near_zero (f : Format) (e : Int) : near f 0 e = 0 := by unfold near; rw [if_pos rfl]
theorem by_ge (f : Format) (M : Nat) (e : Int) : f.leastPlace - e ≤ byOf f M e := by unfold byOf; omega
theorem scales (f : Format) (M : Nat) (e : Int) :
    M * 2 ^ (e - f.leastPlace).toNat * 2 ^ (byOf f M e).toNat = M * 2 ^ (-byOf f M e).toNat * 2 ^ (e + byOf f M e - f.leastPlace).toNat * 2 ^ (f.leastPlace - e).toNat := by
  have h := by_ge f M e
  generalize byOf f M e = y at *
  generalize f.leastPlace = l at *
  rw [Nat.mul_assoc, Nat.mul_assoc, Nat.mul_assoc, ← Nat.pow_add, ← Nat.pow_add, ← Nat.pow_add]
  congr 2
  omega
theorem near_parts (f : Format) (M : Nat) (e : Int) (h : M ≠ 0) : ∃ b q n d : Nat, near f M e = min (b * f.binade + q) f.infRung ∧ q = keep n d ∧ (b = 0 ∨ f.binade ≤ q) ∧ q ≤ 2 * f.binade ∧
    M * 2 ^ (e - f.leastPlace).toNat * 2 ^ d = n * 2 ^ b * 2 ^ (f.leastPlace - e).toNat ∧ (b = 0 ∨ f.binade * 2 ^ d ≤ n) ∧ n < 2 * f.binade * 2 ^ d := by
  refine ⟨(e + byOf f M e - f.leastPlace).toNat, kept f M e, M * 2 ^ (-byOf f M e).toNat, (byOf f M e).toNat, ?_, rfl, ?_, ?_, scales f M e, ?_, ?_⟩
  · unfold near; rw [if_neg h]
  · rcases Nat.lt_or_ge (kept f M e) f.binade with h1 | h1
    · left; have := kept_small f M e h h1; omega
    · exact Or.inr h1
  · have := kept_le f M e h
    rw [Nat.pow_succ, Nat.mul_comm] at this
    exact this
  · obtain ⟨b1, b2, b3⟩ := pow_bl M h
    have hc : byOf f M e = (bl M : Int) - f.fractionBits - 1 ∨ byOf f M e = f.leastPlace - e := by unfold byOf; omega
    rcases hc with hc | hc
    · right
      show 2 ^ f.fractionBits * _ ≤ _
      rw [hc]
      refine Nat.le_trans ?_ (Nat.mul_le_mul_right _ b1)
      rw [← Nat.pow_add, ← Nat.pow_add]
      exact Nat.pow_le_pow_right (by decide) (by omega)
    · left; omega
  · obtain ⟨b1, b2, b3⟩ := pow_bl M h
    have hb : (bl M : Int) - f.fractionBits - 1 ≤ byOf f M e := by unfold byOf; omega
    show _ < 2 * 2 ^ f.fractionBits * _
    refine Nat.lt_of_lt_of_le (Nat.mul_lt_mul_of_pos_right b2 (Nat.two_pow_pos _)) ?_
    rw [Nat.mul_comm 2, ← Nat.pow_succ, ← Nat.pow_add, ← Nat.pow_add]
    exact Nat.pow_le_pow_right (by decide) (by omega)
theorem near_le (f : Format) (M : Nat) (e : Int) (r : Nat) (h : 2 * (M * 2 ^ (e - f.leastPlace).toNat) < (val f r + val f (r + 1)) * 2 ^ (f.leastPlace - e).toNat) : near f M e ≤ r := by
  by_cases h0 : M = 0
  · rw [h0, near_zero]; omega
  obtain ⟨b, q, n, d, e1, e2, h1, h2, e3, h3, h4⟩ := near_parts f M e h0
  rcases Nat.lt_or_ge r (near f M e) with hr | hr
  · exfalso
    have hb : r < b * f.binade + q := by rw [e1] at hr; omega
    have hv1 := val_le f (show r ≤ b * f.binade + q - 1 by omega)
    have hv2 := val_le f (show r + 1 ≤ b * f.binade + q by omega)
    rw [val_at f b q h1 h2] at hv2
    have hd := Nat.two_pow_pos d
    have hbp := Nat.two_pow_pos b
    have hlp := Nat.two_pow_pos (f.leastPlace - e).toNat
    have h5 : 2 * (n * 2 ^ b * 2 ^ (f.leastPlace - e).toNat) < (val f r + val f (r + 1)) * 2 ^ (f.leastPlace - e).toNat * 2 ^ d := by
      rw [← e3, ← Nat.mul_assoc]; exact Nat.mul_lt_mul_of_pos_right h hd
    have h6 : 2 * (n * 2 ^ b) < (val f r + val f (r + 1)) * 2 ^ d := by
      apply Nat.lt_of_mul_lt_mul_right (a := 2 ^ (f.leastPlace - e).toNat)
      rw [Nat.mul_right_comm _ (2 ^ d), Nat.mul_assoc 2 (n * 2 ^ b)]; exact h5
    clear h5 e3 hlp h e1 hr
    by_cases hc : b = 0 ∨ f.binade ≤ q - 1
    · by_cases hq : q = 0
      · have : b = 0 := by have := binade_pos f; omega
        subst hq; subst this; omega
      have e4 : b * f.binade + q - 1 = b * f.binade + (q - 1) := by omega
      rw [e4, val_at f b (q - 1) hc (by omega)] at hv1
      have h7 : 2 * (n * 2 ^ b) < (q - 1 + q) * 2 ^ b * 2 ^ d := by
        refine Nat.lt_of_lt_of_le h6 (Nat.mul_le_mul_right _ ?_)
        rw [Nat.add_mul]; omega
      have h8 : 2 * n < (2 * (q - 1) + 1) * 2 ^ d := by
        apply Nat.lt_of_mul_lt_mul_right (a := 2 ^ b)
        rw [Nat.mul_assoc, Nat.mul_right_comm, show 2 * (q - 1) + 1 = q - 1 + q from by omega]; exact h7
      have := keep_up n d (q - 1) h8
      omega
    · have hb0 : b ≠ 0 := fun h => hc (Or.inl h)
      have hq : q = f.binade := by omega
      rcases h3 with h3 | h3
      · exact hb0 h3
      have h9 : val f r + val f (r + 1) ≤ 2 * (q * 2 ^ b) := by
        have := val_le f (show r ≤ r + 1 by omega)
        omega
      have h10 := Nat.mul_le_mul_right (2 ^ d) h9
      have h11 := Nat.mul_le_mul_right (2 ^ b) h3
      rw [← hq] at h11
      rw [Nat.mul_assoc, Nat.mul_right_comm q] at h10
      omega
  · exact hr
theorem le_near (f : Format) (M : Nat) (e : Int) (r : Nat) (hr1 : r + 1 ≤ f.infRung) (h : (val f r + val f (r + 1)) * 2 ^ (f.leastPlace - e).toNat < 2 * (M * 2 ^ (e - f.leastPlace).toNat)) : r + 1 ≤ near f M e := by
  have h0 : M ≠ 0 := by rintro rfl; omega
  obtain ⟨b, q, n, d, e1, e2, h1, h2, e3, h3, h4⟩ := near_parts f M e h0
  rcases Nat.lt_or_ge (near f M e) (r + 1) with hr | hr
  · exfalso
    have hb : b * f.binade + q ≤ r := by rw [e1] at hr; omega
    have hv1 := val_le f hb
    have hv2 := val_le f (show b * f.binade + q + 1 ≤ r + 1 by omega)
    rw [val_at f b q h1 h2] at hv1
    have hd := Nat.two_pow_pos d
    have hbp := Nat.two_pow_pos b
    have h5 : (val f r + val f (r + 1)) * 2 ^ (f.leastPlace - e).toNat * 2 ^ d < 2 * (n * 2 ^ b * 2 ^ (f.leastPlace - e).toNat) := by
      rw [← e3, ← Nat.mul_assoc]; exact Nat.mul_lt_mul_of_pos_right h hd
    have h6 : (val f r + val f (r + 1)) * 2 ^ d < 2 * (n * 2 ^ b) := by
      apply Nat.lt_of_mul_lt_mul_right (a := 2 ^ (f.leastPlace - e).toNat)
      rw [Nat.mul_right_comm _ (2 ^ d), Nat.mul_assoc 2 (n * 2 ^ b)]; exact h5
    clear h5 e3 h e1 hr
    rcases Nat.lt_or_ge q (2 * f.binade) with hc | hc
    · rw [Nat.add_assoc, val_at f b (q + 1) (by omega) (by omega)] at hv2
      have h7 : (q + (q + 1)) * 2 ^ b * 2 ^ d < 2 * (n * 2 ^ b) := by
        refine Nat.lt_of_le_of_lt (Nat.mul_le_mul_right _ ?_) h6
        rw [Nat.add_mul]; omega
      have h8 : (2 * q + 1) * 2 ^ d < 2 * n := by
        apply Nat.lt_of_mul_lt_mul_right (a := 2 ^ b)
        rw [Nat.mul_assoc 2, Nat.mul_right_comm, show 2 * q + 1 = q + (q + 1) from by omega]; exact h7
      have := keep_down n d q h8
      omega
    · have hq : q = 2 * f.binade := by omega
      have h9 : 2 * (q * 2 ^ b) ≤ val f r + val f (r + 1) := by
        have := val_le f (show b * f.binade + q ≤ b * f.binade + q + 1 by omega)
        rw [val_at f b q h1 h2] at this
        omega
      have h10 := Nat.mul_le_mul_right (2 ^ d) h9
      have h11 := Nat.mul_lt_mul_of_pos_right h4 hbp
      rw [← hq, Nat.mul_right_comm q] at h11
      rw [Nat.mul_assoc] at h10
      omega
  · exact hr
theorem near_le_val (f : Format) (M : Nat) (e : Int) (r : Nat) (h : M * 2 ^ (e - f.leastPlace).toNat ≤ val f r * 2 ^ (f.leastPlace - e).toNat) : near f M e ≤ r := by
  refine near_le f M e r ?_
  have h1 := val_succ f r
  have h2 : val f r * 2 ^ (f.leastPlace - e).toNat < val f (r + 1) * 2 ^ (f.leastPlace - e).toNat := Nat.mul_lt_mul_of_pos_right h1 (Nat.two_pow_pos _)
  rw [Nat.add_mul]
  omega
theorem val_le_near (f : Format) (M : Nat) (e : Int) (r : Nat) (hr : r ≤ f.infRung) (h : val f r * 2 ^ (f.leastPlace - e).toNat ≤ M * 2 ^ (e - f.leastPlace).toNat) : r ≤ near f M e := by
  rcases r with _ | r
  · omega
  refine le_near f M e r hr ?_
  have h1 := val_succ f r
  have h2 : val f r * 2 ^ (f.leastPlace - e).toNat < val f (r + 1) * 2 ^ (f.leastPlace - e).toNat := Nat.mul_lt_mul_of_pos_right h1 (Nat.two_pow_pos _)
  rw [Nat.add_mul]
  omega
theorem near_val (f : Format) (M : Nat) (e : Int) (r : Nat) (hr : r ≤ f.infRung) (h : M * 2 ^ (e - f.leastPlace).toNat = val f r * 2 ^ (f.leastPlace - e).toNat) : near f M e = r :=
  Nat.le_antisymm (near_le_val f M e r (Nat.le_of_eq h)) (val_le_near f M e r hr (Nat.le_of_eq h.symm))
end Go.FM
namespace Go.FM
open Ieee
variable (f : Format)
def sg (x : Nat) : Bool := x / f.signWeight % 2 == 1
def rg (x : Nat) : Nat := x % f.signWeight
theorem sw_pos : 0 < f.signWeight := Nat.two_pow_pos _
theorem word_parts (x : Nat) (h : x < 2 * f.signWeight) : f.word (sg f x) (rg f x) = x := by
  unfold Format.word sg rg
  generalize f.signWeight = w at *
  rcases Nat.lt_or_ge x w with h1 | h1
  · rw [Nat.div_eq_of_lt h1, Nat.mod_eq_of_lt h1]; rfl
  · have e : x = (x - w) + 1 * w := by omega
    have d : x / w = 1 := by
      rw [e, Nat.add_mul_div_right _ _ (by omega), Nat.div_eq_of_lt (by omega)]
    have m : x % w = x - w := by
      rw [e, Nat.add_mul_mod_self_right, Nat.mod_eq_of_lt (by omega)]; omega
    rw [d, m]
    show (if (true : Bool) = true then _ else _) = _
    rw [if_pos rfl]; omega
theorem sg_word (s : Bool) (r : Nat) (h : r < f.signWeight) : sg f (f.word s r) = s := by
  unfold Format.word sg
  generalize f.signWeight = w at *
  cases s
  · simp [Nat.div_eq_of_lt h]
  · have : (w + r) / w = 1 := by
      rw [Nat.add_comm, ← Nat.one_mul w, show r + 1 * w = r + 1 * w from rfl]
      rw [Nat.one_mul, Nat.add_div_right _ (by omega), Nat.div_eq_of_lt h]
    simp [this]
theorem rg_word (s : Bool) (r : Nat) (h : r < f.signWeight) : rg f (f.word s r) = r := by
  unfold Format.word rg
  generalize f.signWeight = w at *
  cases s
  · simp [Nat.mod_eq_of_lt h]
  · simp [Nat.add_mod_left, Nat.mod_eq_of_lt h]
theorem rg_lt (x : Nat) : rg f x < f.signWeight := Nat.mod_lt _ (sw_pos f)
theorem word_bound (s : Bool) (r : Nat) (h : r < f.signWeight) : f.word s r < 2 * f.signWeight := by
  unfold Format.word; split <;> omega
def mag (r : Nat) : Nat := if r < f.binade then r else f.binade + r % f.binade
def plc (r : Nat) : Int := if r < f.binade then f.leastPlace else f.leastPlace + (r / f.binade - 1 : Nat)
theorem plc_ge (r : Nat) : f.leastPlace ≤ plc f r := by unfold plc; split <;> omega
theorem val_mag (r : Nat) : val f r = mag f r * 2 ^ (plc f r - f.leastPlace).toNat := by
  unfold val mag plc
  by_cases h : r < f.binade
  · rw [if_pos h, if_pos h, if_pos h, show (f.leastPlace - f.leastPlace).toNat = 0 from by omega, Nat.pow_zero, Nat.mul_one]
  · rw [if_neg h, if_neg h, if_neg h]; congr 2; omega
theorem mag_lt (r : Nat) : mag f r < 2 * f.binade := by
  have hp := binade_pos f
  have := Nat.mod_lt r hp
  unfold mag; split <;> omega
theorem mag_ge (r : Nat) : plc f r = f.leastPlace ∨ f.binade ≤ mag f r := by
  unfold mag plc; split
  · exact Or.inl rfl
  · right; omega
theorem mag_zero (r : Nat) : mag f r = 0 ↔ r = 0 := by
  have hp := binade_pos f
  unfold mag; split <;> omega
theorem read_raw (x : Nat) : f.read x = if rg f x < f.binade then .number (sg f x) (rg f x) f.leastPlace
    else if rg f x < f.infRung then .number (sg f x) (f.binade + rg f x % f.binade) (f.leastPlace + (rg f x / f.binade - 1 : Nat))
    else if rg f x = f.infRung then .infinity (sg f x) else .nan (sg f x) (rg f x - f.infRung) := rfl
theorem binade_le_inf (h : 2 ≤ f.exponentBits) : f.binade ≤ f.infRung := by
  unfold Format.infRung
  have : 2 ^ 2 ≤ 2 ^ f.exponentBits := Nat.pow_le_pow_right (by decide) h
  have h2 : 1 * f.binade ≤ (2 ^ f.exponentBits - 1) * f.binade := Nat.mul_le_mul_right _ (by omega)
  omega
theorem read_num (x : Nat) (h : rg f x < f.infRung) : f.read x = .number (sg f x) (mag f (rg f x)) (plc f (rg f x)) := by
  rw [read_raw]
  unfold mag plc
  by_cases h1 : rg f x < f.binade
  · rw [if_pos h1, if_pos h1, if_pos h1]
  · rw [if_neg h1, if_neg h1, if_neg h1, if_pos h]
theorem read_inf (hf : 2 ≤ f.exponentBits) (x : Nat) (h : rg f x = f.infRung) : f.read x = .infinity (sg f x) := by
  have := binade_le_inf f hf
  rw [read_raw, if_neg (by omega), if_neg (by omega), if_pos h]
theorem read_nan (hf : 2 ≤ f.exponentBits) (x : Nat) (h : f.infRung < rg f x) : f.read x = .nan (sg f x) (rg f x - f.infRung) := by
  have := binade_le_inf f hf
  rw [read_raw, if_neg (by omega), if_neg (by omega), if_neg (by omega)]
theorem near_read (r : Nat) (h : r ≤ f.infRung) : near f (mag f r) (plc f r) = r := by
  refine near_val f _ _ r h ?_
  have := plc_ge f r
  rw [val_mag, show (f.leastPlace - plc f r).toNat = 0 from by omega, Nat.pow_zero, Nat.mul_one]
theorem near_scale (M k : Nat) (e : Int) : near f (M * 2 ^ k) e = near f M (e + k) := by
  have h := nearest_scale f false M k e
  rw [nearest_near, nearest_near] at h
  exact h
theorem exact_rung (M : Nat) (e : Int) (hM : M < 2 * f.binade) (he : f.leastPlace ≤ e) : ∃ r, val f r = M * 2 ^ (e - f.leastPlace).toNat := by
  by_cases h0 : M = 0
  · exact ⟨0, by rw [h0, val_zero, Nat.zero_mul]⟩
  obtain ⟨b1, b2, b3⟩ := pow_bl M h0
  have hbl : bl M ≤ f.fractionBits + 1 := bl_le M _ (by rw [Nat.pow_succ, Nat.mul_comm]; exact hM)
  have hby : byOf f M e ≤ 0 := by unfold byOf; omega
  have hsc := scales f M e
  rw [show (byOf f M e).toNat = 0 from by omega, Nat.pow_zero, Nat.mul_one, show (f.leastPlace - e).toNat = 0 from by omega, Nat.pow_zero, Nat.mul_one] at hsc
  have hk : kept f M e = M * 2 ^ (-byOf f M e).toNat := by
    unfold kept; rw [show (byOf f M e).toNat = 0 from by omega, keep_zero]
  refine ⟨(e + byOf f M e - f.leastPlace).toNat * f.binade + kept f M e, ?_⟩
  have hkl := kept_le f M e h0
  rw [val_at f _ _ ?_ (by rw [Nat.pow_succ, Nat.mul_comm] at hkl; exact hkl), hk, hsc]
  rcases Nat.lt_or_ge (kept f M e) f.binade with h1 | h1
  · left; have := kept_small f M e h0 h1; omega
  · exact Or.inr h1
theorem val_near (M : Nat) (e : Int) (hM : M < 2 * f.binade) (he : f.leastPlace ≤ e) (hb : M * 2 ^ (e - f.leastPlace).toNat < val f f.infRung) :
    val f (near f M e) = M * 2 ^ (e - f.leastPlace).toNat ∧ near f M e < f.infRung := by
  obtain ⟨r, hr⟩ := exact_rung f M e hM he
  have hi : r < f.infRung := (val_lt_iff f).1 (by rw [hr]; exact hb)
  have := near_val f M e r (by omega) (by rw [hr, show (f.leastPlace - e).toNat = 0 from by omega, Nat.pow_zero, Nat.mul_one])
  rw [this]
  exact ⟨hr, hi⟩
def key (s : Bool) (r : Nat) : Int := if s then -(r : Int) else r
theorem cmp_congr {a b c d : Int} (h1 : a < b ↔ c < d) (h2 : a = b ↔ c = d) : compare a b = compare c d := by
  show compareOfLessAndEq a b = compareOfLessAndEq c d
  unfold compareOfLessAndEq
  by_cases h : a < b
  · rw [if_pos h, if_pos (h1.1 h)]
  · rw [if_neg h, if_neg (fun g => h (h1.2 g))]
    by_cases g : a = b
    · rw [if_pos g, if_pos (h2.1 g)]
    · rw [if_neg g, if_neg (fun k => g (h2.2 k))]
theorem cmp_lt {a b : Int} (h : a < b) : compare a b = .lt := by
  show compareOfLessAndEq a b = _; unfold compareOfLessAndEq; rw [if_pos h]
theorem cmp_eq {a b : Int} (h : a = b) : compare a b = .eq := by
  show compareOfLessAndEq a b = _; unfold compareOfLessAndEq; rw [if_neg (by omega), if_pos h]
theorem cmp_gt {a b : Int} (h : b < a) : compare a b = .gt := by
  show compareOfLessAndEq a b = _; unfold compareOfLessAndEq; rw [if_neg (by omega), if_neg (by omega)]
theorem signed_key (s : Bool) (m u : Nat) : Ieee.signed s m u = key s (m * 2 ^ u) := by
  unfold Ieee.signed key; rw [Nat.shiftLeft_eq]
theorem key_scale (s : Bool) (a k : Nat) : key s (a * 2 ^ k) = key s a * ((2 ^ k : Nat) : Int) := by
  unfold key; cases s
  · simp
  · simp [Int.neg_mul]
theorem key_val (s t : Bool) (r u : Nat) : (key s (val f r) < key t (val f u) ↔ key s r < key t u) ∧ (key s (val f r) = key t (val f u) ↔ key s r = key t u) := by
  have h1 : ∀ {a b : Nat}, val f a < val f b ↔ a < b := val_lt_iff f
  have h2 : ∀ {a b : Nat}, val f a = val f b ↔ a = b := ⟨val_inj f, fun h => by rw [h]⟩
  have h3 := val_zero f
  have h4 := @h1 r u
  have h5 := @h1 u r
  have h6 := @h2 r u
  have h7 := @h1 0 r
  have h8 := @h1 0 u
  rw [h3] at h7 h8
  unfold key
  cases s <;> cases t <;> simp only [if_true, if_false, Bool.false_eq_true] <;> omega
theorem order_num (x y : Nat) (hx : rg f x < f.infRung) (hy : rg f y < f.infRung) : f.order x y = some (compare (key (sg f x) (rg f x)) (key (sg f y) (rg f y))) := by
  unfold Format.order
  rw [read_num f x hx, read_num f y hy]
  unfold Datum.order
  dsimp only
  congr 1
  have p1 := plc_ge f (rg f x)
  have p2 := plc_ge f (rg f y)
  obtain ⟨k1, k2⟩ := key_val f (sg f x) (sg f y) (rg f x) (rg f y)
  rw [val_mag f (rg f x), val_mag f (rg f y)] at k1 k2
  generalize plc f (rg f x) = i at *
  generalize plc f (rg f y) = j at *
  generalize f.leastPlace = l at *
  have e1 : key (sg f x) (mag f (rg f x) * 2 ^ (i - l).toNat) = Ieee.signed (sg f x) (mag f (rg f x)) (i - min i j).toNat * ((2 ^ (min i j - l).toNat : Nat) : Int) := by
    rw [signed_key, ← key_scale, Nat.mul_assoc, ← Nat.pow_add]; congr 3; omega
  have e2 : key (sg f y) (mag f (rg f y) * 2 ^ (j - l).toNat) = Ieee.signed (sg f y) (mag f (rg f y)) (j - min i j).toNat * ((2 ^ (min i j - l).toNat : Nat) : Int) := by
    rw [signed_key, ← key_scale, Nat.mul_assoc, ← Nat.pow_add]; congr 3; omega
  rw [e1, e2] at k1 k2
  have hp : (0 : Int) < ((2 ^ (min i j - l).toNat : Nat) : Int) := by have := Nat.two_pow_pos (min i j - l).toNat; omega
  generalize ((2 ^ (min i j - l).toNat : Nat) : Int) = c at *
  refine cmp_congr (Iff.trans ?_ k1) (Iff.trans ?_ k2)
  · exact ⟨fun h => Int.mul_lt_mul_of_pos_right h hp, fun h => Int.lt_of_mul_lt_mul_right h (by omega)⟩
  · exact ⟨fun h => by rw [h], fun h => Int.eq_of_mul_eq_mul_right (by omega) h⟩
theorem order_key (hf : 2 ≤ f.exponentBits) (x y : Nat) (hx : rg f x ≤ f.infRung) (hy : rg f y ≤ f.infRung) : f.order x y = some (compare (key (sg f x) (rg f x)) (key (sg f y) (rg f y))) := by
  have hp : 0 < f.infRung := by have := binade_le_inf f hf; have := binade_pos f; omega
  rcases Nat.lt_or_ge (rg f x) f.infRung with h1 | h1 <;> rcases Nat.lt_or_ge (rg f y) f.infRung with h2 | h2
  · exact order_num f x y h1 h2
  · unfold Format.order
    have e : rg f y = f.infRung := by omega
    rw [read_num f x h1, read_inf f hf y e, e]
    unfold Datum.order key
    cases sg f y
    · simp only [Bool.false_eq_true, if_false]
      rw [cmp_lt (by split <;> omega)]
    · simp only [if_true]
      rw [cmp_gt (by split <;> omega)]
  · unfold Format.order
    have e : rg f x = f.infRung := by omega
    rw [read_inf f hf x e, read_num f y h2, e]
    unfold Datum.order key
    cases sg f x
    · simp only [Bool.false_eq_true, if_false]
      rw [cmp_gt (by split <;> omega)]
    · simp only [if_true]
      rw [cmp_lt (by split <;> omega)]
  · unfold Format.order
    have e : rg f x = f.infRung := by omega
    have e2 : rg f y = f.infRung := by omega
    rw [read_inf f hf x e, read_inf f hf y e2, e, e2]
    unfold Datum.order key
    cases sg f x <;> cases sg f y <;> simp only [Bool.false_eq_true, if_false, if_true]
    · rw [cmp_eq rfl]; rfl
    · rw [cmp_gt (by omega)]; rfl
    · rw [cmp_lt (by omega)]; rfl
    · rw [cmp_eq rfl]; rfl
theorem order_nan_l (hf : 2 ≤ f.exponentBits) (x y : Nat) (hx : f.infRung < rg f x) : f.order x y = none := by
  unfold Format.order; rw [read_nan f hf x hx]; rfl
theorem order_nan_r (hf : 2 ≤ f.exponentBits) (x y : Nat) (hy : f.infRung < rg f y) : f.order x y = none := by
  unfold Format.order; rw [read_nan f hf y hy]; cases f.read x <;> rfl
end Go.FM
namespace Go.FM
open Go.RowKit
theorem ofInt64 (x : Int) : (BitVec.ofInt 64 x).toNat = (x % 18446744073709551616).toNat := by
  rw [BitVec.toNat_ofInt]; rfl
theorem and_i64 (a b : Int) : bits .and .i64 a b = wrap64 (((a % 18446744073709551616).toNat &&& (b % 18446744073709551616).toNat : Nat) : Int) := by
  show IntKind.i64.wrap ((BitVec.ofInt 64 a &&& BitVec.ofInt 64 b).toNat : Int) = _
  rw [BitVec.toNat_and, ofInt64, ofInt64, IntKind.wrap_i64, wrap64]
theorem and_mask (x : Int) (j : Nat) (hj : j < 63) : bits .and .i64 x ((2 ^ j : Nat) - 1 : Int) = x % (2 ^ j : Nat) := by
  have hp : 2 ^ j ∣ 18446744073709551616 := by
    have e : j + (64 - j) = 64 := by omega
    have : (18446744073709551616 : Nat) = 2 ^ j * 2 ^ (64 - j) := by rw [← Nat.pow_add, e]
    exact ⟨_, this⟩
  have h1 : 2 ^ j < 2 ^ 63 := Nat.pow_lt_pow_right (by decide) hj
  have h0 : 0 < 2 ^ j := Nat.two_pow_pos j
  rw [and_i64]
  have e : (((2 ^ j : Nat) - 1 : Int) % 18446744073709551616).toNat = 2 ^ j - 1 := by
    generalize 2 ^ j = p at *; omega
  rw [e, Nat.and_two_pow_sub_one_eq_mod]
  have e2 : (((x % 18446744073709551616).toNat % 2 ^ j : Nat) : Int) = x % (2 ^ j : Nat) := by
    rw [Int.natCast_emod, Int.toNat_of_nonneg (Int.emod_nonneg _ (by decide))]
    exact Int.emod_emod_of_dvd _ (Int.natCast_dvd_natCast.mpr hp)
  rw [e2]
  have h2 := Int.emod_nonneg x (b := ((2 ^ j : Nat) : Int)) (by omega)
  have h3 := Int.emod_lt_of_pos x (b := ((2 ^ j : Nat) : Int)) (by omega)
  generalize 2 ^ j = p at *
  simp only [wrap64]
  omega
theorem and32 (x : Int) : bits .and .i64 x 4294967295 = x % 4294967296 := and_mask x 32 (by decide)
theorem and1 (x : Int) : bits .and .i64 x 1 = x % 2 := and_mask x 1 (by decide)
end Go.FM
