/- Plain mathematics of floats: quotients and roots to more or fewer digits round alike; sums of numbers far apart. -/
import Derived.Test.YtibfjlibkaejnaaFMath
namespace Go.FM
open Ieee
set_option linter.unusedVariables false

theorem ite_iff' {p q : Prop} [Decidable p] [Decidable q] (h : p ↔ q) : (if p then 0 else 1 : Nat) = if q then 0 else 1 := by
  by_cases hp : p
  · rw [if_pos hp, if_pos (h.1 hp)]
  · rw [if_neg hp, if_neg (fun hq => hp (h.2 hq))]
/-- a quotient's digits down to place -t, and one more, which is 1 where anything is left over -/
def qs (m n t : Nat) : Nat := 2 * (m * 2 ^ t / n) + (if m * 2 ^ t % n = 0 then 0 else 1)
theorem qs_half (m n t : Nat) : qs m n t / 2 = m * 2 ^ t / n := by unfold qs; split <;> omega
theorem qs_stick (m n t k : Nat) (hn : 0 < n) : stick (qs m n (t + k)) (k + 1) = qs m n t := by
  have hk : 0 < 2 ^ k := Nat.two_pow_pos k
  have d1 : qs m n (t + k) / 2 ^ (k + 1) = m * 2 ^ t / n := by
    rw [Nat.add_comm k 1, Nat.pow_add, ← Nat.div_div_eq_div_mul, Nat.pow_one, qs_half, Nat.pow_add, ← Nat.mul_assoc, Nat.div_div_eq_div_mul, Nat.mul_div_mul_right _ _ hk]
  have d2 : qs m n (t + k) % 2 ^ (k + 1) = 0 ↔ m * 2 ^ t % n = 0 := by
    have a1 : qs m n (t + k) % 2 ^ (k + 1) = qs m n (t + k) % 2 + 2 * (m * 2 ^ (t + k) / n % 2 ^ k) := by
      rw [Nat.add_comm k 1, Nat.pow_add, Nat.mod_mul, Nat.pow_one, qs_half]
    have a2 : qs m n (t + k) % 2 = if m * 2 ^ (t + k) % n = 0 then 0 else 1 := by unfold qs; split <;> omega
    have a3 : m * 2 ^ t % n * 2 ^ k = m * 2 ^ (t + k) % n + n * (m * 2 ^ (t + k) / n % 2 ^ k) := by
      rw [← Nat.mod_mul, Nat.pow_add, ← Nat.mul_assoc, Nat.mul_mod_mul_right]
    rw [a1, a2]
    generalize m * 2 ^ (t + k) % n = u at *
    generalize m * 2 ^ (t + k) / n % 2 ^ k = A at *
    generalize m * 2 ^ t % n = x at *
    constructor
    · intro h
      have hu : u = 0 := by
        by_cases hu : u = 0
        · exact hu
        · rw [if_neg hu] at h; omega
      have hA : A = 0 := by omega
      rw [hu, hA, Nat.mul_zero] at a3
      rcases Nat.mul_eq_zero.1 a3 with h | h
      · exact h
      · omega
    · intro h
      rw [h, Nat.zero_mul] at a3
      have hu : u = 0 := by omega
      have hA : n * A = 0 := by omega
      have hA' : A = 0 := by
        rcases Nat.mul_eq_zero.1 hA with h | h
        · omega
        · exact h
      rw [if_pos hu, hA']
  unfold stick
  rw [d1, ite_iff' d2]
  rfl
theorem nearest_quo (f : Format) (neg : Bool) (m n t k : Nat) (P : Int) (hn : 0 < n) (h : 2 ^ (f.fractionBits + 1) ≤ m * 2 ^ t / n) :
    f.nearest neg (qs m n (t + k)) (P - (t + k : Nat) - 1) = f.nearest neg (qs m n t) (P - t - 1) := by
  have h1 : 2 ^ (f.fractionBits + 1) ≤ qs m n (t + k) / 2 ^ (k + 1) := by
    have := congrArg (· / 2) (qs_stick m n t k hn)
    simp only [stick_half, qs_half] at this
    rw [this]; exact h
  rw [nearest_stick f neg _ (k + 1) _ h1, qs_stick m n t k hn]
  congr 1; omega
/-! roots -/
/-- r is the whole part of n's root -/
def IsRoot (n r : Nat) : Prop := r * r ≤ n ∧ n < (r + 1) * (r + 1)
/-- a root's digits, and one more, which is 1 where it is not the whole root -/
def rs (n r : Nat) : Nat := 2 * r + (if r * r = n then 0 else 1)
theorem rs_half (n r : Nat) : rs n r / 2 = r := by unfold rs; split <;> omega
theorem sq_le {a b : Nat} (h : a * a < (b + 1) * (b + 1)) : a ≤ b := by
  rcases Nat.lt_or_ge b a with h' | h'
  · have : (b + 1) * (b + 1) ≤ a * a := Nat.mul_le_mul h' h'
    omega
  · exact h'
theorem root_scale {n r r' k : Nat} (h : IsRoot n r) (h' : IsRoot (n * 2 ^ (2 * k)) r') : r' / 2 ^ k = r ∧ r * 2 ^ k ≤ r' := by
  have hk : 0 < 2 ^ k := Nat.two_pow_pos k
  have p : 2 ^ (2 * k) = 2 ^ k * 2 ^ k := by rw [Nat.two_mul, Nat.pow_add]
  have sq : ∀ a : Nat, a * 2 ^ k * (a * 2 ^ k) = a * a * 2 ^ (2 * k) := by
    intro a; rw [p, Nat.mul_mul_mul_comm]
  have h1 : r * 2 ^ k ≤ r' := by
    refine sq_le (Nat.lt_of_le_of_lt ?_ h'.2)
    rw [sq]; exact Nat.mul_le_mul_right _ h.1
  have h2 : r' < (r + 1) * 2 ^ k := by
    rcases Nat.lt_or_ge r' ((r + 1) * 2 ^ k) with h3 | h3
    · exact h3
    · have a1 := Nat.mul_le_mul h3 h3
      rw [sq] at a1
      have a2 : n * 2 ^ (2 * k) < (r + 1) * (r + 1) * 2 ^ (2 * k) := Nat.mul_lt_mul_of_pos_right h.2 (Nat.two_pow_pos _)
      have a3 := h'.1
      omega
  refine ⟨Nat.le_antisymm ?_ ?_, h1⟩
  · have := (Nat.div_lt_iff_lt_mul hk).2 h2
    omega
  · exact (Nat.le_div_iff_mul_le hk).2 h1
theorem rs_stick {n r r' k : Nat} (h : IsRoot n r) (h' : IsRoot (n * 2 ^ (2 * k)) r') : stick (rs (n * 2 ^ (2 * k)) r') (k + 1) = rs n r := by
  obtain ⟨d, hle⟩ := root_scale h h'
  have hk : 0 < 2 ^ k := Nat.two_pow_pos k
  have p : 2 ^ (2 * k) = 2 ^ k * 2 ^ k := by rw [Nat.two_mul, Nat.pow_add]
  have sq : ∀ a : Nat, a * 2 ^ k * (a * 2 ^ k) = a * a * 2 ^ (2 * k) := by
    intro a; rw [p, Nat.mul_mul_mul_comm]
  have d1 : rs (n * 2 ^ (2 * k)) r' / 2 ^ (k + 1) = r := by
    rw [Nat.add_comm k 1, Nat.pow_add, ← Nat.div_div_eq_div_mul, Nat.pow_one, rs_half, d]
  have d2 : rs (n * 2 ^ (2 * k)) r' % 2 ^ (k + 1) = 0 ↔ r * r = n := by
    have a1 : rs (n * 2 ^ (2 * k)) r' % 2 ^ (k + 1) = rs (n * 2 ^ (2 * k)) r' % 2 + 2 * (r' % 2 ^ k) := by
      rw [Nat.add_comm k 1, Nat.pow_add, Nat.mod_mul, Nat.pow_one, rs_half]
    have a2 : rs (n * 2 ^ (2 * k)) r' % 2 = if r' * r' = n * 2 ^ (2 * k) then 0 else 1 := by unfold rs; split <;> omega
    have a3 := Nat.div_add_mod r' (2 ^ k)
    rw [d, Nat.mul_comm] at a3
    rw [a1, a2]
    constructor
    · intro h
      have hu : r' * r' = n * 2 ^ (2 * k) := by
        by_cases hu : r' * r' = n * 2 ^ (2 * k)
        · exact hu
        · rw [if_neg hu] at h; omega
      have hA : r' % 2 ^ k = 0 := by omega
      rw [hA, Nat.add_zero] at a3
      rw [← a3, sq] at hu
      exact Nat.eq_of_mul_eq_mul_right (Nat.two_pow_pos _) hu
    · intro hr
      have e : r * 2 ^ k * (r * 2 ^ k) = n * 2 ^ (2 * k) := by rw [sq, hr]
      have hle' : r' ≤ r * 2 ^ k := by
        refine sq_le (Nat.lt_of_le_of_lt h'.1 ?_)
        rw [← e]; exact Nat.mul_lt_mul'' (Nat.lt_succ_self _) (Nat.lt_succ_self _)
      have er : r' = r * 2 ^ k := Nat.le_antisymm hle' hle
      rw [if_pos (by rw [er, e])]
      omega
  unfold stick
  rw [d1, ite_iff' d2]
  rfl
theorem nearest_root (f : Format) (neg : Bool) (n r r' k : Nat) (P : Int) (h : IsRoot n r) (h' : IsRoot (n * 2 ^ (2 * k)) r') (hr : 2 ^ (f.fractionBits + 1) ≤ r) :
    f.nearest neg (rs (n * 2 ^ (2 * k)) r') (P - k - 1) = f.nearest neg (rs n r) (P - 1) := by
  have h1 : 2 ^ (f.fractionBits + 1) ≤ rs (n * 2 ^ (2 * k)) r' / 2 ^ (k + 1) := by
    have := congrArg (· / 2) (rs_stick h h')
    simp only [stick_half, rs_half] at this
    rw [this]; exact hr
  rw [nearest_stick f neg _ (k + 1) _ h1, rs_stick h h']
  congr 1; omega
theorem rootFrom_is (n : Nat) : ∀ (todo root c : Nat), root = c * 2 ^ todo → root * root ≤ n → n < (root + 2 ^ todo) * (root + 2 ^ todo) → IsRoot n (Datum.rootFrom n todo root)
  | 0, root, c, hc, h1, h2 => ⟨h1, h2⟩
  | todo + 1, root, c, hc, h1, h2 => by
    unfold Datum.rootFrom
    dsimp only
    rw [Nat.shiftLeft_eq, Nat.one_mul]
    have p : 2 ^ (todo + 1) = 2 ^ todo + 2 ^ todo := by rw [Nat.pow_succ, Nat.mul_two]
    by_cases h : (root + 2 ^ todo) * (root + 2 ^ todo) ≤ n
    · rw [if_pos h]
      exact rootFrom_is n todo _ (2 * c + 1) (by rw [hc, Nat.pow_succ, Nat.add_mul, Nat.one_mul, Nat.mul_assoc 2, Nat.mul_comm 2, Nat.mul_assoc]) h (by rw [Nat.add_assoc, ← p]; exact h2)
    · rw [if_neg h]
      exact rootFrom_is n todo _ (2 * c) (by rw [hc, Nat.pow_succ, Nat.mul_comm 2, Nat.mul_assoc, Nat.mul_comm 2]) h1 (by omega)
theorem rootFrom_root (n : Nat) : IsRoot n (Datum.rootFrom n (n.log2 / 2 + 1) 0) := by
  refine rootFrom_is n _ 0 0 (by rw [Nat.zero_mul]) (Nat.zero_le _) ?_
  rw [Nat.zero_add, ← Nat.pow_add]
  refine Nat.lt_of_lt_of_le Nat.lt_log2_self (Nat.pow_le_pow_right (by decide) (by omega))
theorem root_one {n r s : Nat} (h : IsRoot n r) (h' : IsRoot n s) : r = s :=
  Nat.le_antisymm (sq_le (Nat.lt_of_le_of_lt h.1 h'.2)) (sq_le (Nat.lt_of_le_of_lt h'.1 h.2))
/-! sums of numbers that lie far apart -/
theorem stick_plus (a b k : Nat) (h0 : 0 < b) (h : b < 2 ^ k) : stick (a * 2 ^ k + b) k = 2 * a + 1 := by
  have hk : 0 < 2 ^ k := Nat.two_pow_pos k
  unfold stick
  rw [Nat.add_comm (a * 2 ^ k) b, Nat.add_mul_div_right _ _ hk, Nat.add_mul_mod_self_right, Nat.div_eq_of_lt h, Nat.mod_eq_of_lt h, if_neg (by omega), Nat.zero_add]
theorem stick_minus (a b k : Nat) (h0 : 0 < b) (h : b < 2 ^ k) (ha : 0 < a) : stick (a * 2 ^ k - b) k = 2 * (a - 1) + 1 := by
  obtain ⟨c, rfl⟩ : ∃ c, a = c + 1 := ⟨a - 1, by omega⟩
  have e : (c + 1) * 2 ^ k - b = c * 2 ^ k + (2 ^ k - b) := by rw [Nat.add_mul, Nat.one_mul]; omega
  rw [e, stick_plus c _ k (by omega) (by omega)]; rfl
theorem far_plus (f : Format) (neg : Bool) (a b by1 : Nat) (e : Int) (hf : f.fractionBits ≤ 52) (ha : 2 ^ f.fractionBits ≤ a) (hb0 : 0 < b) (hb : b < 2 ^ 53) (hby : 70 < by1) :
    f.nearest neg (a * 2 ^ by1 + b) e = f.nearest neg (a * 2 ^ 70 + 1) (e + by1 - 70) := by
  have hb' : b < 2 ^ (by1 - 10) := Nat.lt_of_lt_of_le hb (Nat.pow_le_pow_right (by decide) (by omega))
  have e1 : a * 2 ^ by1 = a * 2 ^ 10 * 2 ^ (by1 - 10) := by rw [Nat.mul_assoc, ← Nat.pow_add]; congr 2; omega
  have e2 : a * 2 ^ 70 = a * 2 ^ 10 * 2 ^ 60 := by rw [Nat.mul_assoc, ← Nat.pow_add]
  have big : 2 ^ (f.fractionBits + 1) ≤ a * 2 ^ 10 := by
    rw [Nat.pow_succ]; exact Nat.mul_le_mul ha (by decide)
  have s1 := stick_plus (a * 2 ^ 10) b (by1 - 10) hb0 hb'
  have s2 := stick_plus (a * 2 ^ 10) 1 60 (by decide) (by decide)
  rw [e1, e2]
  refine (nearest_stick f neg _ (by1 - 10) e (by rw [← stick_half, s1]; omega)).trans (Eq.trans ?_ (nearest_stick f neg _ 60 _ (by rw [← stick_half, s2]; omega)).symm)
  rw [s1, s2]
  congr 1; omega
theorem far_minus (f : Format) (neg : Bool) (a b by1 : Nat) (e : Int) (hf : f.fractionBits ≤ 52) (ha : 2 ^ f.fractionBits ≤ a) (hb0 : 0 < b) (hb : b < 2 ^ 53) (hby : 70 < by1) :
    f.nearest neg (a * 2 ^ by1 - b) e = f.nearest neg (a * 2 ^ 70 - 1) (e + by1 - 70) := by
  have hb' : b < 2 ^ (by1 - 10) := Nat.lt_of_lt_of_le hb (Nat.pow_le_pow_right (by decide) (by omega))
  have e1 : a * 2 ^ by1 = a * 2 ^ 10 * 2 ^ (by1 - 10) := by rw [Nat.mul_assoc, ← Nat.pow_add]; congr 2; omega
  have e2 : a * 2 ^ 70 = a * 2 ^ 10 * 2 ^ 60 := by rw [Nat.mul_assoc, ← Nat.pow_add]
  have hp : 0 < 2 ^ f.fractionBits := Nat.two_pow_pos _
  have big : 2 ^ (f.fractionBits + 1) ≤ a * 2 ^ 10 - 1 := by
    rw [Nat.pow_succ]
    have h10 : (2 : Nat) ^ 10 = 1024 := by decide
    rw [h10]
    generalize 2 ^ f.fractionBits = z at *
    clear e1 e2 hb hb' hf
    omega
  have pos : 0 < a * 2 ^ 10 := by omega
  have s1 := stick_minus (a * 2 ^ 10) b (by1 - 10) hb0 hb' pos
  have s2 := stick_minus (a * 2 ^ 10) 1 60 (by decide) (by decide) pos
  rw [e1, e2]
  refine (nearest_stick f neg _ (by1 - 10) e (by rw [← stick_half, s1]; omega)).trans (Eq.trans ?_ (nearest_stick f neg _ 60 _ (by rw [← stick_half, s2]; omega)).symm)
  rw [s1, s2]
  congr 1; omega
end Go.FM
