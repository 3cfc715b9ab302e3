/- Plain mathematics of floats: what a rung is worth; rounding to the nearest, by midpoints; rounding does not fall. -/
import Derived.Test.YtibfjlibkaejnabFMath3
namespace Go.FM
open Ieee
set_option linter.unusedVariables false

/-- what a rung is worth, in units of the least place -/
def val (f : Format) (r : Nat) : Nat := if r < f.binade then r else (f.binade + r % f.binade) * 2 ^ (r / f.binade - 1)
theorem binade_pos (f : Format) : 0 < f.binade := Nat.two_pow_pos _
theorem val_at (f : Format) (b q : Nat) (h : b = 0 ∨ f.binade ≤ q) (hq : q ≤ 2 * f.binade) : val f (b * f.binade + q) = q * 2 ^ b := by
  have hp := binade_pos f
  unfold val
  generalize f.binade = K at *
  rcases Nat.lt_or_ge q K with h1 | h1
  · have hb : b = 0 := by omega
    subst hb
    rw [Nat.zero_mul, Nat.zero_add, if_pos h1, Nat.pow_zero, Nat.mul_one]
  · have e : b * K + q = (q - K) + (b + 1) * K := by rw [Nat.add_mul, Nat.one_mul]; omega
    rw [if_neg (by rw [e, Nat.add_mul, Nat.one_mul]; omega)]
    rcases Nat.lt_or_ge q (2 * K) with h2 | h2
    · rw [e, Nat.add_mul_mod_self_right, Nat.mod_eq_of_lt (by omega), Nat.add_mul_div_right _ _ hp, Nat.div_eq_of_lt (by omega), Nat.zero_add, Nat.add_sub_cancel, Nat.add_comm K, Nat.sub_add_cancel h1]
    · have e2 : q = 2 * K := by omega
      subst e2
      have e3 : b * K + 2 * K = (b + 2) * K := by rw [Nat.add_mul]
      rw [e3, Nat.mul_mod_left, Nat.mul_div_cancel _ hp, Nat.add_zero, show b + 2 - 1 = b + 1 from rfl, Nat.pow_succ, Nat.mul_comm 2 K, Nat.mul_assoc, Nat.mul_comm 2]
/-- every rung, by its binade and what is kept -/
theorem rung_parts (f : Format) (r : Nat) : ∃ b q, r = b * f.binade + q ∧ (b = 0 ∨ f.binade ≤ q) ∧ q < 2 * f.binade := by
  have hp := binade_pos f
  generalize f.binade = K at *
  refine ⟨r / K - 1, r - (r / K - 1) * K, ?_⟩
  have h1 := Nat.div_add_mod r K
  have h2 := Nat.mod_lt r hp
  rw [Nat.mul_comm] at h1
  generalize r / K = c at *
  generalize r % K = d at *
  rcases Nat.eq_zero_or_pos c with h | h
  · subst h
    rw [Nat.zero_mul, Nat.zero_add] at h1
    simp only [Nat.zero_sub, Nat.zero_mul, Nat.sub_zero, Nat.zero_add]
    exact ⟨trivial, Or.inl trivial, by omega⟩
  · obtain ⟨a, rfl⟩ : ∃ a, c = a + 1 := ⟨c - 1, by omega⟩
    rw [Nat.add_sub_cancel]
    rw [Nat.add_mul, Nat.one_mul] at h1
    exact ⟨by omega, by omega, by omega⟩
theorem val_succ (f : Format) (r : Nat) : val f r < val f (r + 1) := by
  obtain ⟨b, q, rfl, h1, h2⟩ := rung_parts f r
  rw [val_at f b q h1 (by omega), Nat.add_assoc, val_at f b (q + 1) (by omega) (by omega)]
  exact Nat.mul_lt_mul_of_pos_right (Nat.lt_succ_self q) (Nat.two_pow_pos b)
theorem val_lt (f : Format) {r s : Nat} (h : r < s) : val f r < val f s := by
  induction s with
  | zero => omega
  | succ s ih =>
    rcases Nat.lt_or_ge r s with h1 | h1
    · exact Nat.lt_trans (ih h1) (val_succ f s)
    · have : r = s := by omega
      subst this; exact val_succ f r
theorem val_le (f : Format) {r s : Nat} (h : r ≤ s) : val f r ≤ val f s := by
  rcases Nat.lt_or_ge r s with h1 | h1
  · exact Nat.le_of_lt (val_lt f h1)
  · have : r = s := by omega
    subst this; exact Nat.le_refl _
theorem val_lt_iff (f : Format) {r s : Nat} : val f r < val f s ↔ r < s :=
  ⟨fun h => by rcases Nat.lt_or_ge r s with h1 | h1; exact h1; have := val_le f h1; omega, val_lt f⟩
theorem val_inj (f : Format) {r s : Nat} (h : val f r = val f s) : r = s := by
  rcases Nat.lt_trichotomy r s with h1 | h1 | h1
  · have := val_lt f h1; omega
  · exact h1
  · have := val_lt f h1; omega
theorem val_zero (f : Format) : val f 0 = 0 := by unfold val; rw [if_pos (binade_pos f)]
theorem val_pos (f : Format) {r : Nat} (h : 0 < r) : 0 < val f r := by have := val_lt f h; omega
/-! to the nearest -/
theorem keep_up (n d q : Nat) (h : 2 * n < (2 * q + 1) * 2 ^ d) : keep n d ≤ q := by
  unfold keep
  have hp := Nat.two_pow_pos d
  have h1 := Nat.div_add_mod n (2 ^ d)
  have h2 := Nat.mod_lt n hp
  rw [Nat.add_mul, Nat.one_mul, Nat.mul_assoc] at h
  rw [Nat.mul_comm] at h1
  generalize n / 2 ^ d = c at *
  generalize n % 2 ^ d = r at *
  generalize 2 ^ d = p at *
  rcases Nat.lt_trichotomy c q with h3 | h3 | h3
  · split <;> omega
  · subst h3
    generalize c * p = y at *
    rw [if_neg (by omega)]; omega
  · have := Nat.mul_le_mul_right p h3
    rw [Nat.succ_mul] at this
    generalize c * p = y at *
    generalize q * p = z at *
    omega
theorem keep_down (n d q : Nat) (h : (2 * q + 1) * 2 ^ d < 2 * n) : q + 1 ≤ keep n d := by
  unfold keep
  have hp := Nat.two_pow_pos d
  have h1 := Nat.div_add_mod n (2 ^ d)
  have h2 := Nat.mod_lt n hp
  rw [Nat.add_mul, Nat.one_mul, Nat.mul_assoc] at h
  rw [Nat.mul_comm] at h1
  generalize n / 2 ^ d = c at *
  generalize n % 2 ^ d = r at *
  generalize 2 ^ d = p at *
  rcases Nat.lt_trichotomy c q with h3 | h3 | h3
  · have := Nat.mul_le_mul_right p h3
    rw [Nat.succ_mul] at this
    generalize c * p = y at *
    generalize q * p = z at *
    omega
  · subst h3
    generalize c * p = y at *
    rw [if_pos (by omega)]; omega
  · omega
/-- the rung of what is nearest -/
def near (f : Format) (M : Nat) (e : Int) : Nat := if M = 0 then 0 else min ((e + byOf f M e - f.leastPlace).toNat * f.binade + kept f M e) f.infRung
theorem nearest_near (f : Format) (neg : Bool) (M : Nat) (e : Int) : f.nearest neg M e = f.word neg (near f M e) := by
  unfold near
  by_cases h : M = 0
  · rw [if_pos h, h, nearest_zero]
  · rw [if_neg h, nearest_kept f neg M e h]
theorem near_inf (f : Format) (M : Nat) (e : Int) : near f M e ≤ f.infRung := by
  unfold near; split
  · omega
  · exact Nat.min_le_right _ _
theorem near_zero (f : Format) (e : Int) : near f 0 e = 0 := by unfold near; rw [if_pos rfl]
theorem by_ge (f : Format) (M : Nat) (e : Int) : f.leastPlace - e ≤ byOf f M e := by unfold byOf; omega
/-- both sides of the scale -/
theorem scales (f : Format) (M : Nat) (e : Int) :
    M * 2 ^ (e - f.leastPlace).toNat * 2 ^ (byOf f M e).toNat = M * 2 ^ (-byOf f M e).toNat * 2 ^ (e + byOf f M e - f.leastPlace).toNat * 2 ^ (f.leastPlace - e).toNat := by
  have h := by_ge f M e
  generalize byOf f M e = y at *
  generalize f.leastPlace = l at *
  rw [Nat.mul_assoc, Nat.mul_assoc, Nat.mul_assoc, ← Nat.pow_add, ← Nat.pow_add, ← Nat.pow_add]
  congr 2
  omega
theorem near_parts (f : Format) (M : Nat) (e : Int) (h : M ≠ 0) : ∃ b q n d : Nat, near f M e = min (b * f.binade + q) f.infRung ∧ q = keep n d ∧ (b = 0 ∨ f.binade ≤ q) ∧ q ≤ 2 * f.binade ∧
    M * 2 ^ (e - f.leastPlace).toNat * 2 ^ d = n * 2 ^ b * 2 ^ (f.leastPlace - e).toNat ∧ (b = 0 ∨ f.binade * 2 ^ d ≤ n) ∧ n < 2 * f.binade * 2 ^ d := by
  refine ⟨(e + byOf f M e - f.leastPlace).toNat, kept f M e, M * 2 ^ (-byOf f M e).toNat, (byOf f M e).toNat, ?_, rfl, ?_, ?_, scales f M e, ?_, ?_⟩
  · unfold near; rw [if_neg h]
  · rcases Nat.lt_or_ge (kept f M e) f.binade with h1 | h1
    · left; have := kept_small f M e h h1; omega
    · exact Or.inr h1
  · have := kept_le f M e h
    rw [Nat.pow_succ, Nat.mul_comm] at this
    exact this
  · obtain ⟨b1, b2, b3⟩ := pow_bl M h
    have hc : byOf f M e = (bl M : Int) - f.fractionBits - 1 ∨ byOf f M e = f.leastPlace - e := by unfold byOf; omega
    rcases hc with hc | hc
    · right
      show 2 ^ f.fractionBits * _ ≤ _
      rw [hc]
      refine Nat.le_trans ?_ (Nat.mul_le_mul_right _ b1)
      rw [← Nat.pow_add, ← Nat.pow_add]
      exact Nat.pow_le_pow_right (by decide) (by omega)
    · left; omega
  · obtain ⟨b1, b2, b3⟩ := pow_bl M h
    have hb : (bl M : Int) - f.fractionBits - 1 ≤ byOf f M e := by unfold byOf; omega
    show _ < 2 * 2 ^ f.fractionBits * _
    refine Nat.lt_of_lt_of_le (Nat.mul_lt_mul_of_pos_right b2 (Nat.two_pow_pos _)) ?_
    rw [Nat.mul_comm 2, ← Nat.pow_succ, ← Nat.pow_add, ← Nat.pow_add]
    exact Nat.pow_le_pow_right (by decide) (by omega)
theorem cross {a b p q c : Nat} (hc : 0 < c) (h : a * c < b * c) : a < b := Nat.lt_of_mul_lt_mul_right h
/-- below the midpoint: not above -/
theorem near_le (f : Format) (M : Nat) (e : Int) (r : Nat) (h : 2 * (M * 2 ^ (e - f.leastPlace).toNat) < (val f r + val f (r + 1)) * 2 ^ (f.leastPlace - e).toNat) : near f M e ≤ r := by
  by_cases h0 : M = 0
  · rw [h0, near_zero]; omega
  obtain ⟨b, q, n, d, e1, e2, h1, h2, e3, h3, h4⟩ := near_parts f M e h0
  rcases Nat.lt_or_ge r (near f M e) with hr | hr
  · exfalso
    have hb : r < b * f.binade + q := by rw [e1] at hr; omega
    have hv1 := val_le f (show r ≤ b * f.binade + q - 1 by omega)
    have hv2 := val_le f (show r + 1 ≤ b * f.binade + q by omega)
    rw [val_at f b q h1 h2] at hv2
    have hd := Nat.two_pow_pos d
    have hbp := Nat.two_pow_pos b
    have hlp := Nat.two_pow_pos (f.leastPlace - e).toNat
    have h5 : 2 * (n * 2 ^ b * 2 ^ (f.leastPlace - e).toNat) < (val f r + val f (r + 1)) * 2 ^ (f.leastPlace - e).toNat * 2 ^ d := by
      rw [← e3, ← Nat.mul_assoc]; exact Nat.mul_lt_mul_of_pos_right h hd
    have h6 : 2 * (n * 2 ^ b) < (val f r + val f (r + 1)) * 2 ^ d := by
      apply Nat.lt_of_mul_lt_mul_right (a := 2 ^ (f.leastPlace - e).toNat)
      rw [Nat.mul_right_comm _ (2 ^ d), Nat.mul_assoc 2 (n * 2 ^ b)]; exact h5
    clear h5 e3 hlp h e1 hr
    by_cases hc : b = 0 ∨ f.binade ≤ q - 1
    · by_cases hq : q = 0
      · have : b = 0 := by have := binade_pos f; omega
        subst hq; subst this; omega
      have e4 : b * f.binade + q - 1 = b * f.binade + (q - 1) := by omega
      rw [e4, val_at f b (q - 1) hc (by omega)] at hv1
      have h7 : 2 * (n * 2 ^ b) < (q - 1 + q) * 2 ^ b * 2 ^ d := by
        refine Nat.lt_of_lt_of_le h6 (Nat.mul_le_mul_right _ ?_)
        rw [Nat.add_mul]; omega
      have h8 : 2 * n < (2 * (q - 1) + 1) * 2 ^ d := by
        apply Nat.lt_of_mul_lt_mul_right (a := 2 ^ b)
        rw [Nat.mul_assoc, Nat.mul_right_comm, show 2 * (q - 1) + 1 = q - 1 + q from by omega]; exact h7
      have := keep_up n d (q - 1) h8
      omega
    · have hb0 : b ≠ 0 := fun h => hc (Or.inl h)
      have hq : q = f.binade := by omega
      rcases h3 with h3 | h3
      · exact hb0 h3
      have h9 : val f r + val f (r + 1) ≤ 2 * (q * 2 ^ b) := by
        have := val_le f (show r ≤ r + 1 by omega)
        omega
      have h10 := Nat.mul_le_mul_right (2 ^ d) h9
      have h11 := Nat.mul_le_mul_right (2 ^ b) h3
      rw [← hq] at h11
      rw [Nat.mul_assoc, Nat.mul_right_comm q] at h10
      omega
  · exact hr
/-- above the midpoint: above -/
theorem le_near (f : Format) (M : Nat) (e : Int) (r : Nat) (hr1 : r + 1 ≤ f.infRung) (h : (val f r + val f (r + 1)) * 2 ^ (f.leastPlace - e).toNat < 2 * (M * 2 ^ (e - f.leastPlace).toNat)) : r + 1 ≤ near f M e := by
  have h0 : M ≠ 0 := by rintro rfl; omega
  obtain ⟨b, q, n, d, e1, e2, h1, h2, e3, h3, h4⟩ := near_parts f M e h0
  rcases Nat.lt_or_ge (near f M e) (r + 1) with hr | hr
  · exfalso
    have hb : b * f.binade + q ≤ r := by rw [e1] at hr; omega
    have hv1 := val_le f hb
    have hv2 := val_le f (show b * f.binade + q + 1 ≤ r + 1 by omega)
    rw [val_at f b q h1 h2] at hv1
    have hd := Nat.two_pow_pos d
    have hbp := Nat.two_pow_pos b
    have h5 : (val f r + val f (r + 1)) * 2 ^ (f.leastPlace - e).toNat * 2 ^ d < 2 * (n * 2 ^ b * 2 ^ (f.leastPlace - e).toNat) := by
      rw [← e3, ← Nat.mul_assoc]; exact Nat.mul_lt_mul_of_pos_right h hd
    have h6 : (val f r + val f (r + 1)) * 2 ^ d < 2 * (n * 2 ^ b) := by
      apply Nat.lt_of_mul_lt_mul_right (a := 2 ^ (f.leastPlace - e).toNat)
      rw [Nat.mul_right_comm _ (2 ^ d), Nat.mul_assoc 2 (n * 2 ^ b)]; exact h5
    clear h5 e3 h e1 hr
    rcases Nat.lt_or_ge q (2 * f.binade) with hc | hc
    · rw [Nat.add_assoc, val_at f b (q + 1) (by omega) (by omega)] at hv2
      have h7 : (q + (q + 1)) * 2 ^ b * 2 ^ d < 2 * (n * 2 ^ b) := by
        refine Nat.lt_of_le_of_lt (Nat.mul_le_mul_right _ ?_) h6
        rw [Nat.add_mul]; omega
      have h8 : (2 * q + 1) * 2 ^ d < 2 * n := by
        apply Nat.lt_of_mul_lt_mul_right (a := 2 ^ b)
        rw [Nat.mul_assoc 2, Nat.mul_right_comm, show 2 * q + 1 = q + (q + 1) from by omega]; exact h7
      have := keep_down n d q h8
      omega
    · have hq : q = 2 * f.binade := by omega
      have h9 : 2 * (q * 2 ^ b) ≤ val f r + val f (r + 1) := by
        have := val_le f (show b * f.binade + q ≤ b * f.binade + q + 1 by omega)
        rw [val_at f b q h1 h2] at this
        omega
      have h10 := Nat.mul_le_mul_right (2 ^ d) h9
      have h11 := Nat.mul_lt_mul_of_pos_right h4 hbp
      rw [← hq, Nat.mul_right_comm q] at h11
      rw [Nat.mul_assoc] at h10
      omega
  · exact hr
/-- not above a rung's worth: not above the rung -/
theorem near_le_val (f : Format) (M : Nat) (e : Int) (r : Nat) (h : M * 2 ^ (e - f.leastPlace).toNat ≤ val f r * 2 ^ (f.leastPlace - e).toNat) : near f M e ≤ r := by
  refine near_le f M e r ?_
  have h1 := val_succ f r
  have h2 : val f r * 2 ^ (f.leastPlace - e).toNat < val f (r + 1) * 2 ^ (f.leastPlace - e).toNat := Nat.mul_lt_mul_of_pos_right h1 (Nat.two_pow_pos _)
  rw [Nat.add_mul]
  omega
theorem val_le_near (f : Format) (M : Nat) (e : Int) (r : Nat) (hr : r ≤ f.infRung) (h : val f r * 2 ^ (f.leastPlace - e).toNat ≤ M * 2 ^ (e - f.leastPlace).toNat) : r ≤ near f M e := by
  rcases r with _ | r
  · omega
  refine le_near f M e r hr ?_
  have h1 := val_succ f r
  have h2 : val f r * 2 ^ (f.leastPlace - e).toNat < val f (r + 1) * 2 ^ (f.leastPlace - e).toNat := Nat.mul_lt_mul_of_pos_right h1 (Nat.two_pow_pos _)
  rw [Nat.add_mul]
  omega
/-- what is worth a rung rounds to it -/
theorem near_val (f : Format) (M : Nat) (e : Int) (r : Nat) (hr : r ≤ f.infRung) (h : M * 2 ^ (e - f.leastPlace).toNat = val f r * 2 ^ (f.leastPlace - e).toNat) : near f M e = r :=
  Nat.le_antisymm (near_le_val f M e r (Nat.le_of_eq h)) (val_le_near f M e r hr (Nat.le_of_eq h.symm))
end Go.FM
