/- Plain mathematics of floats: a root by way of the wider format comes out as in the narrow one. -/
import Derived.Test.YtibfjlibkaejnaaFConv
namespace Go.FM
open Ieee
set_option linter.unusedVariables false

theorem root_parts (digits m : Nat) (i : Int) (hm : m ≠ 0) (hd : m.log2 ≤ 2 * digits) :
    ∃ (t w : Nat) (P : Int), Datum.root digits (.number false m i) = some (.number false (rs (m * 2 ^ t) w) (P - 1)) ∧ IsRoot (m * 2 ^ t) w ∧ i - t = 2 * P ∧ 2 * digits ≤ m.log2 + t ∧ m.log2 + t ≤ 2 * digits + 1 := by
  obtain ⟨t, ht⟩ : ∃ t : Nat, 2 * digits - m.log2 + ((i - ((2 * digits - m.log2 : Nat) : Int)) % 2).toNat = t := ⟨_, rfl⟩
  refine ⟨t, Datum.rootFrom (m * 2 ^ t) ((m * 2 ^ t).log2 / 2 + 1) 0, (i - t) / 2, ?_, rootFrom_root _, by omega, by omega, by omega⟩
  unfold Datum.root
  dsimp only
  rw [if_neg hm, if_neg (by decide)]
  rw [ht, Nat.shiftLeft_eq]
  generalize Datum.rootFrom (m * 2 ^ t) ((m * 2 ^ t).log2 / 2 + 1) 0 = w
  unfold rs
  by_cases h : w * w = m * 2 ^ t
  · rw [if_pos h, h]; simp
  · rw [if_neg h]
    have : (w * w != m * 2 ^ t) = true := by simp [h]
    rw [this]; rfl
theorem root_ge {n w a : Nat} (h : IsRoot n w) (hn : 2 ^ (2 * a) ≤ n) : 2 ^ a ≤ w := by
  refine sq_le (Nat.lt_of_le_of_lt ?_ h.2)
  rw [← Nat.pow_add, ← Nat.two_mul]; exact hn
theorem root_lt {n w a : Nat} (h : IsRoot n w) (hn : n < 2 ^ (2 * a)) : w < 2 ^ a := by
  rcases Nat.lt_or_ge w (2 ^ a) with h1 | h1
  · exact h1
  · have := Nat.mul_le_mul h1 h1
    rw [← Nat.pow_add, ← Nat.two_mul] at this
    have := h.1
    omega
theorem log2_pow {m k : Nat} (h : m ≠ 0) : 2 ^ (m.log2 + k) ≤ m * 2 ^ k ∧ m * 2 ^ k < 2 ^ (m.log2 + k + 1) := by
  obtain ⟨l1, l2⟩ := (Nat.log2_eq_iff h).1 rfl
  constructor
  · rw [Nat.pow_add]; exact Nat.mul_le_mul_right _ l1
  · rw [show m.log2 + k + 1 = m.log2 + 1 + k from by omega, Nat.pow_add]; exact Nat.mul_lt_mul_of_pos_right l2 (Nat.two_pow_pos k)
/-- more digits than are kept -/
theorem near_normal (f : Format) (M j : Nat) (e : Int) (h0 : M ≠ 0) (hb : bl M = f.fractionBits + 1 + j) (he : f.leastPlace ≤ e + j) :
    near f M e = min ((e + j - f.leastPlace).toNat * f.binade + keep M j) f.infRung ∧ val f ((e + j - f.leastPlace).toNat * f.binade + keep M j) = keep M j * 2 ^ (e + j - f.leastPlace).toNat := by
  have hby : byOf f M e = j := by unfold byOf; omega
  have hk : kept f M e = keep M j := by
    unfold kept; rw [hby, show (-(j : Int)).toNat = 0 from by omega, Nat.pow_zero, Nat.mul_one, show (j : Int).toNat = j from by omega]
  constructor
  · unfold near; rw [if_neg h0, hby, hk]
  · have h1 := kept_le f M e h0
    have h2 := kept_small f M e h0
    rw [hk] at h1 h2
    refine val_at f _ _ ?_ (by rw [Nat.pow_succ, Nat.mul_comm] at h1; exact h1)
    rcases Nat.lt_or_ge (keep M j) f.binade with h3 | h3
    · left; have := h2 h3; rw [hby] at this; omega
    · exact Or.inr h3
theorem root_by_wide (r : Nat) (h0 : 0 < r) (h : r < Ieee.single.infRung) :
    ∃ D m' p' W E m2 p2 z, Ieee.double.write (.number false (mag Ieee.single r) (plc Ieee.single r)) = D ∧ Ieee.double.read D = .number false m' p' ∧ Datum.root 54 (.number false m' p') = some W ∧ Ieee.double.write W = E ∧
      Ieee.double.read E = .number false m2 p2 ∧ Ieee.single.write (.number false m2 p2) = z ∧ (Datum.root 25 (.number false (mag Ieee.single r) (plc Ieee.single r))).map Ieee.single.write = some z ∧ (Ieee.single.read z).isInfinity = false := by
  have hm := mag_single r
  have hm0 : mag Ieee.single r ≠ 0 := by rw [Ne, mag_zero]; omega
  have hp := plc_single r h
  have hp0 := plc_ge Ieee.single r
  rw [least_single] at hp0
  generalize mag Ieee.single r = m at *
  generalize plc Ieee.single r = p at *
  have hlm : m.log2 ≤ 23 := by have := (Nat.log2_lt hm0).2 (show m < 2 ^ 24 from hm); omega
  obtain ⟨v1, i1⟩ := wide_exact m p (by omega) (by omega) (by omega)
  have hD : Ieee.double.write (.number false m p) = Ieee.double.word false (near Ieee.double m p) := nearest_near _ _ _ _
  have hR := read_wide false _ i1
  have q0 := plc_ge Ieee.double (near Ieee.double m p)
  have q1 := mag_ge Ieee.double (near Ieee.double m p)
  have q2 := mag_lt Ieee.double (near Ieee.double m p)
  rw [least_double] at q0 q1
  rw [show Ieee.double.binade = 2 ^ 52 from rfl] at q1 q2
  rw [val_wide] at v1
  generalize near Ieee.double m p = rD at *
  generalize mag Ieee.double rD = m' at *
  generalize plc Ieee.double rD = p' at *
  -- the wide one is normal
  have hbig : 2 ^ 53 ≤ m * 2 ^ (p + 1074).toNat := by
    refine Nat.le_trans (Nat.pow_le_pow_right (by decide) (show 53 ≤ (p + 1074).toNat by omega)) (Nat.le_mul_of_pos_left _ (by omega))
  have q3 : 2 ^ 52 ≤ m' := by
    rcases q1 with q1 | q1
    · exfalso
      rw [q1, show ((-1074 : Int) + 1074).toNat = 0 from by omega, Nat.pow_zero, Nat.mul_one] at v1
      omega
    · exact q1
  have hp2 : p' + 29 ≤ p := by
    rcases Int.lt_or_le p (p' + 29) with h1 | h1
    · exfalso
      have a1 : 2 ^ 52 * 2 ^ (p' + 1074).toNat ≤ m' * 2 ^ (p' + 1074).toNat := Nat.mul_le_mul_right _ q3
      have a2 : m * 2 ^ (p + 1074).toNat < 2 ^ (24 + (p + 1074).toNat) := pow_lt_of (show m < 2 ^ 24 from hm) _ (Nat.le_refl _)
      rw [← Nat.pow_add] at a1
      have a3 : 2 ^ (24 + (p + 1074).toNat) ≤ 2 ^ (52 + (p' + 1074).toNat) := Nat.pow_le_pow_right (by decide) (by omega)
      omega
    · exact h1
  have hp3 : p - 53 < p' := by
    rcases Int.lt_or_le (p - 53) p' with h1 | h1
    · exact h1
    · exfalso
      have a1 : m' * 2 ^ (p' + 1074).toNat < 2 ^ (53 + (p' + 1074).toNat) := pow_lt_of (show m' < 2 ^ 53 by omega) _ (Nat.le_refl _)
      have a2 : 2 ^ (p + 1074).toNat ≤ m * 2 ^ (p + 1074).toNat := Nat.le_mul_of_pos_left _ (by omega)
      have a3 : 2 ^ (53 + (p' + 1074).toNat) ≤ 2 ^ (p + 1074).toNat := Nat.pow_le_pow_right (by decide) (by omega)
      omega
  have em : m' = m * 2 ^ (p - p').toNat := by
    have : (p + 1074).toNat = (p - p').toNat + (p' + 1074).toNat := by omega
    rw [this, Nat.pow_add, ← Nat.mul_assoc] at v1
    exact Nat.eq_of_mul_eq_mul_right (Nat.two_pow_pos _) v1
  have hl' : m'.log2 = 52 := by rw [Nat.log2_eq_iff (by omega)]; omega
  obtain ⟨t, w, P, e1, e2, e3, e4, e5⟩ := root_parts 54 m' p' (by omega) (by omega)
  obtain ⟨t1, w1, P1, f1, f2, f3, f4, f5⟩ := root_parts 25 m p hm0 (by omega)
  rw [hl'] at e4 e5
  have en : m' * 2 ^ t = m * 2 ^ t1 * 2 ^ (2 * (P1 - P).toNat) := by
    rw [em, Nat.mul_assoc, Nat.mul_assoc, ← Nat.pow_add, ← Nat.pow_add]; congr 2; omega
  have hn0 := log2_pow (m := m') (k := t) (by omega)
  rw [hl'] at hn0
  have hn1 : 2 ^ (2 * 54) ≤ m' * 2 ^ t := Nat.le_trans (Nat.pow_le_pow_right (by decide) (by omega)) hn0.1
  have hn2 : m' * 2 ^ t < 2 ^ (2 * 55) := Nat.lt_of_lt_of_le hn0.2 (Nat.pow_le_pow_right (by decide) (by omega))
  have hw := root_ge e2 hn1
  have hw1 := root_lt e2 hn2
  have hm1 := log2_pow (m := m) (k := t1) hm0
  have hw2 : 2 ^ 25 ≤ w1 := root_ge f2 (Nat.le_trans (Nat.pow_le_pow_right (by decide) (by omega)) hm1.1)
  have hdv : 2 ^ 58 ∣ m' * 2 ^ t := by
    refine ⟨m * 2 ^ ((p - p').toNat + t - 58), ?_⟩
    rw [em, Nat.mul_left_comm, Nat.mul_assoc, ← Nat.pow_add, ← Nat.pow_add]; congr 2; omega
  have hrt := root_twice (m' * 2 ^ t) w (P - 1) e2 hdv hw hw1 (by omega)
  have hM0 : 2 ^ 55 ≤ rs (m' * 2 ^ t) w := by unfold rs; split <;> omega
  have hM1 : rs (m' * 2 ^ t) w < 2 ^ 56 := by unfold rs; split <;> omega
  have hbl : bl (rs (m' * 2 ^ t) w) = 56 := by
    unfold bl; rw [if_neg (by omega), (Nat.log2_eq_iff (k := 55) (by omega)).2 ⟨hM0, hM1⟩]
  have hnr : Ieee.single.nearest false (rs (m' * 2 ^ t) w) (P - 1) = Ieee.single.nearest false (rs (m * 2 ^ t1) w1) (P1 - 1) := by
    have e2' := e2
    rw [en] at e2' ⊢
    have := nearest_root Ieee.single false (m * 2 ^ t1) w1 w (P1 - P).toNat P1 f2 e2' (Nat.le_trans (by show 2 ^ 24 ≤ 2 ^ 25; omega) hw2)
    rw [show P1 - ((P1 - P).toNat : Int) - 1 = P - 1 from by omega] at this
    exact this
  obtain ⟨n1, n2⟩ := near_normal Ieee.double (rs (m' * 2 ^ t) w) 3 (P - 1) (by omega) (by rw [hbl]; rfl) (by rw [least_double]; omega)
  have hkk := (keep_near (rs (m' * 2 ^ t) w) 3).1
  rw [show (2 : Nat) ^ 3 = 8 from by decide] at hkk
  rw [least_double, show P - 1 + ((3 : Nat) : Int) - -1074 = P + 1076 from by omega] at n1 n2
  have hfin : (P + 1076).toNat * Ieee.double.binade + keep (rs (m' * 2 ^ t) w) 3 < Ieee.double.infRung := by
    refine (val_lt_iff Ieee.double).1 ?_
    obtain ⟨N, hN, hv⟩ := val_inf_double
    rw [n2, hv]
    exact pow_lt_of (a := 54) (by omega) _ (by omega)
  rw [Nat.min_eq_left (Nat.le_of_lt hfin)] at n1
  have hE : Ieee.double.write (.number false (rs (m' * 2 ^ t) w) (P - 1)) = Ieee.double.word false (near Ieee.double (rs (m' * 2 ^ t) w) (P - 1)) := nearest_near _ _ _ _
  have hRE := read_wide false (near Ieee.double (rs (m' * 2 ^ t) w) (P - 1)) (by rw [n1]; exact hfin)
  rw [← n1] at n2
  generalize near Ieee.double (rs (m' * 2 ^ t) w) (P - 1) = rE at *
  have q4 := plc_ge Ieee.double rE
  rw [least_double] at q4
  rw [val_wide] at n2
  have n3 : near Ieee.single (mag Ieee.double rE) (plc Ieee.double rE) = near Ieee.single (rs (m' * 2 ^ t) w) (P - 1) := by
    rw [← hrt]
    refine near_congr Ieee.single (-1074) (by omega) (by omega) ?_
    rw [show plc Ieee.double rE - -1074 = plc Ieee.double rE + 1074 from by omega, n2, show (P - 1 - -1074).toNat = (P + 1073).toNat from by omega, show (P + 1076).toNat = 3 + (P + 1073).toNat from by omega, Nat.pow_add, ← Nat.mul_assoc]
  refine ⟨_, m', p', _, _, mag Ieee.double rE, plc Ieee.double rE, _, hD, hR, e1, hE, hRE, rfl, ?_, ?_⟩
  · rw [f1]
    show some (Ieee.single.nearest false (rs (m * 2 ^ t1) w1) (P1 - 1)) = some (Ieee.single.nearest false _ _)
    rw [← hnr, nearest_near, nearest_near, n3]
  · show (Ieee.single.read (Ieee.single.nearest false _ _)).isInfinity = false
    have h2 := sw_single
    have i3 : near Ieee.single (rs (m' * 2 ^ t) w) (P - 1) ≤ 2139095039 := by
      refine near_le_val Ieee.single _ _ _ ?_
      rw [least_single, show ((-149 : Int) - (P - 1)).toNat = 0 from by omega, Nat.pow_zero, Nat.mul_one, show (P - 1 - -149).toNat = (P + 148).toNat from by omega]
      have a1 : rs (m' * 2 ^ t) w * 2 ^ (P + 148).toNat < 2 ^ 240 := pow_lt_of hM1 _ (by omega)
      have a2 : val Ieee.single (253 * Ieee.single.binade + (2 * Ieee.single.binade - 1)) = (2 * Ieee.single.binade - 1) * 2 ^ 253 := val_at Ieee.single 253 _ (Or.inr (by decide +kernel)) (by omega)
      rw [show 253 * Ieee.single.binade + (2 * Ieee.single.binade - 1) = 2139095039 from by decide +kernel] at a2
      have a3 : 2 ^ 240 ≤ (2 * Ieee.single.binade - 1) * 2 ^ 253 :=
        Nat.le_trans (Nat.pow_le_pow_right (by decide) (by decide)) (Nat.le_mul_of_pos_left _ (by decide +kernel))
      rw [a2]; exact Nat.le_of_lt (Nat.lt_of_lt_of_le a1 a3)
    have hi : Ieee.single.infRung = 2139095040 := by decide +kernel
    rw [nearest_near, n3, read_num Ieee.single _ (by rw [rg_word Ieee.single false _ (by omega)]; omega)]
    rfl
end Go.FM
