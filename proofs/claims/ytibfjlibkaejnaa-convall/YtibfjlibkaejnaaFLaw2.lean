/- Plain mathematics of floats: what the statements' rules say of whole numbers and of roots. -/
import Derived.Test.YtibfjlibkaejnaaFLaw
namespace Go.FM
open Ieee
set_option linter.unusedVariables false

variable (f : Format)
/-- the whole number that a rung is cut to -/
def cutv (way : Toward) (s : Bool) (r : Nat) : Nat := way.cut s (mag f r <<< (plc f r).toNat) (-plc f r).toNat
theorem cutv_val (way : Toward) (s : Bool) (r : Nat) (hl : f.leastPlace ≤ 0) : cutv f way s r = pcut way s (val f r) (-f.leastPlace).toNat := by
  unfold cutv
  rw [cut_canon way s _ _ f.leastPlace hl (plc_ge f r), ← val_mag]
theorem whole_word (way : Toward) (s : Bool) (r : Nat) (h : r < f.infRung) : wholeW f way (f.word s r) = f.word s (near f (cutv f way s r) 0) := by
  have hs := Format.infRung_lt f
  unfold wholeW
  rw [if_neg (by unfold isN; rw [rg_word f s r (by omega)]; omega), read_num f _ (by rw [rg_word f s r (by omega)]; exact h), rg_word f s r (by omega), sg_word f s r (by omega)]
  show f.nearest s _ 0 = _
  rw [nearest_near]; rfl
/-- a whole number is written whole -/
theorem cutv_exact (way : Toward) (s : Bool) (r : Nat) (h : r < f.infRung) (hl : f.leastPlace ≤ 0) (hf1 : 1 ≤ f.fractionBits) (hbig : 2 * f.binade * 2 ^ (-f.leastPlace).toNat ≤ val f f.infRung) :
    val f (near f (cutv f way s r) 0) = cutv f way s r * 2 ^ (-f.leastPlace).toNat ∧ near f (cutv f way s r) 0 < f.infRung := by
  have hB : 2 ≤ f.binade := by
    have : 2 ^ 1 ≤ 2 ^ f.fractionBits := Nat.pow_le_pow_right (by decide) hf1
    rw [frac_two]; omega
  obtain ⟨c, k, e1, e2, e3⟩ := cut_form way s (mag f r) f.binade (plc f r) (mag_lt f r) hB
  have e1' : cutv f way s r = c * 2 ^ k := e1
  have hk : (k : Int) = 0 ∨ cutv f way s r * 2 ^ (-f.leastPlace).toNat = val f r := by
    rcases Int.lt_or_le 0 (plc f r) with h1 | h1
    · right
      rw [cutv_val f way s r hl, val_mag, show (plc f r - f.leastPlace).toNat = (plc f r).toNat + (-f.leastPlace).toNat from by omega, Nat.pow_add, ← Nat.mul_assoc]
      have := pcut_scale way s (mag f r * 2 ^ (plc f r).toNat) (-f.leastPlace).toNat 0
      rw [Nat.zero_add, pcut_zero] at this
      rw [this]
    · left; omega
  have hb : c * 2 ^ ((k : Int) - f.leastPlace).toNat < val f f.infRung := by
    rcases hk with hk | hk
    · rw [show ((k : Int) - f.leastPlace).toNat = (-f.leastPlace).toNat from by omega]
      exact Nat.lt_of_lt_of_le (Nat.mul_lt_mul_of_pos_right e2 (Nat.two_pow_pos _)) hbig
    · rw [show ((k : Int) - f.leastPlace).toNat = k + (-f.leastPlace).toNat from by omega, Nat.pow_add, ← Nat.mul_assoc, ← e1', hk]
      exact val_lt f h
  obtain ⟨v, i⟩ := val_near f c k e2 (by omega) hb
  have hn : near f (cutv f way s r) 0 = near f c k := by rw [e1', near_scale, Int.zero_add]
  rw [hn]
  refine ⟨?_, i⟩
  rw [v, e1', show ((k : Int) - f.leastPlace).toNat = k + (-f.leastPlace).toNat from by omega, Nat.pow_add, ← Nat.mul_assoc]
/-- a whole number stays -/
theorem whole_again (way way' : Toward) (s : Bool) (r : Nat) (h : r < f.infRung) (hl : f.leastPlace ≤ 0) (hf1 : 1 ≤ f.fractionBits) (hbig : 2 * f.binade * 2 ^ (-f.leastPlace).toNat ≤ val f f.infRung) :
    wholeW f way' (wholeW f way (f.word s r)) = wholeW f way (f.word s r) := by
  obtain ⟨v, i⟩ := cutv_exact f way s r h hl hf1 hbig
  rw [whole_word f way s r h, whole_word f way' s _ i, cutv_val f way' s _ hl, v]
  have := pcut_scale way' s (cutv f way s r) (-f.leastPlace).toNat 0
  rw [Nat.zero_add, pcut_zero] at this
  rw [this]
theorem pcut_cases (way : Toward) (s : Bool) (n d : Nat) : pcut way s n d = n / 2 ^ d ∨ (pcut way s n d = n / 2 ^ d + 1 ∧ n % 2 ^ d ≠ 0) := by
  unfold pcut
  cases h : addsOne way s (n / 2 ^ d) (n % 2 ^ d) (2 ^ d) with
  | false => left; rfl
  | true =>
    right
    refine ⟨rfl, ?_⟩
    intro h0
    rw [h0] at h
    have hp := Nat.two_pow_pos d
    unfold addsOne at h
    cases way <;> simp at h
theorem pcut_floor (n d : Nat) : pcut .zero false n d = n / 2 ^ d ∧ pcut .zero true n d = n / 2 ^ d ∧ pcut .down false n d = n / 2 ^ d ∧ pcut .up true n d = n / 2 ^ d := by
  unfold pcut addsOne; simp
theorem pcut_ceil (n d : Nat) : (pcut .up false n d = n / 2 ^ d + if n % 2 ^ d = 0 then 0 else 1) ∧ (pcut .down true n d = n / 2 ^ d + if n % 2 ^ d = 0 then 0 else 1) := by
  unfold pcut addsOne
  by_cases h : n % 2 ^ d = 0 <;> simp [h]
/-- down, up, cut, nearest of one number -/
theorem whole_about (s : Bool) (r : Nat) (h : r < f.infRung) (hl : f.leastPlace ≤ 0) :
    key s (near f (cutv f .down s r) 0) ≤ key s r ∧ key s r ≤ key s (near f (cutv f .up s r) 0) ∧ (cutv f .zero s r = cutv f .up s r ∨ cutv f .zero s r = cutv f .down s r) ∧ (cutv f .even s r = cutv f .up s r ∨ cutv f .even s r = cutv f .down s r) := by
  obtain ⟨c1, c2, c3, c4⟩ := pcut_floor (val f r) (-f.leastPlace).toNat
  obtain ⟨d1, d2⟩ := pcut_ceil (val f r) (-f.leastPlace).toNat
  have hcc := pcut_cases .even s (val f r) (-f.leastPlace).toNat
  have low : near f (val f r / 2 ^ (-f.leastPlace).toNat) 0 ≤ r := by
    refine near_le_val f _ _ _ ?_
    rw [show (0 - f.leastPlace).toNat = (-f.leastPlace).toNat from by omega, show (f.leastPlace - 0).toNat = 0 from by omega, Nat.pow_zero, Nat.mul_one]
    exact Nat.div_mul_le_self _ _
  have high : r ≤ near f (val f r / 2 ^ (-f.leastPlace).toNat + if val f r % 2 ^ (-f.leastPlace).toNat = 0 then 0 else 1) 0 := by
    refine val_le_near f _ _ _ (Nat.le_of_lt h) ?_
    rw [show (0 - f.leastPlace).toNat = (-f.leastPlace).toNat from by omega, show (f.leastPlace - 0).toNat = 0 from by omega, Nat.pow_zero, Nat.mul_one]
    have e := Nat.div_add_mod (val f r) (2 ^ (-f.leastPlace).toNat)
    have g := Nat.mod_lt (val f r) (Nat.two_pow_pos (-f.leastPlace).toNat)
    rw [Nat.mul_comm] at e
    generalize 2 ^ (-f.leastPlace).toNat = K at *
    split
    · rw [Nat.add_zero]
      generalize val f r / K * K = y at *
      omega
    · rw [Nat.add_mul, Nat.one_mul]
      generalize val f r / K * K = y at *
      omega
  rw [cutv_val f .down s r hl, cutv_val f .up s r hl, cutv_val f .zero s r hl, cutv_val f .even s r hl]
  cases s
  · rw [c1, c3, d1]
    refine ⟨?_, ?_, Or.inr rfl, ?_⟩
    · unfold key; simp only [Bool.false_eq_true, if_false]; omega
    · unfold key; simp only [Bool.false_eq_true, if_false]; omega
    · rcases hcc with h1 | ⟨h1, h2⟩
      · exact Or.inr h1
      · left; rw [h1, if_neg h2]
  · rw [c2, c4, d2]
    refine ⟨?_, ?_, Or.inl rfl, ?_⟩
    · unfold key; simp only [if_true]; omega
    · unfold key; simp only [if_true]; omega
    · rcases hcc with h1 | ⟨h1, h2⟩
      · exact Or.inl h1
      · right; rw [h1, if_neg h2]
/-! roots -/
theorem sqrt_parts (x : Nat) (h : rg f x < f.infRung) (h0 : 0 < rg f x) (hs : sg f x = false) :
    ∃ (t w : Nat) (P : Int), f.sqrt x = some (f.word false (near f (rs (mag f (rg f x) * 2 ^ t) w) (P - 1))) ∧ IsRoot (mag f (rg f x) * 2 ^ t) w ∧ plc f (rg f x) - t = 2 * P ∧ 2 ^ (f.fractionBits + 2) ≤ w ∧ w < 2 ^ (f.fractionBits + 3) ∧ (t : Int) ≤ 2 * f.fractionBits + 5 := by
  have hm0 : mag f (rg f x) ≠ 0 := by rw [Ne, mag_zero]; omega
  have hl := log2_le (mag_lt f (rg f x))
  obtain ⟨t, w, P, e1, e2, e3, e4, e5⟩ := root_parts (f.fractionBits + 2) (mag f (rg f x)) (plc f (rg f x)) hm0 (by omega)
  have hp := log2_pow (m := mag f (rg f x)) (k := t) hm0
  refine ⟨t, w, P, ?_, e2, e3, ?_, ?_, by omega⟩
  · unfold Format.sqrt
    rw [read_num f x h, hs, e1]
    show some (f.nearest false _ _) = _
    rw [nearest_near]
  · exact root_ge e2 (Nat.le_trans (Nat.pow_le_pow_right (by decide) (by omega)) hp.1)
  · exact root_lt e2 (Nat.lt_of_lt_of_le hp.2 (Nat.pow_le_pow_right (by decide) (by omega)))
/-- a root's word, and what lies beside it -/
theorem root_about (x R : Nat) (h : rg f x < f.infRung) (h0 : 0 < rg f x) (hs : sg f x = false) (hf : 2 ≤ f.exponentBits) (hl : f.leastPlace + 2 * f.fractionBits + 8 ≤ 0)
    (hR : f.sqrt x = some (f.word false R)) (hR1 : R ≤ f.infRung) :
    0 < R ∧ (R + 1 ≤ f.infRung → near f (mag f (R - 1) * mag f (R - 1)) (plc f (R - 1) + plc f (R - 1)) ≤ rg f x ∧ rg f x ≤ near f (mag f (R + 1) * mag f (R + 1)) (plc f (R + 1) + plc f (R + 1))) := by
  obtain ⟨t, w, P, e1, e2, e3, e4, e5, e6⟩ := sqrt_parts f x h h0 hs
  have hsw := Format.infRung_lt f
  have hni := near_inf f (rs (mag f (rg f x) * 2 ^ t) w) (P - 1)
  have eR : near f (rs (mag f (rg f x) * 2 ^ t) w) (P - 1) = R := by
    rw [e1] at hR
    have := congrArg (rg f) (Option.some.inj hR)
    rw [rg_word f false _ (by omega), rg_word f false R (by omega)] at this
    exact this
  have p0 := plc_ge f (rg f x)
  have hP : f.leastPlace ≤ P - 1 := by omega
  have p3 : (2 : Nat) ^ (f.fractionBits + 3) = 2 ^ (f.fractionBits + 2) * 2 := Nat.pow_succ ..
  have p4 : (2 : Nat) ^ (f.fractionBits + 4) = 2 ^ (f.fractionBits + 3) * 2 := Nat.pow_succ ..
  have hM0 : 2 ^ (f.fractionBits + 3) ≤ rs (mag f (rg f x) * 2 ^ t) w := by unfold rs; split <;> omega
  have hM1 : rs (mag f (rg f x) * 2 ^ t) w < 2 ^ (f.fractionBits + 4) := by unfold rs; split <;> omega
  have hpp := Nat.two_pow_pos (f.fractionBits + 3)
  have hbl : bl (rs (mag f (rg f x) * 2 ^ t) w) = f.fractionBits + 1 + 3 := by
    unfold bl; rw [if_neg (by omega), (Nat.log2_eq_iff (k := f.fractionBits + 3) (by omega)).2 ⟨hM0, hM1⟩]
  obtain ⟨n1, n2⟩ := near_normal f (rs (mag f (rg f x) * 2 ^ t) w) 3 (P - 1) (by omega) hbl (by omega)
  have hk1 : f.binade ≤ keep (rs (mag f (rg f x) * 2 ^ t) w) 3 := by
    refine Nat.le_trans ?_ (keep_bounds _ _).1
    rw [Nat.le_div_iff_mul_le (by decide), frac_two, ← Nat.pow_add]; exact hM0
  have n := e2
  rw [eR] at n1
  obtain ⟨b, hb⟩ : ∃ b, (P - 1 + ((3 : Nat) : Int) - f.leastPlace).toNat = b := ⟨_, rfl⟩
  rw [hb] at n1 n2
  have hbp := binade_pos f
  have hbi := binade_le_inf f hf
  have hRb : 0 < R := by rw [n1]; omega
  refine ⟨hRb, fun hR2 => ?_⟩
  have hRe : R = b * f.binade + keep (rs (mag f (rg f x) * 2 ^ t) w) 3 := by omega
  have q1 : P + 1 ≤ plc f (R - 1) := by
    unfold plc
    rcases Nat.lt_or_ge (R - 1) f.binade with h1 | h1
    · rw [if_pos h1]
      have hb0 : b = 0 := by
        rcases Nat.eq_zero_or_pos b with h2 | h2
        · exact h2
        · have := Nat.mul_le_mul_right f.binade h2
          omega
      omega
    · rw [if_neg (by omega)]
      have : b ≤ (R - 1) / f.binade := by rw [Nat.le_div_iff_mul_le hbp]; omega
      omega
  have q2 : P + 1 ≤ plc f (R + 1) := by
    unfold plc
    have : b + 1 ≤ (R + 1) / f.binade := by rw [Nat.le_div_iff_mul_le hbp, Nat.add_mul]; omega
    have h1 : f.binade ≤ R + 1 := by omega
    rw [if_neg (by omega)]
    omega
  have v0 : (f.leastPlace - (P - 1)).toNat = 0 := by omega
  -- the worth of a rung beside the root, by the root's own place
  have worth : ∀ r, P + 1 ≤ plc f r → val f r = 2 * (mag f r * 2 ^ (plc f r - P).toNat) * 2 ^ (P - 1 - f.leastPlace).toNat := by
    intro r hr
    rw [val_mag, show (plc f r - f.leastPlace).toNat = (plc f r - P).toNat + 1 + (P - 1 - f.leastPlace).toNat from by omega, Nat.pow_add, Nat.pow_add, Nat.pow_one, Nat.mul_comm 2, Nat.mul_assoc (mag f r), Nat.mul_assoc (mag f r)]
  have square : ∀ r, P + 1 ≤ plc f r → ∀ z, mag f r * mag f r * 2 ^ (plc f r + plc f r - f.leastPlace).toNat * 2 ^ (f.leastPlace - 2 * P).toNat * z = (mag f r * 2 ^ (plc f r - P).toNat) * (mag f r * 2 ^ (plc f r - P).toNat) * 2 ^ (2 * P - f.leastPlace).toNat * 2 ^ (f.leastPlace - (plc f r + plc f r)).toNat * z := by
    intro r hr z
    congr 1
    rw [Nat.mul_mul_mul_comm (mag f r) (2 ^ _)]
    generalize mag f r * mag f r = A
    rw [← Nat.pow_add, Nat.mul_assoc, Nat.mul_assoc, Nat.mul_assoc, ← Nat.pow_add, ← Nat.pow_add, ← Nat.pow_add]
    congr 2
    omega
  have xval : val f (rg f x) * 2 ^ (f.leastPlace - 2 * P).toNat = mag f (rg f x) * 2 ^ t * 2 ^ (2 * P - f.leastPlace).toNat := by
    rw [val_mag, Nat.mul_assoc, Nat.mul_assoc, ← Nat.pow_add, ← Nat.pow_add]
    congr 2
    omega
  have c1 := fun hh => near_le_val f (rs (mag f (rg f x) * 2 ^ t) w) (P - 1) (R - 1) hh
  have c2 := fun hh => val_le_near f (rs (mag f (rg f x) * 2 ^ t) w) (P - 1) (R + 1) hR2 hh
  rw [v0, Nat.pow_zero, Nat.mul_one] at c1 c2
  rw [eR] at c1 c2
  rw [worth _ q1] at c1
  rw [worth _ q2] at c2
  have hz := Nat.two_pow_pos (P - 1 - f.leastPlace).toNat
  have g1 : 2 * (mag f (R - 1) * 2 ^ (plc f (R - 1) - P).toNat) < rs (mag f (rg f x) * 2 ^ t) w := by
    rcases Nat.lt_or_ge (2 * (mag f (R - 1) * 2 ^ (plc f (R - 1) - P).toNat)) (rs (mag f (rg f x) * 2 ^ t) w) with h1 | h1
    · exact h1
    · have := c1 (Nat.mul_le_mul_right _ h1); omega
  have g2 : rs (mag f (rg f x) * 2 ^ t) w < 2 * (mag f (R + 1) * 2 ^ (plc f (R + 1) - P).toNat) := by
    rcases Nat.lt_or_ge (rs (mag f (rg f x) * 2 ^ t) w) (2 * (mag f (R + 1) * 2 ^ (plc f (R + 1) - P).toNat)) with h1 | h1
    · exact h1
    · have := c2 (Nat.mul_le_mul_right _ h1); omega
  obtain ⟨r1, r2⟩ := e2
  have u1 : mag f (R - 1) * 2 ^ (plc f (R - 1) - P).toNat * (mag f (R - 1) * 2 ^ (plc f (R - 1) - P).toNat) ≤ mag f (rg f x) * 2 ^ t := by
    have : mag f (R - 1) * 2 ^ (plc f (R - 1) - P).toNat ≤ w := by unfold rs at g1; split at g1 <;> omega
    exact Nat.le_trans (Nat.mul_le_mul this this) r1
  have u2 : mag f (rg f x) * 2 ^ t ≤ mag f (R + 1) * 2 ^ (plc f (R + 1) - P).toNat * (mag f (R + 1) * 2 ^ (plc f (R + 1) - P).toNat) := by
    unfold rs at g2
    by_cases hq : w * w = mag f (rg f x) * 2 ^ t
    · rw [if_pos hq] at g2
      have : w ≤ mag f (R + 1) * 2 ^ (plc f (R + 1) - P).toNat := by omega
      rw [← hq]; exact Nat.mul_le_mul this this
    · rw [if_neg hq] at g2
      have : w + 1 ≤ mag f (R + 1) * 2 ^ (plc f (R + 1) - P).toNat := by omega
      exact Nat.le_trans (Nat.le_of_lt r2) (Nat.mul_le_mul this this)
  constructor
  · refine near_le_val f _ _ _ ?_
    apply Nat.le_of_mul_le_mul_right (c := 2 ^ (f.leastPlace - 2 * P).toNat) _ (Nat.two_pow_pos _)
    have s1 := square (R - 1) q1 1
    rw [Nat.mul_one, Nat.mul_one] at s1
    rw [s1, Nat.mul_right_comm (val f (rg f x)), xval]
    exact Nat.mul_le_mul_right _ (Nat.mul_le_mul_right _ u1)
  · refine val_le_near f _ _ _ (Nat.le_of_lt h) ?_
    apply Nat.le_of_mul_le_mul_right (c := 2 ^ (f.leastPlace - 2 * P).toNat) _ (Nat.two_pow_pos _)
    have s1 := square (R + 1) q2 1
    rw [Nat.mul_one, Nat.mul_one] at s1
    rw [s1, Nat.mul_right_comm (val f (rg f x)), xval]
    exact Nat.mul_le_mul_right _ (Nat.mul_le_mul_right _ u2)
end Go.FM
