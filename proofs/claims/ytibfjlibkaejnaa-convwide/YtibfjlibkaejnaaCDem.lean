/- A float of 64 bits made narrower: from half a step beyond the greatest float of 32 bits on it is without end; below that a float is left. -/
import Derived.Test.YtibfjlibkaejnaaCCut
namespace Go.FM
open Ieee
set_option linter.unusedVariables false

theorem sum_last : ∃ n, n = 252 ∧ val single (single.infRung - 1) + val single (single.infRung - 1 + 1) = 2 * (33554431 * 2 ^ n) := by
  obtain ⟨b, hb⟩ : ∃ b, b = 253 := ⟨_, rfl⟩
  have h1 := val_at single b (2 * 2 ^ 23) (Or.inr (by show 2 ^ 23 ≤ 2 * 2 ^ 23; omega)) (Nat.le_refl _)
  have h2 := val_at single b (2 * 2 ^ 23 - 1) (Or.inr (by show 2 ^ 23 ≤ 2 * 2 ^ 23 - 1; omega)) (by show 2 * 2 ^ 23 - 1 ≤ 2 * 2 ^ 23; omega)
  rw [show b * single.binade + 2 * 2 ^ 23 = single.infRung - 1 + 1 from by subst hb; decide +kernel] at h1
  rw [show b * single.binade + (2 * 2 ^ 23 - 1) = single.infRung - 1 from by subst hb; decide +kernel] at h2
  refine ⟨252, rfl, ?_⟩
  rw [h1, h2, ← Nat.add_mul, show 2 * 2 ^ 23 - 1 + 2 * 2 ^ 23 = 33554431 from by decide, hb]
theorem val_end : ∃ n, n = 1177 ∧ val double 5183643170835005440 = 33554431 * 2 ^ n := by
  obtain ⟨b, hb⟩ : ∃ b, b = 1149 := ⟨_, rfl⟩
  have h1 := val_at double b (33554431 * 2 ^ 28) (Or.inr (by show 2 ^ 52 ≤ 33554431 * 2 ^ 28; omega)) (by show 33554431 * 2 ^ 28 ≤ 2 * 2 ^ 52; omega)
  rw [show b * double.binade + 33554431 * 2 ^ 28 = 5183643170835005440 from by subst hb; decide +kernel] at h1
  refine ⟨28 + b, by omega, ?_⟩
  rw [h1, Nat.mul_assoc, ← Nat.pow_add]
theorem scale_lt {M K A B C d : Nat} (h : C + B = A + d) : M * 2 ^ C < K * 2 ^ d ↔ M * 2 ^ A < K * 2 ^ B := by
  have e : M * 2 ^ C * 2 ^ B = M * 2 ^ A * 2 ^ d := by rw [Nat.mul_assoc, ← Nat.pow_add, h, Nat.pow_add, ← Nat.mul_assoc]
  have e2 : K * 2 ^ d * 2 ^ B = K * 2 ^ B * 2 ^ d := by rw [Nat.mul_assoc, Nat.mul_comm (2 ^ d), ← Nat.mul_assoc]
  constructor
  · intro g
    have := Nat.mul_lt_mul_of_pos_right g (Nat.two_pow_pos B)
    rw [e, e2] at this
    exact Nat.lt_of_mul_lt_mul_right this
  · intro g
    have := Nat.mul_lt_mul_of_pos_right g (Nat.two_pow_pos d)
    rw [← e, ← e2] at this
    exact Nat.lt_of_mul_lt_mul_right this
theorem scale_gt {M K A B C d : Nat} (h : C + B = A + d) : K * 2 ^ d < M * 2 ^ C ↔ K * 2 ^ B < M * 2 ^ A := by
  have e : M * 2 ^ C * 2 ^ B = M * 2 ^ A * 2 ^ d := by rw [Nat.mul_assoc, ← Nat.pow_add, h, Nat.pow_add, ← Nat.mul_assoc]
  have e2 : K * 2 ^ d * 2 ^ B = K * 2 ^ B * 2 ^ d := by rw [Nat.mul_assoc, Nat.mul_comm (2 ^ d), ← Nat.mul_assoc]
  constructor
  · intro g
    have := Nat.mul_lt_mul_of_pos_right g (Nat.two_pow_pos B)
    rw [e, e2] at this
    exact Nat.lt_of_mul_lt_mul_right this
  · intro g
    have := Nat.mul_lt_mul_of_pos_right g (Nat.two_pow_pos d)
    rw [← e, ← e2] at this
    exact Nat.lt_of_mul_lt_mul_right this
theorem end_split : ∃ d n, d = 925 ∧ n = 252 ∧ val double 5183643170835005440 = 33554431 * 2 ^ n * 2 ^ d ∧ val single (single.infRung - 1) + val single (single.infRung - 1 + 1) = 2 * (33554431 * 2 ^ n) := by
  obtain ⟨n, hn, h1⟩ := sum_last
  obtain ⟨m, hm, h2⟩ := val_end
  refine ⟨925, n, rfl, hn, ?_, h1⟩
  rw [h2, show m = n + 925 from by omega, Nat.pow_add, ← Nat.mul_assoc]
theorem inf_pos : 1 ≤ single.infRung := by decide +kernel
/-- below half a step beyond the greatest: a float is left -/
theorem dem_low (r : Nat) (h : r < 5183643170835005440) : near single (mag double r) (plc double r) < single.infRung := by
  obtain ⟨d, n, hd, hn, h1, h2⟩ := end_split
  have hv := val_lt double h
  rw [val_mag, h1, least_double] at hv
  have hp := plc_ge double r
  rw [least_double] at hp
  have hi := inf_pos
  have := near_le single (mag double r) (plc double r) (single.infRung - 1) (by
    rw [h2, least_single]
    generalize mag double r = M at *
    generalize plc double r = e at *
    have h3 := (scale_lt (M := M) (K := 33554431 * 2 ^ n) (A := (e - -149).toNat) (B := (-149 - e).toNat) (C := (e - -1074).toNat) (d := d) (by omega)).1 hv
    rw [Nat.mul_assoc 2]
    omega)
  omega
theorem dem_at : near single (mag double 5183643170835005440) (plc double 5183643170835005440) = single.infRung := by decide +kernel
/-- from there on: without end -/
theorem dem_high (r : Nat) (h : 5183643170835005440 ≤ r) : near single (mag double r) (plc double r) = single.infRung := by
  rcases Nat.lt_or_ge 5183643170835005440 r with g | g
  · obtain ⟨d, n, hd, hn, h1, h2⟩ := end_split
    have hv := val_lt double g
    rw [val_mag double r, h1, least_double] at hv
    have hp := plc_ge double r
    rw [least_double] at hp
    have hi := inf_pos
    have hn := near_inf single (mag double r) (plc double r)
    have := le_near single (mag double r) (plc double r) (single.infRung - 1) (by omega) (by
      rw [h2, least_single]
      generalize mag double r = M at *
      generalize plc double r = e at *
      have h3 := (scale_gt (M := M) (K := 33554431 * 2 ^ n) (A := (e - -149).toNat) (B := (-149 - e).toNat) (C := (e - -1074).toNat) (d := d) (by omega)).1 hv
      rw [Nat.mul_assoc 2]
      omega)
    omega
  · have : r = 5183643170835005440 := by omega
    rw [this]; exact dem_at
theorem end_sg : sg double 5183643170835005440 = false ∧ rg double 5183643170835005440 = 5183643170835005440 := by decide +kernel
theorem mend_sg : sg double 14407015207689781248 = true ∧ rg double 14407015207689781248 = 5183643170835005440 := by decide +kernel
theorem end_inf : 5183643170835005440 < double.infRung := by decide +kernel
/-- the order against the two bounds, and what comes of it -/
theorem dem_ways (x : Nat) (hx : x < 18446744073709551616) (hn : ¬ isN double x) :
    (∃ o, (o = .gt ∨ o = .eq) ∧ double.order x 5183643170835005440 = some o ∧ otherW double single x = 2139095040) ∨
    (double.order x 5183643170835005440 = some .lt ∧ ∃ o, (o = .lt ∨ o = .eq) ∧ double.order x 14407015207689781248 = some o ∧ otherW double single x = 4286578688) ∨
    (double.order x 5183643170835005440 = some .lt ∧ double.order x 14407015207689781248 = some .gt ∧ small x) := by
  have hn' := hn
  unfold isN at hn'
  have hi := end_inf
  have o1 := order_key double (by decide) x 5183643170835005440 (by omega) (by rw [end_sg.2]; omega)
  have o2 := order_key double (by decide) x 14407015207689781248 (by omega) (by rw [mend_sg.2]; omega)
  rw [end_sg.1, end_sg.2] at o1
  rw [mend_sg.1, mend_sg.2] at o2
  have hw : 5183643170835005440 ≤ rg double x → otherW double single x = single.word (sg double x) single.infRung := by
    intro g
    unfold otherW
    rw [if_neg hn]
    rcases Nat.lt_or_ge (rg double x) double.infRung with h1 | h1
    · rw [read_num double x h1]
      show single.nearest _ _ _ = _
      rw [nearest_near, dem_high _ g]
    · rw [read_inf double (by decide) x (by omega)]; rfl
  generalize sg double x = s at *
  rcases Nat.lt_or_ge (rg double x) 5183643170835005440 with h | h
  · right; right
    refine ⟨?_, ?_, fun _ => dem_low _ h⟩
    · rw [o1]; congr 1; apply cmp_lt; unfold key; cases s <;> simp only [if_true, if_false, Bool.false_eq_true] <;> omega
    · rw [o2]; congr 1; apply cmp_gt; unfold key; cases s <;> simp only [if_true, if_false, Bool.false_eq_true] <;> omega
  · rw [hw h]
    cases s
    · left
      refine ⟨_, ?_, o1, by decide +kernel⟩
      unfold key
      simp only [if_false, Bool.false_eq_true]
      rcases Nat.lt_or_ge 5183643170835005440 (rg double x) with g | g
      · exact Or.inl (cmp_gt (by omega))
      · exact Or.inr (cmp_eq (by omega))
    · right; left
      refine ⟨?_, _, ?_, o2, by decide +kernel⟩
      · rw [o1]; congr 1; apply cmp_lt; unfold key; simp only [if_true, if_false, Bool.false_eq_true]; omega
      · unfold key
        simp only [if_true]
        rcases Nat.lt_or_ge 5183643170835005440 (rg double x) with g | g
        · exact Or.inl (cmp_lt (by omega))
        · exact Or.inr (cmp_eq (by omega))
end Go.FM
