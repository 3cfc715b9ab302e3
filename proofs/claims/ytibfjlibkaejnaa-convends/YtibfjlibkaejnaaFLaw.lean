/- Plain mathematics of floats: what the statements' rules say of sums, products, quotients, comparisons. -/
import Derived.Test.YtibfjlibkaejnaaFOps
namespace Go.FM
open Ieee
set_option linter.unusedVariables false

variable (f : Format)
theorem sum_comm (a b : Datum) : a.sum b = b.sum a := by
  cases a <;> cases b <;> simp only [Datum.sum]
  · rename_i s m i t n j
    rw [Int.min_comm i j, Int.add_comm (Ieee.signed s m _), Bool.and_comm s t]
  · rename_i s t
    by_cases h : s = t
    · subst h; rfl
    · rw [if_neg h, if_neg (fun g => h g.symm)]
theorem product_comm (a b : Datum) : a.product b = b.product a := by
  cases a <;> cases b <;> simp only [Datum.product]
  · rename_i s m i t n j
    rw [Bool.xor_comm s t, Nat.mul_comm m n, Int.add_comm i j]
  · rename_i s t
    rw [Bool.xor_comm s t]
theorem add_comm (x y : Nat) : f.add x y = f.add y x := by unfold Format.add; rw [sum_comm]
theorem mul_comm (x y : Nat) : f.mul x y = f.mul y x := by unfold Format.mul; rw [product_comm]
theorem add_nan (hf : 2 ≤ f.exponentBits) (x y : Nat) (h : isN f x) : f.add x y = none := by
  unfold Format.add; rw [read_nan f hf x h]; rfl
theorem sub_nan (hf : 2 ≤ f.exponentBits) (x y : Nat) (h : isN f x) : f.sub x y = none := by
  unfold Format.sub; rw [read_nan f hf x h]; rfl
theorem mul_nan (hf : 2 ≤ f.exponentBits) (x y : Nat) (h : isN f x) : f.mul x y = none := by
  unfold Format.mul; rw [read_nan f hf x h]; rfl
theorem div_nan (hf : 2 ≤ f.exponentBits) (x y : Nat) (h : isN f x) : f.div x y = none := by
  unfold Format.div; rw [read_nan f hf x h]; rfl
/-- a word that is a number, whole -/
theorem write_word (s : Bool) (M : Nat) (e : Int) (x : Nat) (hx : x < 2 * f.signWeight) (hs : sg f x = s) (hn : near f M e = rg f x) : f.write (.number s M e) = x := by
  show f.nearest s M e = x
  rw [nearest_near, hn, ← hs, word_parts f x hx]
theorem fin_or_inf (x : Nat) (h : ¬ isN f x) : rg f x < f.infRung ∨ rg f x = f.infRung := by unfold isN at h; omega
theorem sub_self (hf : 2 ≤ f.exponentBits) (x : Nat) (h : ¬ isN f x) : f.sub x x = some 0 ∨ f.sub x x = none := by
  unfold Format.sub
  rcases fin_or_inf f x h with h1 | h1
  · left
    rw [read_num f x h1]
    simp only [Datum.opposite, Datum.sum, Option.map_some]
    have e : Ieee.signed (sg f x) (mag f (rg f x)) (plc f (rg f x) - min (plc f (rg f x)) (plc f (rg f x))).toNat + Ieee.signed (!sg f x) (mag f (rg f x)) (plc f (rg f x) - min (plc f (rg f x)) (plc f (rg f x))).toNat = 0 := by
      rw [signed_key, signed_key]; unfold key; cases sg f x <;> simp <;> omega
    rw [e, if_pos rfl]
    show some (f.nearest _ 0 _) = _
    rw [nearest_near, near_zero]
    cases sg f x <;> rfl
  · right
    rw [read_inf f hf x h1]
    simp only [Datum.opposite, Datum.sum]
    rw [if_neg (by cases sg f x <;> decide)]
    rfl
theorem frac_two : f.binade = 2 ^ f.fractionBits := rfl
theorem mul_one (hf : 2 ≤ f.exponentBits) (one x : Nat) (h1 : f.read one = .number false f.binade (-(f.fractionBits : Int))) (hx : x < 2 * f.signWeight) (h : ¬ isN f x) : f.mul x one = some x := by
  unfold Format.mul
  rw [h1]
  rcases fin_or_inf f x h with h2 | h2
  · rw [read_num f x h2]
    show some (f.write (.number (sg f x ^^ false) (mag f (rg f x) * f.binade) (plc f (rg f x) + -(f.fractionBits : Int)))) = _
    rw [Bool.xor_false, frac_two, write_word f _ _ _ x hx rfl]
    rw [near_scale, show plc f (rg f x) + -(f.fractionBits : Int) + (f.fractionBits : Int) = plc f (rg f x) from by omega, near_read f _ (Nat.le_of_lt h2)]
  · rw [read_inf f hf x h2]
    have hb := binade_pos f
    show Option.map f.write (if f.binade = 0 then none else some (.infinity (sg f x ^^ false))) = _
    rw [if_neg (by omega), Bool.xor_false]
    show some (f.word (sg f x) f.infRung) = _
    rw [← h2, word_parts f x hx]
theorem log2_le {m k : Nat} (h : m < 2 * 2 ^ k) : m.log2 ≤ k := by
  by_cases h0 : m = 0
  · subst h0; simp
  · have := (Nat.log2_lt (k := k + 1) h0).2 (by rw [Nat.pow_succ, Nat.mul_comm]; exact h)
    omega
theorem div_one (hf : 2 ≤ f.exponentBits) (one x : Nat) (h1 : f.read one = .number false f.binade (-(f.fractionBits : Int))) (hx : x < 2 * f.signWeight) (h : ¬ isN f x) : f.div x one = some x := by
  unfold Format.div
  rw [h1]
  rcases fin_or_inf f x h with h2 | h2
  · rw [read_num f x h2]
    have hb := binade_pos f
    have hl := log2_le (mag_lt f (rg f x))
    have hlb : f.binade.log2 = f.fractionBits := by rw [frac_two, Nat.log2_two_pow]
    unfold Datum.quotient
    dsimp only
    rw [if_neg (by omega), hlb]
    obtain ⟨t, ht⟩ : ∃ t, f.fractionBits + 2 + f.fractionBits - (mag f (rg f x)).log2 = f.fractionBits + t := ⟨_, (Nat.add_sub_of_le (by omega)).symm⟩
    rw [ht, Nat.shiftLeft_eq, frac_two, Nat.add_comm f.fractionBits t, Nat.pow_add, ← Nat.mul_assoc, Nat.mul_div_cancel _ (Nat.two_pow_pos _), Nat.mul_mod_left]
    show some (f.write (.number (sg f x ^^ false) (2 * (mag f (rg f x) * 2 ^ t) + 0) (plc f (rg f x) - -(f.fractionBits : Int) - (t + f.fractionBits : Nat) - 1))) = _
    rw [Bool.xor_false, write_word f _ _ _ x hx rfl]
    rw [Nat.add_zero, Nat.mul_comm 2, Nat.mul_assoc, ← Nat.pow_succ, near_scale, show plc f (rg f x) - -(f.fractionBits : Int) - (t + f.fractionBits : Nat) - 1 + (t + 1 : Nat) = plc f (rg f x) from by omega, near_read f _ (Nat.le_of_lt h2)]
  · rw [read_inf f hf x h2]
    show some (f.word (sg f x ^^ false) f.infRung) = _
    rw [Bool.xor_false, ← h2, word_parts f x hx]
theorem key_abs (s : Bool) (a : Nat) : (key s a).natAbs = a := by unfold key; cases s <;> simp
theorem key_neg (s : Bool) (a : Nat) (h : a ≠ 0) : decide (key s a < 0) = s := by unfold key; cases s <;> simp <;> omega
theorem key_nil (s : Bool) (a : Nat) : key s a = 0 ↔ a = 0 := by unfold key; cases s <;> simp
/-- a number and a zero -/
theorem sum_zero (s t : Bool) (m : Nat) (p : Int) (hp : f.leastPlace ≤ p) :
    Datum.sum (.number s m p) (.number t 0 f.leastPlace) = some (.number (if m = 0 then s && t else s) (m * 2 ^ (p - f.leastPlace).toNat) f.leastPlace) := by
  unfold Datum.sum
  dsimp only
  rw [show min p f.leastPlace = f.leastPlace from by omega, signed_key, signed_key, Nat.zero_mul, show key t 0 = 0 from by unfold key; cases t <;> rfl, Int.add_zero, key_abs]
  have hp2 := Nat.two_pow_pos (p - f.leastPlace).toNat
  by_cases h : m = 0
  · subst h
    rw [Nat.zero_mul, if_pos (show key s 0 = 0 from by unfold key; cases s <;> rfl), if_pos rfl]
  · have h2 : m * 2 ^ (p - f.leastPlace).toNat ≠ 0 := Nat.mul_ne_zero h (by omega)
    rw [if_neg (fun g => h2 ((key_nil s _).1 g)), if_neg h, key_neg s _ h2]
theorem read_zero (t : Bool) (hf : 2 ≤ f.exponentBits) : f.read (f.word t 0) = .number t 0 f.leastPlace := by
  have h0 := sw_pos f
  have hb := binade_pos f
  have hi := binade_le_inf f hf
  rw [read_num f _ (by rw [rg_word f t 0 h0]; omega), rg_word f t 0 h0, sg_word f t 0 h0]
  unfold mag plc
  rw [if_pos hb, if_pos hb]
theorem near_sum (r : Nat) (h : r ≤ f.infRung) : near f (mag f r * 2 ^ (plc f r - f.leastPlace).toNat) f.leastPlace = r := by
  have hp := plc_ge f r
  rw [near_scale, show f.leastPlace + ((plc f r - f.leastPlace).toNat : Int) = plc f r from by omega, near_read f r h]
/-- less nothing -/
theorem sub_zero (hf : 2 ≤ f.exponentBits) (x : Nat) (hx : x < 2 * f.signWeight) (h : ¬ isN f x) : f.sub x 0 = some x := by
  unfold Format.sub
  rw [show f.read 0 = .number false 0 f.leastPlace from read_zero f false hf]
  rcases fin_or_inf f x h with h2 | h2
  · rw [read_num f x h2]
    show Option.map f.write (Datum.sum _ (.number true 0 f.leastPlace)) = _
    rw [sum_zero f _ _ _ _ (plc_ge f _)]
    show some (f.write _) = _
    rw [write_word f _ _ _ x hx (by rw [Bool.and_true, ite_self]) (near_sum f _ (Nat.le_of_lt h2))]
  · rw [read_inf f hf x h2]
    show some (f.word (sg f x) f.infRung) = _
    rw [← h2, word_parts f x hx]
/-- and a zero -/
theorem add_zero (hf : 2 ≤ f.exponentBits) (t : Bool) (x : Nat) (hx : x < 2 * f.signWeight) (h : ¬ isN f x) : f.add x (f.word t 0) = some (if rg f x = 0 then f.word (sg f x && t) 0 else x) := by
  unfold Format.add
  rw [read_zero f t hf]
  rcases fin_or_inf f x h with h2 | h2
  · rw [read_num f x h2, sum_zero f _ _ _ _ (plc_ge f _)]
    show some (f.write _) = _
    by_cases h3 : rg f x = 0
    · rw [if_pos h3, if_pos ((mag_zero f _).2 h3)]
      show some (f.nearest _ _ _) = _
      rw [nearest_near, near_sum f _ (Nat.le_of_lt h2), h3]
    · rw [if_neg h3, if_neg (fun g => h3 ((mag_zero f _).1 g)), write_word f _ _ _ x hx rfl (near_sum f _ (Nat.le_of_lt h2))]
  · have hp : 0 < f.infRung := by have := binade_le_inf f hf; have := binade_pos f; omega
    rw [read_inf f hf x h2, if_neg (by omega)]
    show some (f.word (sg f x) f.infRung) = _
    rw [← h2, word_parts f x hx]
/-- by itself -/
theorem div_self (hf : 2 ≤ f.exponentBits) (one x : Nat) (h1 : f.nearest false 1 0 = one) (h : ¬ isN f x) : f.div x x = if rg f x = 0 ∨ rg f x = f.infRung then none else some one := by
  unfold Format.div
  rcases fin_or_inf f x h with h2 | h2
  · rw [read_num f x h2]
    unfold Datum.quotient
    dsimp only
    by_cases h3 : rg f x = 0
    · have h4 := (mag_zero f _).2 h3
      rw [if_pos h4, if_pos h4, if_pos (Or.inl h3)]; rfl
    · have h4 : ¬ mag f (rg f x) = 0 := fun g => h3 ((mag_zero f _).1 g)
      rw [if_neg h4, if_neg (by omega), Nat.add_sub_cancel, Nat.shiftLeft_eq, Nat.mul_comm (mag f (rg f x)), Nat.mul_div_cancel _ (by omega), Nat.mul_mod_left]
      show some (f.nearest (sg f x ^^ sg f x) (2 * 2 ^ (f.fractionBits + 2) + 0) (plc f (rg f x) - plc f (rg f x) - (f.fractionBits + 2 : Nat) - 1)) = _
      rw [Bool.xor_self, Nat.add_zero, Nat.mul_comm 2, ← Nat.pow_succ, ← Nat.one_mul (2 ^ (f.fractionBits + 2 + 1)), nearest_scale, ← h1]
      congr 2; omega
  · rw [read_inf f hf x h2, if_pos (Or.inr h2)]; rfl
/-! the lesser and the greater -/
theorem order_swap (hf : 2 ≤ f.exponentBits) (x y : Nat) : (f.order x y = some .lt ↔ f.order y x = some .gt) ∧ (f.order x y = some .gt ↔ f.order y x = some .lt) ∧ (f.order x y = some .eq ↔ f.order y x = some .eq) := by
  by_cases hx : isN f x
  · rw [order_nan_l f hf x y hx, order_nan_r f hf y x hx]; simp
  · by_cases hy : isN f y
    · rw [order_nan_r f hf x y hy, order_nan_l f hf y x hy]; simp
    · unfold isN at hx hy
      rw [order_key f hf x y (by omega) (by omega), order_key f hf y x (by omega) (by omega)]
      generalize key (sg f x) (rg f x) = a
      generalize key (sg f y) (rg f y) = b
      rcases Int.lt_trichotomy a b with h | h | h
      · rw [cmp_lt h, cmp_gt h]; simp
      · rw [cmp_eq h, cmp_eq h.symm]; simp
      · rw [cmp_gt h, cmp_lt h]; simp
theorem min_comm (hf : 2 ≤ f.exponentBits) (x y : Nat) : minW f x y = minW f y x := by
  obtain ⟨h1, h2, h3⟩ := order_swap f hf x y
  obtain ⟨g1, g2, g3⟩ := order_swap f hf y x
  unfold minW
  cases h : f.order x y with
  | none => cases h' : f.order y x with
    | none => rfl
    | some o => rw [h] at h1 h2 h3; rw [h'] at h1 h2 h3; cases o <;> simp at h1 h2 h3
  | some o => cases o
              · rw [h1.1 h]; simp
              · rw [h3.1 h]; simp [Nat.or_comm]
              · rw [h2.1 h]; simp
theorem max_comm (hf : 2 ≤ f.exponentBits) (x y : Nat) : maxW f x y = maxW f y x := by
  obtain ⟨h1, h2, h3⟩ := order_swap f hf x y
  unfold maxW
  cases h : f.order x y with
  | none => cases h' : f.order y x with
    | none => rfl
    | some o => rw [h] at h1 h2 h3; rw [h'] at h1 h2 h3; cases o <;> simp at h1 h2 h3
  | some o => cases o
              · rw [h1.1 h]; simp
              · rw [h3.1 h]; simp [Nat.and_comm]
              · rw [h2.1 h]; simp
theorem min_nan (hf : 2 ≤ f.exponentBits) (x y : Nat) (h : isN f x ∨ isN f y) : minW f x y = qn f ∧ maxW f x y = qn f := by
  have e : f.order x y = none := by
    rcases h with h | h
    · exact order_nan_l f hf x y h
    · exact order_nan_r f hf x y h
  unfold minW maxW
  rw [e]; simp
end Go.FM
