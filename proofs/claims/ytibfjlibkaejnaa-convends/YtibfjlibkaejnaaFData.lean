/- Plain mathematics of floats: words read and written; their order is the order of the rungs with the sign. -/
import Derived.Test.YtibfjlibkaejnaaFVal
namespace Go.FM
open Ieee
set_option linter.unusedVariables false

variable (f : Format)
/-- a word's sign and rung -/
def sg (x : Nat) : Bool := x / f.signWeight % 2 == 1
def rg (x : Nat) : Nat := x % f.signWeight
theorem sw_pos : 0 < f.signWeight := Nat.two_pow_pos _
theorem word_parts (x : Nat) (h : x < 2 * f.signWeight) : f.word (sg f x) (rg f x) = x := by
  unfold Format.word sg rg
  generalize f.signWeight = w at *
  rcases Nat.lt_or_ge x w with h1 | h1
  · rw [Nat.div_eq_of_lt h1, Nat.mod_eq_of_lt h1]; rfl
  · have e : x = (x - w) + 1 * w := by omega
    have d : x / w = 1 := by
      rw [e, Nat.add_mul_div_right _ _ (by omega), Nat.div_eq_of_lt (by omega)]
    have m : x % w = x - w := by
      rw [e, Nat.add_mul_mod_self_right, Nat.mod_eq_of_lt (by omega)]; omega
    rw [d, m]
    show (if (true : Bool) = true then _ else _) = _
    rw [if_pos rfl]; omega
theorem sg_word (s : Bool) (r : Nat) (h : r < f.signWeight) : sg f (f.word s r) = s := by
  unfold Format.word sg
  generalize f.signWeight = w at *
  cases s
  · simp [Nat.div_eq_of_lt h]
  · have : (w + r) / w = 1 := by
      rw [Nat.add_comm, ← Nat.one_mul w, show r + 1 * w = r + 1 * w from rfl]
      rw [Nat.one_mul, Nat.add_div_right _ (by omega), Nat.div_eq_of_lt h]
    simp [this]
theorem rg_word (s : Bool) (r : Nat) (h : r < f.signWeight) : rg f (f.word s r) = r := by
  unfold Format.word rg
  generalize f.signWeight = w at *
  cases s
  · simp [Nat.mod_eq_of_lt h]
  · simp [Nat.add_mod_left, Nat.mod_eq_of_lt h]
theorem rg_lt (x : Nat) : rg f x < f.signWeight := Nat.mod_lt _ (sw_pos f)
theorem word_bound (s : Bool) (r : Nat) (h : r < f.signWeight) : f.word s r < 2 * f.signWeight := by
  unfold Format.word; split <;> omega
/-- a rung's number and place -/
def mag (r : Nat) : Nat := if r < f.binade then r else f.binade + r % f.binade
def plc (r : Nat) : Int := if r < f.binade then f.leastPlace else f.leastPlace + (r / f.binade - 1 : Nat)
theorem plc_ge (r : Nat) : f.leastPlace ≤ plc f r := by unfold plc; split <;> omega
theorem val_mag (r : Nat) : val f r = mag f r * 2 ^ (plc f r - f.leastPlace).toNat := by
  unfold val mag plc
  by_cases h : r < f.binade
  · rw [if_pos h, if_pos h, if_pos h, show (f.leastPlace - f.leastPlace).toNat = 0 from by omega, Nat.pow_zero, Nat.mul_one]
  · rw [if_neg h, if_neg h, if_neg h]; congr 2; omega
theorem mag_lt (r : Nat) : mag f r < 2 * f.binade := by
  have hp := binade_pos f
  have := Nat.mod_lt r hp
  unfold mag; split <;> omega
theorem mag_ge (r : Nat) : plc f r = f.leastPlace ∨ f.binade ≤ mag f r := by
  unfold mag plc; split
  · exact Or.inl rfl
  · right; omega
theorem mag_zero (r : Nat) : mag f r = 0 ↔ r = 0 := by
  have hp := binade_pos f
  unfold mag; split <;> omega
theorem read_raw (x : Nat) : f.read x = if rg f x < f.binade then .number (sg f x) (rg f x) f.leastPlace
    else if rg f x < f.infRung then .number (sg f x) (f.binade + rg f x % f.binade) (f.leastPlace + (rg f x / f.binade - 1 : Nat))
    else if rg f x = f.infRung then .infinity (sg f x) else .nan (sg f x) (rg f x - f.infRung) := rfl
theorem binade_le_inf (h : 2 ≤ f.exponentBits) : f.binade ≤ f.infRung := by
  unfold Format.infRung
  have : 2 ^ 2 ≤ 2 ^ f.exponentBits := Nat.pow_le_pow_right (by decide) h
  have h2 : 1 * f.binade ≤ (2 ^ f.exponentBits - 1) * f.binade := Nat.mul_le_mul_right _ (by omega)
  omega
theorem read_num (x : Nat) (h : rg f x < f.infRung) : f.read x = .number (sg f x) (mag f (rg f x)) (plc f (rg f x)) := by
  rw [read_raw]
  unfold mag plc
  by_cases h1 : rg f x < f.binade
  · rw [if_pos h1, if_pos h1, if_pos h1]
  · rw [if_neg h1, if_neg h1, if_neg h1, if_pos h]
theorem read_inf (hf : 2 ≤ f.exponentBits) (x : Nat) (h : rg f x = f.infRung) : f.read x = .infinity (sg f x) := by
  have := binade_le_inf f hf
  rw [read_raw, if_neg (by omega), if_neg (by omega), if_pos h]
theorem read_nan (hf : 2 ≤ f.exponentBits) (x : Nat) (h : f.infRung < rg f x) : f.read x = .nan (sg f x) (rg f x - f.infRung) := by
  have := binade_le_inf f hf
  rw [read_raw, if_neg (by omega), if_neg (by omega), if_neg (by omega)]
/-- written as it was read -/
theorem near_read (r : Nat) (h : r ≤ f.infRung) : near f (mag f r) (plc f r) = r := by
  refine near_val f _ _ r h ?_
  have := plc_ge f r
  rw [val_mag, show (f.leastPlace - plc f r).toNat = 0 from by omega, Nat.pow_zero, Nat.mul_one]
theorem near_scale (M k : Nat) (e : Int) : near f (M * 2 ^ k) e = near f M (e + k) := by
  have h := nearest_scale f false M k e
  rw [nearest_near, nearest_near] at h
  exact h
/-- what fits is a rung's worth -/
theorem exact_rung (M : Nat) (e : Int) (hM : M < 2 * f.binade) (he : f.leastPlace ≤ e) : ∃ r, val f r = M * 2 ^ (e - f.leastPlace).toNat := by
  by_cases h0 : M = 0
  · exact ⟨0, by rw [h0, val_zero, Nat.zero_mul]⟩
  obtain ⟨b1, b2, b3⟩ := pow_bl M h0
  have hbl : bl M ≤ f.fractionBits + 1 := bl_le M _ (by rw [Nat.pow_succ, Nat.mul_comm]; exact hM)
  have hby : byOf f M e ≤ 0 := by unfold byOf; omega
  have hsc := scales f M e
  rw [show (byOf f M e).toNat = 0 from by omega, Nat.pow_zero, Nat.mul_one, show (f.leastPlace - e).toNat = 0 from by omega, Nat.pow_zero, Nat.mul_one] at hsc
  have hk : kept f M e = M * 2 ^ (-byOf f M e).toNat := by
    unfold kept; rw [show (byOf f M e).toNat = 0 from by omega, keep_zero]
  refine ⟨(e + byOf f M e - f.leastPlace).toNat * f.binade + kept f M e, ?_⟩
  have hkl := kept_le f M e h0
  rw [val_at f _ _ ?_ (by rw [Nat.pow_succ, Nat.mul_comm] at hkl; exact hkl), hk, hsc]
  rcases Nat.lt_or_ge (kept f M e) f.binade with h1 | h1
  · left; have := kept_small f M e h0 h1; omega
  · exact Or.inr h1
/-- what fits is written whole -/
theorem val_near (M : Nat) (e : Int) (hM : M < 2 * f.binade) (he : f.leastPlace ≤ e) (hb : M * 2 ^ (e - f.leastPlace).toNat < val f f.infRung) :
    val f (near f M e) = M * 2 ^ (e - f.leastPlace).toNat ∧ near f M e < f.infRung := by
  obtain ⟨r, hr⟩ := exact_rung f M e hM he
  have hi : r < f.infRung := (val_lt_iff f).1 (by rw [hr]; exact hb)
  have := near_val f M e r (by omega) (by rw [hr, show (f.leastPlace - e).toNat = 0 from by omega, Nat.pow_zero, Nat.mul_one])
  rw [this]
  exact ⟨hr, hi⟩
/-! the order -/
/-- a rung with its sign -/
def key (s : Bool) (r : Nat) : Int := if s then -(r : Int) else r
theorem cmp_congr {a b c d : Int} (h1 : a < b ↔ c < d) (h2 : a = b ↔ c = d) : compare a b = compare c d := by
  show compareOfLessAndEq a b = compareOfLessAndEq c d
  unfold compareOfLessAndEq
  by_cases h : a < b
  · rw [if_pos h, if_pos (h1.1 h)]
  · rw [if_neg h, if_neg (fun g => h (h1.2 g))]
    by_cases g : a = b
    · rw [if_pos g, if_pos (h2.1 g)]
    · rw [if_neg g, if_neg (fun k => g (h2.2 k))]
theorem cmp_lt {a b : Int} (h : a < b) : compare a b = .lt := by
  show compareOfLessAndEq a b = _; unfold compareOfLessAndEq; rw [if_pos h]
theorem cmp_eq {a b : Int} (h : a = b) : compare a b = .eq := by
  show compareOfLessAndEq a b = _; unfold compareOfLessAndEq; rw [if_neg (by omega), if_pos h]
theorem cmp_gt {a b : Int} (h : b < a) : compare a b = .gt := by
  show compareOfLessAndEq a b = _; unfold compareOfLessAndEq; rw [if_neg (by omega), if_neg (by omega)]
theorem signed_key (s : Bool) (m u : Nat) : Ieee.signed s m u = key s (m * 2 ^ u) := by
  unfold Ieee.signed key; rw [Nat.shiftLeft_eq]
theorem key_scale (s : Bool) (a k : Nat) : key s (a * 2 ^ k) = key s a * ((2 ^ k : Nat) : Int) := by
  unfold key; cases s
  · simp
  · simp [Int.neg_mul]
theorem key_val (s t : Bool) (r u : Nat) : (key s (val f r) < key t (val f u) ↔ key s r < key t u) ∧ (key s (val f r) = key t (val f u) ↔ key s r = key t u) := by
  have h1 : ∀ {a b : Nat}, val f a < val f b ↔ a < b := val_lt_iff f
  have h2 : ∀ {a b : Nat}, val f a = val f b ↔ a = b := ⟨val_inj f, fun h => by rw [h]⟩
  have h3 := val_zero f
  have h4 := @h1 r u
  have h5 := @h1 u r
  have h6 := @h2 r u
  have h7 := @h1 0 r
  have h8 := @h1 0 u
  rw [h3] at h7 h8
  unfold key
  cases s <;> cases t <;> simp only [if_true, if_false, Bool.false_eq_true] <;> omega
theorem order_num (x y : Nat) (hx : rg f x < f.infRung) (hy : rg f y < f.infRung) : f.order x y = some (compare (key (sg f x) (rg f x)) (key (sg f y) (rg f y))) := by
  unfold Format.order
  rw [read_num f x hx, read_num f y hy]
  unfold Datum.order
  dsimp only
  congr 1
  have p1 := plc_ge f (rg f x)
  have p2 := plc_ge f (rg f y)
  obtain ⟨k1, k2⟩ := key_val f (sg f x) (sg f y) (rg f x) (rg f y)
  rw [val_mag f (rg f x), val_mag f (rg f y)] at k1 k2
  generalize plc f (rg f x) = i at *
  generalize plc f (rg f y) = j at *
  generalize f.leastPlace = l at *
  have e1 : key (sg f x) (mag f (rg f x) * 2 ^ (i - l).toNat) = Ieee.signed (sg f x) (mag f (rg f x)) (i - min i j).toNat * ((2 ^ (min i j - l).toNat : Nat) : Int) := by
    rw [signed_key, ← key_scale, Nat.mul_assoc, ← Nat.pow_add]; congr 3; omega
  have e2 : key (sg f y) (mag f (rg f y) * 2 ^ (j - l).toNat) = Ieee.signed (sg f y) (mag f (rg f y)) (j - min i j).toNat * ((2 ^ (min i j - l).toNat : Nat) : Int) := by
    rw [signed_key, ← key_scale, Nat.mul_assoc, ← Nat.pow_add]; congr 3; omega
  rw [e1, e2] at k1 k2
  have hp : (0 : Int) < ((2 ^ (min i j - l).toNat : Nat) : Int) := by have := Nat.two_pow_pos (min i j - l).toNat; omega
  generalize ((2 ^ (min i j - l).toNat : Nat) : Int) = c at *
  refine cmp_congr (Iff.trans ?_ k1) (Iff.trans ?_ k2)
  · exact ⟨fun h => Int.mul_lt_mul_of_pos_right h hp, fun h => Int.lt_of_mul_lt_mul_right h (by omega)⟩
  · exact ⟨fun h => by rw [h], fun h => Int.eq_of_mul_eq_mul_right (by omega) h⟩
theorem order_key (hf : 2 ≤ f.exponentBits) (x y : Nat) (hx : rg f x ≤ f.infRung) (hy : rg f y ≤ f.infRung) : f.order x y = some (compare (key (sg f x) (rg f x)) (key (sg f y) (rg f y))) := by
  have hp : 0 < f.infRung := by have := binade_le_inf f hf; have := binade_pos f; omega
  rcases Nat.lt_or_ge (rg f x) f.infRung with h1 | h1 <;> rcases Nat.lt_or_ge (rg f y) f.infRung with h2 | h2
  · exact order_num f x y h1 h2
  · unfold Format.order
    have e : rg f y = f.infRung := by omega
    rw [read_num f x h1, read_inf f hf y e, e]
    unfold Datum.order key
    cases sg f y
    · simp only [Bool.false_eq_true, if_false]
      rw [cmp_lt (by split <;> omega)]
    · simp only [if_true]
      rw [cmp_gt (by split <;> omega)]
  · unfold Format.order
    have e : rg f x = f.infRung := by omega
    rw [read_inf f hf x e, read_num f y h2, e]
    unfold Datum.order key
    cases sg f x
    · simp only [Bool.false_eq_true, if_false]
      rw [cmp_gt (by split <;> omega)]
    · simp only [if_true]
      rw [cmp_lt (by split <;> omega)]
  · unfold Format.order
    have e : rg f x = f.infRung := by omega
    have e2 : rg f y = f.infRung := by omega
    rw [read_inf f hf x e, read_inf f hf y e2, e, e2]
    unfold Datum.order key
    cases sg f x <;> cases sg f y <;> simp only [Bool.false_eq_true, if_false, if_true]
    · rw [cmp_eq rfl]; rfl
    · rw [cmp_gt (by omega)]; rfl
    · rw [cmp_lt (by omega)]; rfl
    · rw [cmp_eq rfl]; rfl
theorem order_nan_l (hf : 2 ≤ f.exponentBits) (x y : Nat) (hx : f.infRung < rg f x) : f.order x y = none := by
  unfold Format.order; rw [read_nan f hf x hx]; rfl
theorem order_nan_r (hf : 2 ≤ f.exponentBits) (x y : Nat) (hy : f.infRung < rg f y) : f.order x y = none := by
  unfold Format.order; rw [read_nan f hf y hy]; cases f.read x <;> rfl
end Go.FM
