/- Plain mathematics of floats: what the statements' rules say of sums, products, quotients, comparisons. -/
import Derived.Test.YtdfgcagbpndabaaGreatDoorZC
import Derived.Test.YtdfgcagbpndabaaGreatDoorZB
set_option linter.unusedVariables false
namespace Go.FM
open Ieee
variable (f : Format)
theorem sum_comm (a b : Datum) : a.sum b = b.sum a := by
  cases a <;> cases b <;> simp only [Datum.sum]
  · rename_i s m i t n j
    rw [Int.min_comm i j, Int.add_comm (Ieee.signed s m _), Bool.and_comm s t]
  · rename_i s t
    by_cases h : s = t
    · subst h; rfl
    · rw [if_neg h, if_neg (fun g => h g.symm)]
theorem write_word (s : Bool) (M : Nat) (e : Int) (x : Nat) (hx : x < 2 * f.signWeight) (hs : sg f x = s) (hn : near f M e = rg f x) : f.write (.number s M e) = x := by
  show f.nearest s M e = x
  rw [nearest_near, hn, ← hs, word_parts f x hx]
theorem frac_two : f.binade = 2 ^ f.fractionBits := rfl
theorem log2_le {m k : Nat} (h : m < 2 * 2 ^ k) : m.log2 ≤ k := by
  by_cases h0 : m = 0
  · subst h0; simp
  · have := (Nat.log2_lt (k := k + 1) h0).2 (by rw [Nat.pow_succ, Nat.mul_comm]; exact h)
    omega
theorem key_abs (s : Bool) (a : Nat) : (key s a).natAbs = a := by unfold key; cases s <;> simp
theorem key_neg (s : Bool) (a : Nat) (h : a ≠ 0) : decide (key s a < 0) = s := by unfold key; cases s <;> simp <;> omega
theorem key_nil (s : Bool) (a : Nat) : key s a = 0 ↔ a = 0 := by unfold key; cases s <;> simp
end Go.FM
namespace Go.FM
open Ieee
variable (f : Format)
def cutv (way : Toward) (s : Bool) (r : Nat) : Nat := way.cut s (mag f r <<< (plc f r).toNat) (-plc f r).toNat
theorem cutv_val (way : Toward) (s : Bool) (r : Nat) (hl : f.leastPlace ≤ 0) : cutv f way s r = pcut way s (val f r) (-f.leastPlace).toNat := by
  unfold cutv
  rw [cut_canon way s _ _ f.leastPlace hl (plc_ge f r), ← val_mag]
theorem whole_word (way : Toward) (s : Bool) (r : Nat) (h : r < f.infRung) : wholeW f way (f.word s r) = f.word s (near f (cutv f way s r) 0) := by
  have hs := Format.infRung_lt f
  unfold wholeW
  rw [if_neg (by unfold isN; rw [rg_word f s r (by omega)]; omega), read_num f _ (by rw [rg_word f s r (by omega)]; exact h), rg_word f s r (by omega), sg_word f s r (by omega)]
  show f.nearest s _ 0 = _
  rw [nearest_near]; rfl
theorem cutv_exact (way : Toward) (s : Bool) (r : Nat) (h : r < f.infRung) (hl : f.leastPlace ≤ 0) (hf1 : 1 ≤ f.fractionBits) (hbig : 2 * f.binade * 2 ^ (-f.leastPlace).toNat ≤ val f f.infRung) :
    val f (near f (cutv f way s r) 0) = cutv f way s r * 2 ^ (-f.leastPlace).toNat ∧ near f (cutv f way s r) 0 < f.infRung := by
  have hB : 2 ≤ f.binade := by
    have : 2 ^ 1 ≤ 2 ^ f.fractionBits := Nat.pow_le_pow_right (by decide) hf1
    rw [frac_two]; omega
  obtain ⟨c, k, e1, e2, e3⟩ := cut_form way s (mag f r) f.binade (plc f r) (mag_lt f r) hB
  have e1' : cutv f way s r = c * 2 ^ k := e1
  have hk : (k : Int) = 0 ∨ cutv f way s r * 2 ^ (-f.leastPlace).toNat = val f r := by
    rcases Int.lt_or_le 0 (plc f r) with h1 | h1
    · right
      rw [cutv_val f way s r hl, val_mag, show (plc f r - f.leastPlace).toNat = (plc f r).toNat + (-f.leastPlace).toNat from by omega, Nat.pow_add, ← Nat.mul_assoc]
      have := pcut_scale way s (mag f r * 2 ^ (plc f r).toNat) (-f.leastPlace).toNat 0
      rw [Nat.zero_add, pcut_zero] at this
      rw [this]
    · left; omega
  have hb : c * 2 ^ ((k : Int) - f.leastPlace).toNat < val f f.infRung := by
    rcases hk with hk | hk
    · rw [show ((k : Int) - f.leastPlace).toNat = (-f.leastPlace).toNat from by omega]
      exact Nat.lt_of_lt_of_le (Nat.mul_lt_mul_of_pos_right e2 (Nat.two_pow_pos _)) hbig
    · rw [show ((k : Int) - f.leastPlace).toNat = k + (-f.leastPlace).toNat from by omega, Nat.pow_add, ← Nat.mul_assoc, ← e1', hk]
      exact val_lt f h
  obtain ⟨v, i⟩ := val_near f c k e2 (by omega) hb
  have hn : near f (cutv f way s r) 0 = near f c k := by rw [e1', near_scale, Int.zero_add]
  rw [hn]
  refine ⟨?_, i⟩
  rw [v, e1', show ((k : Int) - f.leastPlace).toNat = k + (-f.leastPlace).toNat from by omega, Nat.pow_add, ← Nat.mul_assoc]
end Go.FM
namespace Go.FM
theorem root_room (r j c : Nat) (N : Nat) (hj : j ≤ 64) (hr : r = c * 2 ^ j) (h : r * r ≤ N) (hN : N < 2 ^ 128) : r + 2 ^ j ≤ 18446744073709551616 := by
  have h1 : r < 2 ^ 64 := by
    rcases Nat.lt_or_ge r (2 ^ 64) with h1 | h1
    · exact h1
    · have := Nat.mul_le_mul h1 h1
      rw [← Nat.pow_add] at this
      omega
  have e : (2 : Nat) ^ 64 = 2 ^ (64 - j) * 2 ^ j := by rw [← Nat.pow_add]; congr 1; omega
  have h2 : c < 2 ^ (64 - j) := by
    rw [hr, e] at h1
    exact Nat.lt_of_mul_lt_mul_right h1
  have h3 := Nat.mul_le_mul_right (2 ^ j) (show c + 1 ≤ 2 ^ (64 - j) from h2)
  rw [Nat.add_mul, Nat.one_mul, ← hr, ← e] at h3
  exact h3
theorem root_yes (r k N : Nat) (h2 : N < (r + 2 ^ (k + 1)) * (r + 2 ^ (k + 1))) : N < (r + 2 ^ k + 2 ^ k) * (r + 2 ^ k + 2 ^ k) := by
  rw [Nat.pow_succ, Nat.mul_two, ← Nat.add_assoc] at h2; exact h2
theorem root_or (r k c : Nat) (hk : k < 64) (hr : r = c * 2 ^ (k + 1)) (hb : r + 2 ^ (k + 1) ≤ 18446744073709551616) : Go.bits .or .u64 (r : Int) ((2 ^ k : Nat) : Int) = ((r + 2 ^ k : Nat) : Int) := by
  have hp := Nat.two_pow_pos k
  have e : 2 ^ (k + 1) = 2 ^ k * 2 := Nat.pow_succ 2 k
  have a1 := or_u r (2 ^ k) (by simp only [W64]; omega) (by simp only [W64]; omega)
  have a2 := or_add c (2 ^ k) (k + 1) (by omega)
  rw [← hr] at a2
  rw [a1, a2]
theorem two_le (p q H : Nat) (hq : q < W64) : (two p q ≤ two H 0) ↔ (p < H ∨ (p = H ∧ q = 0)) := by
  unfold two
  simp only [W64] at *
  omega
theorem two_parts (N : Nat) : two (N / W64) (N % W64) = N := by
  unfold two
  rw [Nat.mul_comm]; exact Nat.div_add_mod N W64
end Go.FM
namespace Go.FM
open Ieee
variable (f : Format)
theorem bl_log (m : Nat) (h : m ≠ 0) : bl m = m.log2 + 1 := by unfold bl; rw [if_neg h]
theorem quo_scale (m n p q : Nat) (hq : q ≤ p) : m * 2 ^ p / (n * 2 ^ q) = m * 2 ^ (p - q) / n ∧ (m * 2 ^ p % (n * 2 ^ q) = 0 ↔ m * 2 ^ (p - q) % n = 0) := by
  have e : m * 2 ^ p = m * 2 ^ (p - q) * 2 ^ q := by rw [Nat.mul_assoc, ← Nat.pow_add]; congr 2; omega
  have h := Nat.two_pow_pos q
  rw [e, Nat.mul_div_mul_right _ _ h, Nat.mul_mod_mul_right]
  refine ⟨rfl, ?_⟩
  rw [Nat.mul_eq_zero]; omega
theorem glue_div (x y m n : Nat) (s t : Bool) (i j : Int) (hx : f.read x = .number s m i) (hy : f.read y = .number t n j) (hm : m ≠ 0) (hn : n ≠ 0) (hml : m < 2 * f.binade) (hnl : n < 2 * f.binade) (hf : f.fractionBits ≤ 52) :
    f.div x y = some (f.nearest (s ^^ t) (2 * (m * 2 ^ (64 - bl m) * 2 ^ 63 / (n * 2 ^ (64 - bl n))) + (if m * 2 ^ (64 - bl m) * 2 ^ 63 % (n * 2 ^ (64 - bl n)) = 0 then 0 else 1)) (i - ((64 - bl m : Nat) : Int) - (j - ((64 - bl n : Nat) : Int)) - 63 - 1)) := by
  have lm := log2_le (show m < 2 * 2 ^ f.fractionBits from hml)
  have ln := log2_le (show n < 2 * 2 ^ f.fractionBits from hnl)
  rw [bl_log m hm, bl_log n hn, Nat.mul_assoc m, ← Nat.pow_add]
  obtain ⟨q1, q2⟩ := quo_scale m n (64 - (m.log2 + 1) + 63) (64 - (n.log2 + 1)) (by omega)
  rw [q1, ite_iff' q2]
  have key := nearest_quo f (s ^^ t) m n (f.fractionBits + 2 + n.log2 - m.log2) (61 - f.fractionBits) (i - j) (by omega) ?_
  · rw [show f.fractionBits + 2 + n.log2 - m.log2 + (61 - f.fractionBits) = 64 - (m.log2 + 1) + 63 - (64 - (n.log2 + 1)) from by omega] at key
    unfold Format.div
    rw [hx, hy]
    unfold Datum.quotient
    dsimp only
    rw [if_neg hn]
    show some (f.nearest (s ^^ t) _ _) = _
    have e1 : 2 * (m <<< (f.fractionBits + 2 + n.log2 - m.log2) / n) + (m <<< (f.fractionBits + 2 + n.log2 - m.log2) % n != 0).toNat = qs m n (f.fractionBits + 2 + n.log2 - m.log2) := by
      unfold qs
      rw [Nat.shiftLeft_eq]
      congr 1
      by_cases h : m * 2 ^ (f.fractionBits + 2 + n.log2 - m.log2) % n = 0
      · rw [if_pos h, h]; rfl
      · rw [if_neg h]
        have : (m * 2 ^ (f.fractionBits + 2 + n.log2 - m.log2) % n != 0) = true := by simp [h]
        rw [this]; rfl
    rw [e1, ← key]
    unfold qs
    congr 2
    omega
  · have h1 := (log2_pow (m := m) (k := f.fractionBits + 2 + n.log2 - m.log2) hm).1
    have h2 := (Nat.log2_eq_iff hn).1 rfl
    rw [Nat.le_div_iff_mul_le (by omega)]
    refine Nat.le_trans ?_ h1
    rw [show m.log2 + (f.fractionBits + 2 + n.log2 - m.log2) = f.fractionBits + 1 + (n.log2 + 1) from by omega, Nat.pow_add 2 (f.fractionBits + 1) (n.log2 + 1)]
    exact Nat.mul_le_mul_left _ (Nat.le_of_lt h2.2)
theorem div_words (X : Nat) (h : X < W64) : two (X / 2) (X * 9223372036854775808 % W64) = X * 2 ^ 63 := by
  unfold two
  simp only [W64] at *
  omega
theorem glue_sqrt (x m by1 R : Nat) (i P : Int) (hx : f.read x = .number false m i) (hm : m ≠ 0) (hml : m < 2 * f.binade) (hf : f.fractionBits ≤ 52) (hb : 124 ≤ m.log2 + by1) (hP : i - by1 = 2 * P) (hR : IsRoot (m * 2 ^ by1) R) :
    f.sqrt x = some (f.nearest false (rs (m * 2 ^ by1) R) (P - 1)) := by
  have lm := log2_le (show m < 2 * 2 ^ f.fractionBits from hml)
  obtain ⟨t, w, P1, e1, e2, e3, e4, e5⟩ := root_parts (f.fractionBits + 2) m i hm (by omega)
  have hw : 2 ^ (f.fractionBits + 2) ≤ w := root_ge e2 (Nat.le_trans (Nat.pow_le_pow_right (by decide) (by omega)) (log2_pow hm).1)
  have en : m * 2 ^ by1 = m * 2 ^ t * 2 ^ (2 * (P1 - P).toNat) := by
    rw [Nat.mul_assoc, ← Nat.pow_add]; congr 2; omega
  rw [en] at hR ⊢
  have key := nearest_root f false (m * 2 ^ t) w R (P1 - P).toNat P1 e2 hR (Nat.le_trans (Nat.pow_le_pow_right (by decide) (by omega)) hw)
  rw [show P1 - ((P1 - P).toNat : Int) - 1 = P - 1 from by omega] at key
  unfold Format.sqrt
  rw [hx, e1, key]
  rfl
theorem key_same (s : Bool) (a b : Nat) : key s a + key s b = key s (a + b) := by unfold key; cases s <;> simp <;> omega
theorem key_diff (s : Bool) (a b : Nat) : key s a + key (!s) b = if b ≤ a then key s (a - b) else key (!s) (b - a) := by
  by_cases h : b ≤ a
  · rw [if_pos h]; unfold key; cases s
    · show (a : Int) + -(b : Int) = ((a - b : Nat) : Int); omega
    · show -(a : Int) + (b : Int) = -((a - b : Nat) : Int); omega
  · rw [if_neg h]; unfold key; cases s
    · show (a : Int) + -(b : Int) = -((b - a : Nat) : Int); omega
    · show -(a : Int) + (b : Int) = ((b - a : Nat) : Int); omega
theorem sum_key (s t v : Bool) (m n M : Nat) (i j : Int) (hk : key s (m * 2 ^ (i - min i j).toNat) + key t (n * 2 ^ (j - min i j).toNat) = key v M) (hM : M ≠ 0) :
    Datum.sum (.number s m i) (.number t n j) = some (.number v M (min i j)) := by
  unfold Datum.sum
  dsimp only
  rw [signed_key, signed_key, hk, key_abs, if_neg (fun g => hM ((key_nil v M).1 g)), key_neg v M hM]
theorem sum_nil (s t : Bool) (m n : Nat) (i j : Int) (hk : key s (m * 2 ^ (i - min i j).toNat) + key t (n * 2 ^ (j - min i j).toNat) = 0) :
    Datum.sum (.number s m i) (.number t n j) = some (.number (s && t) 0 (min i j)) := by
  unfold Datum.sum
  dsimp only
  rw [signed_key, signed_key, hk, if_pos rfl]; rfl
theorem glue_bz (s t : Bool) (m : Nat) (i j : Int) (hm : m ≠ 0) : (Datum.sum (.number s m i) (.number t 0 j)).map f.write = some (f.nearest s m i) := by
  have hp := Nat.two_pow_pos (i - min i j).toNat
  rw [sum_key s t s m 0 (m * 2 ^ (i - min i j).toNat) i j (by rw [Nat.zero_mul, show key t 0 = 0 from by unfold key; cases t <;> rfl, Int.add_zero]) (Nat.mul_ne_zero hm (by omega))]
  show some (f.nearest s _ _) = _
  rw [nearest_scale, show min i j + ((i - min i j).toNat : Int) = i from by omega]
theorem glue_same (s : Bool) (m n : Nat) (i j : Int) (hij : j ≤ i) (hm : m ≠ 0) : (Datum.sum (.number s m i) (.number s n j)).map f.write = some (f.nearest s (m * 2 ^ (i - j).toNat + n) j) := by
  have hp := Nat.two_pow_pos (i - j).toNat
  have h0 : m * 2 ^ (i - j).toNat ≠ 0 := Nat.mul_ne_zero hm (by omega)
  rw [sum_key s s s m n (m * 2 ^ (i - j).toNat + n) i j (by rw [show min i j = j from by omega, show (j - j).toNat = 0 from by omega, Nat.pow_zero, Nat.mul_one, key_same]) (by omega), show min i j = j from by omega]
  rfl
theorem glue_plain (s : Bool) (m n : Nat) (i j : Int) (hij : j ≤ i) (h : n < m * 2 ^ (i - j).toNat) : (Datum.sum (.number s m i) (.number (!s) n j)).map f.write = some (f.nearest s (m * 2 ^ (i - j).toNat - n) j) := by
  rw [sum_key s (!s) s m n (m * 2 ^ (i - j).toNat - n) i j (by rw [show min i j = j from by omega, show (j - j).toNat = 0 from by omega, Nat.pow_zero, Nat.mul_one, key_diff, if_pos (by omega)]) (by omega), show min i j = j from by omega]
  rfl
theorem glue_under (s : Bool) (m n : Nat) (i j : Int) (hij : j ≤ i) (h : m * 2 ^ (i - j).toNat < n) : (Datum.sum (.number s m i) (.number (!s) n j)).map f.write = some (f.nearest (!s) (n - m * 2 ^ (i - j).toNat) j) := by
  rw [sum_key s (!s) (!s) m n (n - m * 2 ^ (i - j).toNat) i j (by rw [show min i j = j from by omega, show (j - j).toNat = 0 from by omega, Nat.pow_zero, Nat.mul_one, key_diff, if_neg (by omega)]) (by omega), show min i j = j from by omega]
  rfl
theorem glue_zero (s : Bool) (m n : Nat) (i j : Int) (hij : j ≤ i) (h : m * 2 ^ (i - j).toNat = n) : (Datum.sum (.number s m i) (.number (!s) n j)).map f.write = some (f.word false 0) := by
  rw [sum_nil s (!s) m n i j (by rw [show min i j = j from by omega, show (j - j).toNat = 0 from by omega, Nat.pow_zero, Nat.mul_one, key_diff, if_pos (by omega), h, Nat.sub_self]; unfold key; cases s <;> rfl)]
  show some (f.nearest _ 0 _) = _
  rw [nearest_zero, Bool.and_not_self]
theorem glue_nil (s t : Bool) (i j : Int) : (Datum.sum (.number s 0 i) (.number t 0 j)).map f.write = some (f.word (s && t) 0) := by
  rw [sum_nil s t 0 0 i j (by rw [Nat.zero_mul, Nat.zero_mul]; unfold key; cases s <;> cases t <;> rfl)]
  show some (f.nearest _ 0 _) = _
  rw [nearest_zero]
theorem glue_far_same (s : Bool) (m n : Nat) (i j : Int) (hij : j + 70 < i) (hf : f.fractionBits ≤ 52) (hm : 2 ^ f.fractionBits ≤ m) (hn : n ≠ 0) (hn1 : n < 2 ^ 53) :
    (Datum.sum (.number s m i) (.number s n j)).map f.write = some (f.nearest s (m * 2 ^ 70 + 1) (i - 70)) := by
  have hp := Nat.two_pow_pos f.fractionBits
  rw [glue_same f s m n i j (by omega) (by omega), far_plus f s m n (i - j).toNat j hf hm (by omega) hn1 (by omega), show j + ((i - j).toNat : Int) - 70 = i - 70 from by omega]
theorem glue_far_plain (s : Bool) (m n : Nat) (i j : Int) (hij : j + 70 < i) (hf : f.fractionBits ≤ 52) (hm : 2 ^ f.fractionBits ≤ m) (hn : n ≠ 0) (hn1 : n < 2 ^ 53) :
    (Datum.sum (.number s m i) (.number (!s) n j)).map f.write = some (f.nearest s (m * 2 ^ 70 - 1) (i - 70)) := by
  have hp := Nat.two_pow_pos f.fractionBits
  have h1 : n < m * 2 ^ (i - j).toNat := by
    refine Nat.lt_of_lt_of_le hn1 (Nat.le_trans (Nat.pow_le_pow_right (by decide) (show 53 ≤ (i - j).toNat by omega)) (Nat.le_mul_of_pos_left _ (by omega)))
  rw [glue_plain f s m n i j (by omega) h1, far_minus f s m n (i - j).toNat j hf hm (by omega) hn1 (by omega), show j + ((i - j).toNat : Int) - 70 = i - 70 from by omega]
theorem lost_two (m d : Nat) : lost m d = 2 ↔ m % 2 ^ d = 0 := by
  unfold lost; split
  · rename_i h; simp [h]
  · rename_i h; constructor
    · intro g; split at g
      · omega
      · split at g <;> omega
    · intro g; exact absurd g h
theorem glue_up (s : Bool) (m d : Nat) : Toward.up.cut s m d = m / 2 ^ d + (if s = false ∧ ¬ lost m d = 2 then 1 else 0) := by
  rw [cut_pcut]; unfold pcut addsOne
  congr 1
  cases s
  · by_cases h : m % 2 ^ d = 0
    · rw [if_neg (fun g => g.2 ((lost_two m d).2 h)), h]; rfl
    · rw [if_pos ⟨rfl, fun g => h ((lost_two m d).1 g)⟩]
      have : (m % 2 ^ d != 0) = true := by simp [h]
      simp only [this]; rfl
  · rw [if_neg (fun g => by cases g.1)]; rfl
theorem glue_down (s : Bool) (m d : Nat) : Toward.down.cut s m d = m / 2 ^ d + (if s = true ∧ ¬ lost m d = 2 then 1 else 0) := by
  rw [cut_pcut]; unfold pcut addsOne
  congr 1
  cases s
  · rw [if_neg (fun g => by cases g.1)]; rfl
  · by_cases h : m % 2 ^ d = 0
    · rw [if_neg (fun g => g.2 ((lost_two m d).2 h)), h]; rfl
    · rw [if_pos ⟨rfl, fun g => h ((lost_two m d).1 g)⟩]
      have : (m % 2 ^ d != 0) = true := by simp [h]
      simp only [this]; rfl
theorem glue_cut (s : Bool) (m d : Nat) : Toward.zero.cut s m d = m / 2 ^ d := by
  rw [cut_pcut]; unfold pcut addsOne; rfl
theorem glue_even (s : Bool) (m d : Nat) : Toward.even.cut s m d = m / 2 ^ d + (if lost m d = 1 ∨ (lost m d = 0 ∧ m / 2 ^ d % 2 = 1) then 1 else 0) := by
  rw [cut_even, keep_lost]
theorem glue_stay (way : Toward) (x : Nat) (hx : x < 2 * f.signWeight) (h : rg f x < f.infRung) (hp : mag f (rg f x) = 0 ∨ 0 ≤ plc f (rg f x)) : wholeW f way x = x := by
  unfold wholeW
  rw [if_neg (by omega), read_num f x h]
  show f.nearest (sg f x) (way.cut (sg f x) (mag f (rg f x) <<< (plc f (rg f x)).toNat) (-plc f (rg f x)).toNat) 0 = x
  rcases hp with h0 | h0
  · rw [h0, Nat.zero_shiftLeft, cut_pcut]
    have e : ∀ d, pcut way (sg f x) 0 d = 0 := by
      intro d
      unfold pcut addsOne
      rw [Nat.zero_div, Nat.zero_mod]
      have hp := Nat.two_pow_pos d
      cases way <;> simp
    have hr := (mag_zero f _).1 h0
    rw [e, nearest_zero, ← hr]
    exact word_parts f x hx
  · rw [cut_pcut, show (-plc f (rg f x)).toNat = 0 from by omega, pcut_zero, Nat.shiftLeft_eq, nearest_scale, Int.zero_add, show ((plc f (rg f x)).toNat : Int) = plc f (rg f x) from by omega]
    have := write_word f (sg f x) (mag f (rg f x)) (plc f (rg f x)) x hx rfl (near_read f _ (Nat.le_of_lt h))
    exact this
end Go.FM
namespace Go.FM
open Go.RowKit
def sw (x : Nat) : Int := IntKind.i64.wrap (x : Int)
theorem sw_def (x : Nat) : sw x = ((x : Int) + 9223372036854775808) % 18446744073709551616 - 9223372036854775808 := IntKind.wrap_i64 _
theorem sw_mod (x : Nat) (h : x < 18446744073709551616) : sw x % 18446744073709551616 = (x : Int) := by rw [sw_def]; omega
theorem sw_small (x : Nat) (h : x < 9223372036854775808) : sw x = (x : Int) := by rw [sw_def]; omega
theorem sw_back (a : Int) (x : Nat) (h : a % 18446744073709551616 = (x : Int)) (h1 : -9223372036854775808 ≤ a) (h2 : a ≤ 9223372036854775807) : sw x = a := by rw [sw_def]; omega
theorem ofInt_a (a : Int) (x : Nat) (h : a % 18446744073709551616 = (x : Int)) : (BitVec.ofInt 64 a).toNat = x := by
  rw [BitVec.toNat_ofInt]
  show (a % 18446744073709551616).toNat = x
  rw [h]; rfl
theorem and_a (a b : Int) (x y : Nat) (hx : a % 18446744073709551616 = (x : Int)) (hy : b % 18446744073709551616 = (y : Int)) : bits .and .i64 a b = sw (x &&& y) := by
  show IntKind.i64.wrap ((BitVec.ofInt 64 a &&& BitVec.ofInt 64 b).toNat : Int) = _
  rw [BitVec.toNat_and, ofInt_a a x hx, ofInt_a b y hy]; rfl
theorem or_a (a b : Int) (x y : Nat) (hx : a % 18446744073709551616 = (x : Int)) (hy : b % 18446744073709551616 = (y : Int)) : bits .or .i64 a b = sw (x ||| y) := by
  show IntKind.i64.wrap ((BitVec.ofInt 64 a ||| BitVec.ofInt 64 b).toNat : Int) = _
  rw [BitVec.toNat_or, ofInt_a a x hx, ofInt_a b y hy]; rfl
theorem xor_a (a b : Int) (x y : Nat) (hx : a % 18446744073709551616 = (x : Int)) (hy : b % 18446744073709551616 = (y : Int)) : bits .xor .i64 a b = sw (x ^^^ y) := by
  show IntKind.i64.wrap ((BitVec.ofInt 64 a ^^^ BitVec.ofInt 64 b).toNat : Int) = _
  rw [BitVec.toNat_xor, ofInt_a a x hx, ofInt_a b y hy]; rfl
theorem andNot_a (a : Int) (x : Nat) (hx : a % 18446744073709551616 = (x : Int)) : bits .andNot .i64 a (-9223372036854775808) = sw (x % 9223372036854775808) := by
  show IntKind.i64.wrap ((BitVec.ofInt 64 a &&& ~~~BitVec.ofInt 64 (-9223372036854775808)).toNat : Int) = _
  have e : (BitVec.ofInt 64 a &&& ~~~BitVec.ofInt 64 (-9223372036854775808)).toNat = x % 9223372036854775808 := by
    have h1 : ~~~BitVec.ofInt 64 (-9223372036854775808) = BitVec.ofNat 64 (2 ^ 63 - 1) := by decide
    rw [h1, BitVec.toNat_and, ofInt_a a x hx, BitVec.toNat_ofNat, show (2 ^ 63 - 1) % 2 ^ 64 = 2 ^ 63 - 1 from by decide, Nat.and_two_pow_sub_one_eq_mod]
  rw [e]; rfl
theorem top_mod : (-9223372036854775808 : Int) % 18446744073709551616 = ((9223372036854775808 : Nat) : Int) := by decide
theorem sw64 : Ieee.double.signWeight = 9223372036854775808 := by decide +kernel
theorem inf64 : Ieee.double.infRung = 9218868437227405312 := by decide +kernel
end Go.FM
