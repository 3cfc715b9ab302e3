/- What each conversion makes, as plain functions of numbers and words; the rules' mathematics. -/
import Derived.Test.YtibfjlibkaejnaaFLaw2
import Derived.Test.YtibfjlibkaejnaaDBits
import Derived.Test.YtibfjlibkaejnaaFGlue
namespace Go.FM
open Ieee
set_option linter.unusedVariables false

/-- a number cut toward 0 -/
def tcut (m : Nat) (i : Int) : Nat := m * 2 ^ i.toNat / 2 ^ (-i).toNat
theorem tcut_up (m : Nat) (i : Int) (h : 0 ≤ i) : tcut m i = m * 2 ^ i.toNat := by
  unfold tcut; rw [show (-i).toNat = 0 from by omega, Nat.pow_zero, Nat.div_one]
theorem tcut_down (m : Nat) (i : Int) (h : i ≤ 0) : tcut m i = m / 2 ^ (-i).toNat := by
  unfold tcut; rw [show i.toNat = 0 from by omega, Nat.pow_zero, Nat.mul_one]
/-- a float cut toward 0, with its sign -/
def tval (f : Format) (x : Nat) : Option Int := (f.read x).toInt .zero
theorem tval_num (f : Format) (x m : Nat) (s : Bool) (i : Int) (h : f.read x = .number s m i) : tval f x = some (key s (tcut m i)) := by
  unfold tval
  rw [h]
  show some (Ieee.signed s (Toward.zero.cut s (m <<< i.toNat) (-i).toNat) 0) = _
  rw [glue_cut, signed_key, Nat.pow_zero, Nat.mul_one, Nat.shiftLeft_eq]
  rfl
theorem tval_fin (f : Format) (x : Nat) (h : rg f x < f.infRung) : tval f x = some (key (sg f x) (tcut (mag f (rg f x)) (plc f (rg f x)))) := tval_num f x _ _ _ (read_num f x h)
theorem tval_inf (f : Format) (hf : 2 ≤ f.exponentBits) (x : Nat) (h : rg f x = f.infRung) : tval f x = none := by
  unfold tval; rw [read_inf f hf x h]; rfl
theorem tval_nan (f : Format) (hf : 2 ≤ f.exponentBits) (x : Nat) (h : isN f x) : tval f x = none := by
  unfold tval; rw [read_nan f hf x h]; rfl
/-- does it lie in the type? -/
def fits (w : Nat) (sgd : Bool) (v : Int) : Bool := if sgd then decide (-((2 ^ (w - 1) : Nat) : Int) ≤ v ∧ v < ((2 ^ (w - 1) : Nat) : Int)) else decide (0 ≤ v ∧ v < ((2 ^ w : Nat) : Int))
/-- its bits -/
def bitsI (w : Nat) (v : Int) : Int := if w = 32 then v % 4294967296 else IntKind.i64.wrap v
/-- a truncation: its value and the error's number -/
def truncI (f : Format) (x w : Nat) (sgd : Bool) : Int × Int :=
  if isN f x then (0, 600) else
  match tval f x with
  | none => (0, 601)
  | some v => if fits w sgd v = true then (bitsI w v, 0) else (0, 601)
theorem trunc_nan (f : Format) (x w : Nat) (sgd : Bool) (h : isN f x) : truncI f x w sgd = (0, 600) := by unfold truncI; rw [if_pos h]
theorem trunc_none (f : Format) (x w : Nat) (sgd : Bool) (h : ¬ isN f x) (hv : tval f x = none) : truncI f x w sgd = (0, 601) := by unfold truncI; rw [if_neg h, hv]
theorem trunc_some (f : Format) (x w : Nat) (sgd : Bool) (v : Int) (h : ¬ isN f x) (hv : tval f x = some v) (hf : fits w sgd v = true) : truncI f x w sgd = (bitsI w v, 0) := by
  unfold truncI; rw [if_neg h, hv]; dsimp only; rw [if_pos hf]
theorem trunc_out (f : Format) (x w : Nat) (sgd : Bool) (v : Int) (h : ¬ isN f x) (hv : tval f x = some v) (hf : ¬ fits w sgd v = true) : truncI f x w sgd = (0, 601) := by
  unfold truncI; rw [if_neg h, hv]; dsimp only; rw [if_neg hf]
theorem fits_32s (v : Int) : fits 32 true v = true ↔ -2147483648 ≤ v ∧ v < 2147483648 := by unfold fits; exact decide_eq_true_iff
theorem fits_32u (v : Int) : fits 32 false v = true ↔ 0 ≤ v ∧ v < 4294967296 := by unfold fits; exact decide_eq_true_iff
theorem fits_64s (v : Int) : fits 64 true v = true ↔ -9223372036854775808 ≤ v ∧ v < 9223372036854775808 := by unfold fits; exact decide_eq_true_iff
theorem fits_64u (v : Int) : fits 64 false v = true ↔ 0 ≤ v ∧ v < 18446744073709551616 := by unfold fits; exact decide_eq_true_iff
theorem bits_32 (v : Int) : bitsI 32 v = v % 4294967296 := by unfold bitsI; rw [if_pos rfl]
theorem bits_64 (v : Int) : bitsI 64 v = (v + 9223372036854775808) % 18446744073709551616 - 9223372036854775808 := by unfold bitsI; rw [if_neg (by decide), IntKind.wrap_i64]
/-- what is cut with sign and without, in 32 bits: three ways -/
theorem truncs32 (f : Format) (x : Nat) :
    (truncI f x 32 true = (0, 600) ∧ truncI f x 32 false = (0, 600)) ∨
    (truncI f x 32 true = (0, 601) ∧ (truncI f x 32 false = (0, 601) ∨ ∃ b, truncI f x 32 false = (b, 0))) ∨
    (∃ a, truncI f x 32 true = (a, 0) ∧ 0 ≤ a ∧ a < 2147483648 ∧ truncI f x 32 false = (a, 0)) ∨
    (∃ a, truncI f x 32 true = (a, 0) ∧ 2147483648 ≤ a ∧ a < 4294967296 ∧ truncI f x 32 false = (0, 601)) := by
  by_cases hn : isN f x
  · exact Or.inl ⟨trunc_nan f x 32 true hn, trunc_nan f x 32 false hn⟩
  right
  cases hv : tval f x with
  | none => exact Or.inl ⟨trunc_none f x 32 true hn hv, Or.inl (trunc_none f x 32 false hn hv)⟩
  | some v =>
    by_cases h1 : fits 32 true v = true
    · right
      have h1' := (fits_32s v).1 h1
      have e1 := trunc_some f x 32 true v hn hv h1
      rw [bits_32] at e1
      by_cases h2 : 0 ≤ v
      · left
        have e2 := trunc_some f x 32 false v hn hv ((fits_32u v).2 ⟨h2, by omega⟩)
        rw [bits_32] at e2
        exact ⟨_, e1, by omega, by omega, e2⟩
      · right
        exact ⟨_, e1, by omega, by omega, trunc_out f x 32 false v hn hv (fun h => h2 ((fits_32u v).1 h).1)⟩
    · left
      refine ⟨trunc_out f x 32 true v hn hv h1, ?_⟩
      by_cases h2 : fits 32 false v = true
      · exact Or.inr ⟨_, trunc_some f x 32 false v hn hv h2⟩
      · exact Or.inl (trunc_out f x 32 false v hn hv h2)
theorem truncs64 (f : Format) (x : Nat) :
    (truncI f x 64 true = (0, 600) ∧ truncI f x 64 false = (0, 600)) ∨
    (truncI f x 64 true = (0, 601) ∧ (truncI f x 64 false = (0, 601) ∨ ∃ b, truncI f x 64 false = (b, 0))) ∨
    (∃ a, truncI f x 64 true = (a, 0) ∧ 0 ≤ a ∧ truncI f x 64 false = (a, 0)) ∨
    (∃ a, truncI f x 64 true = (a, 0) ∧ a < 0 ∧ truncI f x 64 false = (0, 601)) := by
  by_cases hn : isN f x
  · exact Or.inl ⟨trunc_nan f x 64 true hn, trunc_nan f x 64 false hn⟩
  right
  cases hv : tval f x with
  | none => exact Or.inl ⟨trunc_none f x 64 true hn hv, Or.inl (trunc_none f x 64 false hn hv)⟩
  | some v =>
    by_cases h1 : fits 64 true v = true
    · right
      have h1' := (fits_64s v).1 h1
      have e1 := trunc_some f x 64 true v hn hv h1
      rw [bits_64] at e1
      by_cases h2 : 0 ≤ v
      · left
        have e2 := trunc_some f x 64 false v hn hv ((fits_64u v).2 ⟨h2, by omega⟩)
        rw [bits_64] at e2
        exact ⟨_, e1, by omega, e2⟩
      · right
        exact ⟨_, e1, by omega, trunc_out f x 64 false v hn hv (fun h => h2 ((fits_64u v).1 h).1)⟩
    · left
      refine ⟨trunc_out f x 64 true v hn hv h1, ?_⟩
      by_cases h2 : fits 64 false v = true
      · exact Or.inr ⟨_, trunc_some f x 64 false v hn hv h2⟩
      · exact Or.inl (trunc_out f x 64 false v hn hv h2)
/-- a whole number as a float -/
def fromW (f : Format) (v : Int) : Nat := f.nearest (decide (v < 0)) v.natAbs 0
/-- rounding does not fall -/
theorem near_mono (f : Format) (M N : Nat) (e : Int) (h : M ≤ N) : near f M e ≤ near f N e := by
  rcases Nat.lt_or_ge (near f N e) f.infRung with hi | hi
  · have h1 : ¬ (val f (near f N e) + val f (near f N e + 1)) * 2 ^ (f.leastPlace - e).toNat < 2 * (N * 2 ^ (e - f.leastPlace).toNat) := fun h2 => by
      have := le_near f N e (near f N e) (by omega) h2
      omega
    have hMN : M * 2 ^ (e - f.leastPlace).toNat ≤ N * 2 ^ (e - f.leastPlace).toNat := Nat.mul_le_mul_right _ h
    rcases Nat.lt_or_ge (2 * (M * 2 ^ (e - f.leastPlace).toNat)) ((val f (near f N e) + val f (near f N e + 1)) * 2 ^ (f.leastPlace - e).toNat) with h2 | h2
    · exact near_le f M e _ h2
    · have h3 : M * 2 ^ (e - f.leastPlace).toNat = N * 2 ^ (e - f.leastPlace).toNat := by omega
      have h4 : M = N := Nat.eq_of_mul_eq_mul_right (Nat.two_pow_pos _) h3
      rw [h4]; exact Nat.le_refl _
  · exact Nat.le_trans (near_inf f M e) hi
theorem from_pos (f : Format) (n : Nat) : fromW f (n : Int) = near f n 0 := by
  unfold fromW
  rw [show decide ((n : Int) < 0) = false from decide_eq_false (by omega), nearest_near]
  rfl
theorem from_mono (f : Format) (m n : Nat) (h : m ≤ n) : fromW f (m : Int) ≤ fromW f (n : Int) := by
  rw [from_pos, from_pos]; exact near_mono f m n 0 h
theorem from_inf (f : Format) (n : Nat) : fromW f (n : Int) ≤ f.infRung := by rw [from_pos]; exact near_inf f n 0
/-- a whole number of few bits comes back -/
theorem back_cut (f : Format) (M : Nat) (hM : M < 2 * f.binade) (hl : f.leastPlace ≤ 0) (hb : M * 2 ^ (-f.leastPlace).toNat < val f f.infRung) :
    tcut (mag f (near f M 0)) (plc f (near f M 0)) = M ∧ near f M 0 < f.infRung := by
  have h := val_near f M 0 hM hl (by rw [show (0 - f.leastPlace).toNat = (-f.leastPlace).toNat from by omega]; exact hb)
  rw [show (0 - f.leastPlace).toNat = (-f.leastPlace).toNat from by omega, val_mag] at h
  refine ⟨?_, h.2⟩
  have h1 := h.1
  have hp := plc_ge f (near f M 0)
  generalize mag f (near f M 0) = m at h1
  generalize plc f (near f M 0) = p at h1 hp
  rcases Int.le_total 0 p with h2 | h2
  · rw [tcut_up _ _ h2]
    have e : (p - f.leastPlace).toNat = p.toNat + (-f.leastPlace).toNat := by omega
    rw [e, Nat.pow_add, ← Nat.mul_assoc] at h1
    exact Nat.eq_of_mul_eq_mul_right (Nat.two_pow_pos _) h1
  · rw [tcut_down _ _ h2]
    have e : (-f.leastPlace).toNat = (-p).toNat + (p - f.leastPlace).toNat := by omega
    rw [e, Nat.pow_add, ← Nat.mul_assoc] at h1
    rw [Nat.eq_of_mul_eq_mul_right (Nat.two_pow_pos _) h1, Nat.mul_div_cancel _ (Nat.two_pow_pos _)]
theorem back_tval (f : Format) (hf : 2 ≤ f.exponentBits) (s : Bool) (M : Nat) (hM : M < 2 * f.binade) (hl : f.leastPlace ≤ 0) (hb : M * 2 ^ (-f.leastPlace).toNat < val f f.infRung) :
    tval f (f.nearest s M 0) = some (key s M) ∧ ¬ isN f (f.nearest s M 0) := by
  obtain ⟨h1, h2⟩ := back_cut f M hM hl hb
  have hs := Format.infRung_lt f
  have e1 : rg f (f.nearest s M 0) = near f M 0 := by rw [nearest_near, rg_word f s _ (by omega)]
  have e2 : sg f (f.nearest s M 0) = s := by rw [nearest_near, sg_word f s _ (by omega)]
  refine ⟨?_, by unfold isN; omega⟩
  rw [tval_fin f _ (by rw [e1]; exact h2), e1, e2, h1]
/-- a float in another format -/
def otherW (f g : Format) (x : Nat) : Nat := if isN f x then qn g else g.write (f.read x)
theorem other_nan (f g : Format) (x : Nat) (h : isN f x) : otherW f g x = qn g := by unfold otherW; rw [if_pos h]
theorem qn_nan (g : Format) (h : 1 ≤ g.fractionBits) : isN g (qn g) := by
  have hi := Format.infRung_add_binade g
  have hb : g.binade = 2 ^ g.fractionBits := rfl
  have h2 : 2 ^ (g.fractionBits - 1) < g.binade := by rw [hb]; exact Nat.pow_lt_pow_right (by decide) (by omega)
  have h3 := Nat.two_pow_pos (g.fractionBits - 1)
  unfold isN rg qn
  rw [Nat.mod_eq_of_lt (by omega)]
  omega
/-- a float of 32 bits, made longer and shorter again -/
theorem wide_back (q : Nat) (hq : q < 4294967296) (h : ¬ isN single q) : otherW double single (otherW single double q) = q := by
  have hf1 : 2 ≤ single.exponentBits := by decide
  have hf2 : 2 ≤ double.exponentBits := by decide
  have hw := word_parts single q (by rw [sw32]; omega)
  have e1 : otherW single double q = double.write (single.read q) := by unfold otherW; rw [if_neg h]
  unfold isN at h
  rcases Nat.lt_or_ge (rg single q) single.infRung with h1 | h1
  · have hr := read_num single q h1
    have hm : mag single (rg single q) < 16777216 := mag_single (rg single q)
    have hp : plc single (rg single q) ≤ 104 := plc_single (rg single q) h1
    have hp0 := plc_ge single (rg single q)
    rw [least_single] at hp0
    obtain ⟨v1, i1⟩ := wide_exact (mag single (rg single q)) (plc single (rg single q)) (by omega) (by omega) (by omega)
    have e2 : double.write (single.read q) = double.word (sg single q) (near double (mag single (rg single q)) (plc single (rg single q))) := by
      rw [hr]; exact nearest_near _ _ _ _
    have hR := read_wide (sg single q) _ i1
    have hs := sw_double
    rw [e1, e2]
    have e3 : otherW double single (double.word (sg single q) (near double (mag single (rg single q)) (plc single (rg single q)))) = single.write (double.read (double.word (sg single q) (near double (mag single (rg single q)) (plc single (rg single q))))) := by
      unfold otherW
      rw [if_neg (by unfold isN; rw [rg_word double _ _ (by omega)]; omega)]
    rw [e3, hR]
    show single.nearest (sg single q) (mag double _) (plc double _) = q
    rw [nearest_near]
    have e4 : near single (mag double (near double (mag single (rg single q)) (plc single (rg single q)))) (plc double (near double (mag single (rg single q)) (plc single (rg single q)))) = rg single q := by
      refine near_val single _ _ _ (by omega) ?_
      rw [val_mag] at v1
      have hd := plc_ge double (near double (mag single (rg single q)) (plc single (rg single q)))
      rw [least_double] at v1 hd
      rw [val_mag, least_single]
      generalize mag double (near double (mag single (rg single q)) (plc single (rg single q))) = m at v1 ⊢
      generalize plc double (near double (mag single (rg single q)) (plc single (rg single q))) = p at v1 hd ⊢
      generalize mag single (rg single q) = n at v1 ⊢
      generalize plc single (rg single q) = j at v1 hp0 ⊢
      -- m * 2 ^ (p + 1074) = n * 2 ^ (j + 1074)
      have e5 : m * 2 ^ (p - -149).toNat * 2 ^ 925 = n * 2 ^ (j - -149).toNat * 2 ^ (-149 - p).toNat * 2 ^ 925 := by
        generalize hc : 925 = c
        rcases Int.le_total (-149) p with h6 | h6
        · rw [show (-149 - p).toNat = 0 from by omega, Nat.pow_zero, Nat.mul_one, Nat.mul_assoc, Nat.mul_assoc, ← Nat.pow_add, ← Nat.pow_add, show (p - -149).toNat + c = (p - -1074).toNat from by omega, show (j - -149).toNat + c = (j + 1074).toNat from by omega]
          exact v1
        · rw [show (p - -149).toNat = 0 from by omega, Nat.pow_zero, Nat.mul_one, Nat.mul_assoc, Nat.mul_assoc, ← Nat.pow_add, ← Nat.pow_add]
          have v2 : m * 2 ^ (p - -1074).toNat * 2 ^ (-149 - p).toNat = n * 2 ^ (j + 1074).toNat * 2 ^ (-149 - p).toNat := by rw [v1]
          rw [Nat.mul_assoc, Nat.mul_assoc, ← Nat.pow_add, ← Nat.pow_add, show (p - -1074).toNat + (-149 - p).toNat = c from by omega] at v2
          rw [v2, show (j + 1074).toNat + (-149 - p).toNat = (j - -149).toNat + ((-149 - p).toNat + c) from by omega]
      exact Nat.eq_of_mul_eq_mul_right (Nat.two_pow_pos 925) e5
    rw [e4]
    exact hw
  · have h2 : rg single q = single.infRung := by omega
    have e2 : double.write (single.read q) = double.word (sg single q) double.infRung := by rw [read_inf single hf1 q h2]; rfl
    rw [e1, e2]
    have hs := Format.infRung_lt double
    have e3 : double.read (double.word (sg single q) double.infRung) = .infinity (sg single q) := by
      rw [read_inf double hf2 _ (rg_word double _ _ hs), sg_word double _ _ hs]
    unfold otherW
    rw [if_neg (by unfold isN; rw [rg_word double _ _ hs]; omega), e3]
    show single.word (sg single q) single.infRung = q
    rw [← h2]
    exact hw
end Go.FM
