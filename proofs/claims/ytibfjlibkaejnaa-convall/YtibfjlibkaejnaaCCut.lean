/- A float cut toward 0 and held against bounds that are floats: what comes of it, as plain numbers; wider and narrower floats. -/
import Derived.Test.YtibfjlibkaejnaaCLaw
namespace Go.FM
open Ieee
set_option linter.unusedVariables false

theorem tcut_congr {m n : Nat} {p j : Int} (l : Int) (hl : l ≤ 0) (hp : l ≤ p) (hj : l ≤ j) (h : m * 2 ^ (p - l).toNat = n * 2 ^ (j - l).toNat) : tcut m p = tcut n j := by
  have := cut_congr .zero false l hl hp hj h
  rw [glue_cut, glue_cut, Nat.shiftLeft_eq, Nat.shiftLeft_eq] at this
  exact this
/-- a rung that is worth a whole number -/
theorem tcut_of_val (f : Format) (R c : Nat) (hl : f.leastPlace ≤ 0) (h : val f R = c * 2 ^ (-f.leastPlace).toNat) : tcut (mag f R) (plc f R) = c := by
  rw [val_mag] at h
  have := tcut_congr (m := mag f R) (n := c) (p := plc f R) (j := 0) f.leastPlace hl (plc_ge f R) hl (by rw [show (0 - f.leastPlace).toNat = (-f.leastPlace).toNat from by omega]; exact h)
  rw [this, tcut_up c 0 (by decide)]
  exact Nat.mul_one c
theorem big_double : 2 * double.binade * 2 ^ (-double.leastPlace).toNat ≤ val double double.infRung := by
  obtain ⟨N, hN, hv⟩ := val_inf_double
  rw [hv, least_double]
  have hb : 2 * double.binade < 2 ^ 54 := by decide +kernel
  exact Nat.le_of_lt (pow_lt_of (a := 54) (b := (- (-1074 : Int)).toNat) hb N (by rw [hN]; decide))
/-- cut, a float is the whole number's -/
theorem whole_fin (x : Nat) (hx : x < 18446744073709551616) (h : rg double x < double.infRung) :
    ∃ v, tval double x = some v ∧ tval double (wholeW double .zero x) = some v ∧ rg double (wholeW double .zero x) < double.infRung ∧
      key (sg double (wholeW double .zero x)) (val double (rg double (wholeW double .zero x))) = v * ((2 ^ (-double.leastPlace).toNat : Nat) : Int) := by
  have hs := sw_double
  have hl : double.leastPlace ≤ 0 := by rw [least_double]; decide
  have hw := word_parts double x (by rw [sw64]; omega)
  generalize sg double x = s at hw
  generalize rg double x = r at hw h
  subst hw
  obtain ⟨h1, h2⟩ := cutv_exact double .zero s r h hl (by decide) big_double
  have hc : cutv double .zero s r = tcut (mag double r) (plc double r) := by
    unfold cutv tcut; rw [glue_cut, Nat.shiftLeft_eq]
  have e0 : tval double (double.word s r) = some (key s (tcut (mag double r) (plc double r))) := by
    rw [tval_fin double _ (by rw [rg_word double s r (by omega)]; exact h), rg_word double s r (by omega), sg_word double s r (by omega)]
  rw [hc] at h1 h2
  rw [whole_word double .zero s r h, hc]
  generalize tcut (mag double r) (plc double r) = c at *
  have e1 : rg double (double.word s (near double c 0)) = near double c 0 := rg_word double s _ (by omega)
  have e2 : sg double (double.word s (near double c 0)) = s := sg_word double s _ (by omega)
  refine ⟨key s c, e0, ?_, by rw [e1]; exact h2, ?_⟩
  · rw [tval_fin double _ (by rw [e1]; exact h2), e1, e2, tcut_of_val double _ c hl h1]
  · rw [e1, e2, h1, key_scale]
/-- a float that is a whole number, as a bound -/
def Bnd (B : Nat) (b : Int) : Prop := rg double B < double.infRung ∧ key (sg double B) (val double (rg double B)) = b * ((2 ^ (-double.leastPlace).toNat : Nat) : Int)
theorem order_whole (x B : Nat) (v b : Int) (hx : x < 18446744073709551616) (h : rg double x < double.infRung) (hv : tval double x = some v) (hB : Bnd B b) :
    double.order (wholeW double .zero x) B = some (compare v b) := by
  obtain ⟨u, h1, h2, h3, h4⟩ := whole_fin x hx h
  have : u = v := by rw [hv] at h1; exact (Option.some.inj h1).symm
  subst this
  rw [order_num double _ _ h3 hB.1]
  congr 1
  have hk := key_val double (sg double (wholeW double .zero x)) (sg double B) (rg double (wholeW double .zero x)) (rg double B)
  rw [h4, hB.2] at hk
  have hp : (0 : Int) < ((2 ^ (-double.leastPlace).toNat : Nat) : Int) := by have := Nat.two_pow_pos (-double.leastPlace).toNat; omega
  generalize ((2 ^ (-double.leastPlace).toNat : Nat) : Int) = P at hk hp
  refine cmp_congr (hk.1.symm.trans ?_) (hk.2.symm.trans ?_)
  · exact ⟨fun g => Int.lt_of_mul_lt_mul_right g (by omega), fun g => Int.mul_lt_mul_of_pos_right g hp⟩
  · exact ⟨fun g => Int.eq_of_mul_eq_mul_right (by omega) g, fun g => by rw [g]⟩
/-- without end, against a bound -/
theorem order_inf (x B : Nat) (b : Int) (h : rg double x = double.infRung) (hB : Bnd B b) :
    double.order x B = some (if sg double x then .lt else .gt) := by
  rw [order_key double (by decide) x B (by omega) (by have := hB.1; omega), h]
  congr 1
  have h1 := hB.1
  unfold key
  cases sg double x <;> cases sg double B <;> simp only [if_true, if_false, Bool.false_eq_true]
  · exact cmp_gt (by omega)
  · exact cmp_gt (by omega)
  · exact cmp_lt (by omega)
  · exact cmp_lt (by omega)
theorem whole_infinite (x : Nat) (hx : x < 18446744073709551616) (h : rg double x = double.infRung) : wholeW double .zero x = x := by
  have hw := word_parts double x (by rw [sw64]; omega)
  unfold wholeW
  rw [if_neg (by unfold isN; omega), read_inf double (by decide) x h]
  show double.word (sg double x) double.infRung = x
  rw [← h]; exact hw
/-- what 'cut' makes: the whole number and the error's number -/
def cutI (x : Nat) (l e : Int) : Int × Int := if isN double x then (0, 600) else
  match tval double x with
  | none => (0, 601)
  | some v => if l ≤ v ∧ v < e then (v, 0) else (0, 601)
theorem cut_trunc (x w : Nat) (sgd : Bool) (l e : Int) (hf : ∀ v, fits w sgd v = true ↔ l ≤ v ∧ v < e) : truncI double x w sgd = (bitsI w (cutI x l e).1, (cutI x l e).2) := by
  have h0 : bitsI w 0 = 0 := by unfold bitsI; split <;> rfl
  unfold truncI cutI
  by_cases hn : isN double x
  · rw [if_pos hn, if_pos hn, h0]
  · rw [if_neg hn, if_neg hn]
    cases hv : tval double x with
    | none => dsimp only; rw [h0]
    | some v =>
      dsimp only
      by_cases h : l ≤ v ∧ v < e
      · rw [if_pos ((hf v).2 h), if_pos h]
      · rw [if_neg (fun g => h ((hf v).1 g)), if_neg h, h0]
theorem cutI_nan (x : Nat) (l e : Int) (h : isN double x) : cutI x l e = (0, 600) := by unfold cutI; rw [if_pos h]
theorem cut_none (x : Nat) (l e : Int) (h : ¬ isN double x) (hv : tval double x = none) : cutI x l e = (0, 601) := by unfold cutI; rw [if_neg h, hv]
theorem cut_in (x : Nat) (l e v : Int) (h : ¬ isN double x) (hv : tval double x = some v) (hb : l ≤ v ∧ v < e) : cutI x l e = (v, 0) := by unfold cutI; rw [if_neg h, hv]; dsimp only; rw [if_pos hb]
theorem cut_out (x : Nat) (l e v : Int) (h : ¬ isN double x) (hv : tval double x = some v) (hb : ¬ (l ≤ v ∧ v < e)) : cutI x l e = (0, 601) := by unfold cutI; rw [if_neg h, hv]; dsimp only; rw [if_neg hb]
theorem cut_range (x : Nat) (l e : Int) (hl : l ≤ 0) (he : 0 < e) : l ≤ (cutI x l e).1 ∧ (cutI x l e).1 < e := by
  unfold cutI
  split
  · exact ⟨hl, he⟩
  · split
    · exact ⟨hl, he⟩
    · split
      · rename_i h; exact h
      · exact ⟨hl, he⟩
/-! the bounds -/
theorem bnd_of (B b R k : Nat) (s : Bool) (v : Int) (hB : B = double.word s (k * double.binade + double.binade)) (hk : k = b + 1022) (hR : k < 2046) (hv : v = key s (2 ^ b)) : Bnd B v := by
  have hi : double.infRung = 9218868437227405312 := inf64
  have hb : double.binade = 4503599627370496 := by decide +kernel
  have hs := sw_double
  have hkb : k * double.binade + double.binade < double.infRung := by rw [hb, hi]; omega
  have h1 : rg double B = k * double.binade + double.binade := by rw [hB]; exact rg_word double s _ (by omega)
  have h2 : sg double B = s := by rw [hB]; exact sg_word double s _ (by omega)
  refine ⟨by rw [h1]; exact hkb, ?_⟩
  have e1 : double.binade = 2 ^ 52 := rfl
  have e2 : 52 + k = b + (-double.leastPlace).toNat := by rw [least_double]; omega
  have e3 : double.binade * 2 ^ k = 2 ^ b * 2 ^ (-double.leastPlace).toNat := by rw [e1, ← Nat.pow_add, ← Nat.pow_add, e2]
  rw [h1, h2, val_at double k double.binade (Or.inr (Nat.le_refl _)) (by omega), hv, ← key_scale, e3]
theorem bnd_zero : Bnd 0 0 := by
  refine ⟨by decide +kernel, ?_⟩
  rw [show rg double 0 = 0 from by decide +kernel, val_zero, Int.zero_mul]
  cases sg double 0 <;> rfl
theorem bnd_31 : Bnd 4746794007248502784 2147483648 := bnd_of _ 31 0 1053 false _ (by decide +kernel) (by decide) (by decide) (by decide)
theorem bnd_m31 : Bnd 13970166044103278592 (-2147483648) := bnd_of _ 31 0 1053 true _ (by decide +kernel) (by decide) (by decide) (by decide)
theorem bnd_32 : Bnd 4751297606875873280 4294967296 := bnd_of _ 32 0 1054 false _ (by decide +kernel) (by decide) (by decide) (by decide)
theorem bnd_63 : Bnd 4890909195324358656 9223372036854775808 := bnd_of _ 63 0 1085 false _ (by decide +kernel) (by decide) (by decide) (by decide)
theorem bnd_m63 : Bnd 14114281232179134464 (-9223372036854775808) := bnd_of _ 63 0 1085 true _ (by decide +kernel) (by decide) (by decide) (by decide)
theorem bnd_64 : Bnd 4895412794951729152 18446744073709551616 := bnd_of _ 64 0 1086 false _ (by decide +kernel) (by decide) (by decide) (by decide)
/-! wider -/
theorem wide_fin (q : Nat) (hq : q < 4294967296) (h : rg single q < single.infRung) : ∃ D, otherW single double q = D ∧ double.write (.number (sg single q) (mag single (rg single q)) (plc single (rg single q))) = D ∧ D < 18446744073709551616 ∧ rg double D < double.infRung ∧ tval double D = tval single q := by
  have hs := sw_double
  have hr := read_num single q h
  have hm : mag single (rg single q) < 16777216 := mag_single (rg single q)
  have hp : plc single (rg single q) ≤ 104 := plc_single (rg single q) h
  have hp0 := plc_ge single (rg single q)
  rw [least_single] at hp0
  obtain ⟨v1, i1⟩ := wide_exact (mag single (rg single q)) (plc single (rg single q)) (by omega) (by omega) (by omega)
  have e2 : double.write (.number (sg single q) (mag single (rg single q)) (plc single (rg single q))) = double.word (sg single q) (near double (mag single (rg single q)) (plc single (rg single q))) := nearest_near _ _ _ _
  have e1 : otherW single double q = double.word (sg single q) (near double (mag single (rg single q)) (plc single (rg single q))) := by
    unfold otherW; rw [if_neg (by unfold isN; omega), hr]; exact e2
  have r1 : rg double (double.word (sg single q) (near double (mag single (rg single q)) (plc single (rg single q)))) = near double (mag single (rg single q)) (plc single (rg single q)) := rg_word double _ _ (by omega)
  refine ⟨_, e1, e2, ?_, by rw [r1]; exact i1, ?_⟩
  · have := word_bound double (sg single q) (near double (mag single (rg single q)) (plc single (rg single q))) (by omega)
    rw [sw64] at this; omega
  · rw [tval_fin double _ (by rw [r1]; exact i1), r1, sg_word double _ _ (by omega), tval_fin single q h]
    congr 2
    rw [val_mag, least_double] at v1
    refine tcut_congr (-1074) (by decide) (by have := plc_ge double (near double (mag single (rg single q)) (plc single (rg single q))); rw [least_double] at this; exact this) (by omega) ?_
    rw [v1, show (plc single (rg single q) - -1074).toNat = (plc single (rg single q) + 1074).toNat from by omega]
theorem wide_inf (q : Nat) (hq : q < 4294967296) (h : rg single q = single.infRung) : otherW single double q = double.word (sg single q) double.infRung ∧ otherW single double q < 18446744073709551616 ∧ rg double (otherW single double q) = double.infRung := by
  have hs := sw_double
  have e : otherW single double q = double.word (sg single q) double.infRung := by
    unfold otherW; rw [if_neg (by unfold isN; omega), read_inf single (by decide) q h]; rfl
  rw [e]
  refine ⟨rfl, ?_, rg_word double _ _ (by omega)⟩
  have := word_bound double (sg single q) double.infRung (by omega)
  rw [sw64] at this; omega
/-- a truncation of the wider float is the narrower's -/
theorem trunc_wide (q w : Nat) (sgd : Bool) (hq : q < 4294967296) : truncI single q w sgd = truncI double (otherW single double q) w sgd := by
  rcases Nat.lt_trichotomy (rg single q) single.infRung with h | h | h
  · obtain ⟨D, e, -, -, h1, h2⟩ := wide_fin q hq h
    rw [e]
    unfold truncI
    rw [if_neg (by unfold isN; omega), if_neg (by unfold isN; omega), h2]
  · obtain ⟨e, h1, h2⟩ := wide_inf q hq h
    rw [trunc_none single q w sgd (by unfold isN; omega) (tval_inf single (by decide) q h), trunc_none double _ w sgd (by unfold isN; omega) (tval_inf double (by decide) _ h2)]
  · rw [trunc_nan single q w sgd h, other_nan single double q h, trunc_nan double _ w sgd (qn_nan double (by decide))]
/-- any number that is none is cut alike -/
theorem cut_nans (x y : Nat) (l e : Int) (h : isN double x) (h' : isN double y) : cutI x l e = cutI y l e := by rw [cutI_nan x l e h, cutI_nan y l e h']
/-- can it be made narrower, so that a float is left, or was it none before? -/
def small (D : Nat) : Prop := rg double D < double.infRung → near single (mag double (rg double D)) (plc double (rg double D)) < single.infRung
theorem small_wide (q : Nat) (hq : q < 4294967296) : small (otherW single double q) := by
  intro h
  have hl := other_lt64 q
  have hs := sw_double
  by_cases hn : isN single q
  · rw [other_nan single double q hn] at h
    have := qn_nan double (by decide)
    unfold isN at this; omega
  · have hb := wide_back q hq hn
    have hn2 : ¬ isN double (otherW single double q) := by unfold isN; omega
    rcases Nat.lt_or_ge (rg single q) single.infRung with h1 | h1
    · unfold otherW at hb
      rw [if_neg (show ¬ isN double (if isN single q then qn double else double.write (single.read q)) from hn2)] at hb
      rw [show (if isN single q then qn double else double.write (single.read q)) = otherW single double q from rfl, read_num double _ h] at hb
      have hb2 : single.word (sg double (otherW single double q)) (near single (mag double (rg double (otherW single double q))) (plc double (rg double (otherW single double q)))) = q := by
        rw [← nearest_near]; exact hb
      have hi := near_inf single (mag double (rg double (otherW single double q))) (plc double (rg double (otherW single double q)))
      have hss := sw_single
      have := rg_word single (sg double (otherW single double q)) (near single (mag double (rg double (otherW single double q))) (plc double (rg double (otherW single double q)))) (by omega)
      rw [hb2] at this
      omega
    · unfold isN at hn
      obtain ⟨e, g1, g2⟩ := wide_inf q hq (by omega)
      omega
theorem from_num (f : Format) (v : Int) : ¬ isN f (fromW f v) := by
  have hs := Format.infRung_lt f
  have hi := near_inf f v.natAbs 0
  unfold fromW isN
  rw [nearest_near, rg_word f _ _ (by omega)]
  omega
end Go.FM
