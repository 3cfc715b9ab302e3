/- Contracts of the document's floats (pelorusref4), over this seat's translation: a float taken apart, in the model's words. -/
import Derived.Test.YtibfjlibkaejnaaDApart
import Derived.Test.YtibfjlibkaejnaaFOps
namespace Go.Proofs.Ytibfjlibkaejnaa.D
open Go.RowKit
open Go.FM (W64 two bl lost isN)
set_option linter.unusedVariables false

theorem hff : 2 ≤ ff.exponentBits := by decide
theorem ff_sw : ff.signWeight = 9223372036854775808 := by decide +kernel
theorem ff_inf : ff.infRung = 9218868437227405312 := by decide +kernel
theorem ff_bin : ff.binade = 4503599627370496 := by decide +kernel
theorem ff_least : ff.leastPlace = -1074 := by decide +kernel
theorem ap_parts (x : Nat) (hx : x < 18446744073709551616) : (x : Int) / 9223372036854775808 = ((x / 9223372036854775808 : Nat) : Int) ∧ bits .and .u64 ((x / 9223372036854775808 : Nat) : Int) 1 = ((x / 9223372036854775808 % 2 : Nat) : Int) ∧ (((x / 9223372036854775808 % 2 : Nat) : Int) == 1) = FM.sg ff x ∧
    (x : Int) / 4503599627370496 = ((x / 4503599627370496 : Nat) : Int) ∧ bits .and .u64 ((x / 4503599627370496 : Nat) : Int) 2047 = ((FM.rg ff x / 4503599627370496 : Nat) : Int) ∧ bits .and .u64 (x : Int) 4503599627370495 = ((FM.rg ff x % 4503599627370496 : Nat) : Int) := by
  have hr : FM.rg ff x = x % 9223372036854775808 := by unfold FM.rg; rw [ff_sw]
  refine ⟨by omega, ?_, ?_, by omega, ?_, ?_⟩
  · exact FM.and1_u _ (by simp only [W64]; omega)
  · unfold FM.sg; rw [ff_sw, Bool.eq_iff_iff]; simp only [beq_iff_eq]; omega
  · have := FM.mask_u (x / 4503599627370496) 11 (by simp only [W64]; omega) (by decide)
    rw [hr, show x % 9223372036854775808 / 4503599627370496 = x / 4503599627370496 % 2 ^ 11 from by omega]
    exact this
  · have := FM.mask_u x 52 (by simp only [W64]; omega) (by decide)
    rw [hr, show x % 9223372036854775808 % 4503599627370496 = x % 2 ^ 52 from by omega]
    exact this
theorem apart_fin (x : Nat) (hx : x < 18446744073709551616) (h : FM.rg ff x < ff.infRung) (w : World) :
    Calls Try.prog 36 #[fm, .int .u64 (x : Nat)] w fun e w' => e = .returned (fv (FM.sg ff x) false false (FM.mag ff (FM.rg ff x) : Nat) (FM.plc ff (FM.rg ff x))) ∧ Later w w' := by
  obtain ⟨a1, a2, a3, a4, a5, a6⟩ := ap_parts x hx
  rw [ff_inf] at h
  generalize FM.rg ff x = r at *
  by_cases h1 : r < 4503599627370496
  · have e1 : FM.mag ff r = r := by unfold FM.mag; rw [ff_bin, if_pos h1]
    have e2 : FM.plc ff r = -1074 := by unfold FM.plc; rw [ff_bin, if_pos h1, ff_least]
    rw [e1, e2]
    rw [Nat.mod_eq_of_lt h1] at a6
    rw [Nat.div_eq_of_lt h1] at a5
    exact apart_sub0 x _ _ _ _ _ _ a1 a2 a3 a4 a5 a6 rfl w
  · have e1 : FM.mag ff r = 4503599627370496 + r % 4503599627370496 := by unfold FM.mag; rw [ff_bin, if_neg h1]
    have e2 : FM.plc ff r = -1074 + ((r / 4503599627370496 : Nat) : Int) - 1 := by unfold FM.plc; rw [ff_bin, if_neg h1, ff_least]; omega
    rw [e1, e2]
    refine apart_norm0 x _ _ _ _ _ _ a1 a2 a3 a4 a5 a6 _ _ ?_ ?_ (by omega) (by omega) ?_ rfl w
    · rw [beq_eq_false_iff_ne]; omega
    · rw [beq_eq_false_iff_ne]; omega
    · have := FM.or_u (r % 4503599627370496) 4503599627370496 (by simp only [W64]; omega) (by decide)
      have e := FM.or_add 1 (r % 4503599627370496) 52 (by omega)
      rw [show 1 * 2 ^ 52 = 4503599627370496 from by decide, Nat.or_comm] at e
      rw [e] at this
      exact this
theorem apart_inf (x : Nat) (hx : x < 18446744073709551616) (h : FM.rg ff x = ff.infRung) (w : World) :
    Calls Try.prog 36 #[fm, .int .u64 (x : Nat)] w fun e w' => e = .returned (fv (FM.sg ff x) true false 0 0) ∧ Later w w' := by
  obtain ⟨a1, a2, a3, a4, a5, a6⟩ := ap_parts x hx
  rw [ff_inf] at h
  rw [h] at a5 a6
  exact apart_inf0 x _ _ _ _ _ _ a1 a2 a3 a4 a5 a6 (by decide) (by decide) w
theorem apart_nan (x : Nat) (hx : x < 18446744073709551616) (h : isN ff x) (w : World) :
    Calls Try.prog 36 #[fm, .int .u64 (x : Nat)] w fun e w' => e = .returned (fv (FM.sg ff x) false true ((FM.rg ff x % 4503599627370496 : Nat) : Int) 0) ∧ Later w w' := by
  obtain ⟨a1, a2, a3, a4, a5, a6⟩ := ap_parts x hx
  unfold isN at h
  rw [ff_inf] at h
  have hl := FM.rg_lt ff x
  rw [ff_sw] at hl
  exact apart_nan0 x _ _ _ _ _ _ a1 a2 a3 a4 a5 a6 (by omega) (by omega) w
end Go.Proofs.Ytibfjlibkaejnaa.D
