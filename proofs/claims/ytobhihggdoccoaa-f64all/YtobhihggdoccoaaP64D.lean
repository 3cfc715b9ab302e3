/- Contracts of package f64n over this seat's translation: the library's whole numbers and roots, wider and narrower floats. -/
import Derived.Test.YtobhihggdoccoaaP64A
namespace Go.Proofs.Ytobhihggdoccoaa
open Go.RowKit
open Go.FM (isN fixn qn)
set_option linter.unusedVariables false

theorem arm1 {α : Type} (x : Nat) (h1 : Nat → α) (h2 : Array Value → α) : Extern.MathFloor.toIntegral.match_2 (motive := fun _ => α) #[Value.float .f64 x] h1 h2 = h1 x := rfl
theorem arm2 {α : Type} (x : Nat) (h1 : Nat → α) (h2 : Array Value → α) : Extern.MathSqrt.sqrt.match_2 (motive := fun _ => α) #[Value.float .f64 x] h1 h2 = h1 x := rfl
/-- no number made quiet is none -/
theorem quiet_nan (s : Bool) (t : Nat) (h0 : 0 < t) (h : t < df.binade) : isN df (df.write (.nan s (df.quiet t))) ∧ df.write (.nan s (df.quiet t)) < 18446744073709551616 := by
  have hb : df.binade = 2 ^ 52 := rfl
  have hi : df.infRung + df.binade = df.signWeight := Ieee.Format.infRung_add_binade df
  have h1 : df.quiet t < 2 ^ 52 := Nat.or_lt_two_pow (by rw [hb] at h; exact h) (by decide)
  have h2 : 2 ^ 51 ≤ df.quiet t := Nat.right_le_or
  have e : df.write (.nan s (df.quiet t)) = df.word s (df.infRung + df.quiet t) := by
    show df.word s (df.infRung + df.quiet t % df.binade) = _
    rw [Nat.mod_eq_of_lt (by rw [hb]; exact h1)]
  rw [e]
  constructor
  · unfold isN; rw [FM.rg_word df s _ (by omega)]; omega
  · exact Ieee.Format.word_lt df s (by omega)
theorem run_ceil (D : Nat) (hn : (df.read D).isNaN = false) (w : World) : (callFunc 62 #[.float .f64 D]).run Try.prog w = .ok (.value (.float .f64 (df.write ((df.read D).integral .up)))) w := by
  rw [run_callFunc_extern (e := Extern.MathFloor.toIntegral "math.archCeil" .up) Try.func62 (by kernel_rfl) (by kernel_rfl) (by kernel_rfl) (by kernel_rfl)]
  have hd : FloatKind.f64.decode D = df.read D := rfl
  cases h : df.read D with
  | nan s t => rw [h] at hn; cases hn
  | number s m p => rw [h] at hd; rw [Extern.MathFloor.toIntegral.eq_1, arm1, hd]; rfl
  | infinity s => rw [h] at hd; rw [Extern.MathFloor.toIntegral.eq_1, arm1, hd]; rfl
theorem run_ceil_nan (D : Nat) (hD : D < 18446744073709551616) (hn : isN df D) (w : World) : ∃ (E n : Nat), (callFunc 62 #[.float .f64 D]).run Try.prog w = .ok (.value (.float .f64 E)) (w.drewN n) ∧ isN df E ∧ E < 18446744073709551616 := by
  have hd : FloatKind.f64.decode D = .nan (FM.sg df D) (FM.rg df D - df.infRung) := FM.read_nan df hdf D hn
  have hq := quiet_nan (FM.sg df D) (FM.rg df D - df.infRung) (by unfold isN at hn; omega) (by have := FM.rg_lt df D; have := Ieee.Format.infRung_add_binade df; unfold isN at hn; omega)
  rw [run_callFunc_extern (e := Extern.MathFloor.toIntegral "math.archCeil" .up) Try.func62 (by kernel_rfl) (by kernel_rfl) (by kernel_rfl) (by kernel_rfl)]
  by_cases hc : FloatKind.f64.format.quiet (FM.rg df D - df.infRung) = FM.rg df D - df.infRung
  · refine ⟨D, 0, ?_, hn, hD⟩
    rw [Extern.MathFloor.toIntegral.eq_1, arm1, hd]
    dsimp only
    rw [if_pos hc]
    rfl
  · rw [Extern.MathFloor.toIntegral.eq_1, arm1, hd]
    dsimp only
    rw [if_neg hc]
    simp only [Sem.run_bind, run_choose_drew, Question.forced]
    generalize Question.cut _ _ = z
    by_cases hz : z = 1
    · exact ⟨D, 1, by simp [hz]; rfl, hn, hD⟩
    · exact ⟨df.write (.nan (FM.sg df D) (df.quiet (FM.rg df D - df.infRung))), 1, by simp [hz]; exact ⟨rfl, rfl⟩, hq.1, hq.2⟩
theorem run_floor (D : Nat) (hn : (df.read D).isNaN = false) (w : World) : (callFunc 64 #[.float .f64 D]).run Try.prog w = .ok (.value (.float .f64 (df.write ((df.read D).integral .down)))) w := by
  rw [run_callFunc_extern (e := Extern.MathFloor.toIntegral "math.archFloor" .down) Try.func64 (by kernel_rfl) (by kernel_rfl) (by kernel_rfl) (by kernel_rfl)]
  have hd : FloatKind.f64.decode D = df.read D := rfl
  cases h : df.read D with
  | nan s t => rw [h] at hn; cases hn
  | number s m p => rw [h] at hd; rw [Extern.MathFloor.toIntegral.eq_1, arm1, hd]; rfl
  | infinity s => rw [h] at hd; rw [Extern.MathFloor.toIntegral.eq_1, arm1, hd]; rfl
theorem run_floor_nan (D : Nat) (hD : D < 18446744073709551616) (hn : isN df D) (w : World) : ∃ (E n : Nat), (callFunc 64 #[.float .f64 D]).run Try.prog w = .ok (.value (.float .f64 E)) (w.drewN n) ∧ isN df E ∧ E < 18446744073709551616 := by
  have hd : FloatKind.f64.decode D = .nan (FM.sg df D) (FM.rg df D - df.infRung) := FM.read_nan df hdf D hn
  have hq := quiet_nan (FM.sg df D) (FM.rg df D - df.infRung) (by unfold isN at hn; omega) (by have := FM.rg_lt df D; have := Ieee.Format.infRung_add_binade df; unfold isN at hn; omega)
  rw [run_callFunc_extern (e := Extern.MathFloor.toIntegral "math.archFloor" .down) Try.func64 (by kernel_rfl) (by kernel_rfl) (by kernel_rfl) (by kernel_rfl)]
  by_cases hc : FloatKind.f64.format.quiet (FM.rg df D - df.infRung) = FM.rg df D - df.infRung
  · refine ⟨D, 0, ?_, hn, hD⟩
    rw [Extern.MathFloor.toIntegral.eq_1, arm1, hd]
    dsimp only
    rw [if_pos hc]
    rfl
  · rw [Extern.MathFloor.toIntegral.eq_1, arm1, hd]
    dsimp only
    rw [if_neg hc]
    simp only [Sem.run_bind, run_choose_drew, Question.forced]
    generalize Question.cut _ _ = z
    by_cases hz : z = 1
    · exact ⟨D, 1, by simp [hz]; rfl, hn, hD⟩
    · exact ⟨df.write (.nan (FM.sg df D) (df.quiet (FM.rg df D - df.infRung))), 1, by simp [hz]; exact ⟨rfl, rfl⟩, hq.1, hq.2⟩
theorem run_trunc (D : Nat) (hn : (df.read D).isNaN = false) (w : World) : (callFunc 66 #[.float .f64 D]).run Try.prog w = .ok (.value (.float .f64 (df.write ((df.read D).integral .zero)))) w := by
  rw [run_callFunc_extern (e := Extern.MathFloor.toIntegral "math.archTrunc" .zero) Try.func66 (by kernel_rfl) (by kernel_rfl) (by kernel_rfl) (by kernel_rfl)]
  have hd : FloatKind.f64.decode D = df.read D := rfl
  cases h : df.read D with
  | nan s t => rw [h] at hn; cases hn
  | number s m p => rw [h] at hd; rw [Extern.MathFloor.toIntegral.eq_1, arm1, hd]; rfl
  | infinity s => rw [h] at hd; rw [Extern.MathFloor.toIntegral.eq_1, arm1, hd]; rfl
theorem run_trunc_nan (D : Nat) (hD : D < 18446744073709551616) (hn : isN df D) (w : World) : ∃ (E n : Nat), (callFunc 66 #[.float .f64 D]).run Try.prog w = .ok (.value (.float .f64 E)) (w.drewN n) ∧ isN df E ∧ E < 18446744073709551616 := by
  have hd : FloatKind.f64.decode D = .nan (FM.sg df D) (FM.rg df D - df.infRung) := FM.read_nan df hdf D hn
  have hq := quiet_nan (FM.sg df D) (FM.rg df D - df.infRung) (by unfold isN at hn; omega) (by have := FM.rg_lt df D; have := Ieee.Format.infRung_add_binade df; unfold isN at hn; omega)
  rw [run_callFunc_extern (e := Extern.MathFloor.toIntegral "math.archTrunc" .zero) Try.func66 (by kernel_rfl) (by kernel_rfl) (by kernel_rfl) (by kernel_rfl)]
  by_cases hc : FloatKind.f64.format.quiet (FM.rg df D - df.infRung) = FM.rg df D - df.infRung
  · refine ⟨D, 0, ?_, hn, hD⟩
    rw [Extern.MathFloor.toIntegral.eq_1, arm1, hd]
    dsimp only
    rw [if_pos hc]
    rfl
  · rw [Extern.MathFloor.toIntegral.eq_1, arm1, hd]
    dsimp only
    rw [if_neg hc]
    simp only [Sem.run_bind, run_choose_drew, Question.forced]
    generalize Question.cut _ _ = z
    by_cases hz : z = 1
    · exact ⟨D, 1, by simp [hz]; rfl, hn, hD⟩
    · exact ⟨df.write (.nan (FM.sg df D) (df.quiet (FM.rg df D - df.infRung))), 1, by simp [hz]; exact ⟨rfl, rfl⟩, hq.1, hq.2⟩
theorem run_even (D : Nat) (hn : (df.read D).isNaN = false) (w : World) : (callFunc 47 #[.float .f64 D]).run Try.prog w = .ok (.value (.float .f64 (df.write ((df.read D).integral .even)))) w := by
  rw [run_callFunc_extern (e := Extern.MathFloor.toIntegral "math.RoundToEven" .even) Try.func47 (by kernel_rfl) (by kernel_rfl) (by kernel_rfl) (by kernel_rfl)]
  have hd : FloatKind.f64.decode D = df.read D := rfl
  cases h : df.read D with
  | nan s t => rw [h] at hn; cases hn
  | number s m p => rw [h] at hd; rw [Extern.MathFloor.toIntegral.eq_1, arm1, hd]; rfl
  | infinity s => rw [h] at hd; rw [Extern.MathFloor.toIntegral.eq_1, arm1, hd]; rfl
theorem run_even_nan (D : Nat) (hD : D < 18446744073709551616) (hn : isN df D) (w : World) : ∃ (E n : Nat), (callFunc 47 #[.float .f64 D]).run Try.prog w = .ok (.value (.float .f64 E)) (w.drewN n) ∧ isN df E ∧ E < 18446744073709551616 := by
  have hd : FloatKind.f64.decode D = .nan (FM.sg df D) (FM.rg df D - df.infRung) := FM.read_nan df hdf D hn
  have hq := quiet_nan (FM.sg df D) (FM.rg df D - df.infRung) (by unfold isN at hn; omega) (by have := FM.rg_lt df D; have := Ieee.Format.infRung_add_binade df; unfold isN at hn; omega)
  rw [run_callFunc_extern (e := Extern.MathFloor.toIntegral "math.RoundToEven" .even) Try.func47 (by kernel_rfl) (by kernel_rfl) (by kernel_rfl) (by kernel_rfl)]
  by_cases hc : FloatKind.f64.format.quiet (FM.rg df D - df.infRung) = FM.rg df D - df.infRung
  · refine ⟨D, 0, ?_, hn, hD⟩
    rw [Extern.MathFloor.toIntegral.eq_1, arm1, hd]
    dsimp only
    rw [if_pos hc]
    rfl
  · rw [Extern.MathFloor.toIntegral.eq_1, arm1, hd]
    dsimp only
    rw [if_neg hc]
    simp only [Sem.run_bind, run_choose_drew, Question.forced]
    generalize Question.cut _ _ = z
    by_cases hz : z = 1
    · exact ⟨D, 1, by simp [hz]; rfl, hn, hD⟩
    · exact ⟨df.write (.nan (FM.sg df D) (df.quiet (FM.rg df D - df.infRung))), 1, by simp [hz]; exact ⟨rfl, rfl⟩, hq.1, hq.2⟩
theorem run_sqrt (D E : Nat) (h : df.sqrt D = some E) (w : World) : (callFunc 68 #[.float .f64 D]).run Try.prog w = .ok (.value (.float .f64 E)) w := by
  rw [run_callFunc_extern (e := Extern.MathSqrt.sqrt) Try.func68 (by kernel_rfl) (by kernel_rfl) (by kernel_rfl) (by kernel_rfl)]
  have h' : FloatKind.f64.format.sqrt D = some E := h
  rw [Extern.MathSqrt.sqrt.eq_1, arm2, h']; rfl
theorem run_sqrt_nan (D : Nat) (h : df.sqrt D = none) (w : World) : ∃ E, (callFunc 68 #[.float .f64 D]).run Try.prog w = .ok (.value (.float .f64 E)) w.drew ∧ isN df E ∧ E < 18446744073709551616 := by
  rw [run_callFunc_extern (e := Extern.MathSqrt.sqrt) Try.func68 (by kernel_rfl) (by kernel_rfl) (by kernel_rfl) (by kernel_rfl)]
  have h' : FloatKind.f64.format.sqrt D = none := h
  have := FM.cut_nan .f64 D D (w.tape w.drawn (.nanBits .f64 D D))
  exact ⟨_, by rw [Extern.MathSqrt.sqrt.eq_1, arm2, h']; simp [Question.forced], this.1, this.2⟩
end Go.Proofs.Ytobhihggdoccoaa
