/- Contracts of package f32n over this seat's translation: the library's doors, floats and their bits. -/
import Derived.Test.YtdfgcagbpndabaaGreatDoorRows
import Derived.WalkKit
import Derived.ProofKit
import Derived.Deep.QuietTactic
import Derived.BigQuiet
import Derived.Laws.Externs
import Derived.Laws.FloatArith
import Derived.Test.YtdfgcagbpndabaaGreatDoorZA
import Derived.Test.YtdfgcagbpndabaaGreatDoorZB
import Derived.Test.YtdfgcagbpndabaaGreatDoorZC
import Derived.WalkLawsBesides
set_option maxRecDepth 100000
set_option linter.unusedVariables false
namespace Go.Proofs.YtdfgcagbpndabaaGreatDoor.P3
open Go.RowKit
theorem run_frombits (x : Nat) (w : World) : (callFunc 84 #[.int .u32 (x : Int)]).run Tryz.prog w = .ok (.value (.float .f32 x)) w := by
  rw [run_callFunc_extern (e := Extern.MathFloatBits.float32frombits) Tryz.func84 (by kernel_rfl) (by kernel_rfl) (by kernel_rfl) (by kernel_rfl)]
  rfl
theorem run_bits (x : Nat) (w : World) : (callFunc 86 #[.float .f32 x]).run Tryz.prog w = .ok (.value (.int .u32 (x : Int))) w := by
  rw [run_callFunc_extern (e := Extern.MathFloatBits.float32bits) Tryz.func86 (by kernel_rfl) (by kernel_rfl) (by kernel_rfl) (by kernel_rfl)]
  rfl
theorem floatOf_any (x : Nat) (h : (x : Int) < 4294967296) (w : World) :
    Calls Tryz.prog 95 #[.int .i64 (x : Int)] w fun e w' => e = .returned (.float .f32 x) ∧ w' = w := by
  have h1 := run_frombits x
  have h2 : IntKind.u32.wrap (x : Int) = (x : Int) := by rw [IntKind.wrap_u32]; omega
  go_enter Tryz.func95, Tryz.ntmps95
  go_wp2
  go_ret
  exact ⟨rfl, rfl⟩
end Go.Proofs.YtdfgcagbpndabaaGreatDoor.P3
namespace Go.Proofs.YtdfgcagbpndabaaGreatDoor.P3
open Go.RowKit
open Go.FM (isN fixn qn)
abbrev sf : Ieee.Format := Ieee.single
theorem hsf : 2 ≤ sf.exponentBits := by decide
theorem order_neq_num (x : Nat) (h : ¬ isN sf x) : (FloatKind.f32.format.order x x != some .eq) = false := by
  show (sf.order x x != some .eq) = false
  rw [FM.order_self sf hsf x h]; rfl
theorem order_neq_nan (x : Nat) (h : isN sf x) : (FloatKind.f32.format.order x x != some .eq) = true := by
  show (sf.order x x != some .eq) = true
  rw [FM.order_selfN sf hsf x h]; rfl
theorem bitsOf_any (b : Nat) (hb : (b : Int) < 4294967296) (w : World) :
    Calls Tryz.prog 93 #[.float .f32 b] w fun e w' => e = .returned (.int .i64 (fixn sf b : Nat)) ∧ w' = w := by
  have h1 := run_bits b
  have h2 : IntKind.i64.wrap (b : Int) = (b : Int) := by rw [IntKind.wrap_i64]; omega
  by_cases hn : isN sf b
  · rw [FM.fixn_nan sf b hn]
    have h3 := order_neq_nan b hn
    go_enter Tryz.func93, Tryz.ntmps93
    go_wp2
    go_ret
    exact ⟨rfl, rfl⟩
  · rw [show fixn sf b = b from by unfold fixn; rw [if_neg hn]]
    have h3 := order_neq_num b hn
    go_enter Tryz.func93, Tryz.ntmps93
    go_wp2
    go_ret
    exact ⟨rfl, rfl⟩
def fl (b : Bool) : Int := if b then 1 else 0
theorem flag_any (b : Bool) (w : World) :
    Calls Tryz.prog 109 #[.bool b] w fun e w' => e = .returned (.int .i64 (fl b)) ∧ w' = w := by
  cases b
  all_goals
    go_enter Tryz.func109, Tryz.ntmps109
    go_wp2
    go_ret
    exact ⟨rfl, rfl⟩
def cmpW (op : Int) (x y : Nat) : Bool :=
  if op = 91 then FloatKind.f32.format.order x y == some .eq else if op = 92 then FloatKind.f32.format.order x y != some .eq
  else if op = 93 then FloatKind.f32.format.order x y == some .lt else if op = 94 then FloatKind.f32.format.order x y == some .gt
  else if op = 95 then FloatKind.f32.format.order x y == some .lt || FloatKind.f32.format.order x y == some .eq else FloatKind.f32.format.order x y == some .gt || FloatKind.f32.format.order x y == some .eq
theorem compare_any (op : Int) (x y : Nat) (h : 91 ≤ op ∧ op ≤ 96) (w : World) :
    Calls Tryz.prog 110 #[.int .i64 op, .float .f32 x, .float .f32 y] w fun e w' => e = .returned (.bool (cmpW op x y)) ∧ w' = w := by
  have hc : op = 91 ∨ op = 92 ∨ op = 93 ∨ op = 94 ∨ op = 95 ∨ op = 96 := by omega
  clear h
  rcases hc with rfl | rfl | rfl | rfl | rfl | rfl
  all_goals
    go_enter Tryz.func110, Tryz.ntmps110
    go_wp2
    go_ret
    exact ⟨rfl, rfl⟩
def arithO (op : Int) (x y : Nat) : Option Nat := if op = 146 then sf.add x y else if op = 147 then sf.sub x y else if op = 148 then sf.mul x y else sf.div x y
def arithW (op : Int) (x y : Nat) : Nat := FM.fixo sf (arithO op x y)
theorem arith_some (op : Int) (x y r : Nat) (h : arithO op x y = some r) : fixn sf r = arithW op x y ∧ r < 4294967296 := by
  have e : arithW op x y = r := by unfold arithW; rw [h]; rfl
  rw [e]
  unfold arithO at h
  split at h
  · exact ⟨FM.add_ok sf h, Ieee.Format.add_lt sf h⟩
  split at h
  · exact ⟨FM.sub_ok sf h, Ieee.Format.sub_lt sf h⟩
  split at h
  · exact ⟨FM.mul_ok sf h, Ieee.Format.mul_lt sf h⟩
  · exact ⟨FM.div_ok sf h, Ieee.Format.div_lt sf h⟩
theorem arith_none (op : Int) (x y t : Nat) (h : arithO op x y = none) : fixn sf ((Question.nanBits .f32 x y).cut t) = arithW op x y ∧ (Question.nanBits .f32 x y).cut t < 4294967296 := by
  have := FM.cut_nan .f32 x y t
  refine ⟨?_, this.2⟩
  rw [FM.fixn_nan sf _ this.1]
  unfold arithW; rw [h]; rfl
theorem combine_add (x y : Nat) (w : World) :
    Calls Tryz.prog 111 #[.int .i64 146, .float .f32 x, .float .f32 y] w fun e w' => ∃ b : Nat, e = .returned (.float .f32 b) ∧ Later w w' ∧ (b : Int) < 4294967296 ∧ fixn sf b = arithW 146 x y := by
  cases hb : arithO 146 x y with
  | none =>
    have h1 := fun t w => FM.run_arith_none (P := Tryz.prog) .add t .f32 x y w (by simp) hb
    have h2 := arith_none 146 x y (w.tape w.drawn (.nanBits .f32 x y)) hb
    go_enter Tryz.func111, Tryz.ntmps111
    go_wp2
    go_ret
    exact ⟨_, rfl, (Later.refl _).drew, Int.ofNat_lt.2 h2.2, h2.1⟩
  | some r =>
    have h1 := fun t => run_float_arith (P := Tryz.prog) w .add t .f32 x y r hb
    have h2 := arith_some 146 x y r hb
    go_enter Tryz.func111, Tryz.ntmps111
    go_wp2
    go_ret
    exact ⟨_, rfl, Later.refl _, by omega, h2.1⟩
theorem combine_sub (x y : Nat) (w : World) :
    Calls Tryz.prog 111 #[.int .i64 147, .float .f32 x, .float .f32 y] w fun e w' => ∃ b : Nat, e = .returned (.float .f32 b) ∧ Later w w' ∧ (b : Int) < 4294967296 ∧ fixn sf b = arithW 147 x y := by
  cases hb : arithO 147 x y with
  | none =>
    have h1 := fun t w => FM.run_arith_none (P := Tryz.prog) .sub t .f32 x y w (by simp) hb
    have h2 := arith_none 147 x y (w.tape w.drawn (.nanBits .f32 x y)) hb
    go_enter Tryz.func111, Tryz.ntmps111
    go_wp2
    go_ret
    exact ⟨_, rfl, (Later.refl _).drew, Int.ofNat_lt.2 h2.2, h2.1⟩
  | some r =>
    have h1 := fun t => run_float_arith (P := Tryz.prog) w .sub t .f32 x y r hb
    have h2 := arith_some 147 x y r hb
    go_enter Tryz.func111, Tryz.ntmps111
    go_wp2
    go_ret
    exact ⟨_, rfl, Later.refl _, by omega, h2.1⟩
theorem combine_mul (x y : Nat) (w : World) :
    Calls Tryz.prog 111 #[.int .i64 148, .float .f32 x, .float .f32 y] w fun e w' => ∃ b : Nat, e = .returned (.float .f32 b) ∧ Later w w' ∧ (b : Int) < 4294967296 ∧ fixn sf b = arithW 148 x y := by
  cases hb : arithO 148 x y with
  | none =>
    have h1 := fun t w => FM.run_arith_none (P := Tryz.prog) .mul t .f32 x y w (by simp) hb
    have h2 := arith_none 148 x y (w.tape w.drawn (.nanBits .f32 x y)) hb
    go_enter Tryz.func111, Tryz.ntmps111
    go_wp2
    go_ret
    exact ⟨_, rfl, (Later.refl _).drew, Int.ofNat_lt.2 h2.2, h2.1⟩
  | some r =>
    have h1 := fun t => run_float_arith (P := Tryz.prog) w .mul t .f32 x y r hb
    have h2 := arith_some 148 x y r hb
    go_enter Tryz.func111, Tryz.ntmps111
    go_wp2
    go_ret
    exact ⟨_, rfl, Later.refl _, by omega, h2.1⟩
theorem combine_div (x y : Nat) (w : World) :
    Calls Tryz.prog 111 #[.int .i64 149, .float .f32 x, .float .f32 y] w fun e w' => ∃ b : Nat, e = .returned (.float .f32 b) ∧ Later w w' ∧ (b : Int) < 4294967296 ∧ fixn sf b = arithW 149 x y := by
  cases hb : arithO 149 x y with
  | none =>
    have h1 := fun t w => FM.run_arith_none (P := Tryz.prog) .quo t .f32 x y w (by simp) hb
    have h2 := arith_none 149 x y (w.tape w.drawn (.nanBits .f32 x y)) hb
    go_enter Tryz.func111, Tryz.ntmps111
    go_wp2
    go_ret
    exact ⟨_, rfl, (Later.refl _).drew, Int.ofNat_lt.2 h2.2, h2.1⟩
  | some r =>
    have h1 := fun t => run_float_arith (P := Tryz.prog) w .quo t .f32 x y r hb
    have h2 := arith_some 149 x y r hb
    go_enter Tryz.func111, Tryz.ntmps111
    go_wp2
    go_ret
    exact ⟨_, rfl, Later.refl _, by omega, h2.1⟩
end Go.Proofs.YtdfgcagbpndabaaGreatDoor.P3
namespace Go.Proofs.YtdfgcagbpndabaaGreatDoor.P3
open Go.RowKit
open Go.FM (isN fixn qn)
theorem least_any (x y : Nat) (hx : Hid (x < 4294967296)) (hy : Hid (y < 4294967296)) (w : World) :
    Calls Tryz.prog 112 #[.int .i64 (x : Int), .int .i64 (y : Int)] w fun e w' => e = .returned (.int .i64 (FM.minW sf x y : Nat)) ∧ w' = w := by
  have h0 : bits .or .i64 (x : Int) (y : Int) = ((x ||| y : Nat) : Int) := by
    rw [FM.or_i x y hx.out hy.out]
  have hr : ∀ o, FloatKind.f32.format.order x y = o → FM.minW sf x y = if o = some .lt then x else if o = some .gt then y else if o = some .eq then x ||| y else qn sf := by
    intro o ho; subst ho; rfl
  cases ho : FloatKind.f32.format.order x y with
  | none =>
    rw [hr _ ho]
    go_enter Tryz.func112, Tryz.ntmps112
    go_wp2_with (first | (go_at_call_of 95 x; refine (floatOf_any x (Int.ofNat_lt.2 hx.out) _).mono ?_; rintro e w' ⟨rfl, rfl⟩) | (go_at_call_of 95 y; refine (floatOf_any y (Int.ofNat_lt.2 hy.out) _).mono ?_; rintro e w' ⟨rfl, rfl⟩))
    go_ret
    exact ⟨rfl, rfl⟩
  | some o =>
    rw [hr _ ho]
    cases o
    all_goals
      go_enter Tryz.func112, Tryz.ntmps112
      go_wp2_with (first | (go_at_call_of 95 x; refine (floatOf_any x (Int.ofNat_lt.2 hx.out) _).mono ?_; rintro e w' ⟨rfl, rfl⟩) | (go_at_call_of 95 y; refine (floatOf_any y (Int.ofNat_lt.2 hy.out) _).mono ?_; rintro e w' ⟨rfl, rfl⟩))
      go_ret
      exact ⟨rfl, rfl⟩
theorem most_any (x y : Nat) (hx : Hid (x < 4294967296)) (hy : Hid (y < 4294967296)) (w : World) :
    Calls Tryz.prog 113 #[.int .i64 (x : Int), .int .i64 (y : Int)] w fun e w' => e = .returned (.int .i64 (FM.maxW sf x y : Nat)) ∧ w' = w := by
  have h0 : bits .and .i64 (x : Int) (y : Int) = ((x &&& y : Nat) : Int) := by
    rw [FM.and_i x y hx.out hy.out]
  have hr : ∀ o, FloatKind.f32.format.order x y = o → FM.maxW sf x y = if o = some .gt then x else if o = some .lt then y else if o = some .eq then x &&& y else qn sf := by
    intro o ho; subst ho; rfl
  cases ho : FloatKind.f32.format.order x y with
  | none =>
    rw [hr _ ho]
    go_enter Tryz.func113, Tryz.ntmps113
    go_wp2_with (first | (go_at_call_of 95 x; refine (floatOf_any x (Int.ofNat_lt.2 hx.out) _).mono ?_; rintro e w' ⟨rfl, rfl⟩) | (go_at_call_of 95 y; refine (floatOf_any y (Int.ofNat_lt.2 hy.out) _).mono ?_; rintro e w' ⟨rfl, rfl⟩))
    go_ret
    exact ⟨rfl, rfl⟩
  | some o =>
    rw [hr _ ho]
    cases o
    all_goals
      go_enter Tryz.func113, Tryz.ntmps113
      go_wp2_with (first | (go_at_call_of 95 x; refine (floatOf_any x (Int.ofNat_lt.2 hx.out) _).mono ?_; rintro e w' ⟨rfl, rfl⟩) | (go_at_call_of 95 y; refine (floatOf_any y (Int.ofNat_lt.2 hy.out) _).mono ?_; rintro e w' ⟨rfl, rfl⟩))
      go_ret
      exact ⟨rfl, rfl⟩
end Go.Proofs.YtdfgcagbpndabaaGreatDoor.P3
namespace Go.Proofs.YtdfgcagbpndabaaGreatDoor.P3
open Go.RowKit
open Go.FM (isN fixn qn)
abbrev df : Ieee.Format := Ieee.double
theorem hdf : 2 ≤ df.exponentBits := by decide
theorem arm1 {α : Type} (x : Nat) (h1 : Nat → α) (h2 : Array Value → α) : Extern.MathFloor.toIntegral.match_2 (motive := fun _ => α) #[Value.float .f64 x] h1 h2 = h1 x := rfl
theorem arm2 {α : Type} (x : Nat) (h1 : Nat → α) (h2 : Array Value → α) : Extern.MathSqrt.sqrt.match_2 (motive := fun _ => α) #[Value.float .f64 x] h1 h2 = h1 x := rfl
theorem quiet_nan (s : Bool) (t : Nat) (h0 : 0 < t) (h : t < df.binade) : isN df (df.write (.nan s (df.quiet t))) ∧ df.write (.nan s (df.quiet t)) < 18446744073709551616 := by
  have hb : df.binade = 2 ^ 52 := rfl
  have hi : df.infRung + df.binade = df.signWeight := Ieee.Format.infRung_add_binade df
  have h1 : df.quiet t < 2 ^ 52 := Nat.or_lt_two_pow (by rw [hb] at h; exact h) (by decide)
  have h2 : 2 ^ 51 ≤ df.quiet t := Nat.right_le_or
  have e : df.write (.nan s (df.quiet t)) = df.word s (df.infRung + df.quiet t) := by
    show df.word s (df.infRung + df.quiet t % df.binade) = _
    rw [Nat.mod_eq_of_lt (by rw [hb]; exact h1)]
  rw [e]
  constructor
  · unfold isN; rw [FM.rg_word df s _ (by omega)]; omega
  · exact Ieee.Format.word_lt df s (by omega)
theorem run_ceil (D : Nat) (hn : (df.read D).isNaN = false) (w : World) : (callFunc 163 #[.float .f64 D]).run Tryz.prog w = .ok (.value (.float .f64 (df.write ((df.read D).integral .up)))) w := by
  rw [run_callFunc_extern (e := Extern.MathFloor.toIntegral "math.archCeil" .up) Tryz.func163 (by kernel_rfl) (by kernel_rfl) (by kernel_rfl) (by kernel_rfl)]
  have hd : FloatKind.f64.decode D = df.read D := rfl
  cases h : df.read D with
  | nan s t => rw [h] at hn; cases hn
  | number s m p => rw [h] at hd; rw [Extern.MathFloor.toIntegral.eq_1, arm1, hd]; rfl
  | infinity s => rw [h] at hd; rw [Extern.MathFloor.toIntegral.eq_1, arm1, hd]; rfl
theorem run_ceil_nan (D : Nat) (hD : D < 18446744073709551616) (hn : isN df D) (w : World) : ∃ (E n : Nat), (callFunc 163 #[.float .f64 D]).run Tryz.prog w = .ok (.value (.float .f64 E)) (w.drewN n) ∧ isN df E ∧ E < 18446744073709551616 := by
  have hd : FloatKind.f64.decode D = .nan (FM.sg df D) (FM.rg df D - df.infRung) := FM.read_nan df hdf D hn
  have hq := quiet_nan (FM.sg df D) (FM.rg df D - df.infRung) (by unfold isN at hn; omega) (by have := FM.rg_lt df D; have := Ieee.Format.infRung_add_binade df; unfold isN at hn; omega)
  rw [run_callFunc_extern (e := Extern.MathFloor.toIntegral "math.archCeil" .up) Tryz.func163 (by kernel_rfl) (by kernel_rfl) (by kernel_rfl) (by kernel_rfl)]
  by_cases hc : FloatKind.f64.format.quiet (FM.rg df D - df.infRung) = FM.rg df D - df.infRung
  · refine ⟨D, 0, ?_, hn, hD⟩
    rw [Extern.MathFloor.toIntegral.eq_1, arm1, hd]
    dsimp only
    rw [if_pos hc]
    rfl
  · rw [Extern.MathFloor.toIntegral.eq_1, arm1, hd]
    dsimp only
    rw [if_neg hc]
    simp only [Sem.run_bind, run_choose_drew, Question.forced]
    generalize Question.cut _ _ = z
    by_cases hz : z = 1
    · exact ⟨D, 1, by simp [hz]; rfl, hn, hD⟩
    · exact ⟨df.write (.nan (FM.sg df D) (df.quiet (FM.rg df D - df.infRung))), 1, by simp [hz]; exact ⟨rfl, rfl⟩, hq.1, hq.2⟩
theorem run_floor (D : Nat) (hn : (df.read D).isNaN = false) (w : World) : (callFunc 165 #[.float .f64 D]).run Tryz.prog w = .ok (.value (.float .f64 (df.write ((df.read D).integral .down)))) w := by
  rw [run_callFunc_extern (e := Extern.MathFloor.toIntegral "math.archFloor" .down) Tryz.func165 (by kernel_rfl) (by kernel_rfl) (by kernel_rfl) (by kernel_rfl)]
  have hd : FloatKind.f64.decode D = df.read D := rfl
  cases h : df.read D with
  | nan s t => rw [h] at hn; cases hn
  | number s m p => rw [h] at hd; rw [Extern.MathFloor.toIntegral.eq_1, arm1, hd]; rfl
  | infinity s => rw [h] at hd; rw [Extern.MathFloor.toIntegral.eq_1, arm1, hd]; rfl
theorem run_floor_nan (D : Nat) (hD : D < 18446744073709551616) (hn : isN df D) (w : World) : ∃ (E n : Nat), (callFunc 165 #[.float .f64 D]).run Tryz.prog w = .ok (.value (.float .f64 E)) (w.drewN n) ∧ isN df E ∧ E < 18446744073709551616 := by
  have hd : FloatKind.f64.decode D = .nan (FM.sg df D) (FM.rg df D - df.infRung) := FM.read_nan df hdf D hn
  have hq := quiet_nan (FM.sg df D) (FM.rg df D - df.infRung) (by unfold isN at hn; omega) (by have := FM.rg_lt df D; have := Ieee.Format.infRung_add_binade df; unfold isN at hn; omega)
  rw [run_callFunc_extern (e := Extern.MathFloor.toIntegral "math.archFloor" .down) Tryz.func165 (by kernel_rfl) (by kernel_rfl) (by kernel_rfl) (by kernel_rfl)]
  by_cases hc : FloatKind.f64.format.quiet (FM.rg df D - df.infRung) = FM.rg df D - df.infRung
  · refine ⟨D, 0, ?_, hn, hD⟩
    rw [Extern.MathFloor.toIntegral.eq_1, arm1, hd]
    dsimp only
    rw [if_pos hc]
    rfl
  · rw [Extern.MathFloor.toIntegral.eq_1, arm1, hd]
    dsimp only
    rw [if_neg hc]
    simp only [Sem.run_bind, run_choose_drew, Question.forced]
    generalize Question.cut _ _ = z
    by_cases hz : z = 1
    · exact ⟨D, 1, by simp [hz]; rfl, hn, hD⟩
    · exact ⟨df.write (.nan (FM.sg df D) (df.quiet (FM.rg df D - df.infRung))), 1, by simp [hz]; exact ⟨rfl, rfl⟩, hq.1, hq.2⟩
theorem run_trunc (D : Nat) (hn : (df.read D).isNaN = false) (w : World) : (callFunc 159 #[.float .f64 D]).run Tryz.prog w = .ok (.value (.float .f64 (df.write ((df.read D).integral .zero)))) w := by
  rw [run_callFunc_extern (e := Extern.MathFloor.toIntegral "math.archTrunc" .zero) Tryz.func159 (by kernel_rfl) (by kernel_rfl) (by kernel_rfl) (by kernel_rfl)]
  have hd : FloatKind.f64.decode D = df.read D := rfl
  cases h : df.read D with
  | nan s t => rw [h] at hn; cases hn
  | number s m p => rw [h] at hd; rw [Extern.MathFloor.toIntegral.eq_1, arm1, hd]; rfl
  | infinity s => rw [h] at hd; rw [Extern.MathFloor.toIntegral.eq_1, arm1, hd]; rfl
theorem run_trunc_nan (D : Nat) (hD : D < 18446744073709551616) (hn : isN df D) (w : World) : ∃ (E n : Nat), (callFunc 159 #[.float .f64 D]).run Tryz.prog w = .ok (.value (.float .f64 E)) (w.drewN n) ∧ isN df E ∧ E < 18446744073709551616 := by
  have hd : FloatKind.f64.decode D = .nan (FM.sg df D) (FM.rg df D - df.infRung) := FM.read_nan df hdf D hn
  have hq := quiet_nan (FM.sg df D) (FM.rg df D - df.infRung) (by unfold isN at hn; omega) (by have := FM.rg_lt df D; have := Ieee.Format.infRung_add_binade df; unfold isN at hn; omega)
  rw [run_callFunc_extern (e := Extern.MathFloor.toIntegral "math.archTrunc" .zero) Tryz.func159 (by kernel_rfl) (by kernel_rfl) (by kernel_rfl) (by kernel_rfl)]
  by_cases hc : FloatKind.f64.format.quiet (FM.rg df D - df.infRung) = FM.rg df D - df.infRung
  · refine ⟨D, 0, ?_, hn, hD⟩
    rw [Extern.MathFloor.toIntegral.eq_1, arm1, hd]
    dsimp only
    rw [if_pos hc]
    rfl
  · rw [Extern.MathFloor.toIntegral.eq_1, arm1, hd]
    dsimp only
    rw [if_neg hc]
    simp only [Sem.run_bind, run_choose_drew, Question.forced]
    generalize Question.cut _ _ = z
    by_cases hz : z = 1
    · exact ⟨D, 1, by simp [hz]; rfl, hn, hD⟩
    · exact ⟨df.write (.nan (FM.sg df D) (df.quiet (FM.rg df D - df.infRung))), 1, by simp [hz]; exact ⟨rfl, rfl⟩, hq.1, hq.2⟩
theorem run_even (D : Nat) (hn : (df.read D).isNaN = false) (w : World) : (callFunc 145 #[.float .f64 D]).run Tryz.prog w = .ok (.value (.float .f64 (df.write ((df.read D).integral .even)))) w := by
  rw [run_callFunc_extern (e := Extern.MathFloor.toIntegral "math.RoundToEven" .even) Tryz.func145 (by kernel_rfl) (by kernel_rfl) (by kernel_rfl) (by kernel_rfl)]
  have hd : FloatKind.f64.decode D = df.read D := rfl
  cases h : df.read D with
  | nan s t => rw [h] at hn; cases hn
  | number s m p => rw [h] at hd; rw [Extern.MathFloor.toIntegral.eq_1, arm1, hd]; rfl
  | infinity s => rw [h] at hd; rw [Extern.MathFloor.toIntegral.eq_1, arm1, hd]; rfl
theorem run_even_nan (D : Nat) (hD : D < 18446744073709551616) (hn : isN df D) (w : World) : ∃ (E n : Nat), (callFunc 145 #[.float .f64 D]).run Tryz.prog w = .ok (.value (.float .f64 E)) (w.drewN n) ∧ isN df E ∧ E < 18446744073709551616 := by
  have hd : FloatKind.f64.decode D = .nan (FM.sg df D) (FM.rg df D - df.infRung) := FM.read_nan df hdf D hn
  have hq := quiet_nan (FM.sg df D) (FM.rg df D - df.infRung) (by unfold isN at hn; omega) (by have := FM.rg_lt df D; have := Ieee.Format.infRung_add_binade df; unfold isN at hn; omega)
  rw [run_callFunc_extern (e := Extern.MathFloor.toIntegral "math.RoundToEven" .even) Tryz.func145 (by kernel_rfl) (by kernel_rfl) (by kernel_rfl) (by kernel_rfl)]
  by_cases hc : FloatKind.f64.format.quiet (FM.rg df D - df.infRung) = FM.rg df D - df.infRung
  · refine ⟨D, 0, ?_, hn, hD⟩
    rw [Extern.MathFloor.toIntegral.eq_1, arm1, hd]
    dsimp only
    rw [if_pos hc]
    rfl
  · rw [Extern.MathFloor.toIntegral.eq_1, arm1, hd]
    dsimp only
    rw [if_neg hc]
    simp only [Sem.run_bind, run_choose_drew, Question.forced]
    generalize Question.cut _ _ = z
    by_cases hz : z = 1
    · exact ⟨D, 1, by simp [hz]; rfl, hn, hD⟩
    · exact ⟨df.write (.nan (FM.sg df D) (df.quiet (FM.rg df D - df.infRung))), 1, by simp [hz]; exact ⟨rfl, rfl⟩, hq.1, hq.2⟩
theorem run_sqrt (D E : Nat) (h : df.sqrt D = some E) (w : World) : (callFunc 167 #[.float .f64 D]).run Tryz.prog w = .ok (.value (.float .f64 E)) w := by
  rw [run_callFunc_extern (e := Extern.MathSqrt.sqrt) Tryz.func167 (by kernel_rfl) (by kernel_rfl) (by kernel_rfl) (by kernel_rfl)]
  have h' : FloatKind.f64.format.sqrt D = some E := h
  rw [Extern.MathSqrt.sqrt.eq_1, arm2, h']; rfl
theorem run_sqrt_nan (D : Nat) (h : df.sqrt D = none) (w : World) : ∃ E, (callFunc 167 #[.float .f64 D]).run Tryz.prog w = .ok (.value (.float .f64 E)) w.drew ∧ isN df E ∧ E < 18446744073709551616 := by
  rw [run_callFunc_extern (e := Extern.MathSqrt.sqrt) Tryz.func167 (by kernel_rfl) (by kernel_rfl) (by kernel_rfl) (by kernel_rfl)]
  have h' : FloatKind.f64.format.sqrt D = none := h
  have := FM.cut_nan .f64 D D (w.tape w.drawn (.nanBits .f64 D D))
  exact ⟨_, by rw [Extern.MathSqrt.sqrt.eq_1, arm2, h']; simp [Question.forced], this.1, this.2⟩
end Go.Proofs.YtdfgcagbpndabaaGreatDoor.P3
namespace Go.Proofs.YtdfgcagbpndabaaGreatDoor.P3
open Go.RowKit
open Go.FM (isN fixn qn)
def wcut (w : World) (x : Nat) : Nat := (Question.nanConv .f64 x).cut (w.tape w.drawn (.nanConv .f64 x))
def ncut (w : World) (x : Nat) : Nat := (Question.nanConv .f32 x).cut (w.tape w.drawn (.nanConv .f32 x))
theorem wcut_nan (w : World) (x : Nat) : isN df (wcut w x) ∧ wcut w x < 18446744073709551616 := FM.conv_nan .f64 x _
theorem ncut_nan (w : World) (x : Nat) : isN sf (ncut w x) ∧ ncut w x < 4294967296 := FM.conv_nan .f32 x _
theorem run_wide_nan (x : Nat) (h : isN sf x) (w : World) : (convert 72 69 (.float .f32 x)).run Tryz.prog w = .ok (.float .f64 (wcut w x)) w.drew :=
  FM.run_conv_nan 72 69 .f32 .f64 x w (by kernel_rfl) (by kernel_rfl) (by decide) _ _ (FM.read_nan sf hsf x h)
theorem run_narrow_nan (x : Nat) (h : isN df x) (w : World) : (convert 69 72 (.float .f64 x)).run Tryz.prog w = .ok (.float .f32 (ncut w x)) w.drew :=
  FM.run_conv_nan 69 72 .f64 .f32 x w (by kernel_rfl) (by kernel_rfl) (by decide) _ _ (FM.read_nan df hdf x h)
theorem run_wide (x D : Nat) (h : floatToFloatBits .f32 x .f64 = some D) (w : World) : (convert 72 69 (.float .f32 x)).run Tryz.prog w = .ok (.float .f64 D) w :=
  run_convert_float_float w 72 69 .f32 .f64 x D (by kernel_rfl) (by kernel_rfl) h
theorem run_narrow (D z : Nat) (h : floatToFloatBits .f64 D .f32 = some z) (w : World) : (convert 69 72 (.float .f64 D)).run Tryz.prog w = .ok (.float .f32 z) w :=
  run_convert_float_float w 69 72 .f64 .f32 D z (by kernel_rfl) (by kernel_rfl) h
theorem wide_bits (x D m : Nat) (s : Bool) (p : Int) (h : sf.read x = .number s m p) (hD : df.write (.number s m p) = D) (hi : (df.read D).isInfinity = false) : floatToFloatBits .f32 x .f64 = some D := by
  unfold floatToFloatBits
  rw [if_neg (by decide), show FloatKind.f32.decode x = .number s m p from h]
  show (if (df.read (df.write (.number s m p))).isInfinity = true then none else some (df.write (.number s m p))) = some D
  rw [hD, hi]; rfl
theorem narrow_bits (D z m : Nat) (s : Bool) (p : Int) (h : df.read D = .number s m p) (hz : sf.write (.number s m p) = z) (hi : (sf.read z).isInfinity = false) : floatToFloatBits .f64 D .f32 = some z := by
  unfold floatToFloatBits
  rw [if_neg (by decide), show FloatKind.f64.decode D = .number s m p from h]
  show (if (sf.read (sf.write (.number s m p))).isInfinity = true then none else some (sf.write (.number s m p))) = some z
  rw [hz, hi]; rfl
theorem ceil_num (D E : Nat) (hn : (df.read D).isNaN = false) (hE : df.write ((df.read D).integral .up) = E) (w : World) :
    Calls Tryz.prog 143 #[.float .f64 D] w fun e w' => e = .returned (.float .f64 E) ∧ w' = w := by
  have h := run_ceil D hn
  rw [hE] at h
  go_enter Tryz.func143, Tryz.ntmps143
  go_wp2
  go_ret
  exact ⟨rfl, rfl⟩
theorem ceil_nan (D : Nat) (hD : Hid (D < 18446744073709551616)) (hn : isN df D) (w : World) :
    Calls Tryz.prog 143 #[.float .f64 D] w fun e w' => ∃ E, e = .returned (.float .f64 E) ∧ Later w w' ∧ isN df E := by
  obtain ⟨E, n, h, h1, h2⟩ := run_ceil_nan D hD.out hn w
  go_enter Tryz.func143, Tryz.ntmps143
  go_wp2
  go_ret
  exact ⟨E, rfl, (Later.refl _).drewN, h1⟩
theorem floor_num (D E : Nat) (hn : (df.read D).isNaN = false) (hE : df.write ((df.read D).integral .down) = E) (w : World) :
    Calls Tryz.prog 144 #[.float .f64 D] w fun e w' => e = .returned (.float .f64 E) ∧ w' = w := by
  have h := run_floor D hn
  rw [hE] at h
  go_enter Tryz.func144, Tryz.ntmps144
  go_wp2
  go_ret
  exact ⟨rfl, rfl⟩
theorem floor_nan (D : Nat) (hD : Hid (D < 18446744073709551616)) (hn : isN df D) (w : World) :
    Calls Tryz.prog 144 #[.float .f64 D] w fun e w' => ∃ E, e = .returned (.float .f64 E) ∧ Later w w' ∧ isN df E := by
  obtain ⟨E, n, h, h1, h2⟩ := run_floor_nan D hD.out hn w
  go_enter Tryz.func144, Tryz.ntmps144
  go_wp2
  go_ret
  exact ⟨E, rfl, (Later.refl _).drewN, h1⟩
theorem trunc_num (D E : Nat) (hn : (df.read D).isNaN = false) (hE : df.write ((df.read D).integral .zero) = E) (w : World) :
    Calls Tryz.prog 135 #[.float .f64 D] w fun e w' => e = .returned (.float .f64 E) ∧ w' = w := by
  have h := run_trunc D hn
  rw [hE] at h
  go_enter Tryz.func135, Tryz.ntmps135
  go_wp2
  go_ret
  exact ⟨rfl, rfl⟩
theorem trunc_nan (D : Nat) (hD : Hid (D < 18446744073709551616)) (hn : isN df D) (w : World) :
    Calls Tryz.prog 135 #[.float .f64 D] w fun e w' => ∃ E, e = .returned (.float .f64 E) ∧ Later w w' ∧ isN df E := by
  obtain ⟨E, n, h, h1, h2⟩ := run_trunc_nan D hD.out hn w
  go_enter Tryz.func135, Tryz.ntmps135
  go_wp2
  go_ret
  exact ⟨E, rfl, (Later.refl _).drewN, h1⟩
theorem sqrt_num (D E : Nat) (h : df.sqrt D = some E) (w : World) :
    Calls Tryz.prog 146 #[.float .f64 D] w fun e w' => e = .returned (.float .f64 E) ∧ w' = w := by
  have h := run_sqrt D E h
  go_enter Tryz.func146, Tryz.ntmps146
  go_wp2
  go_ret
  exact ⟨rfl, rfl⟩
theorem sqrt_nan (D : Nat) (h : df.sqrt D = none) (w : World) :
    Calls Tryz.prog 146 #[.float .f64 D] w fun e w' => ∃ E, e = .returned (.float .f64 E) ∧ Later w w' ∧ isN df E := by
  obtain ⟨E, h, h1, h2⟩ := run_sqrt_nan D h w
  go_enter Tryz.func146, Tryz.ntmps146
  go_wp2
  go_ret
  exact ⟨E, rfl, (Later.refl _).drew, h1⟩
theorem reshape_ceil (x D E z : Nat) (h1 : floatToFloatBits .f32 x .f64 = some D) (hn : (df.read D).isNaN = false) (hE : df.write ((df.read D).integral .up) = E) (h2 : floatToFloatBits .f64 E .f32 = some z) (w : World) :
    Calls Tryz.prog 94 #[.int .i64 141, .float .f32 x] w fun e w' => e = .returned (.float .f32 z) ∧ w' = w := by
  have c1 := run_wide x D h1
  have c2 := run_narrow E z h2
  have c3 : Hid (∀ w, Calls Tryz.prog 143 #[.float .f64 D] w fun e w' => e = .returned (.float .f64 E) ∧ w' = w) := ceil_num D E hn hE
  clear hn hE h1 h2
  go_enter Tryz.func94, Tryz.ntmps94
  go_wp2_with (go_at_call 143; refine (c3.out _).mono ?_; rintro e w' ⟨rfl, rfl⟩)
  go_ret
  exact ⟨rfl, rfl⟩
theorem reshape_ceil_nan (x : Nat) (h : isN sf x) (w : World) :
    Calls Tryz.prog 94 #[.int .i64 141, .float .f32 x] w fun e w' => ∃ z, e = .returned (.float .f32 z) ∧ Later w w' ∧ isN sf z ∧ z < 4294967296 := by
  have c1 := run_wide_nan x h w
  obtain ⟨d1, d2⟩ := wcut_nan w x
  have c2 := run_narrow_nan
  have c3 : Hid (∀ w', Calls Tryz.prog 143 #[.float .f64 (wcut w x)] w' fun e w2 => ∃ E, e = .returned (.float .f64 E) ∧ Later w' w2 ∧ isN df E) := ceil_nan (wcut w x) d2 d1
  clear d2
  go_enter Tryz.func94, Tryz.ntmps94
  go_wp2_with (go_at_call 143; refine (c3.out _).mono ?_; rintro e w' ⟨E, rfl, ⟨bs, n, rfl⟩, hE⟩)
  go_ret
  exact ⟨_, rfl, (by repeat first | exact Lz _ | apply La | apply Lv | apply Ln | apply Ld), (ncut_nan _ _).1, (ncut_nan _ _).2⟩
theorem reshape_floor (x D E z : Nat) (h1 : floatToFloatBits .f32 x .f64 = some D) (hn : (df.read D).isNaN = false) (hE : df.write ((df.read D).integral .down) = E) (h2 : floatToFloatBits .f64 E .f32 = some z) (w : World) :
    Calls Tryz.prog 94 #[.int .i64 142, .float .f32 x] w fun e w' => e = .returned (.float .f32 z) ∧ w' = w := by
  have c1 := run_wide x D h1
  have c2 := run_narrow E z h2
  have c3 : Hid (∀ w, Calls Tryz.prog 144 #[.float .f64 D] w fun e w' => e = .returned (.float .f64 E) ∧ w' = w) := floor_num D E hn hE
  clear hn hE h1 h2
  go_enter Tryz.func94, Tryz.ntmps94
  go_wp2_with (go_at_call 144; refine (c3.out _).mono ?_; rintro e w' ⟨rfl, rfl⟩)
  go_ret
  exact ⟨rfl, rfl⟩
theorem reshape_floor_nan (x : Nat) (h : isN sf x) (w : World) :
    Calls Tryz.prog 94 #[.int .i64 142, .float .f32 x] w fun e w' => ∃ z, e = .returned (.float .f32 z) ∧ Later w w' ∧ isN sf z ∧ z < 4294967296 := by
  have c1 := run_wide_nan x h w
  obtain ⟨d1, d2⟩ := wcut_nan w x
  have c2 := run_narrow_nan
  have c3 : Hid (∀ w', Calls Tryz.prog 144 #[.float .f64 (wcut w x)] w' fun e w2 => ∃ E, e = .returned (.float .f64 E) ∧ Later w' w2 ∧ isN df E) := floor_nan (wcut w x) d2 d1
  clear d2
  go_enter Tryz.func94, Tryz.ntmps94
  go_wp2_with (go_at_call 144; refine (c3.out _).mono ?_; rintro e w' ⟨E, rfl, ⟨bs, n, rfl⟩, hE⟩)
  go_ret
  exact ⟨_, rfl, (by repeat first | exact Lz _ | apply La | apply Lv | apply Ln | apply Ld), (ncut_nan _ _).1, (ncut_nan _ _).2⟩
theorem reshape_trunc (x D E z : Nat) (h1 : floatToFloatBits .f32 x .f64 = some D) (hn : (df.read D).isNaN = false) (hE : df.write ((df.read D).integral .zero) = E) (h2 : floatToFloatBits .f64 E .f32 = some z) (w : World) :
    Calls Tryz.prog 94 #[.int .i64 143, .float .f32 x] w fun e w' => e = .returned (.float .f32 z) ∧ w' = w := by
  have c1 := run_wide x D h1
  have c2 := run_narrow E z h2
  have c3 : Hid (∀ w, Calls Tryz.prog 135 #[.float .f64 D] w fun e w' => e = .returned (.float .f64 E) ∧ w' = w) := trunc_num D E hn hE
  clear hn hE h1 h2
  go_enter Tryz.func94, Tryz.ntmps94
  go_wp2_with (go_at_call 135; refine (c3.out _).mono ?_; rintro e w' ⟨rfl, rfl⟩)
  go_ret
  exact ⟨rfl, rfl⟩
theorem reshape_trunc_nan (x : Nat) (h : isN sf x) (w : World) :
    Calls Tryz.prog 94 #[.int .i64 143, .float .f32 x] w fun e w' => ∃ z, e = .returned (.float .f32 z) ∧ Later w w' ∧ isN sf z ∧ z < 4294967296 := by
  have c1 := run_wide_nan x h w
  obtain ⟨d1, d2⟩ := wcut_nan w x
  have c2 := run_narrow_nan
  have c3 : Hid (∀ w', Calls Tryz.prog 135 #[.float .f64 (wcut w x)] w' fun e w2 => ∃ E, e = .returned (.float .f64 E) ∧ Later w' w2 ∧ isN df E) := trunc_nan (wcut w x) d2 d1
  clear d2
  go_enter Tryz.func94, Tryz.ntmps94
  go_wp2_with (go_at_call 135; refine (c3.out _).mono ?_; rintro e w' ⟨E, rfl, ⟨bs, n, rfl⟩, hE⟩)
  go_ret
  exact ⟨_, rfl, (by repeat first | exact Lz _ | apply La | apply Lv | apply Ln | apply Ld), (ncut_nan _ _).1, (ncut_nan _ _).2⟩
theorem reshape_sqrt (x D E z : Nat) (h1 : floatToFloatBits .f32 x .f64 = some D) (hq : df.sqrt D = some E) (h2 : floatToFloatBits .f64 E .f32 = some z) (w : World) :
    Calls Tryz.prog 94 #[.int .i64 145, .float .f32 x] w fun e w' => e = .returned (.float .f32 z) ∧ w' = w := by
  have c1 := run_wide x D h1
  have c2 := run_narrow E z h2
  have c3 : Hid (∀ w, Calls Tryz.prog 146 #[.float .f64 D] w fun e w' => e = .returned (.float .f64 E) ∧ w' = w) := sqrt_num D E hq
  clear hq h1 h2
  go_enter Tryz.func94, Tryz.ntmps94
  go_wp2_with (go_at_call 146; refine (c3.out _).mono ?_; rintro e w' ⟨rfl, rfl⟩)
  go_ret
  exact ⟨rfl, rfl⟩
theorem reshape_sqrt_nan (x : Nat) (h : isN sf x) (w : World) :
    Calls Tryz.prog 94 #[.int .i64 145, .float .f32 x] w fun e w' => ∃ z, e = .returned (.float .f32 z) ∧ Later w w' ∧ isN sf z ∧ z < 4294967296 := by
  have c1 := run_wide_nan x h w
  obtain ⟨d1, d2⟩ := wcut_nan w x
  have d3 : df.sqrt (wcut w x) = none := by
    unfold Ieee.Format.sqrt; rw [FM.read_nan df hdf _ d1]; rfl
  have c2 := run_narrow_nan
  have c3 : Hid (∀ w', Calls Tryz.prog 146 #[.float .f64 (wcut w x)] w' fun e w2 => ∃ E, e = .returned (.float .f64 E) ∧ Later w' w2 ∧ isN df E) := sqrt_nan (wcut w x) d3
  clear d2 d1 d3
  go_enter Tryz.func94, Tryz.ntmps94
  go_wp2_with (go_at_call 146; refine (c3.out _).mono ?_; rintro e w' ⟨E, rfl, ⟨bs, n, rfl⟩, hE⟩)
  go_ret
  exact ⟨_, rfl, (by repeat first | exact Lz _ | apply La | apply Lv | apply Ln | apply Ld), (ncut_nan _ _).1, (ncut_nan _ _).2⟩
theorem reshape_sqrt_neg (x D : Nat) (h1 : floatToFloatBits .f32 x .f64 = some D) (hq : df.sqrt D = none) (w : World) :
    Calls Tryz.prog 94 #[.int .i64 145, .float .f32 x] w fun e w' => ∃ z, e = .returned (.float .f32 z) ∧ Later w w' ∧ isN sf z ∧ z < 4294967296 := by
  have c1 := run_wide x D h1
  have c2 := run_narrow_nan
  have c3 : Hid (∀ w', Calls Tryz.prog 146 #[.float .f64 D] w' fun e w2 => ∃ E, e = .returned (.float .f64 E) ∧ Later w' w2 ∧ isN df E) := sqrt_nan D hq
  clear h1 hq
  go_enter Tryz.func94, Tryz.ntmps94
  go_wp2_with (go_at_call 146; refine (c3.out _).mono ?_; rintro e w' ⟨E, rfl, ⟨bs, n, rfl⟩, hE⟩)
  go_ret
  exact ⟨_, rfl, (by repeat first | exact Lz _ | apply La | apply Lv | apply Ln | apply Ld), (ncut_nan _ _).1, (ncut_nan _ _).2⟩
theorem reshape_even (x D E z : Nat) (h1 : floatToFloatBits .f32 x .f64 = some D) (hn : (df.read D).isNaN = false) (hE : df.write ((df.read D).integral .even) = E) (h2 : floatToFloatBits .f64 E .f32 = some z) (w : World) :
    Calls Tryz.prog 94 #[.int .i64 144, .float .f32 x] w fun e w' => e = .returned (.float .f32 z) ∧ w' = w := by
  have c1 := run_wide x D h1
  have c2 := run_narrow E z h2
  have c3 := run_even D hn
  rw [hE] at c3
  clear hn hE h1 h2
  go_enter Tryz.func94, Tryz.ntmps94
  go_wp2
  go_ret
  exact ⟨rfl, rfl⟩
theorem reshape_even_nan (x : Nat) (h : isN sf x) (w : World) :
    Calls Tryz.prog 94 #[.int .i64 144, .float .f32 x] w fun e w' => ∃ z, e = .returned (.float .f32 z) ∧ Later w w' ∧ isN sf z ∧ z < 4294967296 := by
  have c1 := run_wide_nan x h w
  obtain ⟨d1, d2⟩ := wcut_nan w x
  have c2 := run_narrow_nan
  obtain ⟨E, n, c3, c4, c5⟩ := run_even_nan (wcut w x) d2 d1 w.drew
  clear d2 c5
  go_enter Tryz.func94, Tryz.ntmps94
  go_wp2
  go_ret
  exact ⟨_, rfl, (by repeat first | exact Lz _ | apply La | apply Lv | apply Ln | apply Ld), (ncut_nan _ _).1, (ncut_nan _ _).2⟩
end Go.Proofs.YtdfgcagbpndabaaGreatDoor.P3
namespace Go.Proofs.YtdfgcagbpndabaaGreatDoor.P3
open Go.RowKit
open Go.FM (isN fixn qn)
theorem low_any (x : Int) (w : World) :
    Calls Tryz.prog 45 #[.int .i64 x] w fun e w' => e = .returned (.int .i64 (x % 4294967296)) ∧ w' = w := by
  go_enter Tryz.func45, Tryz.ntmps45
  go_wp2
  go_ret
  exact ⟨rfl, rfl⟩
theorem low_eq (a : Int) (x : Nat) (h : Hid (a % 4294967296 = (x : Int))) (w : World) :
    Calls Tryz.prog 45 #[.int .i64 a] w fun e w' => e = .returned (.int .i64 (x : Int)) ∧ w' = w := by
  have := low_any a w
  rw [h.out] at this
  exact this
def unW (op : Int) (x : Nat) : Nat :=
  if op = 139 then x % 2147483648 else if op = 140 then x ^^^ 2147483648 else if op = 141 then FM.wholeW sf .up x else if op = 142 then FM.wholeW sf .down x
  else if op = 143 then FM.wholeW sf .zero x else if op = 144 then FM.wholeW sf .even x else FM.rootW sf x
theorem unW_139 (x : Nat) : unW 139 x = x % 2147483648 := by simp [unW]
theorem unW_140 (x : Nat) : unW 140 x = x ^^^ 2147483648 := by simp [unW]
theorem unW_141 (x : Nat) : unW 141 x = FM.wholeW sf .up x := by simp [unW]
theorem unW_142 (x : Nat) : unW 142 x = FM.wholeW sf .down x := by simp [unW]
theorem unW_143 (x : Nat) : unW 143 x = FM.wholeW sf .zero x := by simp [unW]
theorem unW_144 (x : Nat) : unW 144 x = FM.wholeW sf .even x := by simp [unW]
theorem unW_145 (x : Nat) : unW 145 x = FM.rootW sf x := by simp [unW]
theorem inf_cases (x : Nat) (hx : x < 4294967296) (h : FM.rg sf x = sf.infRung) : x = 2139095040 ∨ x = 4286578688 := by
  obtain ⟨s, r, e, h1, h2, h3⟩ := FM.parts32 x hx
  rw [h] at h3
  rw [e, FM.word32, ← h3, FM.inf32]
  cases s
  · left; rfl
  · right; rfl
theorem whole_fin (way : Ieee.Toward) (x : Nat) (h : FM.rg sf x < sf.infRung) : ∃ D E, floatToFloatBits .f32 x .f64 = some D ∧ (df.read D).isNaN = false ∧ df.write ((df.read D).integral way) = E ∧ floatToFloatBits .f64 E .f32 = some (FM.wholeW sf way x) := by
  have hr := FM.read_num sf x h
  obtain ⟨D, E, hD, ⟨m, p, hR, hE⟩, m2, p2, hR2, hz, hi⟩ := FM.whole_by_wide way (FM.sg sf x) (FM.rg sf x) h
  refine ⟨D, E, wide_bits x D _ _ _ hr hD (by rw [hR]; rfl), by rw [hR]; rfl, by rw [hR]; exact hE, ?_⟩
  refine narrow_bits E _ m2 (FM.sg sf x) p2 hR2 ?_ ?_
  · unfold FM.wholeW; rw [if_neg (by unfold isN; omega), hr]; exact hz
  · unfold FM.wholeW; rw [if_neg (by unfold isN; omega), hr, ← hz]; exact hi
theorem whole_inf (way : Ieee.Toward) (x : Nat) (hx : x < 4294967296) (h : FM.rg sf x = sf.infRung) : ∃ D E, floatToFloatBits .f32 x .f64 = some D ∧ (df.read D).isNaN = false ∧ df.write ((df.read D).integral way) = E ∧ floatToFloatBits .f64 E .f32 = some (FM.wholeW sf way x) := by
  rcases inf_cases x hx h with rfl | rfl
  · refine ⟨9218868437227405312, 9218868437227405312, by decide +kernel, by decide +kernel, ?_, ?_⟩
    · rw [show df.read 9218868437227405312 = .infinity false from by decide +kernel]; cases way <;> decide +kernel
    · rw [show FM.wholeW sf way 2139095040 = 2139095040 from by cases way <;> decide +kernel]; decide +kernel
  · refine ⟨18442240474082181120, 18442240474082181120, by decide +kernel, by decide +kernel, ?_, ?_⟩
    · rw [show df.read 18442240474082181120 = .infinity true from by decide +kernel]; cases way <;> decide +kernel
    · rw [show FM.wholeW sf way 4286578688 = 4286578688 from by cases way <;> decide +kernel]; decide +kernel
theorem whole_ok (way : Ieee.Toward) (x : Nat) (h : ¬ isN sf x) : fixn sf (FM.wholeW sf way x) = FM.wholeW sf way x ∧ FM.wholeW sf way x < 4294967296 := by
  have e : FM.wholeW sf way x = sf.write ((sf.read x).integral way) := by unfold FM.wholeW; rw [if_neg h]
  rw [e]
  refine ⟨FM.fixn_ok sf _ (FM.rg_write sf _ ?_), Ieee.Format.write_lt sf _⟩
  unfold isN at h
  rcases Nat.lt_or_ge (FM.rg sf x) sf.infRung with h1 | h1
  · rw [FM.read_num sf x h1]; rfl
  · rw [FM.read_inf sf hsf x (by omega)]; rfl
theorem whole_nan (way : Ieee.Toward) (x : Nat) (h : isN sf x) : FM.wholeW sf way x = qn sf := by unfold FM.wholeW; rw [if_pos h]
theorem reshape_141 (x : Nat) (hx : x < 4294967296) (w : World) :
    Calls Tryz.prog 94 #[.int .i64 141, .float .f32 x] w fun e w' => ∃ b : Nat, e = .returned (.float .f32 b) ∧ Later w w' ∧ (b : Int) < 4294967296 ∧ fixn sf b = unW 141 x := by
  rw [unW_141]
  by_cases h : isN sf x
  · refine (reshape_ceil_nan x h w).mono ?_
    rintro e w' ⟨z, rfl, hl, hz, hb⟩
    exact ⟨z, rfl, hl, Int.ofNat_lt.2 hb, by rw [FM.fixn_nan sf z hz, whole_nan _ x h]⟩
  · have h2 : ∃ D E, floatToFloatBits .f32 x .f64 = some D ∧ (df.read D).isNaN = false ∧ df.write ((df.read D).integral .up) = E ∧ floatToFloatBits .f64 E .f32 = some (FM.wholeW sf .up x) := by
      rcases Nat.lt_or_ge (FM.rg sf x) sf.infRung with h1 | h1
      · exact whole_fin _ x h1
      · exact whole_inf _ x hx (by unfold isN at h; omega)
    obtain ⟨D, E, h3, h4, h5, h6⟩ := h2
    refine (reshape_ceil x D E _ h3 h4 h5 h6 w).mono ?_
    rintro e w' ⟨rfl, rfl⟩
    exact ⟨_, rfl, Later.refl _, Int.ofNat_lt.2 (whole_ok _ x h).2, (whole_ok _ x h).1⟩
theorem reshape_142 (x : Nat) (hx : x < 4294967296) (w : World) :
    Calls Tryz.prog 94 #[.int .i64 142, .float .f32 x] w fun e w' => ∃ b : Nat, e = .returned (.float .f32 b) ∧ Later w w' ∧ (b : Int) < 4294967296 ∧ fixn sf b = unW 142 x := by
  rw [unW_142]
  by_cases h : isN sf x
  · refine (reshape_floor_nan x h w).mono ?_
    rintro e w' ⟨z, rfl, hl, hz, hb⟩
    exact ⟨z, rfl, hl, Int.ofNat_lt.2 hb, by rw [FM.fixn_nan sf z hz, whole_nan _ x h]⟩
  · have h2 : ∃ D E, floatToFloatBits .f32 x .f64 = some D ∧ (df.read D).isNaN = false ∧ df.write ((df.read D).integral .down) = E ∧ floatToFloatBits .f64 E .f32 = some (FM.wholeW sf .down x) := by
      rcases Nat.lt_or_ge (FM.rg sf x) sf.infRung with h1 | h1
      · exact whole_fin _ x h1
      · exact whole_inf _ x hx (by unfold isN at h; omega)
    obtain ⟨D, E, h3, h4, h5, h6⟩ := h2
    refine (reshape_floor x D E _ h3 h4 h5 h6 w).mono ?_
    rintro e w' ⟨rfl, rfl⟩
    exact ⟨_, rfl, Later.refl _, Int.ofNat_lt.2 (whole_ok _ x h).2, (whole_ok _ x h).1⟩
theorem reshape_143 (x : Nat) (hx : x < 4294967296) (w : World) :
    Calls Tryz.prog 94 #[.int .i64 143, .float .f32 x] w fun e w' => ∃ b : Nat, e = .returned (.float .f32 b) ∧ Later w w' ∧ (b : Int) < 4294967296 ∧ fixn sf b = unW 143 x := by
  rw [unW_143]
  by_cases h : isN sf x
  · refine (reshape_trunc_nan x h w).mono ?_
    rintro e w' ⟨z, rfl, hl, hz, hb⟩
    exact ⟨z, rfl, hl, Int.ofNat_lt.2 hb, by rw [FM.fixn_nan sf z hz, whole_nan _ x h]⟩
  · have h2 : ∃ D E, floatToFloatBits .f32 x .f64 = some D ∧ (df.read D).isNaN = false ∧ df.write ((df.read D).integral .zero) = E ∧ floatToFloatBits .f64 E .f32 = some (FM.wholeW sf .zero x) := by
      rcases Nat.lt_or_ge (FM.rg sf x) sf.infRung with h1 | h1
      · exact whole_fin _ x h1
      · exact whole_inf _ x hx (by unfold isN at h; omega)
    obtain ⟨D, E, h3, h4, h5, h6⟩ := h2
    refine (reshape_trunc x D E _ h3 h4 h5 h6 w).mono ?_
    rintro e w' ⟨rfl, rfl⟩
    exact ⟨_, rfl, Later.refl _, Int.ofNat_lt.2 (whole_ok _ x h).2, (whole_ok _ x h).1⟩
theorem reshape_144 (x : Nat) (hx : x < 4294967296) (w : World) :
    Calls Tryz.prog 94 #[.int .i64 144, .float .f32 x] w fun e w' => ∃ b : Nat, e = .returned (.float .f32 b) ∧ Later w w' ∧ (b : Int) < 4294967296 ∧ fixn sf b = unW 144 x := by
  rw [unW_144]
  by_cases h : isN sf x
  · refine (reshape_even_nan x h w).mono ?_
    rintro e w' ⟨z, rfl, hl, hz, hb⟩
    exact ⟨z, rfl, hl, Int.ofNat_lt.2 hb, by rw [FM.fixn_nan sf z hz, whole_nan _ x h]⟩
  · have h2 : ∃ D E, floatToFloatBits .f32 x .f64 = some D ∧ (df.read D).isNaN = false ∧ df.write ((df.read D).integral .even) = E ∧ floatToFloatBits .f64 E .f32 = some (FM.wholeW sf .even x) := by
      rcases Nat.lt_or_ge (FM.rg sf x) sf.infRung with h1 | h1
      · exact whole_fin _ x h1
      · exact whole_inf _ x hx (by unfold isN at h; omega)
    obtain ⟨D, E, h3, h4, h5, h6⟩ := h2
    refine (reshape_even x D E _ h3 h4 h5 h6 w).mono ?_
    rintro e w' ⟨rfl, rfl⟩
    exact ⟨_, rfl, Later.refl _, Int.ofNat_lt.2 (whole_ok _ x h).2, (whole_ok _ x h).1⟩
theorem root_cases (x : Nat) (hx : x < 4294967296) (h : ¬ isN sf x) : (∃ D E, floatToFloatBits .f32 x .f64 = some D ∧ df.sqrt D = some E ∧ floatToFloatBits .f64 E .f32 = some (FM.rootW sf x) ∧ fixn sf (FM.rootW sf x) = FM.rootW sf x ∧ FM.rootW sf x < 4294967296) ∨
    (∃ D, floatToFloatBits .f32 x .f64 = some D ∧ df.sqrt D = none ∧ FM.rootW sf x = qn sf) := by
  rcases Nat.lt_or_ge (FM.rg sf x) sf.infRung with h1 | h1
  · rcases Nat.eq_zero_or_pos (FM.rg sf x) with h0 | h0
    · obtain ⟨s, r, e, h3, h4, h5⟩ := FM.parts32 x hx
      rw [h0] at h5
      rw [← h5, FM.word32] at e
      left
      cases s
      · have e' : x = 0 := e
        subst e'
        exact ⟨0, 0, by decide +kernel, by decide +kernel, by decide +kernel, by decide +kernel, by decide +kernel⟩
      · have e' : x = 2147483648 := e
        subst e'
        exact ⟨9223372036854775808, 9223372036854775808, by decide +kernel, by decide +kernel, by decide +kernel, by decide +kernel, by decide +kernel⟩
    · have hr := FM.read_num sf x h1
      cases hs : FM.sg sf x with
      | false =>
        left
        rw [hs] at hr
        obtain ⟨D, m', p', W, E, m2, p2, z, g1, g2, g3, g4, g5, g6, g7, g8⟩ := FM.root_by_wide (FM.rg sf x) h0 h1
        have hz : sf.sqrt x = some z := by
          unfold Ieee.Format.sqrt; rw [hr]; exact g7
        have hz' : FM.rootW sf x = z := by unfold FM.rootW; rw [hz]; rfl
        rw [hz']
        refine ⟨D, E, wide_bits x D _ _ _ hr g1 (by rw [g2]; rfl), ?_, narrow_bits E z m2 false p2 g5 g6 g8, FM.sqrt_ok sf hz, Ieee.Format.sqrt_lt sf hz⟩
        show ((df.read D).root 54).map df.write = some E
        rw [g2, g3, ← g4]; rfl
      | true =>
        right
        rw [hs] at hr
        have hm0 : FM.mag sf (FM.rg sf x) ≠ 0 := by rw [Ne, FM.mag_zero]; omega
        have hz : FM.rootW sf x = qn sf := by
          unfold FM.rootW Ieee.Format.sqrt; rw [hr]; unfold Ieee.Datum.root; dsimp only; rw [if_neg hm0, if_pos rfl]; rfl
        have hm : FM.mag sf (FM.rg sf x) < 16777216 := FM.mag_single (FM.rg sf x)
        have hp : FM.plc sf (FM.rg sf x) ≤ 104 := FM.plc_single (FM.rg sf x) h1
        have hp0 := FM.plc_ge sf (FM.rg sf x)
        rw [FM.least_single] at hp0
        obtain ⟨v1, i1⟩ := FM.wide_exact (FM.mag sf (FM.rg sf x)) (FM.plc sf (FM.rg sf x)) (by omega) (by omega) (by omega)
        have hR := FM.read_wide true _ i1
        have hD : df.write (.number true (FM.mag sf (FM.rg sf x)) (FM.plc sf (FM.rg sf x))) = df.word true (FM.near df (FM.mag sf (FM.rg sf x)) (FM.plc sf (FM.rg sf x))) := FM.nearest_near _ _ _ _
        refine ⟨_, wide_bits x _ _ _ _ hr hD (by rw [hR]; rfl), ?_, hz⟩
        show ((df.read _).root 54).map df.write = none
        rw [hR]
        have hm1 : FM.mag df (FM.near df (FM.mag sf (FM.rg sf x)) (FM.plc sf (FM.rg sf x))) ≠ 0 := by
          rw [Ne, FM.mag_zero]
          intro hh
          rw [hh, FM.val_zero] at v1
          rcases Nat.mul_eq_zero.1 v1.symm with h6 | h6
          · exact hm0 h6
          · have := Nat.two_pow_pos (FM.plc sf (FM.rg sf x) + 1074).toNat
            omega
        unfold Ieee.Datum.root; dsimp only; rw [if_neg hm1, if_pos rfl]; rfl
  · rcases inf_cases x hx (by unfold isN at h; omega) with rfl | rfl
    · left
      exact ⟨9218868437227405312, 9218868437227405312, by decide +kernel, by decide +kernel, by decide +kernel, by decide +kernel, by decide +kernel⟩
    · right
      exact ⟨18442240474082181120, by decide +kernel, by decide +kernel, by decide +kernel⟩
theorem root_nan (x : Nat) (h : isN sf x) : FM.rootW sf x = qn sf := by
  have e : sf.sqrt x = none := by
    unfold Ieee.Format.sqrt; rw [FM.read_nan sf hsf x h]; unfold Ieee.Datum.root; dsimp only; exact Option.map_none _
  unfold FM.rootW FM.fixo; rw [e, Option.getD_none]
theorem root_all (x R : Nat) (hx : x < 4294967296) (hR : FM.rootW sf x = R) : (isN sf x ∧ R = qn sf) ∨ (∃ D E, floatToFloatBits .f32 x .f64 = some D ∧ df.sqrt D = some E ∧ floatToFloatBits .f64 E .f32 = some R ∧ fixn sf R = R ∧ R < 4294967296) ∨
    (∃ D, floatToFloatBits .f32 x .f64 = some D ∧ df.sqrt D = none ∧ R = qn sf) := by
  subst hR
  by_cases h : isN sf x
  · exact Or.inl ⟨h, root_nan x h⟩
  · exact Or.inr (root_cases x hx h)
theorem reshape_145 (x R : Nat) (hx : x < 4294967296) (hR : FM.rootW sf x = R) (w : World) :
    Calls Tryz.prog 94 #[.int .i64 145, .float .f32 x] w fun e w' => ∃ b : Nat, e = .returned (.float .f32 b) ∧ Later w w' ∧ (b : Int) < 4294967296 ∧ fixn sf b = R := by
  rcases root_all x R hx hR with ⟨h, h0⟩ | ⟨D, E, h1, h2, h3, h4, h5⟩ | ⟨D, h1, h2, h3⟩
  · clear hR
    refine (reshape_sqrt_nan x h w).mono ?_
    rintro e w' ⟨z, rfl, hl, hz, hb⟩
    exact ⟨z, rfl, hl, Int.ofNat_lt.2 hb, by rw [FM.fixn_nan sf z hz, h0]⟩
  · clear hR
    refine (reshape_sqrt x D E _ h1 h2 h3 w).mono ?_
    rintro e w' ⟨rfl, rfl⟩
    exact ⟨R, rfl, Later.refl _, Int.ofNat_lt.2 h5, h4⟩
  · clear hR
    refine (reshape_sqrt_neg x D h1 h2 w).mono ?_
    rintro e w' ⟨z, rfl, hl, hz, hb⟩
    exact ⟨z, rfl, hl, Int.ofNat_lt.2 hb, by rw [FM.fixn_nan sf z hz, h3]⟩
end Go.Proofs.YtdfgcagbpndabaaGreatDoor.P3
