/- Contracts of package f32n over this seat's translation: comparisons, arithmetic, the lesser and the greater. -/
import Derived.Test.YtobhihggdoccoaaP32A
import Derived.Test.YtobhihggdoccoaaFOps
import Derived.WalkLawsBesides
namespace Go.Proofs.Ytobhihggdoccoaa
open Go.RowKit
open Go.FM (isN fixn qn)
set_option linter.unusedVariables false

/-- the format -/
abbrev sf : Ieee.Format := Ieee.single
theorem hsf : 2 ≤ sf.exponentBits := by decide
theorem order_neq_num (x : Nat) (h : ¬ isN sf x) : (FloatKind.f32.format.order x x != some .eq) = false := by
  show (sf.order x x != some .eq) = false
  rw [FM.order_self sf hsf x h]; rfl
theorem order_neq_nan (x : Nat) (h : isN sf x) : (FloatKind.f32.format.order x x != some .eq) = true := by
  show (sf.order x x != some .eq) = true
  rw [FM.order_selfN sf hsf x h]; rfl
theorem bitsOf_any (b : Nat) (hb : (b : Int) < 4294967296) (w : World) :
    Calls Try.prog 21 #[.float .f32 b] w fun e w' => e = .returned (.int .i64 (fixn sf b : Nat)) ∧ w' = w := by
  have h1 := run_bits b
  have h2 : IntKind.i64.wrap (b : Int) = (b : Int) := by rw [IntKind.wrap_i64]; omega
  by_cases hn : isN sf b
  · rw [FM.fixn_nan sf b hn]
    have h3 := order_neq_nan b hn
    go_enter Try.func21, Try.ntmps21
    go_wp2
    go_ret
    exact ⟨rfl, rfl⟩
  · rw [show fixn sf b = b from by unfold fixn; rw [if_neg hn]]
    have h3 := order_neq_num b hn
    go_enter Try.func21, Try.ntmps21
    go_wp2
    go_ret
    exact ⟨rfl, rfl⟩
/-- a truth as a number -/
def fl (b : Bool) : Int := if b then 1 else 0
theorem flag_any (b : Bool) (w : World) :
    Calls Try.prog 27 #[.bool b] w fun e w' => e = .returned (.int .i64 (fl b)) ∧ w' = w := by
  cases b
  all_goals
    go_enter Try.func27, Try.ntmps27
    go_wp2
    go_ret
    exact ⟨rfl, rfl⟩
/-- a comparison, by its number -/
def cmpW (op : Int) (x y : Nat) : Bool :=
  if op = 91 then FloatKind.f32.format.order x y == some .eq else if op = 92 then FloatKind.f32.format.order x y != some .eq
  else if op = 93 then FloatKind.f32.format.order x y == some .lt else if op = 94 then FloatKind.f32.format.order x y == some .gt
  else if op = 95 then FloatKind.f32.format.order x y == some .lt || FloatKind.f32.format.order x y == some .eq else FloatKind.f32.format.order x y == some .gt || FloatKind.f32.format.order x y == some .eq
theorem compare_any (op : Int) (x y : Nat) (h : 91 ≤ op ∧ op ≤ 96) (w : World) :
    Calls Try.prog 28 #[.int .i64 op, .float .f32 x, .float .f32 y] w fun e w' => e = .returned (.bool (cmpW op x y)) ∧ w' = w := by
  have hc : op = 91 ∨ op = 92 ∨ op = 93 ∨ op = 94 ∨ op = 95 ∨ op = 96 := by omega
  clear h
  rcases hc with rfl | rfl | rfl | rfl | rfl | rfl
  all_goals
    go_enter Try.func28, Try.ntmps28
    go_wp2
    go_ret
    exact ⟨rfl, rfl⟩
/-- what arithmetic gives, by its number -/
def arithO (op : Int) (x y : Nat) : Option Nat := if op = 146 then sf.add x y else if op = 147 then sf.sub x y else if op = 148 then sf.mul x y else sf.div x y
def arithW (op : Int) (x y : Nat) : Nat := FM.fixo sf (arithO op x y)
theorem arith_some (op : Int) (x y r : Nat) (h : arithO op x y = some r) : fixn sf r = arithW op x y ∧ r < 4294967296 := by
  have e : arithW op x y = r := by unfold arithW; rw [h]; rfl
  rw [e]
  unfold arithO at h
  split at h
  · exact ⟨FM.add_ok sf h, Ieee.Format.add_lt sf h⟩
  split at h
  · exact ⟨FM.sub_ok sf h, Ieee.Format.sub_lt sf h⟩
  split at h
  · exact ⟨FM.mul_ok sf h, Ieee.Format.mul_lt sf h⟩
  · exact ⟨FM.div_ok sf h, Ieee.Format.div_lt sf h⟩
theorem arith_none (op : Int) (x y t : Nat) (h : arithO op x y = none) : fixn sf ((Question.nanBits .f32 x y).cut t) = arithW op x y ∧ (Question.nanBits .f32 x y).cut t < 4294967296 := by
  have := FM.cut_nan .f32 x y t
  refine ⟨?_, this.2⟩
  rw [FM.fixn_nan sf _ this.1]
  unfold arithW; rw [h]; rfl
theorem combine_add (x y : Nat) (w : World) :
    Calls Try.prog 29 #[.int .i64 146, .float .f32 x, .float .f32 y] w fun e w' => ∃ b : Nat, e = .returned (.float .f32 b) ∧ Later w w' ∧ (b : Int) < 4294967296 ∧ fixn sf b = arithW 146 x y := by
  cases hb : arithO 146 x y with
  | none =>
    have h1 := fun t w => FM.run_arith_none (P := Try.prog) .add t .f32 x y w (by simp) hb
    have h2 := arith_none 146 x y (w.tape w.drawn (.nanBits .f32 x y)) hb
    go_enter Try.func29, Try.ntmps29
    go_wp2
    go_ret
    exact ⟨_, rfl, (Later.refl _).drew, Int.ofNat_lt.2 h2.2, h2.1⟩
  | some r =>
    have h1 := fun t => run_float_arith (P := Try.prog) w .add t .f32 x y r hb
    have h2 := arith_some 146 x y r hb
    go_enter Try.func29, Try.ntmps29
    go_wp2
    go_ret
    exact ⟨_, rfl, Later.refl _, by omega, h2.1⟩
theorem combine_sub (x y : Nat) (w : World) :
    Calls Try.prog 29 #[.int .i64 147, .float .f32 x, .float .f32 y] w fun e w' => ∃ b : Nat, e = .returned (.float .f32 b) ∧ Later w w' ∧ (b : Int) < 4294967296 ∧ fixn sf b = arithW 147 x y := by
  cases hb : arithO 147 x y with
  | none =>
    have h1 := fun t w => FM.run_arith_none (P := Try.prog) .sub t .f32 x y w (by simp) hb
    have h2 := arith_none 147 x y (w.tape w.drawn (.nanBits .f32 x y)) hb
    go_enter Try.func29, Try.ntmps29
    go_wp2
    go_ret
    exact ⟨_, rfl, (Later.refl _).drew, Int.ofNat_lt.2 h2.2, h2.1⟩
  | some r =>
    have h1 := fun t => run_float_arith (P := Try.prog) w .sub t .f32 x y r hb
    have h2 := arith_some 147 x y r hb
    go_enter Try.func29, Try.ntmps29
    go_wp2
    go_ret
    exact ⟨_, rfl, Later.refl _, by omega, h2.1⟩
theorem combine_mul (x y : Nat) (w : World) :
    Calls Try.prog 29 #[.int .i64 148, .float .f32 x, .float .f32 y] w fun e w' => ∃ b : Nat, e = .returned (.float .f32 b) ∧ Later w w' ∧ (b : Int) < 4294967296 ∧ fixn sf b = arithW 148 x y := by
  cases hb : arithO 148 x y with
  | none =>
    have h1 := fun t w => FM.run_arith_none (P := Try.prog) .mul t .f32 x y w (by simp) hb
    have h2 := arith_none 148 x y (w.tape w.drawn (.nanBits .f32 x y)) hb
    go_enter Try.func29, Try.ntmps29
    go_wp2
    go_ret
    exact ⟨_, rfl, (Later.refl _).drew, Int.ofNat_lt.2 h2.2, h2.1⟩
  | some r =>
    have h1 := fun t => run_float_arith (P := Try.prog) w .mul t .f32 x y r hb
    have h2 := arith_some 148 x y r hb
    go_enter Try.func29, Try.ntmps29
    go_wp2
    go_ret
    exact ⟨_, rfl, Later.refl _, by omega, h2.1⟩
theorem combine_div (x y : Nat) (w : World) :
    Calls Try.prog 29 #[.int .i64 149, .float .f32 x, .float .f32 y] w fun e w' => ∃ b : Nat, e = .returned (.float .f32 b) ∧ Later w w' ∧ (b : Int) < 4294967296 ∧ fixn sf b = arithW 149 x y := by
  cases hb : arithO 149 x y with
  | none =>
    have h1 := fun t w => FM.run_arith_none (P := Try.prog) .quo t .f32 x y w (by simp) hb
    have h2 := arith_none 149 x y (w.tape w.drawn (.nanBits .f32 x y)) hb
    go_enter Try.func29, Try.ntmps29
    go_wp2
    go_ret
    exact ⟨_, rfl, (Later.refl _).drew, Int.ofNat_lt.2 h2.2, h2.1⟩
  | some r =>
    have h1 := fun t => run_float_arith (P := Try.prog) w .quo t .f32 x y r hb
    have h2 := arith_some 149 x y r hb
    go_enter Try.func29, Try.ntmps29
    go_wp2
    go_ret
    exact ⟨_, rfl, Later.refl _, by omega, h2.1⟩
end Go.Proofs.Ytobhihggdoccoaa
