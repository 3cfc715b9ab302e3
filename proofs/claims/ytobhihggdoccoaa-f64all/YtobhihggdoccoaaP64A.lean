/- Contracts of package f64n over this seat's translation: floats and their bits, comparisons, arithmetic. -/
import Derived.Test.YtobhihggdoccoaaRows
import Derived.WalkKit
import Derived.ProofKit
import Derived.Deep.QuietTactic
import Derived.BigQuiet
import Derived.Laws.Externs
import Derived.Laws.FloatArith
import Derived.WalkLawsBesides
import Derived.Test.YtobhihggdoccoaaFar
import Derived.Test.YtobhihggdoccoaaFData
import Derived.Test.YtobhihggdoccoaaFOps
import Derived.Test.YtobhihggdoccoaaDBits
namespace Go.Proofs.Ytobhihggdoccoaa
open Go.RowKit
open Go.FM (isN fixn qn sw)
set_option linter.unusedVariables false

/-- the format -/
abbrev df : Ieee.Format := Ieee.double
theorem hdf : 2 ≤ df.exponentBits := by decide
theorem run_frombits (x : Nat) (w : World) : (callFunc 61 #[.int .u64 (x : Int)]).run Try.prog w = .ok (.value (.float .f64 x)) w := by
  rw [run_callFunc_extern (e := Extern.MathFloatBits.float64frombits) Try.func61 (by kernel_rfl) (by kernel_rfl) (by kernel_rfl) (by kernel_rfl)]
  rfl
theorem run_bits (x : Nat) (w : World) : (callFunc 60 #[.float .f64 x]).run Try.prog w = .ok (.value (.int .u64 (x : Int))) w := by
  rw [run_callFunc_extern (e := Extern.MathFloatBits.float64bits) Try.func60 (by kernel_rfl) (by kernel_rfl) (by kernel_rfl) (by kernel_rfl)]
  rfl
theorem floatOf_eq (a : Int) (x : Nat) (h : Hid (a % 18446744073709551616 = (x : Int))) (w : World) :
    Calls Try.prog 36 #[.int .i64 a] w fun e w' => e = .returned (.float .f64 x) ∧ w' = w := by
  have h1 := run_frombits x
  have h2 : IntKind.u64.wrap a = (x : Int) := by rw [IntKind.wrap_u64]; exact h.out
  go_enter Try.func36, Try.ntmps36
  go_wp2
  go_ret
  exact ⟨rfl, rfl⟩
theorem order_neq_num (x : Nat) (h : ¬ isN df x) : (FloatKind.f64.format.order x x != some .eq) = false := by
  show (df.order x x != some .eq) = false
  rw [FM.order_self df hdf x h]; rfl
theorem order_neq_nan (x : Nat) (h : isN df x) : (FloatKind.f64.format.order x x != some .eq) = true := by
  show (df.order x x != some .eq) = true
  rw [FM.order_selfN df hdf x h]; rfl
theorem qn64 : qn df = 9221120237041090560 := by decide +kernel
theorem sw_qn : sw (qn df) = 9221120237041090560 := by rw [qn64]; exact FM.sw_small _ (by decide)
theorem bitsOf_any (b : Nat) (w : World) :
    Calls Try.prog 34 #[.float .f64 b] w fun e w' => e = .returned (.int .i64 (sw (fixn df b))) ∧ w' = w := by
  have h1 := run_bits b
  have h2 : IntKind.i64.wrap (b : Int) = sw b := rfl
  by_cases hn : isN df b
  · rw [FM.fixn_nan df b hn, sw_qn]
    have h3 := order_neq_nan b hn
    go_enter Try.func34, Try.ntmps34
    go_wp2
    go_ret
    exact ⟨rfl, rfl⟩
  · rw [show fixn df b = b from by unfold fixn; rw [if_neg hn]]
    have h3 := order_neq_num b hn
    go_enter Try.func34, Try.ntmps34
    go_wp2
    go_ret
    exact ⟨rfl, rfl⟩
/-- a truth as a number -/
def fl (b : Bool) : Int := if b then 1 else 0
theorem flag_any (b : Bool) (w : World) :
    Calls Try.prog 38 #[.bool b] w fun e w' => e = .returned (.int .i64 (fl b)) ∧ w' = w := by
  cases b
  all_goals
    go_enter Try.func38, Try.ntmps38
    go_wp2
    go_ret
    exact ⟨rfl, rfl⟩
/-- a comparison, by its number -/
def cmpW (op : Int) (x y : Nat) : Bool :=
  if op = 97 then FloatKind.f64.format.order x y == some .eq else if op = 98 then FloatKind.f64.format.order x y != some .eq
  else if op = 99 then FloatKind.f64.format.order x y == some .lt else if op = 100 then FloatKind.f64.format.order x y == some .gt
  else if op = 101 then FloatKind.f64.format.order x y == some .lt || FloatKind.f64.format.order x y == some .eq else FloatKind.f64.format.order x y == some .gt || FloatKind.f64.format.order x y == some .eq
theorem compare_any (op : Int) (x y : Nat) (h : 97 ≤ op ∧ op ≤ 102) (w : World) :
    Calls Try.prog 39 #[.int .i64 op, .float .f64 x, .float .f64 y] w fun e w' => e = .returned (.bool (cmpW op x y)) ∧ w' = w := by
  have hc : op = 97 ∨ op = 98 ∨ op = 99 ∨ op = 100 ∨ op = 101 ∨ op = 102 := by omega
  clear h
  rcases hc with rfl | rfl | rfl | rfl | rfl | rfl
  all_goals
    go_enter Try.func39, Try.ntmps39
    go_wp2
    go_ret
    exact ⟨rfl, rfl⟩
/-- what arithmetic gives, by its number -/
def arithO (op : Int) (x y : Nat) : Option Nat := if op = 160 then df.add x y else if op = 161 then df.sub x y else if op = 162 then df.mul x y else df.div x y
def arithW (op : Int) (x y : Nat) : Nat := FM.fixo df (arithO op x y)
theorem arith_some (op : Int) (x y r : Nat) (h : arithO op x y = some r) : fixn df r = arithW op x y := by
  have e : arithW op x y = r := by unfold arithW; rw [h]; rfl
  rw [e]
  unfold arithO at h
  split at h
  · exact FM.add_ok df h
  split at h
  · exact FM.sub_ok df h
  split at h
  · exact FM.mul_ok df h
  · exact FM.div_ok df h
theorem arith_none (op : Int) (x y t : Nat) (h : arithO op x y = none) : fixn df ((Question.nanBits .f64 x y).cut t) = arithW op x y := by
  have := FM.cut_nan .f64 x y t
  rw [FM.fixn_nan df _ this.1]
  unfold arithW; rw [h]; rfl
theorem combine_160 (x y : Nat) (w : World) :
    Calls Try.prog 40 #[.int .i64 160, .float .f64 x, .float .f64 y] w fun e w' => ∃ b : Nat, e = .returned (.float .f64 b) ∧ Later w w' ∧ fixn df b = arithW 160 x y := by
  cases hb : arithO 160 x y with
  | none =>
    have h1 := fun t w => FM.run_arith_none (P := Try.prog) .add t .f64 x y w (by simp) hb
    have h2 := arith_none 160 x y (w.tape w.drawn (.nanBits .f64 x y)) hb
    go_enter Try.func40, Try.ntmps40
    go_wp2
    go_ret
    exact ⟨_, rfl, (Later.refl _).drew, h2⟩
  | some r =>
    have h1 := fun t => run_float_arith (P := Try.prog) w .add t .f64 x y r hb
    have h2 := arith_some 160 x y r hb
    go_enter Try.func40, Try.ntmps40
    go_wp2
    go_ret
    exact ⟨_, rfl, Later.refl _, h2⟩
theorem combine_161 (x y : Nat) (w : World) :
    Calls Try.prog 40 #[.int .i64 161, .float .f64 x, .float .f64 y] w fun e w' => ∃ b : Nat, e = .returned (.float .f64 b) ∧ Later w w' ∧ fixn df b = arithW 161 x y := by
  cases hb : arithO 161 x y with
  | none =>
    have h1 := fun t w => FM.run_arith_none (P := Try.prog) .sub t .f64 x y w (by simp) hb
    have h2 := arith_none 161 x y (w.tape w.drawn (.nanBits .f64 x y)) hb
    go_enter Try.func40, Try.ntmps40
    go_wp2
    go_ret
    exact ⟨_, rfl, (Later.refl _).drew, h2⟩
  | some r =>
    have h1 := fun t => run_float_arith (P := Try.prog) w .sub t .f64 x y r hb
    have h2 := arith_some 161 x y r hb
    go_enter Try.func40, Try.ntmps40
    go_wp2
    go_ret
    exact ⟨_, rfl, Later.refl _, h2⟩
theorem combine_162 (x y : Nat) (w : World) :
    Calls Try.prog 40 #[.int .i64 162, .float .f64 x, .float .f64 y] w fun e w' => ∃ b : Nat, e = .returned (.float .f64 b) ∧ Later w w' ∧ fixn df b = arithW 162 x y := by
  cases hb : arithO 162 x y with
  | none =>
    have h1 := fun t w => FM.run_arith_none (P := Try.prog) .mul t .f64 x y w (by simp) hb
    have h2 := arith_none 162 x y (w.tape w.drawn (.nanBits .f64 x y)) hb
    go_enter Try.func40, Try.ntmps40
    go_wp2
    go_ret
    exact ⟨_, rfl, (Later.refl _).drew, h2⟩
  | some r =>
    have h1 := fun t => run_float_arith (P := Try.prog) w .mul t .f64 x y r hb
    have h2 := arith_some 162 x y r hb
    go_enter Try.func40, Try.ntmps40
    go_wp2
    go_ret
    exact ⟨_, rfl, Later.refl _, h2⟩
theorem combine_163 (x y : Nat) (w : World) :
    Calls Try.prog 40 #[.int .i64 163, .float .f64 x, .float .f64 y] w fun e w' => ∃ b : Nat, e = .returned (.float .f64 b) ∧ Later w w' ∧ fixn df b = arithW 163 x y := by
  cases hb : arithO 163 x y with
  | none =>
    have h1 := fun t w => FM.run_arith_none (P := Try.prog) .quo t .f64 x y w (by simp) hb
    have h2 := arith_none 163 x y (w.tape w.drawn (.nanBits .f64 x y)) hb
    go_enter Try.func40, Try.ntmps40
    go_wp2
    go_ret
    exact ⟨_, rfl, (Later.refl _).drew, h2⟩
  | some r =>
    have h1 := fun t => run_float_arith (P := Try.prog) w .quo t .f64 x y r hb
    have h2 := arith_some 163 x y r hb
    go_enter Try.func40, Try.ntmps40
    go_wp2
    go_ret
    exact ⟨_, rfl, Later.refl _, h2⟩
end Go.Proofs.Ytobhihggdoccoaa
