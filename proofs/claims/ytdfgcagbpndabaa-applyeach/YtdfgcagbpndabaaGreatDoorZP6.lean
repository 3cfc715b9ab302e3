/- Contracts of package f64n over this seat's translation: floats and their bits, comparisons, arithmetic. -/
import Derived.Test.YtdfgcagbpndabaaGreatDoorRows
import Derived.WalkKit
import Derived.ProofKit
import Derived.Deep.QuietTactic
import Derived.BigQuiet
import Derived.Laws.Externs
import Derived.Laws.FloatArith
import Derived.WalkLawsBesides
import Derived.Test.YtdfgcagbpndabaaGreatDoorZA
import Derived.Test.YtdfgcagbpndabaaGreatDoorZB
import Derived.Test.YtdfgcagbpndabaaGreatDoorZC
import Derived.Test.YtdfgcagbpndabaaGreatDoorZD
set_option maxRecDepth 100000
set_option linter.unusedVariables false
namespace Go.Proofs.YtdfgcagbpndabaaGreatDoor.P6
open Go.RowKit
open Go.FM (isN fixn qn sw)
abbrev df : Ieee.Format := Ieee.double
theorem hdf : 2 ≤ df.exponentBits := by decide
theorem run_frombits (x : Nat) (w : World) : (callFunc 85 #[.int .u64 (x : Int)]).run Tryz.prog w = .ok (.value (.float .f64 x)) w := by
  rw [run_callFunc_extern (e := Extern.MathFloatBits.float64frombits) Tryz.func85 (by kernel_rfl) (by kernel_rfl) (by kernel_rfl) (by kernel_rfl)]
  rfl
theorem run_bits (x : Nat) (w : World) : (callFunc 87 #[.float .f64 x]).run Tryz.prog w = .ok (.value (.int .u64 (x : Int))) w := by
  rw [run_callFunc_extern (e := Extern.MathFloatBits.float64bits) Tryz.func87 (by kernel_rfl) (by kernel_rfl) (by kernel_rfl) (by kernel_rfl)]
  rfl
theorem floatOf_eq (a : Int) (x : Nat) (h : Hid (a % 18446744073709551616 = (x : Int))) (w : World) :
    Calls Tryz.prog 98 #[.int .i64 a] w fun e w' => e = .returned (.float .f64 x) ∧ w' = w := by
  have h1 := run_frombits x
  have h2 : IntKind.u64.wrap a = (x : Int) := by rw [IntKind.wrap_u64]; exact h.out
  go_enter Tryz.func98, Tryz.ntmps98
  go_wp2
  go_ret
  exact ⟨rfl, rfl⟩
theorem order_neq_num (x : Nat) (h : ¬ isN df x) : (FloatKind.f64.format.order x x != some .eq) = false := by
  show (df.order x x != some .eq) = false
  rw [FM.order_self df hdf x h]; rfl
theorem order_neq_nan (x : Nat) (h : isN df x) : (FloatKind.f64.format.order x x != some .eq) = true := by
  show (df.order x x != some .eq) = true
  rw [FM.order_selfN df hdf x h]; rfl
theorem qn64 : qn df = 9221120237041090560 := by decide +kernel
theorem sw_qn : sw (qn df) = 9221120237041090560 := by rw [qn64]; exact FM.sw_small _ (by decide)
theorem bitsOf_any (b : Nat) (w : World) :
    Calls Tryz.prog 96 #[.float .f64 b] w fun e w' => e = .returned (.int .i64 (sw (fixn df b))) ∧ w' = w := by
  have h1 := run_bits b
  have h2 : IntKind.i64.wrap (b : Int) = sw b := rfl
  by_cases hn : isN df b
  · rw [FM.fixn_nan df b hn, sw_qn]
    have h3 := order_neq_nan b hn
    go_enter Tryz.func96, Tryz.ntmps96
    go_wp2
    go_ret
    exact ⟨rfl, rfl⟩
  · rw [show fixn df b = b from by unfold fixn; rw [if_neg hn]]
    have h3 := order_neq_num b hn
    go_enter Tryz.func96, Tryz.ntmps96
    go_wp2
    go_ret
    exact ⟨rfl, rfl⟩
def fl (b : Bool) : Int := if b then 1 else 0
theorem flag_any (b : Bool) (w : World) :
    Calls Tryz.prog 114 #[.bool b] w fun e w' => e = .returned (.int .i64 (fl b)) ∧ w' = w := by
  cases b
  all_goals
    go_enter Tryz.func114, Tryz.ntmps114
    go_wp2
    go_ret
    exact ⟨rfl, rfl⟩
def cmpW (op : Int) (x y : Nat) : Bool :=
  if op = 97 then FloatKind.f64.format.order x y == some .eq else if op = 98 then FloatKind.f64.format.order x y != some .eq
  else if op = 99 then FloatKind.f64.format.order x y == some .lt else if op = 100 then FloatKind.f64.format.order x y == some .gt
  else if op = 101 then FloatKind.f64.format.order x y == some .lt || FloatKind.f64.format.order x y == some .eq else FloatKind.f64.format.order x y == some .gt || FloatKind.f64.format.order x y == some .eq
theorem compare_any (op : Int) (x y : Nat) (h : 97 ≤ op ∧ op ≤ 102) (w : World) :
    Calls Tryz.prog 115 #[.int .i64 op, .float .f64 x, .float .f64 y] w fun e w' => e = .returned (.bool (cmpW op x y)) ∧ w' = w := by
  have hc : op = 97 ∨ op = 98 ∨ op = 99 ∨ op = 100 ∨ op = 101 ∨ op = 102 := by omega
  clear h
  rcases hc with rfl | rfl | rfl | rfl | rfl | rfl
  all_goals
    go_enter Tryz.func115, Tryz.ntmps115
    go_wp2
    go_ret
    exact ⟨rfl, rfl⟩
def arithO (op : Int) (x y : Nat) : Option Nat := if op = 160 then df.add x y else if op = 161 then df.sub x y else if op = 162 then df.mul x y else df.div x y
def arithW (op : Int) (x y : Nat) : Nat := FM.fixo df (arithO op x y)
theorem arith_some (op : Int) (x y r : Nat) (h : arithO op x y = some r) : fixn df r = arithW op x y := by
  have e : arithW op x y = r := by unfold arithW; rw [h]; rfl
  rw [e]
  unfold arithO at h
  split at h
  · exact FM.add_ok df h
  split at h
  · exact FM.sub_ok df h
  split at h
  · exact FM.mul_ok df h
  · exact FM.div_ok df h
theorem arith_none (op : Int) (x y t : Nat) (h : arithO op x y = none) : fixn df ((Question.nanBits .f64 x y).cut t) = arithW op x y := by
  have := FM.cut_nan .f64 x y t
  rw [FM.fixn_nan df _ this.1]
  unfold arithW; rw [h]; rfl
theorem combine_160 (x y : Nat) (w : World) :
    Calls Tryz.prog 116 #[.int .i64 160, .float .f64 x, .float .f64 y] w fun e w' => ∃ b : Nat, e = .returned (.float .f64 b) ∧ Later w w' ∧ fixn df b = arithW 160 x y := by
  cases hb : arithO 160 x y with
  | none =>
    have h1 := fun t w => FM.run_arith_none (P := Tryz.prog) .add t .f64 x y w (by simp) hb
    have h2 := arith_none 160 x y (w.tape w.drawn (.nanBits .f64 x y)) hb
    go_enter Tryz.func116, Tryz.ntmps116
    go_wp2
    go_ret
    exact ⟨_, rfl, (Later.refl _).drew, h2⟩
  | some r =>
    have h1 := fun t => run_float_arith (P := Tryz.prog) w .add t .f64 x y r hb
    have h2 := arith_some 160 x y r hb
    go_enter Tryz.func116, Tryz.ntmps116
    go_wp2
    go_ret
    exact ⟨_, rfl, Later.refl _, h2⟩
theorem combine_161 (x y : Nat) (w : World) :
    Calls Tryz.prog 116 #[.int .i64 161, .float .f64 x, .float .f64 y] w fun e w' => ∃ b : Nat, e = .returned (.float .f64 b) ∧ Later w w' ∧ fixn df b = arithW 161 x y := by
  cases hb : arithO 161 x y with
  | none =>
    have h1 := fun t w => FM.run_arith_none (P := Tryz.prog) .sub t .f64 x y w (by simp) hb
    have h2 := arith_none 161 x y (w.tape w.drawn (.nanBits .f64 x y)) hb
    go_enter Tryz.func116, Tryz.ntmps116
    go_wp2
    go_ret
    exact ⟨_, rfl, (Later.refl _).drew, h2⟩
  | some r =>
    have h1 := fun t => run_float_arith (P := Tryz.prog) w .sub t .f64 x y r hb
    have h2 := arith_some 161 x y r hb
    go_enter Tryz.func116, Tryz.ntmps116
    go_wp2
    go_ret
    exact ⟨_, rfl, Later.refl _, h2⟩
theorem combine_162 (x y : Nat) (w : World) :
    Calls Tryz.prog 116 #[.int .i64 162, .float .f64 x, .float .f64 y] w fun e w' => ∃ b : Nat, e = .returned (.float .f64 b) ∧ Later w w' ∧ fixn df b = arithW 162 x y := by
  cases hb : arithO 162 x y with
  | none =>
    have h1 := fun t w => FM.run_arith_none (P := Tryz.prog) .mul t .f64 x y w (by simp) hb
    have h2 := arith_none 162 x y (w.tape w.drawn (.nanBits .f64 x y)) hb
    go_enter Tryz.func116, Tryz.ntmps116
    go_wp2
    go_ret
    exact ⟨_, rfl, (Later.refl _).drew, h2⟩
  | some r =>
    have h1 := fun t => run_float_arith (P := Tryz.prog) w .mul t .f64 x y r hb
    have h2 := arith_some 162 x y r hb
    go_enter Tryz.func116, Tryz.ntmps116
    go_wp2
    go_ret
    exact ⟨_, rfl, Later.refl _, h2⟩
theorem combine_163 (x y : Nat) (w : World) :
    Calls Tryz.prog 116 #[.int .i64 163, .float .f64 x, .float .f64 y] w fun e w' => ∃ b : Nat, e = .returned (.float .f64 b) ∧ Later w w' ∧ fixn df b = arithW 163 x y := by
  cases hb : arithO 163 x y with
  | none =>
    have h1 := fun t w => FM.run_arith_none (P := Tryz.prog) .quo t .f64 x y w (by simp) hb
    have h2 := arith_none 163 x y (w.tape w.drawn (.nanBits .f64 x y)) hb
    go_enter Tryz.func116, Tryz.ntmps116
    go_wp2
    go_ret
    exact ⟨_, rfl, (Later.refl _).drew, h2⟩
  | some r =>
    have h1 := fun t => run_float_arith (P := Tryz.prog) w .quo t .f64 x y r hb
    have h2 := arith_some 163 x y r hb
    go_enter Tryz.func116, Tryz.ntmps116
    go_wp2
    go_ret
    exact ⟨_, rfl, Later.refl _, h2⟩
end Go.Proofs.YtdfgcagbpndabaaGreatDoor.P6
namespace Go.Proofs.YtdfgcagbpndabaaGreatDoor.P6
open Go.RowKit
open Go.FM (isN fixn qn sw)
theorem least_any (a b : Int) (x y : Nat) (hx : Hid (a % 18446744073709551616 = (x : Int))) (hy : Hid (b % 18446744073709551616 = (y : Int))) (ha : Hid (sw x = a)) (hb : Hid (sw y = b)) (w : World) :
    Calls Tryz.prog 117 #[.int .i64 a, .int .i64 b] w fun e w' => e = .returned (.int .i64 (sw (FM.minW df x y))) ∧ w' = w := by
  have h0 : bits .or .i64 a b = sw (x ||| y) := FM.or_a a b x y hx.out hy.out
  have hr : ∀ o, FloatKind.f64.format.order x y = o → FM.minW df x y = if o = some .lt then x else if o = some .gt then y else if o = some .eq then x ||| y else qn df := by
    intro o ho; subst ho; rfl
  cases ho : FloatKind.f64.format.order x y with
  | none =>
    rw [hr _ ho]
    rw [if_neg (by decide), if_neg (by decide), if_neg (by decide), sw_qn]
    clear hr
    go_enter Tryz.func117, Tryz.ntmps117
    go_wp2_with (first | (go_at_call_of 98 a; refine (floatOf_eq a x hx _).mono ?_; rintro e w' ⟨rfl, rfl⟩) | (go_at_call_of 98 b; refine (floatOf_eq b y hy _).mono ?_; rintro e w' ⟨rfl, rfl⟩))
    go_ret
    exact ⟨rfl, rfl⟩
  | some o =>
    rw [hr _ ho]
    clear hr
    cases o
    · rw [if_pos rfl, ha.out]
      go_enter Tryz.func117, Tryz.ntmps117
      go_wp2_with (first | (go_at_call_of 98 a; refine (floatOf_eq a x hx _).mono ?_; rintro e w' ⟨rfl, rfl⟩) | (go_at_call_of 98 b; refine (floatOf_eq b y hy _).mono ?_; rintro e w' ⟨rfl, rfl⟩))
      go_ret
      exact ⟨rfl, rfl⟩
    · rw [if_neg (by decide), if_neg (by decide), if_pos rfl]
      go_enter Tryz.func117, Tryz.ntmps117
      go_wp2_with (first | (go_at_call_of 98 a; refine (floatOf_eq a x hx _).mono ?_; rintro e w' ⟨rfl, rfl⟩) | (go_at_call_of 98 b; refine (floatOf_eq b y hy _).mono ?_; rintro e w' ⟨rfl, rfl⟩))
      go_ret
      exact ⟨rfl, rfl⟩
    · rw [if_neg (by decide), if_pos rfl, hb.out]
      go_enter Tryz.func117, Tryz.ntmps117
      go_wp2_with (first | (go_at_call_of 98 a; refine (floatOf_eq a x hx _).mono ?_; rintro e w' ⟨rfl, rfl⟩) | (go_at_call_of 98 b; refine (floatOf_eq b y hy _).mono ?_; rintro e w' ⟨rfl, rfl⟩))
      go_ret
      exact ⟨rfl, rfl⟩
theorem most_any (a b : Int) (x y : Nat) (hx : Hid (a % 18446744073709551616 = (x : Int))) (hy : Hid (b % 18446744073709551616 = (y : Int))) (ha : Hid (sw x = a)) (hb : Hid (sw y = b)) (w : World) :
    Calls Tryz.prog 118 #[.int .i64 a, .int .i64 b] w fun e w' => e = .returned (.int .i64 (sw (FM.maxW df x y))) ∧ w' = w := by
  have h0 : bits .and .i64 a b = sw (x &&& y) := FM.and_a a b x y hx.out hy.out
  have hr : ∀ o, FloatKind.f64.format.order x y = o → FM.maxW df x y = if o = some .gt then x else if o = some .lt then y else if o = some .eq then x &&& y else qn df := by
    intro o ho; subst ho; rfl
  cases ho : FloatKind.f64.format.order x y with
  | none =>
    rw [hr _ ho]
    rw [if_neg (by decide), if_neg (by decide), if_neg (by decide), sw_qn]
    clear hr
    go_enter Tryz.func118, Tryz.ntmps118
    go_wp2_with (first | (go_at_call_of 98 a; refine (floatOf_eq a x hx _).mono ?_; rintro e w' ⟨rfl, rfl⟩) | (go_at_call_of 98 b; refine (floatOf_eq b y hy _).mono ?_; rintro e w' ⟨rfl, rfl⟩))
    go_ret
    exact ⟨rfl, rfl⟩
  | some o =>
    rw [hr _ ho]
    clear hr
    cases o
    · rw [if_neg (by decide), if_pos rfl, hb.out]
      go_enter Tryz.func118, Tryz.ntmps118
      go_wp2_with (first | (go_at_call_of 98 a; refine (floatOf_eq a x hx _).mono ?_; rintro e w' ⟨rfl, rfl⟩) | (go_at_call_of 98 b; refine (floatOf_eq b y hy _).mono ?_; rintro e w' ⟨rfl, rfl⟩))
      go_ret
      exact ⟨rfl, rfl⟩
    · rw [if_neg (by decide), if_neg (by decide), if_pos rfl]
      go_enter Tryz.func118, Tryz.ntmps118
      go_wp2_with (first | (go_at_call_of 98 a; refine (floatOf_eq a x hx _).mono ?_; rintro e w' ⟨rfl, rfl⟩) | (go_at_call_of 98 b; refine (floatOf_eq b y hy _).mono ?_; rintro e w' ⟨rfl, rfl⟩))
      go_ret
      exact ⟨rfl, rfl⟩
    · rw [if_pos rfl, ha.out]
      go_enter Tryz.func118, Tryz.ntmps118
      go_wp2_with (first | (go_at_call_of 98 a; refine (floatOf_eq a x hx _).mono ?_; rintro e w' ⟨rfl, rfl⟩) | (go_at_call_of 98 b; refine (floatOf_eq b y hy _).mono ?_; rintro e w' ⟨rfl, rfl⟩))
      go_ret
      exact ⟨rfl, rfl⟩
end Go.Proofs.YtdfgcagbpndabaaGreatDoor.P6
namespace Go.Proofs.YtdfgcagbpndabaaGreatDoor.P6
open Go.RowKit
open Go.FM (isN fixn qn)
theorem arm1 {α : Type} (x : Nat) (h1 : Nat → α) (h2 : Array Value → α) : Extern.MathFloor.toIntegral.match_2 (motive := fun _ => α) #[Value.float .f64 x] h1 h2 = h1 x := rfl
theorem arm2 {α : Type} (x : Nat) (h1 : Nat → α) (h2 : Array Value → α) : Extern.MathSqrt.sqrt.match_2 (motive := fun _ => α) #[Value.float .f64 x] h1 h2 = h1 x := rfl
theorem quiet_nan (s : Bool) (t : Nat) (h0 : 0 < t) (h : t < df.binade) : isN df (df.write (.nan s (df.quiet t))) ∧ df.write (.nan s (df.quiet t)) < 18446744073709551616 := by
  have hb : df.binade = 2 ^ 52 := rfl
  have hi : df.infRung + df.binade = df.signWeight := Ieee.Format.infRung_add_binade df
  have h1 : df.quiet t < 2 ^ 52 := Nat.or_lt_two_pow (by rw [hb] at h; exact h) (by decide)
  have h2 : 2 ^ 51 ≤ df.quiet t := Nat.right_le_or
  have e : df.write (.nan s (df.quiet t)) = df.word s (df.infRung + df.quiet t) := by
    show df.word s (df.infRung + df.quiet t % df.binade) = _
    rw [Nat.mod_eq_of_lt (by rw [hb]; exact h1)]
  rw [e]
  constructor
  · unfold isN; rw [FM.rg_word df s _ (by omega)]; omega
  · exact Ieee.Format.word_lt df s (by omega)
theorem run_ceil (D : Nat) (hn : (df.read D).isNaN = false) (w : World) : (callFunc 163 #[.float .f64 D]).run Tryz.prog w = .ok (.value (.float .f64 (df.write ((df.read D).integral .up)))) w := by
  rw [run_callFunc_extern (e := Extern.MathFloor.toIntegral "math.archCeil" .up) Tryz.func163 (by kernel_rfl) (by kernel_rfl) (by kernel_rfl) (by kernel_rfl)]
  have hd : FloatKind.f64.decode D = df.read D := rfl
  cases h : df.read D with
  | nan s t => rw [h] at hn; cases hn
  | number s m p => rw [h] at hd; rw [Extern.MathFloor.toIntegral.eq_1, arm1, hd]; rfl
  | infinity s => rw [h] at hd; rw [Extern.MathFloor.toIntegral.eq_1, arm1, hd]; rfl
theorem run_ceil_nan (D : Nat) (hD : D < 18446744073709551616) (hn : isN df D) (w : World) : ∃ (E n : Nat), (callFunc 163 #[.float .f64 D]).run Tryz.prog w = .ok (.value (.float .f64 E)) (w.drewN n) ∧ isN df E ∧ E < 18446744073709551616 := by
  have hd : FloatKind.f64.decode D = .nan (FM.sg df D) (FM.rg df D - df.infRung) := FM.read_nan df hdf D hn
  have hq := quiet_nan (FM.sg df D) (FM.rg df D - df.infRung) (by unfold isN at hn; omega) (by have := FM.rg_lt df D; have := Ieee.Format.infRung_add_binade df; unfold isN at hn; omega)
  rw [run_callFunc_extern (e := Extern.MathFloor.toIntegral "math.archCeil" .up) Tryz.func163 (by kernel_rfl) (by kernel_rfl) (by kernel_rfl) (by kernel_rfl)]
  by_cases hc : FloatKind.f64.format.quiet (FM.rg df D - df.infRung) = FM.rg df D - df.infRung
  · refine ⟨D, 0, ?_, hn, hD⟩
    rw [Extern.MathFloor.toIntegral.eq_1, arm1, hd]
    dsimp only
    rw [if_pos hc]
    rfl
  · rw [Extern.MathFloor.toIntegral.eq_1, arm1, hd]
    dsimp only
    rw [if_neg hc]
    simp only [Sem.run_bind, run_choose_drew, Question.forced]
    generalize Question.cut _ _ = z
    by_cases hz : z = 1
    · exact ⟨D, 1, by simp [hz]; rfl, hn, hD⟩
    · exact ⟨df.write (.nan (FM.sg df D) (df.quiet (FM.rg df D - df.infRung))), 1, by simp [hz]; exact ⟨rfl, rfl⟩, hq.1, hq.2⟩
theorem run_floor (D : Nat) (hn : (df.read D).isNaN = false) (w : World) : (callFunc 165 #[.float .f64 D]).run Tryz.prog w = .ok (.value (.float .f64 (df.write ((df.read D).integral .down)))) w := by
  rw [run_callFunc_extern (e := Extern.MathFloor.toIntegral "math.archFloor" .down) Tryz.func165 (by kernel_rfl) (by kernel_rfl) (by kernel_rfl) (by kernel_rfl)]
  have hd : FloatKind.f64.decode D = df.read D := rfl
  cases h : df.read D with
  | nan s t => rw [h] at hn; cases hn
  | number s m p => rw [h] at hd; rw [Extern.MathFloor.toIntegral.eq_1, arm1, hd]; rfl
  | infinity s => rw [h] at hd; rw [Extern.MathFloor.toIntegral.eq_1, arm1, hd]; rfl
theorem run_floor_nan (D : Nat) (hD : D < 18446744073709551616) (hn : isN df D) (w : World) : ∃ (E n : Nat), (callFunc 165 #[.float .f64 D]).run Tryz.prog w = .ok (.value (.float .f64 E)) (w.drewN n) ∧ isN df E ∧ E < 18446744073709551616 := by
  have hd : FloatKind.f64.decode D = .nan (FM.sg df D) (FM.rg df D - df.infRung) := FM.read_nan df hdf D hn
  have hq := quiet_nan (FM.sg df D) (FM.rg df D - df.infRung) (by unfold isN at hn; omega) (by have := FM.rg_lt df D; have := Ieee.Format.infRung_add_binade df; unfold isN at hn; omega)
  rw [run_callFunc_extern (e := Extern.MathFloor.toIntegral "math.archFloor" .down) Tryz.func165 (by kernel_rfl) (by kernel_rfl) (by kernel_rfl) (by kernel_rfl)]
  by_cases hc : FloatKind.f64.format.quiet (FM.rg df D - df.infRung) = FM.rg df D - df.infRung
  · refine ⟨D, 0, ?_, hn, hD⟩
    rw [Extern.MathFloor.toIntegral.eq_1, arm1, hd]
    dsimp only
    rw [if_pos hc]
    rfl
  · rw [Extern.MathFloor.toIntegral.eq_1, arm1, hd]
    dsimp only
    rw [if_neg hc]
    simp only [Sem.run_bind, run_choose_drew, Question.forced]
    generalize Question.cut _ _ = z
    by_cases hz : z = 1
    · exact ⟨D, 1, by simp [hz]; rfl, hn, hD⟩
    · exact ⟨df.write (.nan (FM.sg df D) (df.quiet (FM.rg df D - df.infRung))), 1, by simp [hz]; exact ⟨rfl, rfl⟩, hq.1, hq.2⟩
theorem run_trunc (D : Nat) (hn : (df.read D).isNaN = false) (w : World) : (callFunc 159 #[.float .f64 D]).run Tryz.prog w = .ok (.value (.float .f64 (df.write ((df.read D).integral .zero)))) w := by
  rw [run_callFunc_extern (e := Extern.MathFloor.toIntegral "math.archTrunc" .zero) Tryz.func159 (by kernel_rfl) (by kernel_rfl) (by kernel_rfl) (by kernel_rfl)]
  have hd : FloatKind.f64.decode D = df.read D := rfl
  cases h : df.read D with
  | nan s t => rw [h] at hn; cases hn
  | number s m p => rw [h] at hd; rw [Extern.MathFloor.toIntegral.eq_1, arm1, hd]; rfl
  | infinity s => rw [h] at hd; rw [Extern.MathFloor.toIntegral.eq_1, arm1, hd]; rfl
theorem run_trunc_nan (D : Nat) (hD : D < 18446744073709551616) (hn : isN df D) (w : World) : ∃ (E n : Nat), (callFunc 159 #[.float .f64 D]).run Tryz.prog w = .ok (.value (.float .f64 E)) (w.drewN n) ∧ isN df E ∧ E < 18446744073709551616 := by
  have hd : FloatKind.f64.decode D = .nan (FM.sg df D) (FM.rg df D - df.infRung) := FM.read_nan df hdf D hn
  have hq := quiet_nan (FM.sg df D) (FM.rg df D - df.infRung) (by unfold isN at hn; omega) (by have := FM.rg_lt df D; have := Ieee.Format.infRung_add_binade df; unfold isN at hn; omega)
  rw [run_callFunc_extern (e := Extern.MathFloor.toIntegral "math.archTrunc" .zero) Tryz.func159 (by kernel_rfl) (by kernel_rfl) (by kernel_rfl) (by kernel_rfl)]
  by_cases hc : FloatKind.f64.format.quiet (FM.rg df D - df.infRung) = FM.rg df D - df.infRung
  · refine ⟨D, 0, ?_, hn, hD⟩
    rw [Extern.MathFloor.toIntegral.eq_1, arm1, hd]
    dsimp only
    rw [if_pos hc]
    rfl
  · rw [Extern.MathFloor.toIntegral.eq_1, arm1, hd]
    dsimp only
    rw [if_neg hc]
    simp only [Sem.run_bind, run_choose_drew, Question.forced]
    generalize Question.cut _ _ = z
    by_cases hz : z = 1
    · exact ⟨D, 1, by simp [hz]; rfl, hn, hD⟩
    · exact ⟨df.write (.nan (FM.sg df D) (df.quiet (FM.rg df D - df.infRung))), 1, by simp [hz]; exact ⟨rfl, rfl⟩, hq.1, hq.2⟩
theorem run_even (D : Nat) (hn : (df.read D).isNaN = false) (w : World) : (callFunc 145 #[.float .f64 D]).run Tryz.prog w = .ok (.value (.float .f64 (df.write ((df.read D).integral .even)))) w := by
  rw [run_callFunc_extern (e := Extern.MathFloor.toIntegral "math.RoundToEven" .even) Tryz.func145 (by kernel_rfl) (by kernel_rfl) (by kernel_rfl) (by kernel_rfl)]
  have hd : FloatKind.f64.decode D = df.read D := rfl
  cases h : df.read D with
  | nan s t => rw [h] at hn; cases hn
  | number s m p => rw [h] at hd; rw [Extern.MathFloor.toIntegral.eq_1, arm1, hd]; rfl
  | infinity s => rw [h] at hd; rw [Extern.MathFloor.toIntegral.eq_1, arm1, hd]; rfl
theorem run_even_nan (D : Nat) (hD : D < 18446744073709551616) (hn : isN df D) (w : World) : ∃ (E n : Nat), (callFunc 145 #[.float .f64 D]).run Tryz.prog w = .ok (.value (.float .f64 E)) (w.drewN n) ∧ isN df E ∧ E < 18446744073709551616 := by
  have hd : FloatKind.f64.decode D = .nan (FM.sg df D) (FM.rg df D - df.infRung) := FM.read_nan df hdf D hn
  have hq := quiet_nan (FM.sg df D) (FM.rg df D - df.infRung) (by unfold isN at hn; omega) (by have := FM.rg_lt df D; have := Ieee.Format.infRung_add_binade df; unfold isN at hn; omega)
  rw [run_callFunc_extern (e := Extern.MathFloor.toIntegral "math.RoundToEven" .even) Tryz.func145 (by kernel_rfl) (by kernel_rfl) (by kernel_rfl) (by kernel_rfl)]
  by_cases hc : FloatKind.f64.format.quiet (FM.rg df D - df.infRung) = FM.rg df D - df.infRung
  · refine ⟨D, 0, ?_, hn, hD⟩
    rw [Extern.MathFloor.toIntegral.eq_1, arm1, hd]
    dsimp only
    rw [if_pos hc]
    rfl
  · rw [Extern.MathFloor.toIntegral.eq_1, arm1, hd]
    dsimp only
    rw [if_neg hc]
    simp only [Sem.run_bind, run_choose_drew, Question.forced]
    generalize Question.cut _ _ = z
    by_cases hz : z = 1
    · exact ⟨D, 1, by simp [hz]; rfl, hn, hD⟩
    · exact ⟨df.write (.nan (FM.sg df D) (df.quiet (FM.rg df D - df.infRung))), 1, by simp [hz]; exact ⟨rfl, rfl⟩, hq.1, hq.2⟩
theorem run_sqrt (D E : Nat) (h : df.sqrt D = some E) (w : World) : (callFunc 167 #[.float .f64 D]).run Tryz.prog w = .ok (.value (.float .f64 E)) w := by
  rw [run_callFunc_extern (e := Extern.MathSqrt.sqrt) Tryz.func167 (by kernel_rfl) (by kernel_rfl) (by kernel_rfl) (by kernel_rfl)]
  have h' : FloatKind.f64.format.sqrt D = some E := h
  rw [Extern.MathSqrt.sqrt.eq_1, arm2, h']; rfl
theorem run_sqrt_nan (D : Nat) (h : df.sqrt D = none) (w : World) : ∃ E, (callFunc 167 #[.float .f64 D]).run Tryz.prog w = .ok (.value (.float .f64 E)) w.drew ∧ isN df E ∧ E < 18446744073709551616 := by
  rw [run_callFunc_extern (e := Extern.MathSqrt.sqrt) Tryz.func167 (by kernel_rfl) (by kernel_rfl) (by kernel_rfl) (by kernel_rfl)]
  have h' : FloatKind.f64.format.sqrt D = none := h
  have := FM.cut_nan .f64 D D (w.tape w.drawn (.nanBits .f64 D D))
  exact ⟨_, by rw [Extern.MathSqrt.sqrt.eq_1, arm2, h']; simp [Question.forced], this.1, this.2⟩
end Go.Proofs.YtdfgcagbpndabaaGreatDoor.P6
namespace Go.Proofs.YtdfgcagbpndabaaGreatDoor.P6
open Go.RowKit
open Go.FM (isN fixn qn sw)
theorem ceil_num (D E : Nat) (hn : (df.read D).isNaN = false) (hE : df.write ((df.read D).integral .up) = E) (w : World) :
    Calls Tryz.prog 143 #[.float .f64 D] w fun e w' => e = .returned (.float .f64 E) ∧ w' = w := by
  have h := run_ceil D hn
  rw [hE] at h
  go_enter Tryz.func143, Tryz.ntmps143
  go_wp2
  go_ret
  exact ⟨rfl, rfl⟩
theorem ceil_nan (D : Nat) (hD : Hid (D < 18446744073709551616)) (hn : isN df D) (w : World) :
    Calls Tryz.prog 143 #[.float .f64 D] w fun e w' => ∃ E, e = .returned (.float .f64 E) ∧ Later w w' ∧ isN df E := by
  obtain ⟨E, n, h, h1, h2⟩ := run_ceil_nan D hD.out hn w
  go_enter Tryz.func143, Tryz.ntmps143
  go_wp2
  go_ret
  exact ⟨E, rfl, (Later.refl _).drewN, h1⟩
theorem floor_num (D E : Nat) (hn : (df.read D).isNaN = false) (hE : df.write ((df.read D).integral .down) = E) (w : World) :
    Calls Tryz.prog 144 #[.float .f64 D] w fun e w' => e = .returned (.float .f64 E) ∧ w' = w := by
  have h := run_floor D hn
  rw [hE] at h
  go_enter Tryz.func144, Tryz.ntmps144
  go_wp2
  go_ret
  exact ⟨rfl, rfl⟩
theorem floor_nan (D : Nat) (hD : Hid (D < 18446744073709551616)) (hn : isN df D) (w : World) :
    Calls Tryz.prog 144 #[.float .f64 D] w fun e w' => ∃ E, e = .returned (.float .f64 E) ∧ Later w w' ∧ isN df E := by
  obtain ⟨E, n, h, h1, h2⟩ := run_floor_nan D hD.out hn w
  go_enter Tryz.func144, Tryz.ntmps144
  go_wp2
  go_ret
  exact ⟨E, rfl, (Later.refl _).drewN, h1⟩
theorem trunc_num (D E : Nat) (hn : (df.read D).isNaN = false) (hE : df.write ((df.read D).integral .zero) = E) (w : World) :
    Calls Tryz.prog 135 #[.float .f64 D] w fun e w' => e = .returned (.float .f64 E) ∧ w' = w := by
  have h := run_trunc D hn
  rw [hE] at h
  go_enter Tryz.func135, Tryz.ntmps135
  go_wp2
  go_ret
  exact ⟨rfl, rfl⟩
theorem trunc_nan (D : Nat) (hD : Hid (D < 18446744073709551616)) (hn : isN df D) (w : World) :
    Calls Tryz.prog 135 #[.float .f64 D] w fun e w' => ∃ E, e = .returned (.float .f64 E) ∧ Later w w' ∧ isN df E := by
  obtain ⟨E, n, h, h1, h2⟩ := run_trunc_nan D hD.out hn w
  go_enter Tryz.func135, Tryz.ntmps135
  go_wp2
  go_ret
  exact ⟨E, rfl, (Later.refl _).drewN, h1⟩
theorem sqrt_num (D E : Nat) (h : df.sqrt D = some E) (w : World) :
    Calls Tryz.prog 146 #[.float .f64 D] w fun e w' => e = .returned (.float .f64 E) ∧ w' = w := by
  have h := run_sqrt D E h
  go_enter Tryz.func146, Tryz.ntmps146
  go_wp2
  go_ret
  exact ⟨rfl, rfl⟩
theorem sqrt_nan (D : Nat) (h : df.sqrt D = none) (w : World) :
    Calls Tryz.prog 146 #[.float .f64 D] w fun e w' => ∃ E, e = .returned (.float .f64 E) ∧ Later w w' ∧ isN df E := by
  obtain ⟨E, h, h1, h2⟩ := run_sqrt_nan D h w
  go_enter Tryz.func146, Tryz.ntmps146
  go_wp2
  go_ret
  exact ⟨E, rfl, (Later.refl _).drew, h1⟩
theorem whole_ok (way : Ieee.Toward) (x : Nat) (h : ¬ isN df x) : fixn df (FM.wholeW df way x) = FM.wholeW df way x ∧ (df.read x).isNaN = false ∧ df.write ((df.read x).integral way) = FM.wholeW df way x := by
  have e : FM.wholeW df way x = df.write ((df.read x).integral way) := by unfold FM.wholeW; rw [if_neg h]
  rw [e]
  refine ⟨FM.fixn_ok df _ (FM.rg_write df _ ?_), ?_, rfl⟩
  · unfold isN at h
    rcases Nat.lt_or_ge (FM.rg df x) df.infRung with h1 | h1
    · rw [FM.read_num df x h1]; rfl
    · rw [FM.read_inf df hdf x (by omega)]; rfl
  · unfold isN at h
    rcases Nat.lt_or_ge (FM.rg df x) df.infRung with h1 | h1
    · rw [FM.read_num df x h1]; rfl
    · rw [FM.read_inf df hdf x (by omega)]; rfl
theorem whole_nan (way : Ieee.Toward) (x : Nat) (h : isN df x) : FM.wholeW df way x = qn df := by unfold FM.wholeW; rw [if_pos h]
theorem root_some (x R : Nat) (h : df.sqrt x = some R) : FM.rootW df x = R ∧ fixn df R = R := ⟨by unfold FM.rootW FM.fixo; rw [h, Option.getD_some], FM.sqrt_ok df h⟩
theorem root_none (x : Nat) (h : df.sqrt x = none) : FM.rootW df x = qn df := by unfold FM.rootW FM.fixo; rw [h, Option.getD_none]
theorem reshape_155 (x R : Nat) (hx : Hid (x < 18446744073709551616)) (hR : FM.wholeW df .up x = R) (w : World) :
    Calls Tryz.prog 97 #[.int .i64 155, .float .f64 x] w fun e w' => ∃ b : Nat, e = .returned (.float .f64 b) ∧ Later w w' ∧ fixn df b = R := by
  by_cases hn : isN df x
  · have hq : qn df = R := by rw [← hR, whole_nan _ x hn]
    clear hR
    have c3 : Hid (∀ w, Calls Tryz.prog 143 #[.float .f64 x] w fun e w' => ∃ E, e = .returned (.float .f64 E) ∧ Later w w' ∧ isN df E) := ceil_nan x hx hn
    go_enter Tryz.func97, Tryz.ntmps97
    go_wp2_with (go_at_call 143; refine (c3.out _).mono ?_; rintro e w' ⟨E, rfl, ⟨bs, n, rfl⟩, hE⟩)
    go_ret
    exact ⟨_, rfl, (by repeat first | exact Lz _ | apply La | apply Lv | apply Ln | apply Ld), by rw [FM.fixn_nan df _ hE, hq]⟩
  · obtain ⟨h1, h2, h3⟩ := whole_ok .up x hn
    rw [hR] at h1 h3
    clear hR
    have c3 : Hid (∀ w, Calls Tryz.prog 143 #[.float .f64 x] w fun e w' => e = .returned (.float .f64 R) ∧ w' = w) := ceil_num x R h2 h3
    clear h2 h3
    go_enter Tryz.func97, Tryz.ntmps97
    go_wp2_with (go_at_call 143; refine (c3.out _).mono ?_; rintro e w' ⟨rfl, rfl⟩)
    go_ret
    exact ⟨_, rfl, (by repeat first | exact Lz _ | apply La | apply Lv | apply Ln | apply Ld), h1⟩
theorem reshape_156 (x R : Nat) (hx : Hid (x < 18446744073709551616)) (hR : FM.wholeW df .down x = R) (w : World) :
    Calls Tryz.prog 97 #[.int .i64 156, .float .f64 x] w fun e w' => ∃ b : Nat, e = .returned (.float .f64 b) ∧ Later w w' ∧ fixn df b = R := by
  by_cases hn : isN df x
  · have hq : qn df = R := by rw [← hR, whole_nan _ x hn]
    clear hR
    have c3 : Hid (∀ w, Calls Tryz.prog 144 #[.float .f64 x] w fun e w' => ∃ E, e = .returned (.float .f64 E) ∧ Later w w' ∧ isN df E) := floor_nan x hx hn
    go_enter Tryz.func97, Tryz.ntmps97
    go_wp2_with (go_at_call 144; refine (c3.out _).mono ?_; rintro e w' ⟨E, rfl, ⟨bs, n, rfl⟩, hE⟩)
    go_ret
    exact ⟨_, rfl, (by repeat first | exact Lz _ | apply La | apply Lv | apply Ln | apply Ld), by rw [FM.fixn_nan df _ hE, hq]⟩
  · obtain ⟨h1, h2, h3⟩ := whole_ok .down x hn
    rw [hR] at h1 h3
    clear hR
    have c3 : Hid (∀ w, Calls Tryz.prog 144 #[.float .f64 x] w fun e w' => e = .returned (.float .f64 R) ∧ w' = w) := floor_num x R h2 h3
    clear h2 h3
    go_enter Tryz.func97, Tryz.ntmps97
    go_wp2_with (go_at_call 144; refine (c3.out _).mono ?_; rintro e w' ⟨rfl, rfl⟩)
    go_ret
    exact ⟨_, rfl, (by repeat first | exact Lz _ | apply La | apply Lv | apply Ln | apply Ld), h1⟩
theorem reshape_157 (x R : Nat) (hx : Hid (x < 18446744073709551616)) (hR : FM.wholeW df .zero x = R) (w : World) :
    Calls Tryz.prog 97 #[.int .i64 157, .float .f64 x] w fun e w' => ∃ b : Nat, e = .returned (.float .f64 b) ∧ Later w w' ∧ fixn df b = R := by
  by_cases hn : isN df x
  · have hq : qn df = R := by rw [← hR, whole_nan _ x hn]
    clear hR
    have c3 : Hid (∀ w, Calls Tryz.prog 135 #[.float .f64 x] w fun e w' => ∃ E, e = .returned (.float .f64 E) ∧ Later w w' ∧ isN df E) := trunc_nan x hx hn
    go_enter Tryz.func97, Tryz.ntmps97
    go_wp2_with (go_at_call 135; refine (c3.out _).mono ?_; rintro e w' ⟨E, rfl, ⟨bs, n, rfl⟩, hE⟩)
    go_ret
    exact ⟨_, rfl, (by repeat first | exact Lz _ | apply La | apply Lv | apply Ln | apply Ld), by rw [FM.fixn_nan df _ hE, hq]⟩
  · obtain ⟨h1, h2, h3⟩ := whole_ok .zero x hn
    rw [hR] at h1 h3
    clear hR
    have c3 : Hid (∀ w, Calls Tryz.prog 135 #[.float .f64 x] w fun e w' => e = .returned (.float .f64 R) ∧ w' = w) := trunc_num x R h2 h3
    clear h2 h3
    go_enter Tryz.func97, Tryz.ntmps97
    go_wp2_with (go_at_call 135; refine (c3.out _).mono ?_; rintro e w' ⟨rfl, rfl⟩)
    go_ret
    exact ⟨_, rfl, (by repeat first | exact Lz _ | apply La | apply Lv | apply Ln | apply Ld), h1⟩
theorem reshape_158 (x R : Nat) (hx : Hid (x < 18446744073709551616)) (hR : FM.wholeW df .even x = R) (w : World) :
    Calls Tryz.prog 97 #[.int .i64 158, .float .f64 x] w fun e w' => ∃ b : Nat, e = .returned (.float .f64 b) ∧ Later w w' ∧ fixn df b = R := by
  by_cases hn : isN df x
  · have hq : qn df = R := by rw [← hR, whole_nan _ x hn]
    clear hR
    obtain ⟨E, n, c3, c4, c5⟩ := run_even_nan x hx.out hn w
    clear c5
    have c4 : Hid _ := c4
    go_enter Tryz.func97, Tryz.ntmps97
    go_wp2
    go_ret
    exact ⟨_, rfl, (by repeat first | exact Lz _ | apply La | apply Lv | apply Ln | apply Ld), by rw [FM.fixn_nan df _ c4.out, hq]⟩
  · obtain ⟨h1, h2, h3⟩ := whole_ok .even x hn
    rw [hR] at h1 h3
    clear hR
    have c3 := run_even x h2
    rw [h3] at c3
    clear h2 h3
    go_enter Tryz.func97, Tryz.ntmps97
    go_wp2
    go_ret
    exact ⟨_, rfl, (by repeat first | exact Lz _ | apply La | apply Lv | apply Ln | apply Ld), h1⟩
theorem reshape_159 (x R : Nat) (hx : Hid (x < 18446744073709551616)) (hR : FM.rootW df x = R) (w : World) :
    Calls Tryz.prog 97 #[.int .i64 159, .float .f64 x] w fun e w' => ∃ b : Nat, e = .returned (.float .f64 b) ∧ Later w w' ∧ fixn df b = R := by
  cases ho : df.sqrt x with
  | none =>
    have hq : qn df = R := by rw [← hR, root_none x ho]
    clear hR
    have c3 : Hid (∀ w, Calls Tryz.prog 146 #[.float .f64 x] w fun e w' => ∃ E, e = .returned (.float .f64 E) ∧ Later w w' ∧ isN df E) := sqrt_nan x ho
    clear ho
    go_enter Tryz.func97, Tryz.ntmps97
    go_wp2_with (go_at_call 146; refine (c3.out _).mono ?_; rintro e w' ⟨E, rfl, ⟨bs, n, rfl⟩, hE⟩)
    go_ret
    exact ⟨_, rfl, (by repeat first | exact Lz _ | apply La | apply Lv | apply Ln | apply Ld), by rw [FM.fixn_nan df _ hE, hq]⟩
  | some r =>
    obtain ⟨h1, h2⟩ := root_some x r ho
    have hq : r = R := by rw [← hR, h1]
    clear hR h1
    have c3 : Hid (∀ w, Calls Tryz.prog 146 #[.float .f64 x] w fun e w' => e = .returned (.float .f64 r) ∧ w' = w) := sqrt_num x r ho
    clear ho
    go_enter Tryz.func97, Tryz.ntmps97
    go_wp2_with (go_at_call 146; refine (c3.out _).mono ?_; rintro e w' ⟨rfl, rfl⟩)
    go_ret
    exact ⟨_, rfl, (by repeat first | exact Lz _ | apply La | apply Lv | apply Ln | apply Ld), by rw [← hq]; exact h2⟩
end Go.Proofs.YtdfgcagbpndabaaGreatDoor.P6
