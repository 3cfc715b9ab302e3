/- Contracts of package convn over this seat's translation: floats and their bits, wider and narrower ones, whole numbers. -/
import Derived.Test.YtibfjlibkaejnaaRows
import Derived.WalkKit
import Derived.ProofKit
import Derived.Deep.QuietTactic
import Derived.BigQuiet
import Derived.Laws.Externs
import Derived.Laws.FloatArith
import Derived.WalkLawsBesides
import Derived.Test.YtibfjlibkaejnaaFar
import Derived.Test.YtibfjlibkaejnaaCCut
namespace Go.Proofs.Ytibfjlibkaejnaa
open Go.RowKit
open Go.FM (isN fixn qn sw otherW fromW cutI tval small)
set_option linter.unusedVariables false

theorem hsf : 2 ≤ Ieee.single.exponentBits := by decide
theorem hdf : 2 ≤ Ieee.double.exponentBits := by decide
theorem num_any (n : Int) (w : World) :
    Calls Try.prog 11 #[.int .i64 n] w fun e w' => e = .returned (.int .i64 n) ∧ w' = w := by
  go_enter Try.func11, Try.ntmps11
  go_wp2
  go_ret
  exact ⟨rfl, rfl⟩
theorem ret_int {k : IntKind} {a b : Int} (h : a = b) : Ending.returned (.int k a) = .returned (.int k b) := by rw [h]
theorem low_any (x : Int) (w : World) :
    Calls Try.prog 13 #[.int .i64 x] w fun e w' => e = .returned (.int .i64 (x % 4294967296)) ∧ w' = w := by
  go_enter Try.func13, Try.ntmps13
  go_wp2
  go_ret
  exact ⟨rfl, rfl⟩
theorem sign_any (x : Int) (w : World) :
    Calls Try.prog 14 #[.int .i64 x] w fun e w' => e = .returned (.int .i64 (FM.s32 x)) ∧ w' = w := by
  go_enter Try.func14, Try.ntmps14
  go_wp2
  go_ret
  exact ⟨ret_int (by simp only [wrap64, wrap32, FM.s32]; omega), rfl⟩
theorem run_from32 (x : Nat) (w : World) : (callFunc 32 #[.int .u32 (x : Int)]).run Try.prog w = .ok (.value (.float .f32 x)) w := by
  rw [run_callFunc_extern (e := Extern.MathFloatBits.float32frombits) Try.func32 (by kernel_rfl) (by kernel_rfl) (by kernel_rfl) (by kernel_rfl)]
  rfl
theorem run_bits32 (x : Nat) (w : World) : (callFunc 34 #[.float .f32 x]).run Try.prog w = .ok (.value (.int .u32 (x : Int))) w := by
  rw [run_callFunc_extern (e := Extern.MathFloatBits.float32bits) Try.func34 (by kernel_rfl) (by kernel_rfl) (by kernel_rfl) (by kernel_rfl)]
  rfl
theorem run_from64 (x : Nat) (w : World) : (callFunc 33 #[.int .u64 (x : Int)]).run Try.prog w = .ok (.value (.float .f64 x)) w := by
  rw [run_callFunc_extern (e := Extern.MathFloatBits.float64frombits) Try.func33 (by kernel_rfl) (by kernel_rfl) (by kernel_rfl) (by kernel_rfl)]
  rfl
theorem run_bits64 (x : Nat) (w : World) : (callFunc 35 #[.float .f64 x]).run Try.prog w = .ok (.value (.int .u64 (x : Int))) w := by
  rw [run_callFunc_extern (e := Extern.MathFloatBits.float64bits) Try.func35 (by kernel_rfl) (by kernel_rfl) (by kernel_rfl) (by kernel_rfl)]
  rfl
/-- no number, wider and narrower: what is drawn -/
def wcut (w : World) (x : Nat) : Nat := (Question.nanConv .f64 x).cut (w.tape w.drawn (.nanConv .f64 x))
def ncut (w : World) (x : Nat) : Nat := (Question.nanConv .f32 x).cut (w.tape w.drawn (.nanConv .f32 x))
theorem wcut_nan (w : World) (x : Nat) : isN Ieee.double (wcut w x) ∧ wcut w x < 18446744073709551616 := FM.conv_nan .f64 x _
theorem ncut_nan (w : World) (x : Nat) : isN Ieee.single (ncut w x) ∧ ncut w x < 4294967296 := FM.conv_nan .f32 x _
theorem run_wide_nan (x : Nat) (h : isN Ieee.single x) (w : World) : (convert 37 34 (.float .f32 x)).run Try.prog w = .ok (.float .f64 (wcut w x)) w.drew :=
  FM.run_conv_nan 37 34 .f32 .f64 x w (by kernel_rfl) (by kernel_rfl) (by decide) _ _ (FM.read_nan Ieee.single hsf x h)
theorem run_narrow_nan (x : Nat) (h : isN Ieee.double x) (w : World) : (convert 34 37 (.float .f64 x)).run Try.prog w = .ok (.float .f32 (ncut w x)) w.drew :=
  FM.run_conv_nan 34 37 .f64 .f32 x w (by kernel_rfl) (by kernel_rfl) (by decide) _ _ (FM.read_nan Ieee.double hdf x h)
theorem run_wide (x D : Nat) (h : floatToFloatBits .f32 x .f64 = some D) (w : World) : (convert 37 34 (.float .f32 x)).run Try.prog w = .ok (.float .f64 D) w :=
  run_convert_float_float w 37 34 .f32 .f64 x D (by kernel_rfl) (by kernel_rfl) h
theorem run_narrow (D z : Nat) (h : floatToFloatBits .f64 D .f32 = some z) (w : World) : (convert 34 37 (.float .f64 D)).run Try.prog w = .ok (.float .f32 z) w :=
  run_convert_float_float w 34 37 .f64 .f32 D z (by kernel_rfl) (by kernel_rfl) h
theorem wide_bits (x D m : Nat) (s : Bool) (p : Int) (h : Ieee.single.read x = .number s m p) (hD : Ieee.double.write (.number s m p) = D) (hi : (Ieee.double.read D).isInfinity = false) : floatToFloatBits .f32 x .f64 = some D := by
  unfold floatToFloatBits
  rw [if_neg (by decide), show FloatKind.f32.decode x = .number s m p from h]
  show (if (Ieee.double.read (Ieee.double.write (.number s m p))).isInfinity = true then none else some (Ieee.double.write (.number s m p))) = some D
  rw [hD, hi]; rfl
theorem narrow_bits (D z m : Nat) (s : Bool) (p : Int) (h : Ieee.double.read D = .number s m p) (hz : Ieee.single.write (.number s m p) = z) (hi : (Ieee.single.read z).isInfinity = false) : floatToFloatBits .f64 D .f32 = some z := by
  unfold floatToFloatBits
  rw [if_neg (by decide), show FloatKind.f64.decode D = .number s m p from h]
  show (if (Ieee.single.read (Ieee.single.write (.number s m p))).isInfinity = true then none else some (Ieee.single.write (.number s m p))) = some z
  rw [hz, hi]; rfl
theorem inf_bits (x : Nat) (s : Bool) (h : Ieee.single.read x = .infinity s) : floatToFloatBits .f32 x .f64 = some (Ieee.double.word s Ieee.double.infRung) := by
  unfold floatToFloatBits
  rw [if_neg (by decide), show FloatKind.f32.decode x = .infinity s from h]
  rfl
theorem ninf_bits (x : Nat) (s : Bool) (h : Ieee.double.read x = .infinity s) : floatToFloatBits .f64 x .f32 = some (Ieee.single.word s Ieee.single.infRung) := by
  unfold floatToFloatBits
  rw [if_neg (by decide), show FloatKind.f64.decode x = .infinity s from h]
  rfl
/-- wider, of what is a number -/
theorem wide_ok (q : Nat) (hq : q < 4294967296) (h : ¬ isN Ieee.single q) : floatToFloatBits .f32 q .f64 = some (otherW Ieee.single Ieee.double q) := by
  unfold isN at h
  rcases Nat.lt_or_ge (FM.rg Ieee.single q) Ieee.single.infRung with h1 | h1
  · obtain ⟨D, e, hD, h2, h3, -⟩ := FM.wide_fin q hq h1
    rw [e]
    exact wide_bits q D _ _ _ (FM.read_num Ieee.single q h1) hD (by rw [FM.read_num Ieee.double D h3]; rfl)
  · have h2 : FM.rg Ieee.single q = Ieee.single.infRung := by omega
    rw [(FM.wide_inf q hq h2).1]
    exact inf_bits q _ (FM.read_inf Ieee.single hsf q h2)
/-- narrower, of what is a number and stays one -/
theorem narrow_ok (D : Nat) (h : ¬ isN Ieee.double D) (hs : small D) : floatToFloatBits .f64 D .f32 = some (otherW Ieee.double Ieee.single D) := by
  have e : otherW Ieee.double Ieee.single D = Ieee.single.write (Ieee.double.read D) := by unfold FM.otherW; rw [if_neg h]
  rw [e]
  unfold isN at h
  rcases Nat.lt_or_ge (FM.rg Ieee.double D) Ieee.double.infRung with h1 | h1
  · have hr := FM.read_num Ieee.double D h1
    have hs := hs h1
    have hw := FM.sw_single
    have e2 : Ieee.single.write (Ieee.double.read D) = Ieee.single.word (FM.sg Ieee.double D) (FM.near Ieee.single (FM.mag Ieee.double (FM.rg Ieee.double D)) (FM.plc Ieee.double (FM.rg Ieee.double D))) := by rw [hr]; exact FM.nearest_near _ _ _ _
    refine narrow_bits D _ _ _ _ hr (by rw [hr]) ?_
    rw [e2, FM.read_num Ieee.single _ (by rw [FM.rg_word Ieee.single _ _ (Nat.lt_trans hs hw)]; exact hs)]
    rfl
  · have h2 : FM.rg Ieee.double D = Ieee.double.infRung := by omega
    rw [FM.read_inf Ieee.double hdf D h2]
    exact ninf_bits D _ (FM.read_inf Ieee.double hdf D h2)
theorem other_num (D : Nat) (h : ¬ isN Ieee.double D) : ¬ isN Ieee.single (otherW Ieee.double Ieee.single D) ∧ otherW Ieee.double Ieee.single D < 4294967296 := by
  have e : otherW Ieee.double Ieee.single D = Ieee.single.write (Ieee.double.read D) := by unfold FM.otherW; rw [if_neg h]
  rw [e]
  refine ⟨?_, Ieee.Format.write_lt Ieee.single _⟩
  unfold isN
  have : FM.rg Ieee.single (Ieee.single.write (Ieee.double.read D)) ≤ Ieee.single.infRung := by
    refine FM.rg_write Ieee.single _ ?_
    unfold isN at h
    rcases Nat.lt_or_ge (FM.rg Ieee.double D) Ieee.double.infRung with h1 | h1
    · rw [FM.read_num Ieee.double D h1]; rfl
    · rw [FM.read_inf Ieee.double hdf D (by omega)]; rfl
  omega
theorem other_num2 (q : Nat) (hq : q < 4294967296) (h : ¬ isN Ieee.single q) : ¬ isN Ieee.double (otherW Ieee.single Ieee.double q) := by
  unfold isN at *
  rcases Nat.lt_or_ge (FM.rg Ieee.single q) Ieee.single.infRung with h1 | h1
  · obtain ⟨D, e, hD, h2, h3, -⟩ := FM.wide_fin q hq h1
    rw [e]; omega
  · have := (FM.wide_inf q hq (by omega)).2.2
    omega
/-! bits of a result -/
theorem neq_num (x : Nat) (h : ¬ isN Ieee.single x) : (FloatKind.f32.format.order x x != some .eq) = false := by
  show (Ieee.single.order x x != some .eq) = false
  rw [FM.order_self Ieee.single hsf x h]; rfl
theorem neq_nan (x : Nat) (h : isN Ieee.single x) : (FloatKind.f32.format.order x x != some .eq) = true := by
  show (Ieee.single.order x x != some .eq) = true
  rw [FM.order_selfN Ieee.single hsf x h]; rfl
theorem neq_num64 (x : Nat) (h : ¬ isN Ieee.double x) : (FloatKind.f64.format.order x x != some .eq) = false := by
  show (Ieee.double.order x x != some .eq) = false
  rw [FM.order_self Ieee.double hdf x h]; rfl
theorem neq_nan64 (x : Nat) (h : isN Ieee.double x) : (FloatKind.f64.format.order x x != some .eq) = true := by
  show (Ieee.double.order x x != some .eq) = true
  rw [FM.order_selfN Ieee.double hdf x h]; rfl
theorem bits32_any (b : Nat) (hb : Hid (b < 4294967296)) (w : World) :
    Calls Try.prog 21 #[.float .f32 b] w fun e w' => e = .returned (.int .i64 (fixn Ieee.single b : Nat)) ∧ w' = w := by
  have h1 := run_bits32 b
  have h2 : IntKind.i64.wrap (b : Int) = (b : Int) := by rw [IntKind.wrap_i64]; have := hb.out; omega
  by_cases hn : isN Ieee.single b
  · rw [FM.fixn_nan Ieee.single b hn]
    have h3 := neq_nan b hn
    go_enter Try.func21, Try.ntmps21
    go_wp2
    go_ret
    exact ⟨rfl, rfl⟩
  · rw [show fixn Ieee.single b = b from by unfold fixn; rw [if_neg hn]]
    have h3 := neq_num b hn
    go_enter Try.func21, Try.ntmps21
    go_wp2
    go_ret
    exact ⟨rfl, rfl⟩
theorem qn64 : qn Ieee.double = 9221120237041090560 := by decide +kernel
theorem sw_qn : sw (qn Ieee.double) = 9221120237041090560 := by rw [qn64]; exact FM.sw_small _ (by decide)
theorem bits64_any (b : Nat) (w : World) :
    Calls Try.prog 23 #[.float .f64 b] w fun e w' => e = .returned (.int .i64 (sw (fixn Ieee.double b))) ∧ w' = w := by
  have h1 := run_bits64 b
  have h2 : IntKind.i64.wrap (b : Int) = sw b := rfl
  by_cases hn : isN Ieee.double b
  · rw [FM.fixn_nan Ieee.double b hn, sw_qn]
    have h3 := neq_nan64 b hn
    go_enter Try.func23, Try.ntmps23
    go_wp2
    go_ret
    exact ⟨rfl, rfl⟩
  · rw [show fixn Ieee.double b = b from by unfold fixn; rw [if_neg hn]]
    have h3 := neq_num64 b hn
    go_enter Try.func23, Try.ntmps23
    go_wp2
    go_ret
    exact ⟨rfl, rfl⟩
theorem float64Of_eq (a : Int) (x : Nat) (h : Hid (a % 18446744073709551616 = (x : Int))) (w : World) :
    Calls Try.prog 18 #[.int .i64 a] w fun e w' => e = .returned (.float .f64 x) ∧ w' = w := by
  have h1 := run_from64 x
  have h2 : IntKind.u64.wrap a = (x : Int) := by rw [IntKind.wrap_u64]; exact h.out
  go_enter Try.func18, Try.ntmps18
  go_wp2
  go_ret
  exact ⟨rfl, rfl⟩
/-- wider: a number's float, or one that is no number either -/
theorem wide_any (a : Int) (q : Nat) (h : Hid (a % 4294967296 = (q : Int))) (hq : Hid (q < 4294967296)) (w : World) :
    Calls Try.prog 16 #[.int .i64 a] w fun e w' => ∃ D : Nat, e = .returned (.float .f64 D) ∧ Later w w' ∧ Hid (D < 18446744073709551616 ∧ fixn Ieee.double D = otherW Ieee.single Ieee.double q ∧ (isN Ieee.double D ↔ isN Ieee.single q)) := by
  have h1 := run_from32 q
  have h2 : IntKind.u32.wrap a = (q : Int) := by rw [IntKind.wrap_u32]; exact h.out
  by_cases hn : isN Ieee.single q
  · have h3 := run_wide_nan q hn w
    have h4 := wcut_nan w q
    have h5 : Hid (wcut w q < 18446744073709551616 ∧ fixn Ieee.double (wcut w q) = otherW Ieee.single Ieee.double q ∧ (isN Ieee.double (wcut w q) ↔ isN Ieee.single q)) := ⟨h4.2, by rw [FM.fixn_nan Ieee.double _ h4.1, FM.other_nan Ieee.single Ieee.double q hn], ⟨fun _ => hn, fun _ => h4.1⟩⟩
    clear h4
    generalize wcut w q = D at *
    go_enter Try.func16, Try.ntmps16
    go_wp2
    go_ret
    exact ⟨_, rfl, (Later.refl _).drew, h5⟩
  · have h3 := run_wide q _ (wide_ok q hq.out hn)
    have h4 := other_num2 q hq.out hn
    have h5 : Hid (otherW Ieee.single Ieee.double q < 18446744073709551616 ∧ fixn Ieee.double (otherW Ieee.single Ieee.double q) = otherW Ieee.single Ieee.double q ∧ (isN Ieee.double (otherW Ieee.single Ieee.double q) ↔ isN Ieee.single q)) := ⟨FM.other_lt64 q, by unfold fixn; rw [if_neg h4], ⟨fun g => absurd g h4, fun g => absurd g hn⟩⟩
    clear h4
    generalize otherW Ieee.single Ieee.double q = D at *
    go_enter Try.func16, Try.ntmps16
    go_wp2
    go_ret
    exact ⟨_, rfl, Later.refl _, h5⟩
end Go.Proofs.Ytibfjlibkaejnaa
