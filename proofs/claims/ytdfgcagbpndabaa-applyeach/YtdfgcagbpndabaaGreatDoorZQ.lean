/- Contracts of package convn over this seat's translation: floats and their bits, wider and narrower ones, whole numbers. -/
import Derived.Test.YtdfgcagbpndabaaGreatDoorRows
import Derived.WalkKit
import Derived.ProofKit
import Derived.Deep.QuietTactic
import Derived.BigQuiet
import Derived.Laws.Externs
import Derived.Laws.FloatArith
import Derived.WalkLawsBesides
import Derived.Test.YtdfgcagbpndabaaGreatDoorZA
import Derived.Test.YtdfgcagbpndabaaGreatDoorZE
set_option linter.unusedVariables false
namespace Go.Proofs.YtdfgcagbpndabaaGreatDoor.Q
open Go.RowKit
open Go.FM (isN fixn qn sw otherW fromW cutI tval small)
theorem hsf : 2 ≤ Ieee.single.exponentBits := by decide
theorem hdf : 2 ≤ Ieee.double.exponentBits := by decide
theorem ret_int {k : IntKind} {a b : Int} (h : a = b) : Ending.returned (.int k a) = .returned (.int k b) := by rw [h]
theorem low_any (x : Int) (w : World) :
    Calls Tryz.prog 45 #[.int .i64 x] w fun e w' => e = .returned (.int .i64 (x % 4294967296)) ∧ w' = w := by
  go_enter Tryz.func45, Tryz.ntmps45
  go_wp2
  go_ret
  exact ⟨rfl, rfl⟩
theorem sign_any (x : Int) (w : World) :
    Calls Tryz.prog 47 #[.int .i64 x] w fun e w' => e = .returned (.int .i64 (FM.s32 x)) ∧ w' = w := by
  go_enter Tryz.func47, Tryz.ntmps47
  go_wp2
  go_ret
  exact ⟨ret_int (by simp only [wrap64, wrap32, FM.s32]; omega), rfl⟩
theorem run_from32 (x : Nat) (w : World) : (callFunc 84 #[.int .u32 (x : Int)]).run Tryz.prog w = .ok (.value (.float .f32 x)) w := by
  rw [run_callFunc_extern (e := Extern.MathFloatBits.float32frombits) Tryz.func84 (by kernel_rfl) (by kernel_rfl) (by kernel_rfl) (by kernel_rfl)]
  rfl
theorem run_bits32 (x : Nat) (w : World) : (callFunc 86 #[.float .f32 x]).run Tryz.prog w = .ok (.value (.int .u32 (x : Int))) w := by
  rw [run_callFunc_extern (e := Extern.MathFloatBits.float32bits) Tryz.func86 (by kernel_rfl) (by kernel_rfl) (by kernel_rfl) (by kernel_rfl)]
  rfl
theorem run_from64 (x : Nat) (w : World) : (callFunc 85 #[.int .u64 (x : Int)]).run Tryz.prog w = .ok (.value (.float .f64 x)) w := by
  rw [run_callFunc_extern (e := Extern.MathFloatBits.float64frombits) Tryz.func85 (by kernel_rfl) (by kernel_rfl) (by kernel_rfl) (by kernel_rfl)]
  rfl
theorem run_bits64 (x : Nat) (w : World) : (callFunc 87 #[.float .f64 x]).run Tryz.prog w = .ok (.value (.int .u64 (x : Int))) w := by
  rw [run_callFunc_extern (e := Extern.MathFloatBits.float64bits) Tryz.func87 (by kernel_rfl) (by kernel_rfl) (by kernel_rfl) (by kernel_rfl)]
  rfl
def wcut (w : World) (x : Nat) : Nat := (Question.nanConv .f64 x).cut (w.tape w.drawn (.nanConv .f64 x))
theorem wcut_nan (w : World) (x : Nat) : isN Ieee.double (wcut w x) ∧ wcut w x < 18446744073709551616 := FM.conv_nan .f64 x _
theorem run_wide_nan (x : Nat) (h : isN Ieee.single x) (w : World) : (convert 72 69 (.float .f32 x)).run Tryz.prog w = .ok (.float .f64 (wcut w x)) w.drew :=
  FM.run_conv_nan 72 69 .f32 .f64 x w (by kernel_rfl) (by kernel_rfl) (by decide) _ _ (FM.read_nan Ieee.single hsf x h)
theorem run_wide (x D : Nat) (h : floatToFloatBits .f32 x .f64 = some D) (w : World) : (convert 72 69 (.float .f32 x)).run Tryz.prog w = .ok (.float .f64 D) w :=
  run_convert_float_float w 72 69 .f32 .f64 x D (by kernel_rfl) (by kernel_rfl) h
theorem run_narrow (D z : Nat) (h : floatToFloatBits .f64 D .f32 = some z) (w : World) : (convert 69 72 (.float .f64 D)).run Tryz.prog w = .ok (.float .f32 z) w :=
  run_convert_float_float w 69 72 .f64 .f32 D z (by kernel_rfl) (by kernel_rfl) h
theorem wide_bits (x D m : Nat) (s : Bool) (p : Int) (h : Ieee.single.read x = .number s m p) (hD : Ieee.double.write (.number s m p) = D) (hi : (Ieee.double.read D).isInfinity = false) : floatToFloatBits .f32 x .f64 = some D := by
  unfold floatToFloatBits
  rw [if_neg (by decide), show FloatKind.f32.decode x = .number s m p from h]
  show (if (Ieee.double.read (Ieee.double.write (.number s m p))).isInfinity = true then none else some (Ieee.double.write (.number s m p))) = some D
  rw [hD, hi]; rfl
theorem narrow_bits (D z m : Nat) (s : Bool) (p : Int) (h : Ieee.double.read D = .number s m p) (hz : Ieee.single.write (.number s m p) = z) (hi : (Ieee.single.read z).isInfinity = false) : floatToFloatBits .f64 D .f32 = some z := by
  unfold floatToFloatBits
  rw [if_neg (by decide), show FloatKind.f64.decode D = .number s m p from h]
  show (if (Ieee.single.read (Ieee.single.write (.number s m p))).isInfinity = true then none else some (Ieee.single.write (.number s m p))) = some z
  rw [hz, hi]; rfl
theorem inf_bits (x : Nat) (s : Bool) (h : Ieee.single.read x = .infinity s) : floatToFloatBits .f32 x .f64 = some (Ieee.double.word s Ieee.double.infRung) := by
  unfold floatToFloatBits
  rw [if_neg (by decide), show FloatKind.f32.decode x = .infinity s from h]
  rfl
theorem ninf_bits (x : Nat) (s : Bool) (h : Ieee.double.read x = .infinity s) : floatToFloatBits .f64 x .f32 = some (Ieee.single.word s Ieee.single.infRung) := by
  unfold floatToFloatBits
  rw [if_neg (by decide), show FloatKind.f64.decode x = .infinity s from h]
  rfl
theorem wide_ok (q : Nat) (hq : q < 4294967296) (h : ¬ isN Ieee.single q) : floatToFloatBits .f32 q .f64 = some (otherW Ieee.single Ieee.double q) := by
  unfold isN at h
  rcases Nat.lt_or_ge (FM.rg Ieee.single q) Ieee.single.infRung with h1 | h1
  · obtain ⟨D, e, hD, h2, h3, -⟩ := FM.wide_fin q hq h1
    rw [e]
    exact wide_bits q D _ _ _ (FM.read_num Ieee.single q h1) hD (by rw [FM.read_num Ieee.double D h3]; rfl)
  · have h2 : FM.rg Ieee.single q = Ieee.single.infRung := by omega
    rw [(FM.wide_inf q hq h2).1]
    exact inf_bits q _ (FM.read_inf Ieee.single hsf q h2)
theorem narrow_ok (D : Nat) (h : ¬ isN Ieee.double D) (hs : small D) : floatToFloatBits .f64 D .f32 = some (otherW Ieee.double Ieee.single D) := by
  have e : otherW Ieee.double Ieee.single D = Ieee.single.write (Ieee.double.read D) := by unfold FM.otherW; rw [if_neg h]
  rw [e]
  unfold isN at h
  rcases Nat.lt_or_ge (FM.rg Ieee.double D) Ieee.double.infRung with h1 | h1
  · have hr := FM.read_num Ieee.double D h1
    have hs := hs h1
    have hw := FM.sw_single
    have e2 : Ieee.single.write (Ieee.double.read D) = Ieee.single.word (FM.sg Ieee.double D) (FM.near Ieee.single (FM.mag Ieee.double (FM.rg Ieee.double D)) (FM.plc Ieee.double (FM.rg Ieee.double D))) := by rw [hr]; exact FM.nearest_near _ _ _ _
    refine narrow_bits D _ _ _ _ hr (by rw [hr]) ?_
    rw [e2, FM.read_num Ieee.single _ (by rw [FM.rg_word Ieee.single _ _ (Nat.lt_trans hs hw)]; exact hs)]
    rfl
  · have h2 : FM.rg Ieee.double D = Ieee.double.infRung := by omega
    rw [FM.read_inf Ieee.double hdf D h2]
    exact ninf_bits D _ (FM.read_inf Ieee.double hdf D h2)
theorem other_num (D : Nat) (h : ¬ isN Ieee.double D) : ¬ isN Ieee.single (otherW Ieee.double Ieee.single D) ∧ otherW Ieee.double Ieee.single D < 4294967296 := by
  have e : otherW Ieee.double Ieee.single D = Ieee.single.write (Ieee.double.read D) := by unfold FM.otherW; rw [if_neg h]
  rw [e]
  refine ⟨?_, Ieee.Format.write_lt Ieee.single _⟩
  unfold isN
  have : FM.rg Ieee.single (Ieee.single.write (Ieee.double.read D)) ≤ Ieee.single.infRung := by
    refine FM.rg_write Ieee.single _ ?_
    unfold isN at h
    rcases Nat.lt_or_ge (FM.rg Ieee.double D) Ieee.double.infRung with h1 | h1
    · rw [FM.read_num Ieee.double D h1]; rfl
    · rw [FM.read_inf Ieee.double hdf D (by omega)]; rfl
  omega
theorem other_num2 (q : Nat) (hq : q < 4294967296) (h : ¬ isN Ieee.single q) : ¬ isN Ieee.double (otherW Ieee.single Ieee.double q) := by
  unfold isN at *
  rcases Nat.lt_or_ge (FM.rg Ieee.single q) Ieee.single.infRung with h1 | h1
  · obtain ⟨D, e, hD, h2, h3, -⟩ := FM.wide_fin q hq h1
    rw [e]; omega
  · have := (FM.wide_inf q hq (by omega)).2.2
    omega
theorem neq_num (x : Nat) (h : ¬ isN Ieee.single x) : (FloatKind.f32.format.order x x != some .eq) = false := by
  show (Ieee.single.order x x != some .eq) = false
  rw [FM.order_self Ieee.single hsf x h]; rfl
theorem neq_nan (x : Nat) (h : isN Ieee.single x) : (FloatKind.f32.format.order x x != some .eq) = true := by
  show (Ieee.single.order x x != some .eq) = true
  rw [FM.order_selfN Ieee.single hsf x h]; rfl
theorem neq_num64 (x : Nat) (h : ¬ isN Ieee.double x) : (FloatKind.f64.format.order x x != some .eq) = false := by
  show (Ieee.double.order x x != some .eq) = false
  rw [FM.order_self Ieee.double hdf x h]; rfl
theorem neq_nan64 (x : Nat) (h : isN Ieee.double x) : (FloatKind.f64.format.order x x != some .eq) = true := by
  show (Ieee.double.order x x != some .eq) = true
  rw [FM.order_selfN Ieee.double hdf x h]; rfl
theorem bits32_any (b : Nat) (hb : Hid (b < 4294967296)) (w : World) :
    Calls Tryz.prog 54 #[.float .f32 b] w fun e w' => e = .returned (.int .i64 (fixn Ieee.single b : Nat)) ∧ w' = w := by
  have h1 := run_bits32 b
  have h2 : IntKind.i64.wrap (b : Int) = (b : Int) := by rw [IntKind.wrap_i64]; have := hb.out; omega
  by_cases hn : isN Ieee.single b
  · rw [FM.fixn_nan Ieee.single b hn]
    have h3 := neq_nan b hn
    go_enter Tryz.func54, Tryz.ntmps54
    go_wp2
    go_ret
    exact ⟨rfl, rfl⟩
  · rw [show fixn Ieee.single b = b from by unfold fixn; rw [if_neg hn]]
    have h3 := neq_num b hn
    go_enter Tryz.func54, Tryz.ntmps54
    go_wp2
    go_ret
    exact ⟨rfl, rfl⟩
theorem qn64 : qn Ieee.double = 9221120237041090560 := by decide +kernel
theorem sw_qn : sw (qn Ieee.double) = 9221120237041090560 := by rw [qn64]; exact FM.sw_small _ (by decide)
theorem bits64_any (b : Nat) (w : World) :
    Calls Tryz.prog 56 #[.float .f64 b] w fun e w' => e = .returned (.int .i64 (sw (fixn Ieee.double b))) ∧ w' = w := by
  have h1 := run_bits64 b
  have h2 : IntKind.i64.wrap (b : Int) = sw b := rfl
  by_cases hn : isN Ieee.double b
  · rw [FM.fixn_nan Ieee.double b hn, sw_qn]
    have h3 := neq_nan64 b hn
    go_enter Tryz.func56, Tryz.ntmps56
    go_wp2
    go_ret
    exact ⟨rfl, rfl⟩
  · rw [show fixn Ieee.double b = b from by unfold fixn; rw [if_neg hn]]
    have h3 := neq_num64 b hn
    go_enter Tryz.func56, Tryz.ntmps56
    go_wp2
    go_ret
    exact ⟨rfl, rfl⟩
theorem float64Of_eq (a : Int) (x : Nat) (h : Hid (a % 18446744073709551616 = (x : Int))) (w : World) :
    Calls Tryz.prog 51 #[.int .i64 a] w fun e w' => e = .returned (.float .f64 x) ∧ w' = w := by
  have h1 := run_from64 x
  have h2 : IntKind.u64.wrap a = (x : Int) := by rw [IntKind.wrap_u64]; exact h.out
  go_enter Tryz.func51, Tryz.ntmps51
  go_wp2
  go_ret
  exact ⟨rfl, rfl⟩
theorem wide_any (a : Int) (q : Nat) (h : Hid (a % 4294967296 = (q : Int))) (hq : Hid (q < 4294967296)) (w : World) :
    Calls Tryz.prog 49 #[.int .i64 a] w fun e w' => ∃ D : Nat, e = .returned (.float .f64 D) ∧ Later w w' ∧ Hid (D < 18446744073709551616 ∧ fixn Ieee.double D = otherW Ieee.single Ieee.double q ∧ (isN Ieee.double D ↔ isN Ieee.single q)) := by
  have h1 := run_from32 q
  have h2 : IntKind.u32.wrap a = (q : Int) := by rw [IntKind.wrap_u32]; exact h.out
  by_cases hn : isN Ieee.single q
  · have h3 := run_wide_nan q hn w
    have h4 := wcut_nan w q
    have h5 : Hid (wcut w q < 18446744073709551616 ∧ fixn Ieee.double (wcut w q) = otherW Ieee.single Ieee.double q ∧ (isN Ieee.double (wcut w q) ↔ isN Ieee.single q)) := ⟨h4.2, by rw [FM.fixn_nan Ieee.double _ h4.1, FM.other_nan Ieee.single Ieee.double q hn], ⟨fun _ => hn, fun _ => h4.1⟩⟩
    clear h4
    generalize wcut w q = D at *
    go_enter Tryz.func49, Tryz.ntmps49
    go_wp2
    go_ret
    exact ⟨_, rfl, (Later.refl _).drew, h5⟩
  · have h3 := run_wide q _ (wide_ok q hq.out hn)
    have h4 := other_num2 q hq.out hn
    have h5 : Hid (otherW Ieee.single Ieee.double q < 18446744073709551616 ∧ fixn Ieee.double (otherW Ieee.single Ieee.double q) = otherW Ieee.single Ieee.double q ∧ (isN Ieee.double (otherW Ieee.single Ieee.double q) ↔ isN Ieee.single q)) := ⟨FM.other_lt64 q, by unfold fixn; rw [if_neg h4], ⟨fun g => absurd g h4, fun g => absurd g hn⟩⟩
    clear h4
    generalize otherW Ieee.single Ieee.double q = D at *
    go_enter Tryz.func49, Tryz.ntmps49
    go_wp2
    go_ret
    exact ⟨_, rfl, Later.refl _, h5⟩
end Go.Proofs.YtdfgcagbpndabaaGreatDoor.Q
namespace Go.Proofs.YtdfgcagbpndabaaGreatDoor.Q
open Go.RowKit
open Go.FM (isN fixn qn sw otherW fromW cutI tval small Bnd wholeW)
theorem arm1 {α : Type} (x : Nat) (h1 : Nat → α) (h2 : Array Value → α) : Extern.MathFloor.toIntegral.match_2 (motive := fun _ => α) #[Value.float .f64 x] h1 h2 = h1 x := rfl
theorem run_trunc (D : Nat) (hn : (Ieee.double.read D).isNaN = false) (w : World) : (callFunc 159 #[.float .f64 D]).run Tryz.prog w = .ok (.value (.float .f64 (Ieee.double.write ((Ieee.double.read D).integral .zero)))) w := by
  rw [run_callFunc_extern (e := Extern.MathFloor.toIntegral "math.archTrunc" .zero) Tryz.func159 (by kernel_rfl) (by kernel_rfl) (by kernel_rfl) (by kernel_rfl)]
  have hd : FloatKind.f64.decode D = Ieee.double.read D := rfl
  cases h : Ieee.double.read D with
  | nan s t => rw [h] at hn; cases hn
  | number s m p => rw [h] at hd; rw [Extern.MathFloor.toIntegral.eq_1, arm1, hd]; rfl
  | infinity s => rw [h] at hd; rw [Extern.MathFloor.toIntegral.eq_1, arm1, hd]; rfl
theorem trunc_num (D E : Nat) (hn : ¬ isN Ieee.double D) (hE : wholeW Ieee.double .zero D = E) (w : World) :
    Calls Tryz.prog 135 #[.float .f64 D] w fun e w' => e = .returned (.float .f64 E) ∧ w' = w := by
  have hn2 : (Ieee.double.read D).isNaN = false := by
    unfold isN at hn
    rcases Nat.lt_or_ge (FM.rg Ieee.double D) Ieee.double.infRung with h1 | h1
    · rw [FM.read_num Ieee.double D h1]; rfl
    · rw [FM.read_inf Ieee.double hdf D (by omega)]; rfl
  have h := run_trunc D hn2
  rw [show Ieee.double.write ((Ieee.double.read D).integral .zero) = E from by rw [← hE]; unfold wholeW; rw [if_neg hn]] at h
  clear hE hn hn2
  go_enter Tryz.func135, Tryz.ntmps135
  go_wp2
  go_ret
  exact ⟨rfl, rfl⟩
theorem tval_zero : tval Ieee.double 0 = some 0 := by decide +kernel
theorem cut_nan (x L H : Nat) (h : isN Ieee.double x) (w : World) :
    Calls Tryz.prog 83 #[.float .f64 x, .float .f64 L, .float .f64 H] w fun r w' => r = .returned (.tuple #[.float .f64 0, .int .i64 600]) ∧ w' = w := by
  have h1 := neq_nan64 x h
  go_enter Tryz.func83, Tryz.ntmps83
  go_wp2
  go_ret2
  exact ⟨rfl, rfl⟩
theorem cut_below (x E L H : Nat) (h : ¬ isN Ieee.double x) (hE : wholeW Ieee.double .zero x = E) (h1 : FloatKind.f64.format.order E L = some .lt) (w : World) :
    Calls Tryz.prog 83 #[.float .f64 x, .float .f64 L, .float .f64 H] w fun r w' => r = .returned (.tuple #[.float .f64 0, .int .i64 601]) ∧ w' = w := by
  have h2 := neq_num64 x h
  have c : Hid (∀ w, Calls Tryz.prog 135 #[.float .f64 x] w fun e w' => e = .returned (.float .f64 E) ∧ w' = w) := trunc_num x E h hE
  clear hE h
  go_enter Tryz.func83, Tryz.ntmps83
  go_wp2_with (go_at_call 135; refine (c.out _).mono ?_; rintro e w' ⟨rfl, rfl⟩)
  go_ret2
  exact ⟨rfl, rfl⟩
theorem cut_above (x E L H : Nat) (o : Ordering) (h : ¬ isN Ieee.double x) (hE : wholeW Ieee.double .zero x = E) (h1 : FloatKind.f64.format.order E L = some o) (ho : o = .gt ∨ o = .eq) (u : Ordering) (h2 : FloatKind.f64.format.order E H = some u) (hu : u = .gt ∨ u = .eq) (w : World) :
    Calls Tryz.prog 83 #[.float .f64 x, .float .f64 L, .float .f64 H] w fun r w' => r = .returned (.tuple #[.float .f64 0, .int .i64 601]) ∧ w' = w := by
  have h3 := neq_num64 x h
  have c : Hid (∀ w, Calls Tryz.prog 135 #[.float .f64 x] w fun e w' => e = .returned (.float .f64 E) ∧ w' = w) := trunc_num x E h hE
  clear hE h
  rcases ho with rfl | rfl
  all_goals
    rcases hu with rfl | rfl
    all_goals
      go_enter Tryz.func83, Tryz.ntmps83
      go_wp2_with (go_at_call 135; refine (c.out _).mono ?_; rintro e w' ⟨rfl, rfl⟩)
      go_ret2
      exact ⟨rfl, rfl⟩
theorem cut_in (x E L H : Nat) (o : Ordering) (h : ¬ isN Ieee.double x) (hE : wholeW Ieee.double .zero x = E) (h1 : FloatKind.f64.format.order E L = some o) (ho : o = .gt ∨ o = .eq) (h2 : FloatKind.f64.format.order E H = some .lt) (w : World) :
    Calls Tryz.prog 83 #[.float .f64 x, .float .f64 L, .float .f64 H] w fun r w' => r = .returned (.tuple #[.float .f64 E, .int .i64 0]) ∧ w' = w := by
  have h3 := neq_num64 x h
  have c : Hid (∀ w, Calls Tryz.prog 135 #[.float .f64 x] w fun e w' => e = .returned (.float .f64 E) ∧ w' = w) := trunc_num x E h hE
  clear hE h
  rcases ho with rfl | rfl
  all_goals
    go_enter Tryz.func83, Tryz.ntmps83
    go_wp2_with (go_at_call 135; refine (c.out _).mono ?_; rintro e w' ⟨rfl, rfl⟩)
    go_ret2
    exact ⟨rfl, rfl⟩
theorem cmp_ge {a b : Int} (h : b ≤ a) : compare a b = .gt ∨ compare a b = .eq := by
  rcases Int.lt_or_eq_of_le h with g | g
  · exact Or.inl (FM.cmp_gt g)
  · exact Or.inr (FM.cmp_eq g.symm)
theorem cut_any (x L H : Nat) (l e : Int) (hx : Hid (x < 18446744073709551616)) (hL : Hid (Bnd L l)) (hH : Hid (Bnd H e)) (w : World) :
    Calls Tryz.prog 83 #[.float .f64 x, .float .f64 L, .float .f64 H] w fun r w' => ∃ z : Nat, r = .returned (.tuple #[.float .f64 z, .int .i64 (cutI x l e).2]) ∧ w' = w ∧ Hid (tval Ieee.double z = some (cutI x l e).1) := by
  by_cases hn : isN Ieee.double x
  · rw [FM.cutI_nan x l e hn]
    refine (cut_nan x L H hn w).mono ?_
    rintro r w' ⟨rfl, rfl⟩
    exact ⟨0, rfl, rfl, tval_zero⟩
  · have hn' := hn
    unfold isN at hn'
    rcases Nat.lt_or_ge (FM.rg Ieee.double x) Ieee.double.infRung with h1 | h1
    · obtain ⟨v, g1, g2, g3, g4⟩ := FM.whole_fin x hx.out h1
      have o1 := FM.order_whole x L v l hx.out h1 g1 hL.out
      have o2 := FM.order_whole x H v e hx.out h1 g1 hH.out
      clear g3 g4
      by_cases hl : v < l
      · rw [FM.cut_out x l e v hn g1 (by omega)]
        refine (cut_below x _ L H hn rfl (o1.trans (by rw [FM.cmp_lt hl])) w).mono ?_
        rintro r w' ⟨rfl, rfl⟩
        exact ⟨0, rfl, rfl, tval_zero⟩
      · by_cases he : v < e
        · rw [FM.cut_in x l e v hn g1 ⟨by omega, he⟩]
          refine (cut_in x _ L H _ hn rfl o1 (cmp_ge (by omega)) (o2.trans (by rw [FM.cmp_lt he])) w).mono ?_
          rintro r w' ⟨rfl, rfl⟩
          exact ⟨_, rfl, rfl, g2⟩
        · rw [FM.cut_out x l e v hn g1 (by omega)]
          refine (cut_above x _ L H _ hn rfl o1 (cmp_ge (by omega)) _ o2 (cmp_ge (by omega)) w).mono ?_
          rintro r w' ⟨rfl, rfl⟩
          exact ⟨0, rfl, rfl, tval_zero⟩
    · have h2 : FM.rg Ieee.double x = Ieee.double.infRung := by omega
      have hE := FM.whole_infinite x hx.out h2
      have o1 := FM.order_inf x L l h2 hL.out
      have o2 := FM.order_inf x H e h2 hH.out
      rw [FM.cut_none x l e hn (FM.tval_inf Ieee.double hdf x h2)]
      cases hs : FM.sg Ieee.double x
      · rw [hs] at o1 o2
        refine (cut_above x x L H .gt hn hE o1 (Or.inl rfl) .gt o2 (Or.inl rfl) w).mono ?_
        rintro r w' ⟨rfl, rfl⟩
        exact ⟨0, rfl, rfl, tval_zero⟩
      · rw [hs] at o1
        refine (cut_below x x L H hn hE o1 w).mono ?_
        rintro r w' ⟨rfl, rfl⟩
        exact ⟨0, rfl, rfl, tval_zero⟩
theorem run_int (z : Nat) (v : Int) (h : tval Ieee.double z = some v) (h1 : -9223372036854775808 ≤ v) (h2 : v ≤ 9223372036854775807) (w : World) : (convert 69 3 (.float .f64 z)).run Tryz.prog w = .ok (.int .i64 v) w := by
  refine run_convert_float_int w 69 3 .f64 .i64 z v (by kernel_rfl) (by kernel_rfl) ?_
  unfold floatToIntVal
  rw [show (FloatKind.f64.decode z).toInt .zero = some v from h]
  show (if _ then some v else none) = some v
  rw [if_pos ⟨h1, h2⟩]
theorem run_uint (z : Nat) (v : Int) (h : tval Ieee.double z = some v) (h1 : 0 ≤ v) (h2 : v ≤ 18446744073709551615) (w : World) : (convert 69 73 (.float .f64 z)).run Tryz.prog w = .ok (.int .u64 v) w := by
  refine run_convert_float_int w 69 73 .f64 .u64 z v (by kernel_rfl) (by kernel_rfl) ?_
  unfold floatToIntVal
  rw [show (FloatKind.f64.decode z).toInt .zero = some v from h]
  show (if _ then some v else none) = some v
  rw [if_pos ⟨h1, h2⟩]
theorem cutSigned32_any (x : Nat) (hx : Hid (x < 18446744073709551616)) (w : World) :
    Calls Tryz.prog 48 #[.float .f64 x] w fun r w' => r = .returned (.tuple #[.int .i64 (FM.truncI Ieee.double x 32 true).1, .int .i64 (FM.truncI Ieee.double x 32 true).2]) ∧ w' = w := by
  rw [FM.cut_trunc x 32 true (-2147483648) 2147483648 (FM.fits_32s)]
  have hr := FM.cut_range x (-2147483648) 2147483648 (by decide) (by decide)
  have hc : Hid (∀ w, Calls Tryz.prog 83 #[.float .f64 x, .float .f64 13970166044103278592, .float .f64 4746794007248502784] w fun r w' => ∃ z : Nat, r = .returned (.tuple #[.float .f64 z, .int .i64 (cutI x (-2147483648) 2147483648).2]) ∧ w' = w ∧ Hid (tval Ieee.double z = some (cutI x (-2147483648) 2147483648).1)) := cut_any x 13970166044103278592 4746794007248502784 (-2147483648) 2147483648 hx FM.bnd_m31 FM.bnd_31
  generalize (cutI x (-2147483648) 2147483648).1 = V at *
  generalize (cutI x (-2147483648) 2147483648).2 = C at *
  obtain ⟨r1, r2⟩ := hr
  have hb : FM.bitsI 32 V = V % 4294967296 := by
    rw [FM.bits_32]
  rw [hb]
  clear hb
  go_enter Tryz.func48, Tryz.ntmps48
  go_wp2_with fail
  refine (hc.out _).mono ?_
  rintro r w' ⟨z, rfl, rfl, hz⟩
  have g1 := run_int z V hz.out (by omega) (by omega)
  clear r1 r2
  go_wp2_with (go_at_call 45; refine (low_any _ _).mono ?_; rintro e w' ⟨rfl, rfl⟩)
  go_ret2
  exact ⟨rfl, rfl⟩
theorem cutUnsigned32_any (x : Nat) (hx : Hid (x < 18446744073709551616)) (w : World) :
    Calls Tryz.prog 50 #[.float .f64 x] w fun r w' => r = .returned (.tuple #[.int .i64 (FM.truncI Ieee.double x 32 false).1, .int .i64 (FM.truncI Ieee.double x 32 false).2]) ∧ w' = w := by
  rw [FM.cut_trunc x 32 false (0) 4294967296 (FM.fits_32u)]
  have hr := FM.cut_range x (0) 4294967296 (by decide) (by decide)
  have hc : Hid (∀ w, Calls Tryz.prog 83 #[.float .f64 x, .float .f64 0, .float .f64 4751297606875873280] w fun r w' => ∃ z : Nat, r = .returned (.tuple #[.float .f64 z, .int .i64 (cutI x (0) 4294967296).2]) ∧ w' = w ∧ Hid (tval Ieee.double z = some (cutI x (0) 4294967296).1)) := cut_any x 0 4751297606875873280 (0) 4294967296 hx FM.bnd_zero FM.bnd_32
  generalize (cutI x (0) 4294967296).1 = V at *
  generalize (cutI x (0) 4294967296).2 = C at *
  obtain ⟨r1, r2⟩ := hr
  have hb : FM.bitsI 32 V = V := by
    rw [FM.bits_32]; omega
  rw [hb]
  clear hb
  go_enter Tryz.func50, Tryz.ntmps50
  go_wp2_with fail
  refine (hc.out _).mono ?_
  rintro r w' ⟨z, rfl, rfl, hz⟩
  have g1 := run_int z V hz.out (by omega) (by omega)
  clear r1 r2
  go_wp2
  go_ret2
  exact ⟨rfl, rfl⟩
theorem cutSigned64_any (x : Nat) (hx : Hid (x < 18446744073709551616)) (w : World) :
    Calls Tryz.prog 52 #[.float .f64 x] w fun r w' => r = .returned (.tuple #[.int .i64 (FM.truncI Ieee.double x 64 true).1, .int .i64 (FM.truncI Ieee.double x 64 true).2]) ∧ w' = w := by
  rw [FM.cut_trunc x 64 true (-9223372036854775808) 9223372036854775808 (FM.fits_64s)]
  have hr := FM.cut_range x (-9223372036854775808) 9223372036854775808 (by decide) (by decide)
  have hc : Hid (∀ w, Calls Tryz.prog 83 #[.float .f64 x, .float .f64 14114281232179134464, .float .f64 4890909195324358656] w fun r w' => ∃ z : Nat, r = .returned (.tuple #[.float .f64 z, .int .i64 (cutI x (-9223372036854775808) 9223372036854775808).2]) ∧ w' = w ∧ Hid (tval Ieee.double z = some (cutI x (-9223372036854775808) 9223372036854775808).1)) := cut_any x 14114281232179134464 4890909195324358656 (-9223372036854775808) 9223372036854775808 hx FM.bnd_m63 FM.bnd_63
  generalize (cutI x (-9223372036854775808) 9223372036854775808).1 = V at *
  generalize (cutI x (-9223372036854775808) 9223372036854775808).2 = C at *
  obtain ⟨r1, r2⟩ := hr
  have hb : FM.bitsI 64 V = V := by
    rw [FM.bits_64]; omega
  rw [hb]
  clear hb
  go_enter Tryz.func52, Tryz.ntmps52
  go_wp2_with fail
  refine (hc.out _).mono ?_
  rintro r w' ⟨z, rfl, rfl, hz⟩
  have g1 := run_int z V hz.out (by omega) (by omega)
  clear r1 r2
  go_wp2
  go_ret2
  exact ⟨rfl, rfl⟩
theorem cutUnsigned64_any (x : Nat) (hx : Hid (x < 18446744073709551616)) (w : World) :
    Calls Tryz.prog 53 #[.float .f64 x] w fun r w' => r = .returned (.tuple #[.int .i64 (FM.truncI Ieee.double x 64 false).1, .int .i64 (FM.truncI Ieee.double x 64 false).2]) ∧ w' = w := by
  rw [FM.cut_trunc x 64 false (0) 18446744073709551616 (FM.fits_64u)]
  have hr := FM.cut_range x (0) 18446744073709551616 (by decide) (by decide)
  have hc : Hid (∀ w, Calls Tryz.prog 83 #[.float .f64 x, .float .f64 0, .float .f64 4895412794951729152] w fun r w' => ∃ z : Nat, r = .returned (.tuple #[.float .f64 z, .int .i64 (cutI x (0) 18446744073709551616).2]) ∧ w' = w ∧ Hid (tval Ieee.double z = some (cutI x (0) 18446744073709551616).1)) := cut_any x 0 4895412794951729152 (0) 18446744073709551616 hx FM.bnd_zero FM.bnd_64
  generalize (cutI x (0) 18446744073709551616).1 = V at *
  generalize (cutI x (0) 18446744073709551616).2 = C at *
  obtain ⟨r1, r2⟩ := hr
  have hb : FM.bitsI 64 V = wrap64 V := by
    rw [FM.bits_64]; simp only [wrap64]
  rw [hb]
  clear hb
  go_enter Tryz.func53, Tryz.ntmps53
  go_wp2_with fail
  refine (hc.out _).mono ?_
  rintro r w' ⟨z, rfl, rfl, hz⟩
  have g1 := run_uint z V hz.out (by omega) (by omega)
  clear r1 r2
  go_wp2
  go_ret2
  exact ⟨rfl, rfl⟩
end Go.Proofs.YtdfgcagbpndabaaGreatDoor.Q
namespace Go.Proofs.YtdfgcagbpndabaaGreatDoor.Q
open Go.RowKit
open Go.FM (isN fixn qn sw otherW fromW cutI tval small Bnd wholeW ofI)
theorem low32 (a : Int) : ∃ q : Nat, a % 4294967296 = (q : Int) ∧ q < 4294967296 ∧ (a % 4294967296).toNat = q := ⟨(a % 4294967296).toNat, by omega, by omega, rfl⟩
theorem low64 (a : Int) : ∃ x : Nat, a % 18446744073709551616 = (x : Int) ∧ x < 18446744073709551616 ∧ (a % 18446744073709551616).toNat = x := ⟨(a % 18446744073709551616).toNat, by omega, by omega, rfl⟩
theorem fix_from (f : Ieee.Format) (v : Int) : fixn f (fromW f v) = fromW f v := by unfold fixn; rw [if_neg (FM.from_num f v)]
theorem fixn_num (f : Ieee.Format) (x : Nat) (h : ¬ isN f x) : fixn f x = x := by unfold fixn; rw [if_neg h]
theorem near32 (v : Int) : floatOfInt .f32 v = fromW Ieee.single v := rfl
theorem near64 (v : Int) : floatOfInt .f64 v = fromW Ieee.double v := rfl
theorem of167 (a : Int) (w : World) :
    RW Tryz.prog 33 #[.int .i64 167, .int .i64 a] w (.tuple #[.int .i64 (a % 4294967296), .int .i64 0]) := by
  go_enter Tryz.func33, Tryz.ntmps33
  go_wp2_with (go_at_call 45; refine (low_any _ _).mono ?_; rintro e w' ⟨rfl, rfl⟩)
  go_ret2
  exact ⟨rfl, (by repeat first | exact Lz _ | apply La | apply Lv | apply Ln | apply Ld)⟩
theorem of173 (a : Int) (w : World) :
    RW Tryz.prog 33 #[.int .i64 173, .int .i64 a] w (.tuple #[.int .i64 (a % 4294967296), .int .i64 0]) := by
  go_enter Tryz.func33, Tryz.ntmps33
  go_wp2_with (go_at_call 45; refine (low_any _ _).mono ?_; rintro e w' ⟨rfl, rfl⟩)
  go_ret2
  exact ⟨rfl, (by repeat first | exact Lz _ | apply La | apply Lv | apply Ln | apply Ld)⟩
theorem of188 (a : Int) (w : World) :
    RW Tryz.prog 33 #[.int .i64 188, .int .i64 a] w (.tuple #[.int .i64 (a % 4294967296), .int .i64 0]) := by
  go_enter Tryz.func33, Tryz.ntmps33
  go_wp2_with (go_at_call 45; refine (low_any _ _).mono ?_; rintro e w' ⟨rfl, rfl⟩)
  go_ret2
  exact ⟨rfl, (by repeat first | exact Lz _ | apply La | apply Lv | apply Ln | apply Ld)⟩
theorem of190 (a : Int) (w : World) :
    RW Tryz.prog 33 #[.int .i64 190, .int .i64 a] w (.tuple #[.int .i64 (a % 4294967296), .int .i64 0]) := by
  go_enter Tryz.func33, Tryz.ntmps33
  go_wp2_with (go_at_call 45; refine (low_any _ _).mono ?_; rintro e w' ⟨rfl, rfl⟩)
  go_ret2
  exact ⟨rfl, (by repeat first | exact Lz _ | apply La | apply Lv | apply Ln | apply Ld)⟩
theorem of172 (a : Int) (w : World) :
    RW Tryz.prog 33 #[.int .i64 172, .int .i64 a] w (.tuple #[.int .i64 (FM.s32 a), .int .i64 0]) := by
  go_enter Tryz.func33, Tryz.ntmps33
  go_wp2_with (go_at_call 47; refine (sign_any _ _).mono ?_; rintro e w' ⟨rfl, rfl⟩)
  go_ret2
  exact ⟨rfl, (by repeat first | exact Lz _ | apply La | apply Lv | apply Ln | apply Ld)⟩
theorem of189 (a : Int) (w : World) :
    RW Tryz.prog 33 #[.int .i64 189, .int .i64 a] w (.tuple #[.int .i64 a, .int .i64 0]) := by
  go_enter Tryz.func33, Tryz.ntmps33
  go_wp2
  go_ret2
  exact ⟨rfl, (by repeat first | exact Lz _ | apply La | apply Lv | apply Ln | apply Ld)⟩
theorem of191 (a : Int) (w : World) :
    RW Tryz.prog 33 #[.int .i64 191, .int .i64 a] w (.tuple #[.int .i64 a, .int .i64 0]) := by
  go_enter Tryz.func33, Tryz.ntmps33
  go_wp2
  go_ret2
  exact ⟨rfl, (by repeat first | exact Lz _ | apply La | apply Lv | apply Ln | apply Ld)⟩
theorem of168 (a : Int) (q : Nat) (hq : Hid (a % 4294967296 = (q : Int))) (hl : Hid (q < 4294967296)) (w : World) :
    RW Tryz.prog 33 #[.int .i64 168, .int .i64 a] w (.tuple #[.int .i64 (FM.truncI Ieee.single q 32 true).1, .int .i64 (FM.truncI Ieee.single q 32 true).2]) := by
  rw [FM.trunc_wide q 32 true hl.out]
  have hT : Hid (∀ D : Nat, D < 18446744073709551616 ∧ fixn Ieee.double D = otherW Ieee.single Ieee.double q ∧ (isN Ieee.double D ↔ isN Ieee.single q) → FM.truncI Ieee.double D 32 true = FM.truncI Ieee.double (otherW Ieee.single Ieee.double q) 32 true) := by
    rintro D ⟨h1, h2, h3⟩
    by_cases hn : isN Ieee.double D
    · rw [FM.trunc_nan _ _ _ _ hn, FM.other_nan _ _ q (h3.1 hn), FM.trunc_nan _ _ _ _ (FM.qn_nan _ (by decide))]
    · rw [← h2, fixn_num _ D hn]
  generalize FM.truncI Ieee.double (otherW Ieee.single Ieee.double q) 32 true = P at *
  go_enter Tryz.func33, Tryz.ntmps33
  go_wp2_with fail
  refine (wide_any a q hq hl _).mono ?_
  rintro e w' ⟨D, rfl, ⟨bs, n, rfl⟩, hD⟩
  have hc := cutSigned32_any D hD.out.1
  rw [hT.out D hD.out] at hc
  have hc : Hid _ := hc
  go_wp2_with (go_at_call 48; refine (hc.out _).mono ?_; rintro e w' ⟨rfl, rfl⟩)
  go_ret2
  exact ⟨rfl, (by repeat first | exact Lz _ | apply La | apply Lv | apply Ln | apply Ld)⟩
theorem of169 (a : Int) (q : Nat) (hq : Hid (a % 4294967296 = (q : Int))) (hl : Hid (q < 4294967296)) (w : World) :
    RW Tryz.prog 33 #[.int .i64 169, .int .i64 a] w (.tuple #[.int .i64 (FM.truncI Ieee.single q 32 false).1, .int .i64 (FM.truncI Ieee.single q 32 false).2]) := by
  rw [FM.trunc_wide q 32 false hl.out]
  have hT : Hid (∀ D : Nat, D < 18446744073709551616 ∧ fixn Ieee.double D = otherW Ieee.single Ieee.double q ∧ (isN Ieee.double D ↔ isN Ieee.single q) → FM.truncI Ieee.double D 32 false = FM.truncI Ieee.double (otherW Ieee.single Ieee.double q) 32 false) := by
    rintro D ⟨h1, h2, h3⟩
    by_cases hn : isN Ieee.double D
    · rw [FM.trunc_nan _ _ _ _ hn, FM.other_nan _ _ q (h3.1 hn), FM.trunc_nan _ _ _ _ (FM.qn_nan _ (by decide))]
    · rw [← h2, fixn_num _ D hn]
  generalize FM.truncI Ieee.double (otherW Ieee.single Ieee.double q) 32 false = P at *
  go_enter Tryz.func33, Tryz.ntmps33
  go_wp2_with fail
  refine (wide_any a q hq hl _).mono ?_
  rintro e w' ⟨D, rfl, ⟨bs, n, rfl⟩, hD⟩
  have hc := cutUnsigned32_any D hD.out.1
  rw [hT.out D hD.out] at hc
  have hc : Hid _ := hc
  go_wp2_with (go_at_call 50; refine (hc.out _).mono ?_; rintro e w' ⟨rfl, rfl⟩)
  go_ret2
  exact ⟨rfl, (by repeat first | exact Lz _ | apply La | apply Lv | apply Ln | apply Ld)⟩
theorem of174 (a : Int) (q : Nat) (hq : Hid (a % 4294967296 = (q : Int))) (hl : Hid (q < 4294967296)) (w : World) :
    RW Tryz.prog 33 #[.int .i64 174, .int .i64 a] w (.tuple #[.int .i64 (FM.truncI Ieee.single q 64 true).1, .int .i64 (FM.truncI Ieee.single q 64 true).2]) := by
  rw [FM.trunc_wide q 64 true hl.out]
  have hT : Hid (∀ D : Nat, D < 18446744073709551616 ∧ fixn Ieee.double D = otherW Ieee.single Ieee.double q ∧ (isN Ieee.double D ↔ isN Ieee.single q) → FM.truncI Ieee.double D 64 true = FM.truncI Ieee.double (otherW Ieee.single Ieee.double q) 64 true) := by
    rintro D ⟨h1, h2, h3⟩
    by_cases hn : isN Ieee.double D
    · rw [FM.trunc_nan _ _ _ _ hn, FM.other_nan _ _ q (h3.1 hn), FM.trunc_nan _ _ _ _ (FM.qn_nan _ (by decide))]
    · rw [← h2, fixn_num _ D hn]
  generalize FM.truncI Ieee.double (otherW Ieee.single Ieee.double q) 64 true = P at *
  go_enter Tryz.func33, Tryz.ntmps33
  go_wp2_with fail
  refine (wide_any a q hq hl _).mono ?_
  rintro e w' ⟨D, rfl, ⟨bs, n, rfl⟩, hD⟩
  have hc := cutSigned64_any D hD.out.1
  rw [hT.out D hD.out] at hc
  have hc : Hid _ := hc
  go_wp2_with (go_at_call 52; refine (hc.out _).mono ?_; rintro e w' ⟨rfl, rfl⟩)
  go_ret2
  exact ⟨rfl, (by repeat first | exact Lz _ | apply La | apply Lv | apply Ln | apply Ld)⟩
theorem of175 (a : Int) (q : Nat) (hq : Hid (a % 4294967296 = (q : Int))) (hl : Hid (q < 4294967296)) (w : World) :
    RW Tryz.prog 33 #[.int .i64 175, .int .i64 a] w (.tuple #[.int .i64 (FM.truncI Ieee.single q 64 false).1, .int .i64 (FM.truncI Ieee.single q 64 false).2]) := by
  rw [FM.trunc_wide q 64 false hl.out]
  have hT : Hid (∀ D : Nat, D < 18446744073709551616 ∧ fixn Ieee.double D = otherW Ieee.single Ieee.double q ∧ (isN Ieee.double D ↔ isN Ieee.single q) → FM.truncI Ieee.double D 64 false = FM.truncI Ieee.double (otherW Ieee.single Ieee.double q) 64 false) := by
    rintro D ⟨h1, h2, h3⟩
    by_cases hn : isN Ieee.double D
    · rw [FM.trunc_nan _ _ _ _ hn, FM.other_nan _ _ q (h3.1 hn), FM.trunc_nan _ _ _ _ (FM.qn_nan _ (by decide))]
    · rw [← h2, fixn_num _ D hn]
  generalize FM.truncI Ieee.double (otherW Ieee.single Ieee.double q) 64 false = P at *
  go_enter Tryz.func33, Tryz.ntmps33
  go_wp2_with fail
  refine (wide_any a q hq hl _).mono ?_
  rintro e w' ⟨D, rfl, ⟨bs, n, rfl⟩, hD⟩
  have hc := cutUnsigned64_any D hD.out.1
  rw [hT.out D hD.out] at hc
  have hc : Hid _ := hc
  go_wp2_with (go_at_call 53; refine (hc.out _).mono ?_; rintro e w' ⟨rfl, rfl⟩)
  go_ret2
  exact ⟨rfl, (by repeat first | exact Lz _ | apply La | apply Lv | apply Ln | apply Ld)⟩
theorem of170 (a : Int) (x : Nat) (hx : Hid (a % 18446744073709551616 = (x : Int))) (hl : Hid (x < 18446744073709551616)) (w : World) :
    RW Tryz.prog 33 #[.int .i64 170, .int .i64 a] w (.tuple #[.int .i64 (FM.truncI Ieee.double x 32 true).1, .int .i64 (FM.truncI Ieee.double x 32 true).2]) := by
  have hc : Hid _ := cutSigned32_any x hl
  generalize FM.truncI Ieee.double x 32 true = P at *
  go_enter Tryz.func33, Tryz.ntmps33
  go_wp2_with (first | (go_at_call 51; refine (float64Of_eq a x hx _).mono ?_; rintro e w' ⟨rfl, rfl⟩) | (go_at_call 48; refine (hc.out _).mono ?_; rintro e w' ⟨rfl, rfl⟩))
  go_ret2
  exact ⟨rfl, (by repeat first | exact Lz _ | apply La | apply Lv | apply Ln | apply Ld)⟩
theorem of171 (a : Int) (x : Nat) (hx : Hid (a % 18446744073709551616 = (x : Int))) (hl : Hid (x < 18446744073709551616)) (w : World) :
    RW Tryz.prog 33 #[.int .i64 171, .int .i64 a] w (.tuple #[.int .i64 (FM.truncI Ieee.double x 32 false).1, .int .i64 (FM.truncI Ieee.double x 32 false).2]) := by
  have hc : Hid _ := cutUnsigned32_any x hl
  generalize FM.truncI Ieee.double x 32 false = P at *
  go_enter Tryz.func33, Tryz.ntmps33
  go_wp2_with (first | (go_at_call 51; refine (float64Of_eq a x hx _).mono ?_; rintro e w' ⟨rfl, rfl⟩) | (go_at_call 50; refine (hc.out _).mono ?_; rintro e w' ⟨rfl, rfl⟩))
  go_ret2
  exact ⟨rfl, (by repeat first | exact Lz _ | apply La | apply Lv | apply Ln | apply Ld)⟩
theorem of176 (a : Int) (x : Nat) (hx : Hid (a % 18446744073709551616 = (x : Int))) (hl : Hid (x < 18446744073709551616)) (w : World) :
    RW Tryz.prog 33 #[.int .i64 176, .int .i64 a] w (.tuple #[.int .i64 (FM.truncI Ieee.double x 64 true).1, .int .i64 (FM.truncI Ieee.double x 64 true).2]) := by
  have hc : Hid _ := cutSigned64_any x hl
  generalize FM.truncI Ieee.double x 64 true = P at *
  go_enter Tryz.func33, Tryz.ntmps33
  go_wp2_with (first | (go_at_call 51; refine (float64Of_eq a x hx _).mono ?_; rintro e w' ⟨rfl, rfl⟩) | (go_at_call 52; refine (hc.out _).mono ?_; rintro e w' ⟨rfl, rfl⟩))
  go_ret2
  exact ⟨rfl, (by repeat first | exact Lz _ | apply La | apply Lv | apply Ln | apply Ld)⟩
theorem of177 (a : Int) (x : Nat) (hx : Hid (a % 18446744073709551616 = (x : Int))) (hl : Hid (x < 18446744073709551616)) (w : World) :
    RW Tryz.prog 33 #[.int .i64 177, .int .i64 a] w (.tuple #[.int .i64 (FM.truncI Ieee.double x 64 false).1, .int .i64 (FM.truncI Ieee.double x 64 false).2]) := by
  have hc : Hid _ := cutUnsigned64_any x hl
  generalize FM.truncI Ieee.double x 64 false = P at *
  go_enter Tryz.func33, Tryz.ntmps33
  go_wp2_with (first | (go_at_call 51; refine (float64Of_eq a x hx _).mono ?_; rintro e w' ⟨rfl, rfl⟩) | (go_at_call 53; refine (hc.out _).mono ?_; rintro e w' ⟨rfl, rfl⟩))
  go_ret2
  exact ⟨rfl, (by repeat first | exact Lz _ | apply La | apply Lv | apply Ln | apply Ld)⟩
theorem of178 (a : Int) (w : World) :
    RW Tryz.prog 33 #[.int .i64 178, .int .i64 a] w (.tuple #[.int .i64 ((fromW Ieee.single (FM.s32 a) : Nat) : Int), .int .i64 0]) := by
  have hn := near32 (FM.s32 a)
  have hf : Hid (fixn Ieee.single (fromW Ieee.single (FM.s32 a)) = fromW Ieee.single (FM.s32 a)) := fix_from _ _
  have hb : Hid (fromW Ieee.single (FM.s32 a) < 4294967296) := FM.from_lt32 _
  generalize fromW Ieee.single (FM.s32 a) = y at *
  go_enter Tryz.func33, Tryz.ntmps33
  go_wp2_with (first | (go_at_call 47; refine (sign_any _ _).mono ?_; rintro e w' ⟨rfl, rfl⟩) | (go_at_call 54; refine (bits32_any _ hb _).mono ?_; rintro e w' ⟨rfl, rfl⟩; rw [hf.out]))
  go_ret2
  exact ⟨rfl, (by repeat first | exact Lz _ | apply La | apply Lv | apply Ln | apply Ld)⟩
theorem of179 (a : Int) (w : World) :
    RW Tryz.prog 33 #[.int .i64 179, .int .i64 a] w (.tuple #[.int .i64 ((fromW Ieee.single (a % 4294967296) : Nat) : Int), .int .i64 0]) := by
  have hn := near32 (a % 4294967296)
  have hf : Hid (fixn Ieee.single (fromW Ieee.single (a % 4294967296)) = fromW Ieee.single (a % 4294967296)) := fix_from _ _
  have hb : Hid (fromW Ieee.single (a % 4294967296) < 4294967296) := FM.from_lt32 _
  generalize fromW Ieee.single (a % 4294967296) = y at *
  go_enter Tryz.func33, Tryz.ntmps33
  go_wp2_with (first | (go_at_call 45; refine (low_any _ _).mono ?_; rintro e w' ⟨rfl, rfl⟩) | (go_at_call 54; refine (bits32_any _ hb _).mono ?_; rintro e w' ⟨rfl, rfl⟩; rw [hf.out]))
  go_ret2
  exact ⟨rfl, (by repeat first | exact Lz _ | apply La | apply Lv | apply Ln | apply Ld)⟩
theorem of180 (a : Int) (w : World) :
    RW Tryz.prog 33 #[.int .i64 180, .int .i64 a] w (.tuple #[.int .i64 ((fromW Ieee.single a : Nat) : Int), .int .i64 0]) := by
  have hn := near32 a
  have hf : Hid (fixn Ieee.single (fromW Ieee.single a) = fromW Ieee.single a) := fix_from _ _
  have hb : Hid (fromW Ieee.single a < 4294967296) := FM.from_lt32 _
  generalize fromW Ieee.single a = y at *
  go_enter Tryz.func33, Tryz.ntmps33
  go_wp2_with ((go_at_call 54; refine (bits32_any _ hb _).mono ?_; rintro e w' ⟨rfl, rfl⟩; rw [hf.out]))
  go_ret2
  exact ⟨rfl, (by repeat first | exact Lz _ | apply La | apply Lv | apply Ln | apply Ld)⟩
theorem of183 (a : Int) (w : World) :
    RW Tryz.prog 33 #[.int .i64 183, .int .i64 a] w (.tuple #[.int .i64 (sw (fromW Ieee.double (FM.s32 a))), .int .i64 0]) := by
  have hn := near64 (FM.s32 a)
  have hf : Hid (fixn Ieee.double (fromW Ieee.double (FM.s32 a)) = fromW Ieee.double (FM.s32 a)) := fix_from _ _
  generalize fromW Ieee.double (FM.s32 a) = y at *
  go_enter Tryz.func33, Tryz.ntmps33
  go_wp2_with (first | (go_at_call 47; refine (sign_any _ _).mono ?_; rintro e w' ⟨rfl, rfl⟩) | (go_at_call 56; refine (bits64_any _ _).mono ?_; rintro e w' ⟨rfl, rfl⟩; rw [hf.out]))
  go_ret2
  exact ⟨rfl, (by repeat first | exact Lz _ | apply La | apply Lv | apply Ln | apply Ld)⟩
theorem of184 (a : Int) (w : World) :
    RW Tryz.prog 33 #[.int .i64 184, .int .i64 a] w (.tuple #[.int .i64 (sw (fromW Ieee.double (a % 4294967296))), .int .i64 0]) := by
  have hn := near64 (a % 4294967296)
  have hf : Hid (fixn Ieee.double (fromW Ieee.double (a % 4294967296)) = fromW Ieee.double (a % 4294967296)) := fix_from _ _
  generalize fromW Ieee.double (a % 4294967296) = y at *
  go_enter Tryz.func33, Tryz.ntmps33
  go_wp2_with (first | (go_at_call 45; refine (low_any _ _).mono ?_; rintro e w' ⟨rfl, rfl⟩) | (go_at_call 56; refine (bits64_any _ _).mono ?_; rintro e w' ⟨rfl, rfl⟩; rw [hf.out]))
  go_ret2
  exact ⟨rfl, (by repeat first | exact Lz _ | apply La | apply Lv | apply Ln | apply Ld)⟩
theorem of185 (a : Int) (w : World) :
    RW Tryz.prog 33 #[.int .i64 185, .int .i64 a] w (.tuple #[.int .i64 (sw (fromW Ieee.double a)), .int .i64 0]) := by
  have hn := near64 a
  have hf : Hid (fixn Ieee.double (fromW Ieee.double a) = fromW Ieee.double a) := fix_from _ _
  generalize fromW Ieee.double a = y at *
  go_enter Tryz.func33, Tryz.ntmps33
  go_wp2_with ((go_at_call 56; refine (bits64_any _ _).mono ?_; rintro e w' ⟨rfl, rfl⟩; rw [hf.out]))
  go_ret2
  exact ⟨rfl, (by repeat first | exact Lz _ | apply La | apply Lv | apply Ln | apply Ld)⟩
theorem of181 (a : Int) (x : Nat) (hx : Hid (a % 18446744073709551616 = (x : Int))) (hl : Hid (x < 18446744073709551616)) (w : World) :
    RW Tryz.prog 33 #[.int .i64 181, .int .i64 a] w (.tuple #[.int .i64 ((fromW Ieee.single (x : Int) : Nat) : Int), .int .i64 0]) := by
  have hn := near32 (x : Int)
  have hf : Hid (fixn Ieee.single (fromW Ieee.single (x : Int)) = fromW Ieee.single (x : Int)) := fix_from _ _
  have hu : IntKind.u64.wrap a = (x : Int) := by rw [IntKind.wrap_u64]; exact hx.out
  have hb : Hid (fromW Ieee.single (x : Int) < 4294967296) := FM.from_lt32 _
  generalize fromW Ieee.single (x : Int) = y at *
  go_enter Tryz.func33, Tryz.ntmps33
  go_wp2_with ((go_at_call 54; refine (bits32_any _ hb _).mono ?_; rintro e w' ⟨rfl, rfl⟩; rw [hf.out]))
  go_ret2
  exact ⟨rfl, (by repeat first | exact Lz _ | apply La | apply Lv | apply Ln | apply Ld)⟩
theorem of186 (a : Int) (x : Nat) (hx : Hid (a % 18446744073709551616 = (x : Int))) (hl : Hid (x < 18446744073709551616)) (w : World) :
    RW Tryz.prog 33 #[.int .i64 186, .int .i64 a] w (.tuple #[.int .i64 (sw (fromW Ieee.double (x : Int))), .int .i64 0]) := by
  have hn := near64 (x : Int)
  have hf : Hid (fixn Ieee.double (fromW Ieee.double (x : Int)) = fromW Ieee.double (x : Int)) := fix_from _ _
  have hu : IntKind.u64.wrap a = (x : Int) := by rw [IntKind.wrap_u64]; exact hx.out
  generalize fromW Ieee.double (x : Int) = y at *
  go_enter Tryz.func33, Tryz.ntmps33
  go_wp2_with ((go_at_call 56; refine (bits64_any _ _).mono ?_; rintro e w' ⟨rfl, rfl⟩; rw [hf.out]))
  go_ret2
  exact ⟨rfl, (by repeat first | exact Lz _ | apply La | apply Lv | apply Ln | apply Ld)⟩
theorem of187 (a : Int) (q : Nat) (hq : Hid (a % 4294967296 = (q : Int))) (hl : Hid (q < 4294967296)) (w : World) :
    RW Tryz.prog 33 #[.int .i64 187, .int .i64 a] w (.tuple #[.int .i64 (sw (otherW Ieee.single Ieee.double q)), .int .i64 0]) := by
  go_enter Tryz.func33, Tryz.ntmps33
  go_wp2_with fail
  refine (wide_any a q hq hl _).mono ?_
  rintro e w' ⟨D, rfl, ⟨bs, n, rfl⟩, hD⟩
  have hf : Hid (fixn Ieee.double D = otherW Ieee.single Ieee.double q) := hD.out.2.1
  go_wp2_with (go_at_call 56; refine (bits64_any _ _).mono ?_; rintro e w' ⟨rfl, rfl⟩; rw [hf.out])
  go_ret2
  exact ⟨rfl, (by repeat first | exact Lz _ | apply La | apply Lv | apply Ln | apply Ld)⟩
theorem qn32 : qn Ieee.single = 2143289344 := by decide +kernel
theorem demote_nan (x : Nat) (hn : isN Ieee.double x) (w : World) :
    RW Tryz.prog 55 #[.float .f64 x] w (.int .i64 ((otherW Ieee.double Ieee.single x : Nat) : Int)) := by
  rw [FM.other_nan _ _ x hn, qn32]
  have h1 := neq_nan64 x hn
  clear hn
  go_enter Tryz.func55, Tryz.ntmps55
  go_wp2
  go_ret
  exact ⟨rfl, Later.refl _⟩
theorem demote_high (x : Nat) (o : Ordering) (hn : ¬ isN Ieee.double x) (h1 : FloatKind.f64.format.order x 5183643170835005440 = some o) (ho : o = .gt ∨ o = .eq) (w : World) :
    RW Tryz.prog 55 #[.float .f64 x] w (.int .i64 2139095040) := by
  have h3 := neq_num64 x hn
  clear hn
  rcases ho with rfl | rfl
  all_goals
    go_enter Tryz.func55, Tryz.ntmps55
    go_wp2
    go_ret
    exact ⟨rfl, Later.refl _⟩
theorem demote_low (x : Nat) (o : Ordering) (hn : ¬ isN Ieee.double x) (h1 : FloatKind.f64.format.order x 5183643170835005440 = some .lt) (h2 : FloatKind.f64.format.order x 14407015207689781248 = some o) (ho : o = .lt ∨ o = .eq) (w : World) :
    RW Tryz.prog 55 #[.float .f64 x] w (.int .i64 4286578688) := by
  have h3 := neq_num64 x hn
  clear hn
  rcases ho with rfl | rfl
  all_goals
    go_enter Tryz.func55, Tryz.ntmps55
    go_wp2
    go_ret
    exact ⟨rfl, Later.refl _⟩
theorem demote_in (x : Nat) (hn : ¬ isN Ieee.double x) (h1 : FloatKind.f64.format.order x 5183643170835005440 = some .lt) (h2 : FloatKind.f64.format.order x 14407015207689781248 = some .gt) (hs : small x) (w : World) :
    RW Tryz.prog 55 #[.float .f64 x] w (.int .i64 ((otherW Ieee.double Ieee.single x : Nat) : Int)) := by
  have h3 := neq_num64 x hn
  have h5 := run_narrow x _ (narrow_ok x hn hs)
  have h4 := other_num x hn
  have hb : Hid (otherW Ieee.double Ieee.single x < 4294967296) := h4.2
  have hf : Hid (fixn Ieee.single (otherW Ieee.double Ieee.single x) = otherW Ieee.double Ieee.single x) := fixn_num _ _ h4.1
  clear h4 hs hn
  generalize otherW Ieee.double Ieee.single x = y at *
  go_enter Tryz.func55, Tryz.ntmps55
  go_wp2_with (go_at_call 54; refine (bits32_any _ hb _).mono ?_; rintro e w' ⟨rfl, rfl⟩; rw [hf.out])
  go_ret
  exact ⟨rfl, (by repeat first | exact Lz _ | apply La | apply Lv | apply Ln | apply Ld)⟩
theorem demote_any (x : Nat) (hx : Hid (x < 18446744073709551616)) (w : World) :
    RW Tryz.prog 55 #[.float .f64 x] w (.int .i64 ((otherW Ieee.double Ieee.single x : Nat) : Int)) := by
  by_cases hn : isN Ieee.double x
  · exact demote_nan x hn w
  · rcases FM.dem_ways x hx.out hn with ⟨o, ho, h1, h2⟩ | ⟨h1, o, ho, h2, h3⟩ | ⟨h1, h2, h3⟩
    · rw [h2]; exact demote_high x o hn h1 ho w
    · rw [h3]; exact demote_low x o hn h1 h2 ho w
    · exact demote_in x hn h1 h2 h3 w
theorem of182 (a : Int) (x : Nat) (hx : Hid (a % 18446744073709551616 = (x : Int))) (hl : Hid (x < 18446744073709551616)) (w : World) :
    RW Tryz.prog 33 #[.int .i64 182, .int .i64 a] w (.tuple #[.int .i64 ((otherW Ieee.double Ieee.single x : Nat) : Int), .int .i64 0]) := by
  have hc : Hid _ := demote_any x hl
  generalize otherW Ieee.double Ieee.single x = y at *
  go_enter Tryz.func33, Tryz.ntmps33
  go_wp2_with (go_at_call 51; refine (float64Of_eq a x hx _).mono ?_; rintro e w' ⟨rfl, rfl⟩)
  refine (hc.out _).mono ?_
  rintro e w' ⟨rfl, ⟨bs, n, rfl⟩⟩
  go_wp2
  go_ret2
  exact ⟨rfl, (by repeat first | exact Lz _ | apply La | apply Lv | apply Ln | apply Ld)⟩
theorem of_bad (op a : Int) (h : op < 167 ∨ 191 < op) (w : World) :
    RW Tryz.prog 33 #[.int .i64 op, .int .i64 a] w (.tuple #[.int .i64 0, .int .i64 600]) := by
  have h167 : ¬ op = 167 := by omega
  have h168 : ¬ op = 168 := by omega
  have h169 : ¬ op = 169 := by omega
  have h170 : ¬ op = 170 := by omega
  have h171 : ¬ op = 171 := by omega
  have h172 : ¬ op = 172 := by omega
  have h173 : ¬ op = 173 := by omega
  have h174 : ¬ op = 174 := by omega
  have h175 : ¬ op = 175 := by omega
  have h176 : ¬ op = 176 := by omega
  have h177 : ¬ op = 177 := by omega
  have h178 : ¬ op = 178 := by omega
  have h179 : ¬ op = 179 := by omega
  have h180 : ¬ op = 180 := by omega
  have h181 : ¬ op = 181 := by omega
  have h182 : ¬ op = 182 := by omega
  have h183 : ¬ op = 183 := by omega
  have h184 : ¬ op = 184 := by omega
  have h185 : ¬ op = 185 := by omega
  have h186 : ¬ op = 186 := by omega
  have h187 : ¬ op = 187 := by omega
  have h188 : ¬ op = 188 := by omega
  have h189 : ¬ op = 189 := by omega
  have h190 : ¬ op = 190 := by omega
  have h191 : ¬ op = 191 := by omega
  clear h
  go_enter Tryz.func33, Tryz.ntmps33
  go_wp2
  go_ret2
  exact ⟨rfl, (by repeat first | exact Lz _ | apply La | apply Lv | apply Ln | apply Ld)⟩
theorem of_any (op a : Int) (w : World) :
    RW Tryz.prog 33 #[.int .i64 op, .int .i64 a] w (.tuple #[.int .i64 (ofI op a).1, .int .i64 (ofI op a).2]) := by
  by_cases hb : op < 167 ∨ 191 < op
  · rw [FM.of_bad op a hb]; exact of_bad op a hb w
  obtain ⟨q, q1, q2, q3⟩ := low32 a
  obtain ⟨x, x1, x2, x3⟩ := low64 a
  have hc : op = 167 ∨ op = 168 ∨ op = 169 ∨ op = 170 ∨ op = 171 ∨ op = 172 ∨ op = 173 ∨ op = 174 ∨ op = 175 ∨ op = 176 ∨ op = 177 ∨ op = 178 ∨ op = 179 ∨ op = 180 ∨ op = 181 ∨ op = 182 ∨ op = 183 ∨ op = 184 ∨ op = 185 ∨ op = 186 ∨ op = 187 ∨ op = 188 ∨ op = 189 ∨ op = 190 ∨ op = 191 := by omega
  clear hb
  rcases hc with rfl | rfl | rfl | rfl | rfl | rfl | rfl | rfl | rfl | rfl | rfl | rfl | rfl | rfl | rfl | rfl | rfl | rfl | rfl | rfl | rfl | rfl | rfl | rfl | rfl
  · rw [FM.of_167]; exact of167 a w
  · rw [FM.of_168, q3]; exact of168 a q q1 q2 w
  · rw [FM.of_169, q3]; exact of169 a q q1 q2 w
  · rw [FM.of_170, x3]; exact of170 a x x1 x2 w
  · rw [FM.of_171, x3]; exact of171 a x x1 x2 w
  · rw [FM.of_172]; exact of172 a w
  · rw [FM.of_173]; exact of173 a w
  · rw [FM.of_174, q3]; exact of174 a q q1 q2 w
  · rw [FM.of_175, q3]; exact of175 a q q1 q2 w
  · rw [FM.of_176, x3]; exact of176 a x x1 x2 w
  · rw [FM.of_177, x3]; exact of177 a x x1 x2 w
  · rw [FM.of_178]; exact of178 a w
  · rw [FM.of_179]; exact of179 a w
  · rw [FM.of_180]; exact of180 a w
  · rw [FM.of_181, x1]; exact of181 a x x1 x2 w
  · rw [FM.of_182, x3]; exact of182 a x x1 x2 w
  · rw [FM.of_183]; exact of183 a w
  · rw [FM.of_184]; exact of184 a w
  · rw [FM.of_185]; exact of185 a w
  · rw [FM.of_186, x1]; exact of186 a x x1 x2 w
  · rw [FM.of_187, q3]; exact of187 a q q1 q2 w
  · rw [FM.of_188]; exact of188 a w
  · rw [FM.of_189]; exact of189 a w
  · rw [FM.of_190]; exact of190 a w
  · rw [FM.of_191]; exact of191 a w
end Go.Proofs.YtdfgcagbpndabaaGreatDoor.Q
