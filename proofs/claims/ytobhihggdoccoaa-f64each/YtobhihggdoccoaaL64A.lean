/- Over this seat's translation: what the statements' rules need of Un and Bin, as plain words. -/
import Derived.Test.YtobhihggdoccoaaL64
import Derived.RowKit3
namespace Go.Proofs.Ytobhihggdoccoaa
open Go.RowKit
open Go.FM (isN fixn qn sw)
set_option linter.unusedVariables false

theorem word_of (a : Int) (h : -9223372036854775808 ≤ a ∧ a ≤ 9223372036854775807) : ∃ X : Nat, a = sw X ∧ X < 18446744073709551616 := by
  obtain ⟨x, h1, h2, h3⟩ := low_nat a
  exact ⟨x, (FM.sw_back a x h1 h.1 h.2).symm, h2⟩
theorem bI (op : Int) (X Y : Nat) (hX : X < 18446744073709551616) (hY : Y < 18446744073709551616) (h : (97 ≤ op ∧ op ≤ 102) ∨ (160 ≤ op ∧ op ≤ 166)) : binI op (sw X) (sw Y) = (sw (binW op X Y), 0) := by
  unfold binI
  rw [if_pos h, FM.sw_nat X hX, FM.sw_nat Y hY]
theorem uI (op : Int) (X : Nat) (hX : X < 18446744073709551616) (h : 153 ≤ op ∧ op ≤ 159) : unI op (sw X) = (sw (unW op X), 0) := by
  unfold unI
  rw [if_pos h, FM.sw_nat X hX]
theorem f_add (X Y : Nat) : binW 160 X Y = FM.fixo df (df.add X Y) := by simp [binW, arithW, arithO]
theorem f_sub (X Y : Nat) : binW 161 X Y = FM.fixo df (df.sub X Y) := by simp [binW, arithW, arithO]
theorem f_mul (X Y : Nat) : binW 162 X Y = FM.fixo df (df.mul X Y) := by simp [binW, arithW, arithO]
theorem f_div (X Y : Nat) : binW 163 X Y = FM.fixo df (df.div X Y) := by simp [binW, arithW, arithO]
theorem f_min (X Y : Nat) : binW 164 X Y = FM.minW df X Y := by simp [binW]
theorem f_max (X Y : Nat) : binW 165 X Y = FM.maxW df X Y := by simp [binW]
theorem f_sign (X Y : Nat) : binW 166 X Y = X % 9223372036854775808 ||| (Y &&& 9223372036854775808) := by simp [binW]
theorem f_eq (X Y : Nat) : binW 97 X Y = if df.order X Y = some .eq then 1 else 0 := by simp [binW, cmpW]; rfl
theorem f_ne (X Y : Nat) : binW 98 X Y = if df.order X Y = some .eq then 0 else 1 := by
  unfold binW cmpW
  by_cases h : FloatKind.f64.format.order X Y = some .eq
  · simp [h]; exact h
  · simp [h]; exact h
theorem f_lt (X Y : Nat) : binW 99 X Y = if df.order X Y = some .lt then 1 else 0 := by simp [binW, cmpW]; rfl
theorem f_gt (X Y : Nat) : binW 100 X Y = if df.order X Y = some .gt then 1 else 0 := by simp [binW, cmpW]; rfl
theorem f_le (X Y : Nat) : binW 101 X Y = if df.order X Y = some .lt ∨ df.order X Y = some .eq then 1 else 0 := by simp [binW, cmpW]; rfl
theorem f_ge (X Y : Nat) : binW 102 X Y = if df.order X Y = some .gt ∨ df.order X Y = some .eq then 1 else 0 := by simp [binW, cmpW]; rfl
theorem b_num (X : Nat) (hX : X < 18446744073709551616) (h : ¬ isN df X) : binI 97 (sw X) (sw X) = (1, 0) ∧ binI 98 (sw X) (sw X) = (0, 0) := by
  rw [bI 97 X X hX hX (by decide), bI 98 X X hX hX (by decide), f_eq, f_ne, if_pos (FM.order_self df hdf X h), if_pos (FM.order_self df hdf X h), sw_one, sw_zero]
  exact ⟨rfl, rfl⟩
theorem b_nan (X : Nat) (hX : X < 18446744073709551616) (h : isN df X) : binI 97 (sw X) (sw X) = (0, 0) ∧ binI 98 (sw X) (sw X) = (1, 0) := by
  have e := FM.order_selfN df hdf X h
  rw [bI 97 X X hX hX (by decide), bI 98 X X hX hX (by decide), f_eq, f_ne, e, if_neg (by simp), if_neg (by simp), sw_one, sw_zero]
  exact ⟨rfl, rfl⟩
theorem fix_none {o : Option Nat} (h : o = none) : FM.fixo df o = 9221120237041090560 := by rw [h]; exact qn64
theorem fix_some {o : Option Nat} {r : Nat} (h : o = some r) : FM.fixo df o = r := by rw [h]; rfl
theorem sw_q : sw 9221120237041090560 = 9221120237041090560 := FM.sw_small _ (by decide)
theorem sw_1 : sw 4607182418800017408 = 4607182418800017408 := FM.sw_small _ (by decide)
theorem sw2 (X : Nat) (hX : X < 18446744073709551616) : X < 2 * df.signWeight := by rw [FM.sw64]; omega
theorem one64 : df.read 4607182418800017408 = .number false df.binade (-(df.fractionBits : Int)) := by decide +kernel
theorem one64' : df.nearest false 1 0 = 4607182418800017408 := by decide +kernel
theorem plc_double (r : Nat) (h : r < df.infRung) : FM.plc df r ≤ 971 := by
  unfold FM.plc
  have hl : df.leastPlace = -1074 := FM.least_double
  rw [hl]
  split
  · omega
  · have hb : df.binade = 4503599627370496 := by decide +kernel
    have hi : df.infRung = 9218868437227405312 := by decide +kernel
    rw [hb]; omega
theorem inf_cases (x : Nat) (hx : x < 18446744073709551616) (h : FM.rg df x = df.infRung) : x = 9218868437227405312 ∨ x = 18442240474082181120 := by
  obtain ⟨s, r, e, h1, h2, h3⟩ := FM.parts64 x hx
  rw [h] at h3
  rw [e, FM.word64, ← h3, FM.inf64]
  cases s
  · left; rfl
  · right; rfl
end Go.Proofs.Ytobhihggdoccoaa
