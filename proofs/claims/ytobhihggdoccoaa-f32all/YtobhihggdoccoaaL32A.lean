/- Over this seat's translation: what the statements' rules need of Un and Bin, as plain numbers. -/
import Derived.Test.YtobhihggdoccoaaL32
namespace Go.Proofs.Ytobhihggdoccoaa
open Go.RowKit
open Go.FM (isN fixn qn)
set_option linter.unusedVariables false

theorem ofInt64 (x : Int) : (BitVec.ofInt 64 x).toNat = (x % 18446744073709551616).toNat := by
  rw [BitVec.toNat_ofInt]; rfl
theorem and_i64 (a b : Int) : bits .and .i64 a b = wrap64 (((a % 18446744073709551616).toNat &&& (b % 18446744073709551616).toNat : Nat) : Int) := by
  show IntKind.i64.wrap ((BitVec.ofInt 64 a &&& BitVec.ofInt 64 b).toNat : Int) = _
  rw [BitVec.toNat_and, ofInt64, ofInt64, IntKind.wrap_i64, wrap64]
/-- x & (2^j - 1) is x modulo 2^j, of a number with sign too. -/
theorem and_mask (x : Int) (j : Nat) (hj : j < 63) : bits .and .i64 x ((2 ^ j : Nat) - 1 : Int) = x % (2 ^ j : Nat) := by
  have hp : 2 ^ j ∣ 18446744073709551616 := by
    have e : j + (64 - j) = 64 := by omega
    have : (18446744073709551616 : Nat) = 2 ^ j * 2 ^ (64 - j) := by rw [← Nat.pow_add, e]
    exact ⟨_, this⟩
  have h1 : 2 ^ j < 2 ^ 63 := Nat.pow_lt_pow_right (by decide) hj
  have h0 : 0 < 2 ^ j := Nat.two_pow_pos j
  rw [and_i64]
  have e : (((2 ^ j : Nat) - 1 : Int) % 18446744073709551616).toNat = 2 ^ j - 1 := by
    generalize 2 ^ j = p at *; omega
  rw [e, Nat.and_two_pow_sub_one_eq_mod]
  have e2 : (((x % 18446744073709551616).toNat % 2 ^ j : Nat) : Int) = x % (2 ^ j : Nat) := by
    rw [Int.natCast_emod, Int.toNat_of_nonneg (Int.emod_nonneg _ (by decide))]
    exact Int.emod_emod_of_dvd _ (Int.natCast_dvd_natCast.mpr hp)
  rw [e2]
  have h2 := Int.emod_nonneg x (b := ((2 ^ j : Nat) : Int)) (by omega)
  have h3 := Int.emod_lt_of_pos x (b := ((2 ^ j : Nat) : Int)) (by omega)
  generalize 2 ^ j = p at *
  simp only [wrap64]
  omega

theorem and32 (x : Int) : bits .and .i64 x 4294967295 = x % 4294967296 := and_mask x 32 (by decide)
theorem low_word (a : Int) : ∃ X : Nat, bits .and .i64 a 4294967295 = (X : Int) ∧ X < 4294967296 := ⟨(a % 4294967296).toNat, by rw [and32]; omega, by omega⟩
theorem bI (op : Int) (X Y : Nat) (hX : X < 4294967296) (hY : Y < 4294967296) (h : (91 ≤ op ∧ op ≤ 96) ∨ (146 ≤ op ∧ op ≤ 152)) : binI op X Y = (((binW op X Y : Nat) : Int), 0) := by
  unfold binI
  rw [if_pos h, show ((X : Int) % 4294967296).toNat = X from by omega, show ((Y : Int) % 4294967296).toNat = Y from by omega]
theorem uI (op : Int) (X : Nat) (hX : X < 4294967296) (h : 139 ≤ op ∧ op ≤ 145) : unI op X = (((unW op X : Nat) : Int), 0) := by
  unfold unI
  rw [if_pos h, show ((X : Int) % 4294967296).toNat = X from by omega]
theorem f_add (X Y : Nat) : binW 146 X Y = FM.fixo sf (sf.add X Y) := by simp [binW, arithW, arithO]
theorem f_sub (X Y : Nat) : binW 147 X Y = FM.fixo sf (sf.sub X Y) := by simp [binW, arithW, arithO]
theorem f_mul (X Y : Nat) : binW 148 X Y = FM.fixo sf (sf.mul X Y) := by simp [binW, arithW, arithO]
theorem f_div (X Y : Nat) : binW 149 X Y = FM.fixo sf (sf.div X Y) := by simp [binW, arithW, arithO]
theorem f_min (X Y : Nat) : binW 150 X Y = FM.minW sf X Y := by simp [binW]
theorem f_max (X Y : Nat) : binW 151 X Y = FM.maxW sf X Y := by simp [binW]
theorem f_sign (X Y : Nat) : binW 152 X Y = X % 2147483648 ||| (Y &&& 2147483648) := by simp [binW]
theorem f_eq (X Y : Nat) : binW 91 X Y = if sf.order X Y = some .eq then 1 else 0 := by simp [binW, cmpW]; rfl
theorem f_ne (X Y : Nat) : binW 92 X Y = if sf.order X Y = some .eq then 0 else 1 := by
  unfold binW cmpW
  by_cases h : FloatKind.f32.format.order X Y = some .eq
  · simp [h]; exact h
  · simp [h]; exact h
theorem f_lt (X Y : Nat) : binW 93 X Y = if sf.order X Y = some .lt then 1 else 0 := by simp [binW, cmpW]; rfl
theorem f_gt (X Y : Nat) : binW 94 X Y = if sf.order X Y = some .gt then 1 else 0 := by simp [binW, cmpW]; rfl
theorem f_le (X Y : Nat) : binW 95 X Y = if sf.order X Y = some .lt ∨ sf.order X Y = some .eq then 1 else 0 := by simp [binW, cmpW]; rfl
theorem f_ge (X Y : Nat) : binW 96 X Y = if sf.order X Y = some .gt ∨ sf.order X Y = some .eq then 1 else 0 := by simp [binW, cmpW]; rfl
theorem b_num (X : Nat) (hX : X < 4294967296) (h : ¬ isN sf X) : binI 91 X X = (1, 0) ∧ binI 92 X X = (0, 0) := by
  rw [bI 91 X X hX hX (by decide), bI 92 X X hX hX (by decide), f_eq, f_ne, if_pos (FM.order_self sf hsf X h), if_pos (FM.order_self sf hsf X h)]
  exact ⟨rfl, rfl⟩
theorem b_nan (X : Nat) (hX : X < 4294967296) (h : isN sf X) : binI 91 X X = (0, 0) ∧ binI 92 X X = (1, 0) := by
  have e := FM.order_selfN sf hsf X h
  rw [bI 91 X X hX hX (by decide), bI 92 X X hX hX (by decide), f_eq, f_ne, e]
  exact ⟨rfl, rfl⟩
theorem qn32 : qn sf = 2143289344 := by decide +kernel
theorem fix_none {o : Option Nat} (h : o = none) : FM.fixo sf o = 2143289344 := by rw [h]; exact qn32
theorem fix_some {o : Option Nat} {r : Nat} (h : o = some r) : FM.fixo sf o = r := by rw [h]; rfl
theorem sw2 (X : Nat) (hX : X < 4294967296) : X < 2 * sf.signWeight := by rw [FM.sw32]; omega
theorem one32 : sf.read 1065353216 = .number false sf.binade (-(sf.fractionBits : Int)) := by decide +kernel
theorem one32' : sf.nearest false 1 0 = 1065353216 := by decide +kernel
end Go.Proofs.Ytobhihggdoccoaa
