/- Plain mathematics of words of 64 bits in ints with their sign: the sign bit and the rest. -/
import Derived.Test.YtibfjlibkaejnaaFBits
namespace Go.FM
open Go.RowKit
set_option linter.unusedVariables false

/-- a word of 64 bits, as an int with its sign -/
def sw (x : Nat) : Int := IntKind.i64.wrap (x : Int)
theorem sw_def (x : Nat) : sw x = ((x : Int) + 9223372036854775808) % 18446744073709551616 - 9223372036854775808 := IntKind.wrap_i64 _
theorem sw_mod (x : Nat) (h : x < 18446744073709551616) : sw x % 18446744073709551616 = (x : Int) := by rw [sw_def]; omega
theorem sw_inj {x y : Nat} (hx : x < 18446744073709551616) (hy : y < 18446744073709551616) (h : sw x = sw y) : x = y := by
  have h1 := sw_mod x hx
  have h2 := sw_mod y hy
  rw [h] at h1; omega
theorem sw_small (x : Nat) (h : x < 9223372036854775808) : sw x = (x : Int) := by rw [sw_def]; omega
theorem sw_back (a : Int) (x : Nat) (h : a % 18446744073709551616 = (x : Int)) (h1 : -9223372036854775808 ≤ a) (h2 : a ≤ 9223372036854775807) : sw x = a := by rw [sw_def]; omega
theorem sw_nat (x : Nat) (h : x < 18446744073709551616) : (sw x % 18446744073709551616).toNat = x := by rw [sw_mod x h]; omega
theorem ofInt_a (a : Int) (x : Nat) (h : a % 18446744073709551616 = (x : Int)) : (BitVec.ofInt 64 a).toNat = x := by
  rw [BitVec.toNat_ofInt]
  show (a % 18446744073709551616).toNat = x
  rw [h]; rfl
theorem and_a (a b : Int) (x y : Nat) (hx : a % 18446744073709551616 = (x : Int)) (hy : b % 18446744073709551616 = (y : Int)) : bits .and .i64 a b = sw (x &&& y) := by
  show IntKind.i64.wrap ((BitVec.ofInt 64 a &&& BitVec.ofInt 64 b).toNat : Int) = _
  rw [BitVec.toNat_and, ofInt_a a x hx, ofInt_a b y hy]; rfl
theorem or_a (a b : Int) (x y : Nat) (hx : a % 18446744073709551616 = (x : Int)) (hy : b % 18446744073709551616 = (y : Int)) : bits .or .i64 a b = sw (x ||| y) := by
  show IntKind.i64.wrap ((BitVec.ofInt 64 a ||| BitVec.ofInt 64 b).toNat : Int) = _
  rw [BitVec.toNat_or, ofInt_a a x hx, ofInt_a b y hy]; rfl
theorem xor_a (a b : Int) (x y : Nat) (hx : a % 18446744073709551616 = (x : Int)) (hy : b % 18446744073709551616 = (y : Int)) : bits .xor .i64 a b = sw (x ^^^ y) := by
  show IntKind.i64.wrap ((BitVec.ofInt 64 a ^^^ BitVec.ofInt 64 b).toNat : Int) = _
  rw [BitVec.toNat_xor, ofInt_a a x hx, ofInt_a b y hy]; rfl
theorem andNot_a (a : Int) (x : Nat) (hx : a % 18446744073709551616 = (x : Int)) : bits .andNot .i64 a (-9223372036854775808) = sw (x % 9223372036854775808) := by
  show IntKind.i64.wrap ((BitVec.ofInt 64 a &&& ~~~BitVec.ofInt 64 (-9223372036854775808)).toNat : Int) = _
  have e : (BitVec.ofInt 64 a &&& ~~~BitVec.ofInt 64 (-9223372036854775808)).toNat = x % 9223372036854775808 := by
    have h1 : ~~~BitVec.ofInt 64 (-9223372036854775808) = BitVec.ofNat 64 (2 ^ 63 - 1) := by decide
    rw [h1, BitVec.toNat_and, ofInt_a a x hx, BitVec.toNat_ofNat, show (2 ^ 63 - 1) % 2 ^ 64 = 2 ^ 63 - 1 from by decide, Nat.and_two_pow_sub_one_eq_mod]
  rw [e]; rfl
theorem top_mod : (-9223372036854775808 : Int) % 18446744073709551616 = ((9223372036854775808 : Nat) : Int) := by decide
theorem or_lt64 (x y : Nat) (hx : x < 18446744073709551616) (hy : y < 18446744073709551616) : x ||| y < 18446744073709551616 := Nat.or_lt_two_pow (n := 64) hx hy
theorem xor_lt64 (x y : Nat) (hx : x < 18446744073709551616) (hy : y < 18446744073709551616) : x ^^^ y < 18446744073709551616 := Nat.xor_lt_two_pow (n := 64) hx hy
/-! over the format of 64 bits -/
theorem sw64 : Ieee.double.signWeight = 9223372036854775808 := by decide +kernel
theorem inf64 : Ieee.double.infRung = 9218868437227405312 := by decide +kernel
theorem rg64 (x : Nat) : rg Ieee.double x = x % 9223372036854775808 := by unfold rg; rw [sw64]
theorem word64 (s : Bool) (r : Nat) : Ieee.double.word s r = if s then 9223372036854775808 + r else r := by unfold Ieee.Format.word; rw [sw64]
theorem parts64 (x : Nat) (h : x < 18446744073709551616) : ∃ s r, x = Ieee.double.word s r ∧ r < 9223372036854775808 ∧ sg Ieee.double x = s ∧ rg Ieee.double x = r :=
  ⟨sg Ieee.double x, rg Ieee.double x, (word_parts Ieee.double x (by rw [sw64]; omega)).symm, by rw [rg64]; omega, rfl, rfl⟩
theorem neg64 (s : Bool) (r : Nat) (h : r < 9223372036854775808) : Ieee.double.word s r ^^^ 9223372036854775808 = Ieee.double.word (!s) r := by
  obtain ⟨e1, e2⟩ := xor_top 63 r h
  rw [word64, word64]
  cases s
  · exact e1
  · exact e2
theorem bit64 (s : Bool) (r : Nat) (h : r < 9223372036854775808) : Ieee.double.word s r &&& 9223372036854775808 = if s then 9223372036854775808 else 0 := by
  obtain ⟨e1, e2⟩ := and_top 63 r h
  rw [word64]
  cases s
  · exact e1
  · exact e2
theorem rest64 (s : Bool) (r : Nat) (h : r < 9223372036854775808) : Ieee.double.word s r % 9223372036854775808 = r := by
  rw [word64]; cases s
  · simp; omega
  · simp; omega
theorem join64 (s : Bool) (r : Nat) (h : r < 9223372036854775808) : r ||| (if s then 9223372036854775808 else 0) = Ieee.double.word s r := by
  rw [word64]; cases s
  · exact Nat.or_zero r
  · exact or_top 63 r h
theorem word64_lt (s : Bool) (r : Nat) (h : r < 9223372036854775808) : Ieee.double.word s r < 18446744073709551616 := by
  rw [word64]; split <;> omega
end Go.FM
