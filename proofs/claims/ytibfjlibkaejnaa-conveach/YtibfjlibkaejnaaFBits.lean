/- Plain mathematics of words of 32 bits in ints: the sign bit and the rest. -/
import Derived.Test.YtibfjlibkaejnaaFW
import Derived.Test.YtibfjlibkaejnaaFData
namespace Go.FM
open Go.RowKit
set_option linter.unusedVariables false

theorem ofInt_i (x : Nat) (h : x < 4294967296) : (BitVec.ofInt 64 (x : Int)).toNat = x := ofInt_u x (by simp only [W64]; omega)
theorem wrap_i (x : Nat) (h : x < 4294967296) : IntKind.i64.wrap (x : Int) = (x : Int) := by rw [IntKind.wrap_i64]; omega
theorem and_i (x y : Nat) (hx : x < 4294967296) (hy : y < 4294967296) : bits .and .i64 (x : Int) (y : Int) = ((x &&& y : Nat) : Int) := by
  show IntKind.i64.wrap ((BitVec.ofInt 64 (x : Int) &&& BitVec.ofInt 64 (y : Int)).toNat : Int) = _
  rw [BitVec.toNat_and, ofInt_i x hx, ofInt_i y hy, wrap_i _ (Nat.lt_of_le_of_lt Nat.and_le_left hx)]
theorem or_lt (x y : Nat) (hx : x < 4294967296) (hy : y < 4294967296) : x ||| y < 4294967296 := Nat.or_lt_two_pow (n := 32) hx hy
theorem or_i (x y : Nat) (hx : x < 4294967296) (hy : y < 4294967296) : bits .or .i64 (x : Int) (y : Int) = ((x ||| y : Nat) : Int) := by
  show IntKind.i64.wrap ((BitVec.ofInt 64 (x : Int) ||| BitVec.ofInt 64 (y : Int)).toNat : Int) = _
  rw [BitVec.toNat_or, ofInt_i x hx, ofInt_i y hy, wrap_i _ (or_lt x y hx hy)]
theorem xor_i (x y : Nat) (hx : x < 4294967296) (hy : y < 4294967296) : bits .xor .i64 (x : Int) (y : Int) = ((x ^^^ y : Nat) : Int) := by
  show IntKind.i64.wrap ((BitVec.ofInt 64 (x : Int) ^^^ BitVec.ofInt 64 (y : Int)).toNat : Int) = _
  rw [BitVec.toNat_xor, ofInt_i x hx, ofInt_i y hy, wrap_i _ (Nat.xor_lt_two_pow (n := 32) hx hy)]
/-! the top bit -/
theorem and_top (n r : Nat) (h : r < 2 ^ n) : r &&& 2 ^ n = 0 ∧ (2 ^ n + r) &&& 2 ^ n = 2 ^ n := by
  have e : r.testBit n = false := Nat.testBit_lt_two_pow h
  have gen : ∀ x : Nat, x &&& 2 ^ n = if x.testBit n then 2 ^ n else 0 := by
    intro x
    apply Nat.eq_of_testBit_eq
    intro i
    rw [Nat.testBit_and, Nat.testBit_two_pow]
    by_cases h1 : n = i
    · subst h1
      cases hx : x.testBit n <;> simp [Nat.testBit_two_pow_self]
    · cases hx : x.testBit n <;> simp [h1]
  constructor
  · rw [gen, e]; simp
  · rw [gen, Nat.testBit_two_pow_add_eq, e]; simp
theorem xor_top (n r : Nat) (h : r < 2 ^ n) : r ^^^ 2 ^ n = 2 ^ n + r ∧ (2 ^ n + r) ^^^ 2 ^ n = r := by
  have e : r ^^^ 2 ^ n = 2 ^ n + r := by
    apply Nat.eq_of_testBit_eq
    intro i
    rw [Nat.testBit_xor, Nat.testBit_two_pow]
    rcases Nat.lt_trichotomy i n with h1 | h1 | h1
    · rw [Nat.testBit_two_pow_add_gt h1]
      simp [show ¬ n = i from by omega]
    · subst h1
      rw [Nat.testBit_two_pow_add_eq]
      simp
    · have h2 : (2 ^ n + r).testBit i = false := by
        apply Nat.testBit_lt_two_pow
        have : 2 ^ (n + 1) ≤ 2 ^ i := Nat.pow_le_pow_right (by decide) h1
        rw [Nat.pow_succ] at this
        omega
      have h3 : r.testBit i = false := Nat.testBit_lt_two_pow (Nat.lt_of_lt_of_le h (Nat.pow_le_pow_right (by decide) (by omega)))
      rw [h2, h3]
      simp [show ¬ n = i from by omega]
  refine ⟨e, ?_⟩
  rw [← e, Nat.xor_assoc, Nat.xor_self, Nat.xor_zero]
theorem or_top (n r : Nat) (h : r < 2 ^ n) : r ||| 2 ^ n = 2 ^ n + r := by
  rw [Nat.or_comm]; exact (Nat.two_pow_add_eq_or_of_lt h 1 |> fun e => by simpa using e.symm)
theorem andNot_top (x : Nat) (hx : x < 4294967296) : bits .andNot .i64 (x : Int) 2147483648 = ((x % 2147483648 : Nat) : Int) := by
  show IntKind.i64.wrap ((BitVec.ofInt 64 (x : Int) &&& ~~~BitVec.ofInt 64 ((2147483648 : Nat) : Int)).toNat : Int) = _
  have e : (BitVec.ofInt 64 (x : Int) &&& ~~~BitVec.ofInt 64 ((2147483648 : Nat) : Int)).toNat = x % 2147483648 := by
    apply Nat.eq_of_testBit_eq
    intro i
    have h1 : BitVec.ofInt 64 ((2147483648 : Nat) : Int) = BitVec.twoPow 64 31 := by decide
    rw [BitVec.toNat_and, Nat.testBit_and, ofInt_i x hx, h1, show (2147483648 : Nat) = 2 ^ 31 from by decide, Nat.testBit_mod_two_pow]
    rcases Nat.lt_or_ge i 32 with h | h
    · rw [BitVec.testBit_toNat, BitVec.getLsbD_not, BitVec.getLsbD_twoPow]
      have h3 : i < 64 := by omega
      by_cases h2 : i = 31
      · subst h2; simp
      · have : i < 31 := by omega
        simp [this, h3, show ¬ 31 = i from by omega]
    · have : x.testBit i = false := Nat.testBit_lt_two_pow (Nat.lt_of_lt_of_le hx (by rw [show (4294967296 : Nat) = 2 ^ 32 from by decide]; exact Nat.pow_le_pow_right (by decide) h))
      rw [this]; simp
  rw [e, wrap_i _ (by omega)]
/-! over the format of 32 bits -/
theorem sw32 : Ieee.single.signWeight = 2147483648 := by decide +kernel
theorem inf32 : Ieee.single.infRung = 2139095040 := by decide +kernel
theorem rg32 (x : Nat) : rg Ieee.single x = x % 2147483648 := by unfold rg; rw [sw32]
theorem word32 (s : Bool) (r : Nat) : Ieee.single.word s r = if s then 2147483648 + r else r := by unfold Ieee.Format.word; rw [sw32]
theorem parts32 (x : Nat) (h : x < 4294967296) : ∃ s r, x = Ieee.single.word s r ∧ r < 2147483648 ∧ sg Ieee.single x = s ∧ rg Ieee.single x = r :=
  ⟨sg Ieee.single x, rg Ieee.single x, (word_parts Ieee.single x (by rw [sw32]; omega)).symm, by rw [rg32]; omega, rfl, rfl⟩
theorem neg32 (s : Bool) (r : Nat) (h : r < 2147483648) : Ieee.single.word s r ^^^ 2147483648 = Ieee.single.word (!s) r := by
  obtain ⟨e1, e2⟩ := xor_top 31 r h
  rw [word32, word32]
  cases s
  · exact e1
  · exact e2
theorem bit32 (s : Bool) (r : Nat) (h : r < 2147483648) : Ieee.single.word s r &&& 2147483648 = if s then 2147483648 else 0 := by
  obtain ⟨e1, e2⟩ := and_top 31 r h
  rw [word32]
  cases s
  · exact e1
  · exact e2
theorem rest32 (s : Bool) (r : Nat) (h : r < 2147483648) : Ieee.single.word s r % 2147483648 = r := by
  rw [word32]; cases s
  · simp; omega
  · simp; omega
theorem join32 (s : Bool) (r : Nat) (h : r < 2147483648) : r ||| (if s then 2147483648 else 0) = Ieee.single.word s r := by
  rw [word32]; cases s
  · exact Nat.or_zero r
  · exact or_top 31 r h
theorem word32_lt (s : Bool) (r : Nat) (h : r < 2147483648) : Ieee.single.word s r < 4294967296 := by
  rw [word32]; split <;> omega
end Go.FM
