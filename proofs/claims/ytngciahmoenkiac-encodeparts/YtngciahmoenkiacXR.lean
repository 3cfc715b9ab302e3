/- XR: LVA, LVB, LVC, LVD, LVE, LVF, LVG, joined. -/
import Derived.Test.YtngciahmoenkiacXC
import Derived.Lib.VarintBits
/- Over this seat's translation: package leb: numbers written in parts, without sign and with it. -/
set_option linter.unusedVariables false
set_option linter.unusedSimpArgs false
set_option maxRecDepth 100000
set_option maxHeartbeats 4000000
namespace Go.Proofs.Ytngciahmoenkiac
open Go.RowKit
theorem or8 (y : Int) : bits .or .u8 (IntKind.u8.wrap y) 128 = y % 128 + 128 := by
  have h : ∀ n : Nat, n < 256 → bits .or .u8 (n : Int) 128 = (n : Int) % 128 + 128 := by decide +kernel
  have := h (y % 256).toNat (by omega)
  rw [Int.toNat_of_nonneg (by omega)] at this
  rw [IntKind.wrap_u8, this]
  omega
theorem andNot8 (y : Int) : bits .andNot .u8 (IntKind.u8.wrap y) 128 = y % 128 := by
  have h : ∀ n : Nat, n < 256 → bits .andNot .u8 (n : Int) 128 = (n : Int) % 128 := by decide +kernel
  have := h (y % 256).toNat (by omega)
  rw [Int.toNat_of_nonneg (by omega)] at this
  rw [IntKind.wrap_u8, this]
  omega
theorem or8m (y : Int) : bits .or .u8 (y % 256) 128 = y % 128 + 128 := by rw [← IntKind.wrap_u8]; exact or8 y
theorem andNot8m (y : Int) : bits .andNot .u8 (y % 256) 128 = y % 128 := by rw [← IntKind.wrap_u8]; exact andNot8 y
theorem put_any (x : Int) (hx : -9223372036854775808 ≤ x ∧ x ≤ 9223372036854775807) (w : World) :
    Calls Try.prog 51 #[.int .i64 x] w fun e w' => e = .returned (.string (strOfNums (lebL x))) ∧ Later w w' := by
  clear hx
  have hbs := lebL_byte x
  replace hbs : Hid _ := hbs
  go_enter Try.func51, Try.ntmps51
  go_wp2_with fail
  go_loopw [3, 4] (fun v i wr => ∃ (r : Nat) (d : List Int) (y : Int), i = .int .u64 y ∧ 0 ≤ y ∧ y < 2 * 128 ^ r ∧ y < 18446744073709551616 ∧ d.length + r ≤ 9 ∧ Later w wr ∧ Byt w wr v d ∧ d ++ lebF r y = lebL x) (fun v i _ => (intOf i).toNat)
  case atStart => exact ⟨9, [], IntKind.u64.wrap x, rfl, by rw [IntKind.wrap_u64]; omega, by rw [IntKind.wrap_u64]; have := Int.emod_lt_of_pos x (show (0 : Int) < 18446744073709551616 by decide); omega, by rw [IntKind.wrap_u64]; omega, by simp, Lz _, byt_nil _ _, by rw [IntKind.wrap_u64]; rfl⟩
  case round =>
    obtain ⟨r, d, y, rfl, h0, h1, h64, hd, hL, hB, he⟩ := hrel
    obtain ⟨A, cap, rfl⟩ := hB.form
    by_cases hy : y < 128
    · obtain ⟨g, c2, w2, r2, l2, B2⟩ := byt_more hL hB y (by omega)
      have he2 : d ++ [y] = lebL x := by
        rw [← he]
        cases r with
        | zero => rfl
        | succ r => unfold lebF; rw [if_pos hy]
      rw [he2] at B2
      have hlen : d.length + 1 = (lebL x).length := by rw [← he2]; simp
      have hs := byt_str B2 hlen hbs.out
      rw [hlen] at hs r2
      replace r2 : Hid _ := r2
      clear hlen he2
      have hy2 : IntKind.u8.wrap y = y := by rw [IntKind.wrap_u8]; omega
      have hy3 : ¬ 128 ≤ y := by omega
      replace l2 : Hid (Later w w2) := l2
      clear B2 hB hL he
      go_wp2_with (at_builtin; refine wpList_app rfl _ _ 50 rfl _ _ _ rfl rfl r2.out ?_)
      go_ret
      exact ⟨rfl, l2.out⟩
    · obtain ⟨r', rfl⟩ : ∃ r', r = r' + 1 := by
        cases r with
        | zero => exact absurd h1 (by simp; omega)
        | succ r => exact ⟨r, rfl⟩
      obtain ⟨g, c2, w2, r2, l2, B2⟩ := byt_more hL hB (y % 128 + 128) (by omega)
      have he2 : (d ++ [y % 128 + 128]) ++ lebF r' (y / 128) = lebL x := by
        rw [← he]
        simp [lebF, hy]
      have hw := or8 y
      have hwm := or8m y
      have hy3 : 128 ≤ y := by omega
      have h128 : y / 128 < 2 * 128 ^ r' := by rw [Int.pow_succ] at h1; omega
      have hw2 : IntKind.u64.wrap (y / 128) = y / 128 := by rw [IntKind.wrap_u64]; omega
      replace r2 : Hid _ := r2
      replace l2 : Hid (Later w w2) := l2
      replace B2 : Hid (Byt w w2 _ (d ++ [y % 128 + 128])) := B2
      replace he2 : Hid _ := he2
      replace h1 : Hid _ := h1
      replace h128 : Hid (y / 128 < 2 * 128 ^ r') := h128
      clear hB hL he
      go_wp2_with (at_builtin; refine wpList_app rfl _ _ 50 rfl _ _ _ rfl rfl r2.out ?_)
      go_roundw
      case rel => exact ⟨r', _, y / 128, by simp [hw2], by omega, h128.out, by omega, by simp; omega, l2.out, by simpa using B2.out, he2.out⟩
      case measure => simp [intOf, hw2]; omega
theorem puts_any (x : Int) (hx : -9223372036854775808 ≤ x ∧ x ≤ 9223372036854775807) (w : World) :
    Calls Try.prog 86 #[.int .i64 x] w fun e w' => e = .returned (.string (strOfNums (slebL x))) ∧ Later w w' := by
  have hbs : Hid (∀ b ∈ slebL x, 0 ≤ b ∧ b < 256) := slebF_byte 9 x
  go_enter Try.func86, Try.ntmps86
  go_wp2_with fail
  go_loopw [3, 0] (fun v i wr => ∃ (r : Nat) (d : List Int) (y : Int), i = .int .i64 y ∧ -(64 * 128 ^ r) ≤ y ∧ y < 64 * 128 ^ r ∧ (-9223372036854775808 ≤ y ∧ y ≤ 9223372036854775807) ∧ d.length + r ≤ 9 ∧ Later w wr ∧ Byt w wr v d ∧ d ++ slebF r y = slebL x) (fun v i _ => (intOf i).natAbs)
  case atStart => exact ⟨9, [], x, rfl, by omega, by omega, hx, by simp, Lz _, byt_nil _ _, rfl⟩
  case round =>
    obtain ⟨r, d, y, rfl, h0, h1, h64, hd, hL, hB, he⟩ := hrel
    obtain ⟨A, cap, rfl⟩ := hB.form
    by_cases hy : -64 ≤ y ∧ y ≤ 63
    · obtain ⟨g, c2, w2, r2, l2, B2⟩ := byt_more hL hB (y % 128) (by omega)
      have he2 : d ++ [y % 128] = slebL x := by
        rw [← he]
        cases r with
        | zero => rfl
        | succ r => unfold slebF; rw [if_pos hy]
      rw [he2] at B2
      have hlen : d.length + 1 = (slebL x).length := by rw [← he2]; simp
      have hs := byt_str B2 hlen hbs.out
      rw [hlen] at hs r2
      replace r2 : Hid _ := r2
      have hy2 := andNot8 y
      have hwm := andNot8m y
      replace l2 : Hid (Later w w2) := l2
      have hy3 : ¬ y < -64 := by omega
      have hy4 : ¬ 63 < y := by omega
      clear hlen he2 B2 hB hL he hy
      replace h0 : Hid _ := h0
      replace h1 : Hid _ := h1
      go_wp2_with (at_builtin; refine wpList_app rfl _ _ 50 rfl _ _ _ rfl rfl r2.out ?_)
      go_ret
      exact ⟨rfl, l2.out⟩
    · obtain ⟨r', rfl⟩ : ∃ r', r = r' + 1 := by
        cases r with
        | zero => exact absurd ⟨by simpa using h0, by simp at h1; omega⟩ hy
        | succ r => exact ⟨r, rfl⟩
      obtain ⟨g, c2, w2, r2, l2, B2⟩ := byt_more hL hB (y % 128 + 128) (by omega)
      have he2 : (d ++ [y % 128 + 128]) ++ slebF r' (y / 128) = slebL x := by
        rw [← he]
        simp [slebF, hy]
      have hor := or8 y
      have hwm := or8m y
      have k0 : -(64 * 128 ^ r') ≤ y / 128 := by rw [Int.pow_succ] at h0; omega
      have k1 : y / 128 < 64 * 128 ^ r' := by rw [Int.pow_succ] at h1; omega
      replace r2 : Hid _ := r2
      replace l2 : Hid (Later w w2) := l2
      replace B2 : Hid (Byt w w2 _ (d ++ [y % 128 + 128])) := B2
      replace he2 : Hid _ := he2
      replace h1 : Hid _ := h1
      replace h0 : Hid _ := h0
      replace k0 : Hid (-(64 * 128 ^ r') ≤ y / 128) := k0
      replace k1 : Hid (y / 128 < 64 * 128 ^ r') := k1
      replace hy : y < -64 ∨ (¬ y < -64 ∧ 63 < y) := by omega
      clear hB hL he
      rcases hy with hy | ⟨hy, hy2⟩
      all_goals
        go_wp2_with (at_builtin; refine wpList_app rfl _ _ 50 rfl _ _ _ rfl rfl r2.out ?_)
        go_roundw
        case rel => exact ⟨r', _, y / 128, by simp, k0.out, k1.out, by omega, by simp; omega, l2.out, by simpa using B2.out, he2.out⟩
        case measure => simp [intOf]; omega
end Go.Proofs.Ytngciahmoenkiac


/- Over this seat's translation: package leb: parts walked. -/
set_option linter.unusedVariables false
set_option linter.unusedSimpArgs false
set_option maxRecDepth 100000
set_option maxHeartbeats 4000000
namespace Go.Proofs.Ytngciahmoenkiac
open Go.RowKit
/-- what a number's parts hold -/
def nbr (low last parts : Int) : Value := .agg #[.int .u64 low, .int .u8 last, .int .i64 parts]
end Go.Proofs.Ytngciahmoenkiac


/- Over this seat's translation: package leb: parts walked, with what they hold. -/
set_option linter.unusedVariables false
set_option linter.unusedSimpArgs false
set_option maxRecDepth 100000
set_option maxHeartbeats 4000000
namespace Go.Proofs.Ytngciahmoenkiac
open Go.RowKit
/-- what the first parts hold -/
def lo (s : ByteArray) (a : Nat) : Nat → Int
  | 0 => 0
  | j + 1 => lo s a j + bt s (a + j) % 128 * 128 ^ j
theorem lo_rng (s : ByteArray) (a : Nat) : ∀ j : Nat, 0 ≤ lo s a j ∧ lo s a j < 128 ^ j
  | 0 => by simp [lo]
  | j + 1 => by
    have ih := lo_rng s a j
    have hb : 0 ≤ bt s (a + j) % 128 ∧ bt s (a + j) % 128 ≤ 127 := by omega
    simp only [lo, Int.pow_succ]
    generalize bt s (a + j) % 128 = b at *
    generalize lo s a j = l at *
    generalize hP : (128 : Int) ^ j = P at *
    have h1 : b * P ≤ 127 * P := Int.mul_le_mul_of_nonneg_right hb.2 (by omega)
    have h2 : 0 ≤ b * P := Int.mul_nonneg hb.1 (by omega)
    omega
theorem andNot_part (b : Int) (h : 0 ≤ b ∧ b < 256) : bits .andNot .u8 b 128 = b % 128 := by
  have hh : ∀ n : Nat, n < 256 → bits .andNot .u8 (n : Int) 128 = (n : Int) % 128 := by decide +kernel
  have := hh b.toNat (by omega)
  rwa [Int.toNat_of_nonneg h.1] at this
theorem lo_step0 (l c : Int) (hl : 0 ≤ l ∧ l < 1) (hc : 0 ≤ c ∧ c < 128) : bits .or .u64 (l % 18446744073709551616) (IntKind.u64.wrap (IntKind.u64.wrap c * 1)) = (l + c * 1) % 18446744073709551616 := by
  rw [IntKind.wrap_u64, IntKind.wrap_u64, show l % 18446744073709551616 = l by omega, show c % 18446744073709551616 = c by omega]
  rw [Go.u64_orv0 _ _ (by omega) (by omega) (by omega) (by omega) (by omega)]
  omega
theorem lo_step1 (l c : Int) (hl : 0 ≤ l ∧ l < 128) (hc : 0 ≤ c ∧ c < 128) : bits .or .u64 (l % 18446744073709551616) (IntKind.u64.wrap (IntKind.u64.wrap c * 128)) = (l + c * 128) % 18446744073709551616 := by
  rw [IntKind.wrap_u64, IntKind.wrap_u64, show l % 18446744073709551616 = l by omega, show c % 18446744073709551616 = c by omega]
  rw [Go.u64_orv7 _ _ (by omega) (by omega) (by omega) (by omega) (by omega)]
  omega
theorem lo_step2 (l c : Int) (hl : 0 ≤ l ∧ l < 16384) (hc : 0 ≤ c ∧ c < 128) : bits .or .u64 (l % 18446744073709551616) (IntKind.u64.wrap (IntKind.u64.wrap c * 16384)) = (l + c * 16384) % 18446744073709551616 := by
  rw [IntKind.wrap_u64, IntKind.wrap_u64, show l % 18446744073709551616 = l by omega, show c % 18446744073709551616 = c by omega]
  rw [Go.u64_orv14 _ _ (by omega) (by omega) (by omega) (by omega) (by omega)]
  omega
theorem lo_step3 (l c : Int) (hl : 0 ≤ l ∧ l < 2097152) (hc : 0 ≤ c ∧ c < 128) : bits .or .u64 (l % 18446744073709551616) (IntKind.u64.wrap (IntKind.u64.wrap c * 2097152)) = (l + c * 2097152) % 18446744073709551616 := by
  rw [IntKind.wrap_u64, IntKind.wrap_u64, show l % 18446744073709551616 = l by omega, show c % 18446744073709551616 = c by omega]
  rw [Go.u64_orv21 _ _ (by omega) (by omega) (by omega) (by omega) (by omega)]
  omega
theorem lo_step4 (l c : Int) (hl : 0 ≤ l ∧ l < 268435456) (hc : 0 ≤ c ∧ c < 128) : bits .or .u64 (l % 18446744073709551616) (IntKind.u64.wrap (IntKind.u64.wrap c * 268435456)) = (l + c * 268435456) % 18446744073709551616 := by
  rw [IntKind.wrap_u64, IntKind.wrap_u64, show l % 18446744073709551616 = l by omega, show c % 18446744073709551616 = c by omega]
  rw [Go.u64_orv28 _ _ (by omega) (by omega) (by omega) (by omega) (by omega)]
  omega
theorem lo_step5 (l c : Int) (hl : 0 ≤ l ∧ l < 34359738368) (hc : 0 ≤ c ∧ c < 128) : bits .or .u64 (l % 18446744073709551616) (IntKind.u64.wrap (IntKind.u64.wrap c * 34359738368)) = (l + c * 34359738368) % 18446744073709551616 := by
  rw [IntKind.wrap_u64, IntKind.wrap_u64, show l % 18446744073709551616 = l by omega, show c % 18446744073709551616 = c by omega]
  rw [Go.u64_orv35 _ _ (by omega) (by omega) (by omega) (by omega) (by omega)]
  omega
theorem lo_step6 (l c : Int) (hl : 0 ≤ l ∧ l < 4398046511104) (hc : 0 ≤ c ∧ c < 128) : bits .or .u64 (l % 18446744073709551616) (IntKind.u64.wrap (IntKind.u64.wrap c * 4398046511104)) = (l + c * 4398046511104) % 18446744073709551616 := by
  rw [IntKind.wrap_u64, IntKind.wrap_u64, show l % 18446744073709551616 = l by omega, show c % 18446744073709551616 = c by omega]
  rw [Go.u64_orv42 _ _ (by omega) (by omega) (by omega) (by omega) (by omega)]
  omega
theorem lo_step7 (l c : Int) (hl : 0 ≤ l ∧ l < 562949953421312) (hc : 0 ≤ c ∧ c < 128) : bits .or .u64 (l % 18446744073709551616) (IntKind.u64.wrap (IntKind.u64.wrap c * 562949953421312)) = (l + c * 562949953421312) % 18446744073709551616 := by
  rw [IntKind.wrap_u64, IntKind.wrap_u64, show l % 18446744073709551616 = l by omega, show c % 18446744073709551616 = c by omega]
  rw [Go.u64_orv49 _ _ (by omega) (by omega) (by omega) (by omega) (by omega)]
  omega
theorem lo_step8 (l c : Int) (hl : 0 ≤ l ∧ l < 72057594037927936) (hc : 0 ≤ c ∧ c < 128) : bits .or .u64 (l % 18446744073709551616) (IntKind.u64.wrap (IntKind.u64.wrap c * 72057594037927936)) = (l + c * 72057594037927936) % 18446744073709551616 := by
  rw [IntKind.wrap_u64, IntKind.wrap_u64, show l % 18446744073709551616 = l by omega, show c % 18446744073709551616 = c by omega]
  rw [Go.u64_orv56 _ _ (by omega) (by omega) (by omega) (by omega) (by omega)]
  omega
theorem lo_step9 (l c : Int) (hl : 0 ≤ l ∧ l < 9223372036854775808) (hc : 0 ≤ c ∧ c < 128) : bits .or .u64 (l % 18446744073709551616) (IntKind.u64.wrap (IntKind.u64.wrap c * 9223372036854775808)) = (l + c * 9223372036854775808) % 18446744073709551616 := by
  rw [IntKind.wrap_u64, IntKind.wrap_u64, show l % 18446744073709551616 = l by omega, show c % 18446744073709551616 = c by omega]
  rw [Go.u64_orv63 _ _ (by omega) (by omega) (by omega) (by omega) (by omega)]
  omega
theorem lo_step (l c : Int) (i : Nat) (hi : i ≤ 9) (hl : 0 ≤ l ∧ l < 128 ^ i) (hc : 0 ≤ c ∧ c < 128) : bits .or .u64 (l % 18446744073709551616) (IntKind.u64.wrap (IntKind.u64.wrap c * 2 ^ (7 * i))) = (l + c * 128 ^ i) % 18446744073709551616 := by
  match i, hi with
  | 0, _ => exact lo_step0 l c (by simpa using hl) hc
  | 1, _ => exact lo_step1 l c (by simpa using hl) hc
  | 2, _ => exact lo_step2 l c (by simpa using hl) hc
  | 3, _ => exact lo_step3 l c (by simpa using hl) hc
  | 4, _ => exact lo_step4 l c (by simpa using hl) hc
  | 5, _ => exact lo_step5 l c (by simpa using hl) hc
  | 6, _ => exact lo_step6 l c (by simpa using hl) hc
  | 7, _ => exact lo_step7 l c (by simpa using hl) hc
  | 8, _ => exact lo_step8 l c (by simpa using hl) hc
  | 9, _ => exact lo_step9 l c (by simpa using hl) hc
/-- the struct that walk hands back -/
def wkV (s : ByteArray) (a : Nat) (K E : Int) : Value := if E = 0 then nbr (lo s a (K.toNat + 1 - a) % 18446744073709551616) (bt s K.toNat) (((K.toNat + 1 - a : Nat) : Int)) else nbr 0 0 0
end Go.Proofs.Ytngciahmoenkiac


/- Over this seat's translation: package leb: Get, by its walk. -/
set_option linter.unusedVariables false
set_option linter.unusedSimpArgs false
set_option maxRecDepth 100000
set_option maxHeartbeats 4000000
namespace Go.Proofs.Ytngciahmoenkiac
open Go.RowKit
end Go.Proofs.Ytngciahmoenkiac


/- Over this seat's translation: package leb: Get, whole; a number with the sign of its last part. -/
set_option linter.unusedVariables false
set_option linter.unusedSimpArgs false
set_option maxRecDepth 100000
set_option maxHeartbeats 4000000
namespace Go.Proofs.Ytngciahmoenkiac
open Go.RowKit
theorem wrap_ex (x : Int) : ∃ q : Int, wrap64 x = x + 18446744073709551616 * q := ⟨-((x + 9223372036854775808) / 18446744073709551616), by unfold wrap64; omega⟩
theorem wrap_wrap (x : Int) : wrap64 (wrap64 x) = wrap64 x := by unfold wrap64; omega
theorem wrap_mod (x : Int) : wrap64 (x % 18446744073709551616) = wrap64 x := by unfold wrap64; omega
theorem ac_lo (s : ByteArray) (a : Nat) : ∀ (j : Nat) (x : Int), wrap64 x = x → ac s a j x = wrap64 (lo s a j + x * 128 ^ j)
  | 0, x, h => by simp [ac, lo, h]
  | j + 1, x, h => by
    simp only [ac]
    rw [ac_lo s a j _ (wrap_wrap _)]
    obtain ⟨q, hq⟩ := wrap_ex (x * 128 + bt s (a + j) % 128)
    rw [hq]
    refine wrap_of (q * 128 ^ j) ?_
    simp only [lo, Int.pow_succ]
    generalize bt s (a + j) % 128 = c
    generalize (128 : Int) ^ j = P
    rw [Int.add_mul, Int.add_mul, Int.mul_assoc x 128 P, Int.mul_comm 128 P, Int.mul_assoc 18446744073709551616 q P]
    omega
end Go.Proofs.Ytngciahmoenkiac


/- Over this seat's translation: package leb: GetSigned, whole. -/
set_option linter.unusedVariables false
set_option linter.unusedSimpArgs false
set_option maxRecDepth 100000
set_option maxHeartbeats 4000000
namespace Go.Proofs.Ytngciahmoenkiac
open Go.RowKit
/-- a part's bits below its last as a number with its sign -/
theorem sv_of (b : Int) (hb : 0 ≤ b ∧ b < 128) : IntKind.i8.wrap (b * 2) / 2 = if b < 64 then b else b - 128 := by
  have h : ∀ n : Nat, n < 128 → IntKind.i8.wrap ((n : Int) * 2) / 2 = if (n : Int) < 64 then (n : Int) else (n : Int) - 128 := by decide +kernel
  have := h b.toNat (by omega)
  rwa [Int.toNat_of_nonneg hb.1] at this
theorem sx_1 (l c : Int) (hl : 0 ≤ l ∧ l < 1) (hc : 0 ≤ c ∧ c < 128) : wrap64 (IntKind.u64.wrap ((l + c * 1) % 18446744073709551616 * 144115188075855872)) / 144115188075855872 = wrap64 (l + c * 1 + (if c < 64 then 0 else -1) * 128) := by
  rw [IntKind.wrap_u64]
  unfold wrap64
  split <;> omega
theorem sx_2 (l c : Int) (hl : 0 ≤ l ∧ l < 128) (hc : 0 ≤ c ∧ c < 128) : wrap64 (IntKind.u64.wrap ((l + c * 128) % 18446744073709551616 * 1125899906842624)) / 1125899906842624 = wrap64 (l + c * 128 + (if c < 64 then 0 else -1) * 16384) := by
  rw [IntKind.wrap_u64]
  unfold wrap64
  split <;> omega
theorem sx_3 (l c : Int) (hl : 0 ≤ l ∧ l < 16384) (hc : 0 ≤ c ∧ c < 128) : wrap64 (IntKind.u64.wrap ((l + c * 16384) % 18446744073709551616 * 8796093022208)) / 8796093022208 = wrap64 (l + c * 16384 + (if c < 64 then 0 else -1) * 2097152) := by
  rw [IntKind.wrap_u64]
  unfold wrap64
  split <;> omega
theorem sx_4 (l c : Int) (hl : 0 ≤ l ∧ l < 2097152) (hc : 0 ≤ c ∧ c < 128) : wrap64 (IntKind.u64.wrap ((l + c * 2097152) % 18446744073709551616 * 68719476736)) / 68719476736 = wrap64 (l + c * 2097152 + (if c < 64 then 0 else -1) * 268435456) := by
  rw [IntKind.wrap_u64]
  unfold wrap64
  split <;> omega
theorem sx_5 (l c : Int) (hl : 0 ≤ l ∧ l < 268435456) (hc : 0 ≤ c ∧ c < 128) : wrap64 (IntKind.u64.wrap ((l + c * 268435456) % 18446744073709551616 * 536870912)) / 536870912 = wrap64 (l + c * 268435456 + (if c < 64 then 0 else -1) * 34359738368) := by
  rw [IntKind.wrap_u64]
  unfold wrap64
  split <;> omega
theorem sx_6 (l c : Int) (hl : 0 ≤ l ∧ l < 34359738368) (hc : 0 ≤ c ∧ c < 128) : wrap64 (IntKind.u64.wrap ((l + c * 34359738368) % 18446744073709551616 * 4194304)) / 4194304 = wrap64 (l + c * 34359738368 + (if c < 64 then 0 else -1) * 4398046511104) := by
  rw [IntKind.wrap_u64]
  unfold wrap64
  split <;> omega
theorem sx_7 (l c : Int) (hl : 0 ≤ l ∧ l < 4398046511104) (hc : 0 ≤ c ∧ c < 128) : wrap64 (IntKind.u64.wrap ((l + c * 4398046511104) % 18446744073709551616 * 32768)) / 32768 = wrap64 (l + c * 4398046511104 + (if c < 64 then 0 else -1) * 562949953421312) := by
  rw [IntKind.wrap_u64]
  unfold wrap64
  split <;> omega
theorem sx_8 (l c : Int) (hl : 0 ≤ l ∧ l < 562949953421312) (hc : 0 ≤ c ∧ c < 128) : wrap64 (IntKind.u64.wrap ((l + c * 562949953421312) % 18446744073709551616 * 256)) / 256 = wrap64 (l + c * 562949953421312 + (if c < 64 then 0 else -1) * 72057594037927936) := by
  rw [IntKind.wrap_u64]
  unfold wrap64
  split <;> omega
theorem sx_9 (l c : Int) (hl : 0 ≤ l ∧ l < 72057594037927936) (hc : 0 ≤ c ∧ c < 128) : wrap64 (IntKind.u64.wrap ((l + c * 72057594037927936) % 18446744073709551616 * 2)) / 2 = wrap64 (l + c * 72057594037927936 + (if c < 64 then 0 else -1) * 9223372036854775808) := by
  rw [IntKind.wrap_u64]
  unfold wrap64
  split <;> omega
theorem sx_10 (l c : Int) (hl : 0 ≤ l ∧ l < 9223372036854775808) (hc : 0 ≤ c ∧ c < 128) : wrap64 (IntKind.u64.wrap ((l + c * 9223372036854775808) % 18446744073709551616 * 1)) / 1 = wrap64 (l + c * 9223372036854775808 + (if c < 64 then 0 else -1) * 1180591620717411303424) := by
  rw [IntKind.wrap_u64]
  unfold wrap64
  split <;> omega
theorem s3_1 (l c : Int) (hl : 0 ≤ l ∧ l < 1) (hc : 0 ≤ c ∧ c < 128) : wrap64 (l + c * 1 + (if c < 64 then 0 else -1) * 128) = sg3 (wrap64 (l + c * 1 + (if c < 64 then 0 else -1) * 128)) := by
  unfold sg3 wrap64
  split <;> split <;> omega
theorem s3_2 (l c : Int) (hl : 0 ≤ l ∧ l < 128) (hc : 0 ≤ c ∧ c < 128) : wrap64 (l + c * 128 + (if c < 64 then 0 else -1) * 16384) = sg3 (wrap64 (l + c * 128 + (if c < 64 then 0 else -1) * 16384)) := by
  unfold sg3 wrap64
  split <;> split <;> omega
theorem s3_3 (l c : Int) (hl : 0 ≤ l ∧ l < 16384) (hc : 0 ≤ c ∧ c < 128) : wrap64 (l + c * 16384 + (if c < 64 then 0 else -1) * 2097152) = sg3 (wrap64 (l + c * 16384 + (if c < 64 then 0 else -1) * 2097152)) := by
  unfold sg3 wrap64
  split <;> split <;> omega
theorem s3_4 (l c : Int) (hl : 0 ≤ l ∧ l < 2097152) (hc : 0 ≤ c ∧ c < 128) : wrap64 (l + c * 2097152 + (if c < 64 then 0 else -1) * 268435456) = sg3 (wrap64 (l + c * 2097152 + (if c < 64 then 0 else -1) * 268435456)) := by
  unfold sg3 wrap64
  split <;> split <;> omega
theorem s3_5 (l c : Int) (hl : 0 ≤ l ∧ l < 268435456) (hc : 0 ≤ c ∧ c < 128) (h8 : c / 8 = 0 ∨ c / 8 = 15) : wrap64 (l + c * 268435456 + (if c < 64 then 0 else -1) * 34359738368) = sg3 (wrap64 (l + c * 268435456 + (if c < 64 then 0 else -1) * 34359738368)) := by
  unfold sg3 wrap64
  split <;> split <;> omega
end Go.Proofs.Ytngciahmoenkiac


/- Over this seat's translation: package leb: GetSigned is the document's. -/
set_option linter.unusedVariables false
set_option linter.unusedSimpArgs false
set_option maxRecDepth 100000
set_option maxHeartbeats 4000000
namespace Go.Proofs.Ytngciahmoenkiac
open Go.RowKit
theorem ac_sign (s : ByteArray) (a j : Nat) (c : Int) : ac s a j (if c < 64 then 0 else -1) = wrap64 (lo s a j + (if c < 64 then 0 else -1) * 128 ^ j) := ac_lo s a j _ (by unfold wrap64; split <;> omega)
theorem lo_at1 (s : ByteArray) (a : Nat) : lo s a 1 = lo s a 0 + bt s (a + 0) % 128 * 1 := by
  show lo s a 0 + bt s (a + 0) % 128 * (128 : Int) ^ 0 = _
  rw [show (128 : Int) ^ 0 = 1 by decide]
theorem lo_in1 (s : ByteArray) (a : Nat) : 0 ≤ lo s a 0 ∧ lo s a 0 < 1 := by
  have := lo_rng s a 0
  rwa [show (128 : Int) ^ 0 = 1 by decide] at this
theorem lo_at2 (s : ByteArray) (a : Nat) : lo s a 2 = lo s a 1 + bt s (a + 1) % 128 * 128 := by
  show lo s a 1 + bt s (a + 1) % 128 * (128 : Int) ^ 1 = _
  rw [show (128 : Int) ^ 1 = 128 by decide]
theorem lo_in2 (s : ByteArray) (a : Nat) : 0 ≤ lo s a 1 ∧ lo s a 1 < 128 := by
  have := lo_rng s a 1
  rwa [show (128 : Int) ^ 1 = 128 by decide] at this
theorem lo_at3 (s : ByteArray) (a : Nat) : lo s a 3 = lo s a 2 + bt s (a + 2) % 128 * 16384 := by
  show lo s a 2 + bt s (a + 2) % 128 * (128 : Int) ^ 2 = _
  rw [show (128 : Int) ^ 2 = 16384 by decide]
theorem lo_in3 (s : ByteArray) (a : Nat) : 0 ≤ lo s a 2 ∧ lo s a 2 < 16384 := by
  have := lo_rng s a 2
  rwa [show (128 : Int) ^ 2 = 16384 by decide] at this
theorem lo_at4 (s : ByteArray) (a : Nat) : lo s a 4 = lo s a 3 + bt s (a + 3) % 128 * 2097152 := by
  show lo s a 3 + bt s (a + 3) % 128 * (128 : Int) ^ 3 = _
  rw [show (128 : Int) ^ 3 = 2097152 by decide]
theorem lo_in4 (s : ByteArray) (a : Nat) : 0 ≤ lo s a 3 ∧ lo s a 3 < 2097152 := by
  have := lo_rng s a 3
  rwa [show (128 : Int) ^ 3 = 2097152 by decide] at this
theorem lo_at5 (s : ByteArray) (a : Nat) : lo s a 5 = lo s a 4 + bt s (a + 4) % 128 * 268435456 := by
  show lo s a 4 + bt s (a + 4) % 128 * (128 : Int) ^ 4 = _
  rw [show (128 : Int) ^ 4 = 268435456 by decide]
theorem lo_in5 (s : ByteArray) (a : Nat) : 0 ≤ lo s a 4 ∧ lo s a 4 < 268435456 := by
  have := lo_rng s a 4
  rwa [show (128 : Int) ^ 4 = 268435456 by decide] at this
theorem lo_at6 (s : ByteArray) (a : Nat) : lo s a 6 = lo s a 5 + bt s (a + 5) % 128 * 34359738368 := by
  show lo s a 5 + bt s (a + 5) % 128 * (128 : Int) ^ 5 = _
  rw [show (128 : Int) ^ 5 = 34359738368 by decide]
theorem lo_in6 (s : ByteArray) (a : Nat) : 0 ≤ lo s a 5 ∧ lo s a 5 < 34359738368 := by
  have := lo_rng s a 5
  rwa [show (128 : Int) ^ 5 = 34359738368 by decide] at this
theorem lo_at7 (s : ByteArray) (a : Nat) : lo s a 7 = lo s a 6 + bt s (a + 6) % 128 * 4398046511104 := by
  show lo s a 6 + bt s (a + 6) % 128 * (128 : Int) ^ 6 = _
  rw [show (128 : Int) ^ 6 = 4398046511104 by decide]
theorem lo_in7 (s : ByteArray) (a : Nat) : 0 ≤ lo s a 6 ∧ lo s a 6 < 4398046511104 := by
  have := lo_rng s a 6
  rwa [show (128 : Int) ^ 6 = 4398046511104 by decide] at this
theorem lo_at8 (s : ByteArray) (a : Nat) : lo s a 8 = lo s a 7 + bt s (a + 7) % 128 * 562949953421312 := by
  show lo s a 7 + bt s (a + 7) % 128 * (128 : Int) ^ 7 = _
  rw [show (128 : Int) ^ 7 = 562949953421312 by decide]
theorem lo_in8 (s : ByteArray) (a : Nat) : 0 ≤ lo s a 7 ∧ lo s a 7 < 562949953421312 := by
  have := lo_rng s a 7
  rwa [show (128 : Int) ^ 7 = 562949953421312 by decide] at this
theorem lo_at9 (s : ByteArray) (a : Nat) : lo s a 9 = lo s a 8 + bt s (a + 8) % 128 * 72057594037927936 := by
  show lo s a 8 + bt s (a + 8) % 128 * (128 : Int) ^ 8 = _
  rw [show (128 : Int) ^ 8 = 72057594037927936 by decide]
theorem lo_in9 (s : ByteArray) (a : Nat) : 0 ≤ lo s a 8 ∧ lo s a 8 < 72057594037927936 := by
  have := lo_rng s a 8
  rwa [show (128 : Int) ^ 8 = 72057594037927936 by decide] at this
theorem lo_at10 (s : ByteArray) (a : Nat) : lo s a 10 = lo s a 9 + bt s (a + 9) % 128 * 9223372036854775808 := by
  show lo s a 9 + bt s (a + 9) % 128 * (128 : Int) ^ 9 = _
  rw [show (128 : Int) ^ 9 = 9223372036854775808 by decide]
theorem lo_in10 (s : ByteArray) (a : Nat) : 0 ≤ lo s a 9 ∧ lo s a 9 < 9223372036854775808 := by
  have := lo_rng s a 9
  rwa [show (128 : Int) ^ 9 = 9223372036854775808 by decide] at this
theorem sgv_1 (s : ByteArray) (a : Nat) : ac s a 1 (if bt s (a + 0) % 128 < 64 then 0 else -1) = sg3 (ac s a 1 (if bt s (a + 0) % 128 < 64 then 0 else -1)) := by
  rw [ac_sign, lo_at1, show (128 : Int) ^ 1 = 128 by decide]
  exact s3_1 _ _ (lo_in1 s a) (by omega)
theorem sgv_2 (s : ByteArray) (a : Nat) : ac s a 2 (if bt s (a + 1) % 128 < 64 then 0 else -1) = sg3 (ac s a 2 (if bt s (a + 1) % 128 < 64 then 0 else -1)) := by
  rw [ac_sign, lo_at2, show (128 : Int) ^ 2 = 16384 by decide]
  exact s3_2 _ _ (lo_in2 s a) (by omega)
theorem sgv_3 (s : ByteArray) (a : Nat) : ac s a 3 (if bt s (a + 2) % 128 < 64 then 0 else -1) = sg3 (ac s a 3 (if bt s (a + 2) % 128 < 64 then 0 else -1)) := by
  rw [ac_sign, lo_at3, show (128 : Int) ^ 3 = 2097152 by decide]
  exact s3_3 _ _ (lo_in3 s a) (by omega)
theorem sgv_4 (s : ByteArray) (a : Nat) : ac s a 4 (if bt s (a + 3) % 128 < 64 then 0 else -1) = sg3 (ac s a 4 (if bt s (a + 3) % 128 < 64 then 0 else -1)) := by
  rw [ac_sign, lo_at4, show (128 : Int) ^ 4 = 268435456 by decide]
  exact s3_4 _ _ (lo_in4 s a) (by omega)
theorem sgv_5 (s : ByteArray) (a : Nat) (h8 : bt s (a + 4) % 128 / 8 = 0 ∨ bt s (a + 4) % 128 / 8 = 15) : ac s a 5 (if bt s (a + 4) % 128 < 64 then 0 else -1) = sg3 (ac s a 5 (if bt s (a + 4) % 128 < 64 then 0 else -1)) := by
  rw [ac_sign, lo_at5, show (128 : Int) ^ 5 = 34359738368 by decide]
  exact s3_5 _ _ (lo_in5 s a) (by omega) h8
theorem sg_any (s : ByteArray) (a j : Nat) (hj : j ≤ 4) (h8 : j = 4 → bt s (a + j) % 128 / 8 = 0 ∨ bt s (a + j) % 128 / 8 = 15) : ac s a (j + 1) (if bt s (a + j) % 128 < 64 then 0 else -1) = sg3 (ac s a (j + 1) (if bt s (a + j) % 128 < 64 then 0 else -1)) := by
  match j, hj, h8 with
  | 0, _, h => exact sgv_1 s a
  | 1, _, h => exact sgv_2 s a
  | 2, _, h => exact sgv_3 s a
  | 3, _, h => exact sgv_4 s a
  | 4, _, h => exact sgv_5 s a (h rfl)
end Go.Proofs.Ytngciahmoenkiac

