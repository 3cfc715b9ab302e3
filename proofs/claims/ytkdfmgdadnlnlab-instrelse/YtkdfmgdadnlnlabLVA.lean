/- Over this seat's translation: package leb: numbers written in parts, without sign and with it. -/
import Derived.Test.YtkdfmgdadnlnlabXC
set_option linter.unusedVariables false
set_option linter.unusedSimpArgs false
set_option maxRecDepth 100000
set_option maxHeartbeats 4000000
namespace Go.Proofs.Ytkdfmgdadnlnlab
open Go.RowKit
theorem or8 (y : Int) : bits .or .u8 (IntKind.u8.wrap y) 128 = y % 128 + 128 := by
  have h : ∀ n : Nat, n < 256 → bits .or .u8 (n : Int) 128 = (n : Int) % 128 + 128 := by decide +kernel
  have := h (y % 256).toNat (by omega)
  rw [Int.toNat_of_nonneg (by omega)] at this
  rw [IntKind.wrap_u8, this]
  omega
theorem andNot8 (y : Int) : bits .andNot .u8 (IntKind.u8.wrap y) 128 = y % 128 := by
  have h : ∀ n : Nat, n < 256 → bits .andNot .u8 (n : Int) 128 = (n : Int) % 128 := by decide +kernel
  have := h (y % 256).toNat (by omega)
  rw [Int.toNat_of_nonneg (by omega)] at this
  rw [IntKind.wrap_u8, this]
  omega
theorem or8m (y : Int) : bits .or .u8 (y % 256) 128 = y % 128 + 128 := by rw [← IntKind.wrap_u8]; exact or8 y
theorem andNot8m (y : Int) : bits .andNot .u8 (y % 256) 128 = y % 128 := by rw [← IntKind.wrap_u8]; exact andNot8 y
theorem put_any (x : Int) (hx : -9223372036854775808 ≤ x ∧ x ≤ 9223372036854775807) (w : World) :
    Calls Try.prog 50 #[.int .i64 x] w fun e w' => e = .returned (.string (strOfNums (lebL x))) ∧ Later w w' := by
  clear hx
  have hbs := lebL_byte x
  replace hbs : Hid _ := hbs
  go_enter Try.func50, Try.ntmps50
  go_wp2_with fail
  go_loopw [3, 4] (fun v i wr => ∃ (r : Nat) (d : List Int) (y : Int), i = .int .u64 y ∧ 0 ≤ y ∧ y < 2 * 128 ^ r ∧ y < 18446744073709551616 ∧ d.length + r ≤ 9 ∧ Later w wr ∧ Byt w wr v d ∧ d ++ lebF r y = lebL x) (fun v i _ => (intOf i).toNat)
  case atStart => exact ⟨9, [], IntKind.u64.wrap x, rfl, by rw [IntKind.wrap_u64]; omega, by rw [IntKind.wrap_u64]; have := Int.emod_lt_of_pos x (show (0 : Int) < 18446744073709551616 by decide); omega, by rw [IntKind.wrap_u64]; omega, by simp, Lz _, byt_nil _ _, by rw [IntKind.wrap_u64]; rfl⟩
  case round =>
    obtain ⟨r, d, y, rfl, h0, h1, h64, hd, hL, hB, he⟩ := hrel
    obtain ⟨A, cap, rfl⟩ := hB.form
    by_cases hy : y < 128
    · obtain ⟨g, c2, w2, r2, l2, B2⟩ := byt_more hL hB y (by omega)
      have he2 : d ++ [y] = lebL x := by
        rw [← he]
        cases r with
        | zero => rfl
        | succ r => unfold lebF; rw [if_pos hy]
      rw [he2] at B2
      have hlen : d.length + 1 = (lebL x).length := by rw [← he2]; simp
      have hs := byt_str B2 hlen hbs.out
      rw [hlen] at hs r2
      replace r2 : Hid _ := r2
      clear hlen he2
      have hy2 : IntKind.u8.wrap y = y := by rw [IntKind.wrap_u8]; omega
      have hy3 : ¬ 128 ≤ y := by omega
      replace l2 : Hid (Later w w2) := l2
      clear B2 hB hL he
      go_wp2_with (at_builtin; refine wpList_app rfl _ _ 39 rfl _ _ _ rfl rfl r2.out ?_)
      go_ret
      exact ⟨rfl, l2.out⟩
    · obtain ⟨r', rfl⟩ : ∃ r', r = r' + 1 := by
        cases r with
        | zero => exact absurd h1 (by simp; omega)
        | succ r => exact ⟨r, rfl⟩
      obtain ⟨g, c2, w2, r2, l2, B2⟩ := byt_more hL hB (y % 128 + 128) (by omega)
      have he2 : (d ++ [y % 128 + 128]) ++ lebF r' (y / 128) = lebL x := by
        rw [← he]
        simp [lebF, hy]
      have hw := or8 y
      have hwm := or8m y
      have hy3 : 128 ≤ y := by omega
      have h128 : y / 128 < 2 * 128 ^ r' := by rw [Int.pow_succ] at h1; omega
      have hw2 : IntKind.u64.wrap (y / 128) = y / 128 := by rw [IntKind.wrap_u64]; omega
      replace r2 : Hid _ := r2
      replace l2 : Hid (Later w w2) := l2
      replace B2 : Hid (Byt w w2 _ (d ++ [y % 128 + 128])) := B2
      replace he2 : Hid _ := he2
      replace h1 : Hid _ := h1
      replace h128 : Hid (y / 128 < 2 * 128 ^ r') := h128
      clear hB hL he
      go_wp2_with (at_builtin; refine wpList_app rfl _ _ 39 rfl _ _ _ rfl rfl r2.out ?_)
      go_roundw
      case rel => exact ⟨r', _, y / 128, by simp [hw2], by omega, h128.out, by omega, by simp; omega, l2.out, by simpa using B2.out, he2.out⟩
      case measure => simp [intOf, hw2]; omega
theorem puts_any (x : Int) (hx : -9223372036854775808 ≤ x ∧ x ≤ 9223372036854775807) (w : World) :
    Calls Try.prog 51 #[.int .i64 x] w fun e w' => e = .returned (.string (strOfNums (slebL x))) ∧ Later w w' := by
  have hbs : Hid (∀ b ∈ slebL x, 0 ≤ b ∧ b < 256) := slebF_byte 9 x
  go_enter Try.func51, Try.ntmps51
  go_wp2_with fail
  go_loopw [3, 0] (fun v i wr => ∃ (r : Nat) (d : List Int) (y : Int), i = .int .i64 y ∧ -(64 * 128 ^ r) ≤ y ∧ y < 64 * 128 ^ r ∧ (-9223372036854775808 ≤ y ∧ y ≤ 9223372036854775807) ∧ d.length + r ≤ 9 ∧ Later w wr ∧ Byt w wr v d ∧ d ++ slebF r y = slebL x) (fun v i _ => (intOf i).natAbs)
  case atStart => exact ⟨9, [], x, rfl, by omega, by omega, hx, by simp, Lz _, byt_nil _ _, rfl⟩
  case round =>
    obtain ⟨r, d, y, rfl, h0, h1, h64, hd, hL, hB, he⟩ := hrel
    obtain ⟨A, cap, rfl⟩ := hB.form
    by_cases hy : -64 ≤ y ∧ y ≤ 63
    · obtain ⟨g, c2, w2, r2, l2, B2⟩ := byt_more hL hB (y % 128) (by omega)
      have he2 : d ++ [y % 128] = slebL x := by
        rw [← he]
        cases r with
        | zero => rfl
        | succ r => unfold slebF; rw [if_pos hy]
      rw [he2] at B2
      have hlen : d.length + 1 = (slebL x).length := by rw [← he2]; simp
      have hs := byt_str B2 hlen hbs.out
      rw [hlen] at hs r2
      replace r2 : Hid _ := r2
      have hy2 := andNot8 y
      have hwm := andNot8m y
      replace l2 : Hid (Later w w2) := l2
      have hy3 : ¬ y < -64 := by omega
      have hy4 : ¬ 63 < y := by omega
      clear hlen he2 B2 hB hL he hy
      replace h0 : Hid _ := h0
      replace h1 : Hid _ := h1
      go_wp2_with (at_builtin; refine wpList_app rfl _ _ 39 rfl _ _ _ rfl rfl r2.out ?_)
      go_ret
      exact ⟨rfl, l2.out⟩
    · obtain ⟨r', rfl⟩ : ∃ r', r = r' + 1 := by
        cases r with
        | zero => exact absurd ⟨by simpa using h0, by simp at h1; omega⟩ hy
        | succ r => exact ⟨r, rfl⟩
      obtain ⟨g, c2, w2, r2, l2, B2⟩ := byt_more hL hB (y % 128 + 128) (by omega)
      have he2 : (d ++ [y % 128 + 128]) ++ slebF r' (y / 128) = slebL x := by
        rw [← he]
        simp [slebF, hy]
      have hor := or8 y
      have hwm := or8m y
      have k0 : -(64 * 128 ^ r') ≤ y / 128 := by rw [Int.pow_succ] at h0; omega
      have k1 : y / 128 < 64 * 128 ^ r' := by rw [Int.pow_succ] at h1; omega
      replace r2 : Hid _ := r2
      replace l2 : Hid (Later w w2) := l2
      replace B2 : Hid (Byt w w2 _ (d ++ [y % 128 + 128])) := B2
      replace he2 : Hid _ := he2
      replace h1 : Hid _ := h1
      replace h0 : Hid _ := h0
      replace k0 : Hid (-(64 * 128 ^ r') ≤ y / 128) := k0
      replace k1 : Hid (y / 128 < 64 * 128 ^ r') := k1
      replace hy : y < -64 ∨ (¬ y < -64 ∧ 63 < y) := by omega
      clear hB hL he
      rcases hy with hy | ⟨hy, hy2⟩
      all_goals
        go_wp2_with (at_builtin; refine wpList_app rfl _ _ 39 rfl _ _ _ rfl rfl r2.out ?_)
        go_roundw
        case rel => exact ⟨r', _, y / 128, by simp, k0.out, k1.out, by omega, by simp; omega, l2.out, by simpa using B2.out, he2.out⟩
        case measure => simp [intOf]; omega
end Go.Proofs.Ytkdfmgdadnlnlab
