/- Over this seat's translation: numbers in parts of 7 bits with their sign: the document's Sleb. -/
import Derived.Test.YtljogkiibpinaaaLA
import Derived.Test.YtljogkiibpinaaaMath
set_option linter.unusedVariables false
set_option linter.unusedSimpArgs false
set_option maxRecDepth 100000
set_option maxHeartbeats 4000000
namespace Go.Proofs.Ytljogkiibpinaaa
open Go.RowKit
def slebF : Nat → Int → List Int
  | 0, x => [x % 128]
  | r + 1, x => if -64 ≤ x ∧ x ≤ 63 then [x % 128] else (x % 128 + 128) :: slebF r (x / 128)
def slebL (x : Int) : List Int := slebF 9 x
theorem slebF_byte : ∀ (r : Nat) (x : Int), ∀ b ∈ slebF r x, 0 ≤ b ∧ b < 256
  | 0, x, b, hb => by
    simp only [slebF, List.mem_cons, List.not_mem_nil, or_false] at hb
    omega
  | r + 1, x, b, hb => by
    unfold slebF at hb
    by_cases hx : -64 ≤ x ∧ x ≤ 63
    · rw [if_pos hx] at hb
      simp only [List.mem_cons, List.not_mem_nil, or_false] at hb
      omega
    · rw [if_neg hx] at hb
      rcases List.mem_cons.1 hb with rfl | hb
      · omega
      · exact slebF_byte r (x / 128) b hb
theorem or_128 (y : Int) : bits .or .i64 (y % 128) 128 = y % 128 + 128 := by
  have h : ∀ n : Nat, n < 128 → bits .or .i64 (n : Int) 128 = (n : Int) + 128 := by decide +kernel
  have := h (y % 128).toNat (by omega)
  rwa [Int.toNat_of_nonneg (by omega)] at this
theorem sleb_any (x : Int) (hx : -9223372036854775808 ≤ x ∧ x ≤ 9223372036854775807) (w : World) :
    Calls Try.prog 16 #[.int .i64 x] w fun e w' => e = .returned (.string (strOfNums (slebL x))) ∧ Later w w' := by
  have hbs : Hid (∀ b ∈ slebL x, 0 ≤ b ∧ b < 256) := slebF_byte 9 x
  go_enter Try.func16, Try.ntmps16
  go_wp2_with fail
  go_loopw [3, 0] (fun v i wr => ∃ (r : Nat) (d : List Int) (y : Int), i = .int .i64 y ∧ -(64 * 128 ^ r) ≤ y ∧ y < 64 * 128 ^ r ∧ (-9223372036854775808 ≤ y ∧ y ≤ 9223372036854775807) ∧ d.length + r ≤ 9 ∧ Later w wr ∧ Byt w wr v d ∧ d ++ slebF r y = slebL x) (fun v i _ => (intOf i).natAbs)
  case atStart => exact ⟨9, [], x, rfl, by omega, by omega, hx, by simp, Lz _, byt_nil _ _, rfl⟩
  case round =>
    obtain ⟨r, d, y, rfl, h0, h1, h64, hd, hL, hB, he⟩ := hrel
    obtain ⟨A, cap, rfl⟩ := hB.form
    have ha : bits .and .i64 y 127 = y % 128 := by rw [show (127 : Int) = ((2 ^ 7 : Nat) - 1 : Int) by decide, BM.and_mask y 7 (by decide)]; rfl
    by_cases hy : -64 ≤ y ∧ y ≤ 63
    · obtain ⟨g, c2, w2, r2, l2, B2⟩ := byt_more hL hB (y % 128) (by omega)
      have he2 : d ++ [y % 128] = slebL x := by
        rw [← he]
        cases r with
        | zero => rfl
        | succ r => unfold slebF; rw [if_pos hy]
      rw [he2] at B2
      have hlen : d.length + 1 = (slebL x).length := by rw [← he2]; simp
      have hs := byt_str B2 hlen hbs.out
      rw [hlen] at hs r2
      replace r2 : Hid _ := r2
      have hy2 : IntKind.u8.wrap (y % 128) = y % 128 := by rw [IntKind.wrap_u8]; omega
      replace l2 : Hid (Later w w2) := l2
      have hy3 : ¬ y < -64 := by omega
      have hy4 : ¬ 63 < y := by omega
      clear hlen he2 B2 hB hL he hy
      replace h0 : Hid _ := h0
      replace h1 : Hid _ := h1
      go_wp2_with (at_builtin; refine wpList_app rfl _ _ 31 rfl _ _ _ rfl rfl r2.out ?_)
      go_ret
      exact ⟨rfl, l2.out⟩
    · obtain ⟨r', rfl⟩ : ∃ r', r = r' + 1 := by
        cases r with
        | zero => exact absurd ⟨by simpa using h0, by simp at h1; omega⟩ hy
        | succ r => exact ⟨r, rfl⟩
      obtain ⟨g, c2, w2, r2, l2, B2⟩ := byt_more hL hB (y % 128 + 128) (by omega)
      have he2 : (d ++ [y % 128 + 128]) ++ slebF r' (y / 128) = slebL x := by
        rw [← he]
        simp [slebF, hy]
      have hor := or_128 y
      have hw : IntKind.u8.wrap (y % 128 + 128) = y % 128 + 128 := by rw [IntKind.wrap_u8]; omega
      have k0 : -(64 * 128 ^ r') ≤ y / 128 := by rw [Int.pow_succ] at h0; omega
      have k1 : y / 128 < 64 * 128 ^ r' := by rw [Int.pow_succ] at h1; omega
      replace r2 : Hid _ := r2
      replace l2 : Hid (Later w w2) := l2
      replace B2 : Hid (Byt w w2 _ (d ++ [y % 128 + 128])) := B2
      replace he2 : Hid _ := he2
      replace h1 : Hid _ := h1
      replace h0 : Hid _ := h0
      replace k0 : Hid (-(64 * 128 ^ r') ≤ y / 128) := k0
      replace k1 : Hid (y / 128 < 64 * 128 ^ r') := k1
      replace hy : y < -64 ∨ (¬ y < -64 ∧ 63 < y) := by omega
      clear hB hL he
      rcases hy with hy | ⟨hy, hy2⟩
      all_goals
        go_wp2_with (at_builtin; refine wpList_app rfl _ _ 31 rfl _ _ _ rfl rfl r2.out ?_)
        go_roundw
        case rel => exact ⟨r', _, y / 128, by simp, k0.out, k1.out, by omega, by simp; omega, l2.out, by simpa using B2.out, he2.out⟩
        case measure => simp [intOf]; omega
end Go.Proofs.Ytljogkiibpinaaa
