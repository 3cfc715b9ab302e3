/- Over this seat's translation: package leb: parts walked, with what they hold. -/
import Derived.Test.YtkdfmgdadnlnlaaLVB
import Derived.Lib.VarintBits
set_option linter.unusedVariables false
set_option linter.unusedSimpArgs false
set_option maxRecDepth 100000
set_option maxHeartbeats 4000000
namespace Go.Proofs.Ytkdfmgdadnlnlaa
open Go.RowKit
/-- what the first parts hold -/
def lo (s : ByteArray) (a : Nat) : Nat → Int
  | 0 => 0
  | j + 1 => lo s a j + bt s (a + j) % 128 * 128 ^ j
theorem lo_rng (s : ByteArray) (a : Nat) : ∀ j : Nat, 0 ≤ lo s a j ∧ lo s a j < 128 ^ j
  | 0 => by simp [lo]
  | j + 1 => by
    have ih := lo_rng s a j
    have hb : 0 ≤ bt s (a + j) % 128 ∧ bt s (a + j) % 128 ≤ 127 := by omega
    simp only [lo, Int.pow_succ]
    generalize bt s (a + j) % 128 = b at *
    generalize lo s a j = l at *
    generalize hP : (128 : Int) ^ j = P at *
    have h1 : b * P ≤ 127 * P := Int.mul_le_mul_of_nonneg_right hb.2 (by omega)
    have h2 : 0 ≤ b * P := Int.mul_nonneg hb.1 (by omega)
    omega
theorem andNot_part (b : Int) (h : 0 ≤ b ∧ b < 256) : bits .andNot .u8 b 128 = b % 128 := by
  have hh : ∀ n : Nat, n < 256 → bits .andNot .u8 (n : Int) 128 = (n : Int) % 128 := by decide +kernel
  have := hh b.toNat (by omega)
  rwa [Int.toNat_of_nonneg h.1] at this
theorem lo_step0 (l c : Int) (hl : 0 ≤ l ∧ l < 1) (hc : 0 ≤ c ∧ c < 128) : bits .or .u64 (l % 18446744073709551616) (IntKind.u64.wrap (IntKind.u64.wrap c * 1)) = (l + c * 1) % 18446744073709551616 := by
  rw [IntKind.wrap_u64, IntKind.wrap_u64, show l % 18446744073709551616 = l by omega, show c % 18446744073709551616 = c by omega]
  rw [Go.u64_orv0 _ _ (by omega) (by omega) (by omega) (by omega) (by omega)]
  omega
theorem lo_step1 (l c : Int) (hl : 0 ≤ l ∧ l < 128) (hc : 0 ≤ c ∧ c < 128) : bits .or .u64 (l % 18446744073709551616) (IntKind.u64.wrap (IntKind.u64.wrap c * 128)) = (l + c * 128) % 18446744073709551616 := by
  rw [IntKind.wrap_u64, IntKind.wrap_u64, show l % 18446744073709551616 = l by omega, show c % 18446744073709551616 = c by omega]
  rw [Go.u64_orv7 _ _ (by omega) (by omega) (by omega) (by omega) (by omega)]
  omega
theorem lo_step2 (l c : Int) (hl : 0 ≤ l ∧ l < 16384) (hc : 0 ≤ c ∧ c < 128) : bits .or .u64 (l % 18446744073709551616) (IntKind.u64.wrap (IntKind.u64.wrap c * 16384)) = (l + c * 16384) % 18446744073709551616 := by
  rw [IntKind.wrap_u64, IntKind.wrap_u64, show l % 18446744073709551616 = l by omega, show c % 18446744073709551616 = c by omega]
  rw [Go.u64_orv14 _ _ (by omega) (by omega) (by omega) (by omega) (by omega)]
  omega
theorem lo_step3 (l c : Int) (hl : 0 ≤ l ∧ l < 2097152) (hc : 0 ≤ c ∧ c < 128) : bits .or .u64 (l % 18446744073709551616) (IntKind.u64.wrap (IntKind.u64.wrap c * 2097152)) = (l + c * 2097152) % 18446744073709551616 := by
  rw [IntKind.wrap_u64, IntKind.wrap_u64, show l % 18446744073709551616 = l by omega, show c % 18446744073709551616 = c by omega]
  rw [Go.u64_orv21 _ _ (by omega) (by omega) (by omega) (by omega) (by omega)]
  omega
theorem lo_step4 (l c : Int) (hl : 0 ≤ l ∧ l < 268435456) (hc : 0 ≤ c ∧ c < 128) : bits .or .u64 (l % 18446744073709551616) (IntKind.u64.wrap (IntKind.u64.wrap c * 268435456)) = (l + c * 268435456) % 18446744073709551616 := by
  rw [IntKind.wrap_u64, IntKind.wrap_u64, show l % 18446744073709551616 = l by omega, show c % 18446744073709551616 = c by omega]
  rw [Go.u64_orv28 _ _ (by omega) (by omega) (by omega) (by omega) (by omega)]
  omega
theorem lo_step5 (l c : Int) (hl : 0 ≤ l ∧ l < 34359738368) (hc : 0 ≤ c ∧ c < 128) : bits .or .u64 (l % 18446744073709551616) (IntKind.u64.wrap (IntKind.u64.wrap c * 34359738368)) = (l + c * 34359738368) % 18446744073709551616 := by
  rw [IntKind.wrap_u64, IntKind.wrap_u64, show l % 18446744073709551616 = l by omega, show c % 18446744073709551616 = c by omega]
  rw [Go.u64_orv35 _ _ (by omega) (by omega) (by omega) (by omega) (by omega)]
  omega
theorem lo_step6 (l c : Int) (hl : 0 ≤ l ∧ l < 4398046511104) (hc : 0 ≤ c ∧ c < 128) : bits .or .u64 (l % 18446744073709551616) (IntKind.u64.wrap (IntKind.u64.wrap c * 4398046511104)) = (l + c * 4398046511104) % 18446744073709551616 := by
  rw [IntKind.wrap_u64, IntKind.wrap_u64, show l % 18446744073709551616 = l by omega, show c % 18446744073709551616 = c by omega]
  rw [Go.u64_orv42 _ _ (by omega) (by omega) (by omega) (by omega) (by omega)]
  omega
theorem lo_step7 (l c : Int) (hl : 0 ≤ l ∧ l < 562949953421312) (hc : 0 ≤ c ∧ c < 128) : bits .or .u64 (l % 18446744073709551616) (IntKind.u64.wrap (IntKind.u64.wrap c * 562949953421312)) = (l + c * 562949953421312) % 18446744073709551616 := by
  rw [IntKind.wrap_u64, IntKind.wrap_u64, show l % 18446744073709551616 = l by omega, show c % 18446744073709551616 = c by omega]
  rw [Go.u64_orv49 _ _ (by omega) (by omega) (by omega) (by omega) (by omega)]
  omega
theorem lo_step8 (l c : Int) (hl : 0 ≤ l ∧ l < 72057594037927936) (hc : 0 ≤ c ∧ c < 128) : bits .or .u64 (l % 18446744073709551616) (IntKind.u64.wrap (IntKind.u64.wrap c * 72057594037927936)) = (l + c * 72057594037927936) % 18446744073709551616 := by
  rw [IntKind.wrap_u64, IntKind.wrap_u64, show l % 18446744073709551616 = l by omega, show c % 18446744073709551616 = c by omega]
  rw [Go.u64_orv56 _ _ (by omega) (by omega) (by omega) (by omega) (by omega)]
  omega
theorem lo_step9 (l c : Int) (hl : 0 ≤ l ∧ l < 9223372036854775808) (hc : 0 ≤ c ∧ c < 128) : bits .or .u64 (l % 18446744073709551616) (IntKind.u64.wrap (IntKind.u64.wrap c * 9223372036854775808)) = (l + c * 9223372036854775808) % 18446744073709551616 := by
  rw [IntKind.wrap_u64, IntKind.wrap_u64, show l % 18446744073709551616 = l by omega, show c % 18446744073709551616 = c by omega]
  rw [Go.u64_orv63 _ _ (by omega) (by omega) (by omega) (by omega) (by omega)]
  omega
theorem lo_step (l c : Int) (i : Nat) (hi : i ≤ 9) (hl : 0 ≤ l ∧ l < 128 ^ i) (hc : 0 ≤ c ∧ c < 128) : bits .or .u64 (l % 18446744073709551616) (IntKind.u64.wrap (IntKind.u64.wrap c * 2 ^ (7 * i))) = (l + c * 128 ^ i) % 18446744073709551616 := by
  match i, hi with
  | 0, _ => exact lo_step0 l c (by simpa using hl) hc
  | 1, _ => exact lo_step1 l c (by simpa using hl) hc
  | 2, _ => exact lo_step2 l c (by simpa using hl) hc
  | 3, _ => exact lo_step3 l c (by simpa using hl) hc
  | 4, _ => exact lo_step4 l c (by simpa using hl) hc
  | 5, _ => exact lo_step5 l c (by simpa using hl) hc
  | 6, _ => exact lo_step6 l c (by simpa using hl) hc
  | 7, _ => exact lo_step7 l c (by simpa using hl) hc
  | 8, _ => exact lo_step8 l c (by simpa using hl) hc
  | 9, _ => exact lo_step9 l c (by simpa using hl) hc
/-- the struct that walk hands back -/
def wkV (s : ByteArray) (a : Nat) (K E : Int) : Value := if E = 0 then nbr (lo s a (K.toNat + 1 - a) % 18446744073709551616) (bt s K.toNat) (((K.toNat + 1 - a : Nat) : Int)) else nbr 0 0 0
theorem walk_in32 (s : ByteArray) (hs : s.size < 9223372036854775000) (a : Nat) (ha : a ≤ s.size) (K E : Int) (hr : Hid (pt s a 5 0 = (K, E))) (w : World) :
    Calls Try.prog 99 #[.string s, .int .i64 (a : Int), .int .i64 32] w fun e w' => e = .returned (.tuple #[wkV s a K E, .int .i64 E]) ∧ Later w w' := by
  have h1 : ¬ (a : Int) < 0 := by omega
  have h2 : ¬ (s.size : Int) < (a : Int) := by omega
  go_enter Try.func99, Try.ntmps99
  go_wp2_with (go_at_call 102; refine (most_32 _).mono ?_; rintro e w' ⟨rfl, hw⟩; obtain rfl : _ = w' := hw.symm)
  go_loopw [8, 30] (fun l v wr => ∃ i : Nat, i ≤ 5 ∧ a + i ≤ s.size ∧ v = .int .i64 (i : Nat) ∧ l = .int .u64 (lo s a i % 18446744073709551616) ∧ wr = w.alloc (.cells #[.int .u64 0, .int .u8 0, .int .i64 0] 125) ∧ pt s a (5 - i) i = (K, E)) (fun l v _ => 5 - (intOf v).toNat)
  case atStart => exact ⟨0, by decide, ha, rfl, rfl, rfl, hr.out⟩
  case round =>
    obtain ⟨i, hi, hi2, rfl, rfl, hw, hp⟩ := hrel
    subst hw
    clear hr
    by_cases hlt : i < 5
    · have hl1 : (i : Int) < 5 := by omega
      rw [show 5 - i = (5 - (i + 1)) + 1 by omega] at hp
      unfold pt at hp
      by_cases h3 : s.size ≤ a + i
      · rw [if_pos h3] at hp
        cases hp
        have hz : ((i : Int) == (s.size : Int) - (a : Int)) = true := by simp; omega
        go_wp2
        refine bodyPost_ret (v := .tuple #[nbr 0 0 0, .int .i64 1201]) (by simp [results, Try.results99, go_sem, nbr]) rfl ⟨rfl, (by repeat first | exact Lz _ | apply La | apply Lv | apply Ld | apply Ln)⟩
      · rw [if_neg h3] at hp
        have h5 : a + i < s.size := by omega
        have h4 : ((i : Int) == (s.size : Int) - (a : Int)) = false := by simp; omega
        have hbt : bt s (a + i) = (s[a + i].toNat : Int) := dif_pos h5
        have hor : bits .or .u64 (lo s a i % 18446744073709551616) (IntKind.u64.wrap (IntKind.u64.wrap (bits .andNot .u8 (s[a + i].toNat : Int) 128) * 2 ^ (7 * i))) = lo s a (i + 1) % 18446744073709551616 := by
          rw [← hbt, andNot_part _ (bt_lt s (a + i))]
          exact lo_step _ _ i (by omega) (lo_rng s a i) (by omega)
        by_cases h6 : bt s (a + i) < 128
        · rw [if_pos h6] at hp
          cases hp
          have hv : Hid (wkV s a ((a + i : Nat) : Int) 0 = nbr (lo s a (i + 1) % 18446744073709551616) (s[a + i].toNat : Int) ((i : Int) + 1)) := by
            show _ = _
            unfold wkV
            rw [if_pos rfl, Int.toNat_natCast, hbt, show a + i + 1 - a = i + 1 by omega]
            rfl
          rw [hbt] at h6
          clear hbt
          generalize lo s a (i + 1) = L2 at *
          go_wp2
          refine bodyPost_ret (v := .tuple #[nbr (L2 % 18446744073709551616) (s[a + i].toNat : Int) ((i : Int) + 1), .int .i64 0]) (by simp [results, Try.results99, go_sem, nbr]) rfl ⟨by rw [hv.out], (by repeat first | exact Lz _ | apply La | apply Lv | apply Ld | apply Ln)⟩
        · rw [if_neg h6] at hp
          rw [hbt] at h6
          replace hp : Hid _ := hp
          clear hbt
          go_wp2
          go_roundw
          case rel => exact ⟨i + 1, by omega, by omega, by go_num, by simp [hor], trivial, hp.out⟩
          case measure => simp [intOf]; omega
    · have hie : i = 5 := by omega
      subst hie
      simp only [Nat.sub_self, pt] at hp
      cases hp
      go_wp2
      refine bodyPost_ret (v := .tuple #[nbr 0 0 0, .int .i64 1200]) (by simp [results, Try.results99, go_sem, nbr]) rfl ⟨rfl, (by repeat first | exact Lz _ | apply La | apply Lv | apply Ld | apply Ln)⟩
theorem walk_in64 (s : ByteArray) (hs : s.size < 9223372036854775000) (a : Nat) (ha : a ≤ s.size) (K E : Int) (hr : Hid (pt s a 10 0 = (K, E))) (w : World) :
    Calls Try.prog 99 #[.string s, .int .i64 (a : Int), .int .i64 64] w fun e w' => e = .returned (.tuple #[wkV s a K E, .int .i64 E]) ∧ Later w w' := by
  have h1 : ¬ (a : Int) < 0 := by omega
  have h2 : ¬ (s.size : Int) < (a : Int) := by omega
  go_enter Try.func99, Try.ntmps99
  go_wp2_with (go_at_call 102; refine (most_64 _).mono ?_; rintro e w' ⟨rfl, hw⟩; obtain rfl : _ = w' := hw.symm)
  go_loopw [8, 30] (fun l v wr => ∃ i : Nat, i ≤ 10 ∧ a + i ≤ s.size ∧ v = .int .i64 (i : Nat) ∧ l = .int .u64 (lo s a i % 18446744073709551616) ∧ wr = w.alloc (.cells #[.int .u64 0, .int .u8 0, .int .i64 0] 125) ∧ pt s a (10 - i) i = (K, E)) (fun l v _ => 10 - (intOf v).toNat)
  case atStart => exact ⟨0, by decide, ha, rfl, rfl, rfl, hr.out⟩
  case round =>
    obtain ⟨i, hi, hi2, rfl, rfl, hw, hp⟩ := hrel
    subst hw
    clear hr
    by_cases hlt : i < 10
    · have hl1 : (i : Int) < 10 := by omega
      rw [show 10 - i = (10 - (i + 1)) + 1 by omega] at hp
      unfold pt at hp
      by_cases h3 : s.size ≤ a + i
      · rw [if_pos h3] at hp
        cases hp
        have hz : ((i : Int) == (s.size : Int) - (a : Int)) = true := by simp; omega
        go_wp2
        refine bodyPost_ret (v := .tuple #[nbr 0 0 0, .int .i64 1201]) (by simp [results, Try.results99, go_sem, nbr]) rfl ⟨rfl, (by repeat first | exact Lz _ | apply La | apply Lv | apply Ld | apply Ln)⟩
      · rw [if_neg h3] at hp
        have h5 : a + i < s.size := by omega
        have h4 : ((i : Int) == (s.size : Int) - (a : Int)) = false := by simp; omega
        have hbt : bt s (a + i) = (s[a + i].toNat : Int) := dif_pos h5
        have hor : bits .or .u64 (lo s a i % 18446744073709551616) (IntKind.u64.wrap (IntKind.u64.wrap (bits .andNot .u8 (s[a + i].toNat : Int) 128) * 2 ^ (7 * i))) = lo s a (i + 1) % 18446744073709551616 := by
          rw [← hbt, andNot_part _ (bt_lt s (a + i))]
          exact lo_step _ _ i (by omega) (lo_rng s a i) (by omega)
        by_cases h6 : bt s (a + i) < 128
        · rw [if_pos h6] at hp
          cases hp
          have hv : Hid (wkV s a ((a + i : Nat) : Int) 0 = nbr (lo s a (i + 1) % 18446744073709551616) (s[a + i].toNat : Int) ((i : Int) + 1)) := by
            show _ = _
            unfold wkV
            rw [if_pos rfl, Int.toNat_natCast, hbt, show a + i + 1 - a = i + 1 by omega]
            rfl
          rw [hbt] at h6
          clear hbt
          generalize lo s a (i + 1) = L2 at *
          go_wp2
          refine bodyPost_ret (v := .tuple #[nbr (L2 % 18446744073709551616) (s[a + i].toNat : Int) ((i : Int) + 1), .int .i64 0]) (by simp [results, Try.results99, go_sem, nbr]) rfl ⟨by rw [hv.out], (by repeat first | exact Lz _ | apply La | apply Lv | apply Ld | apply Ln)⟩
        · rw [if_neg h6] at hp
          rw [hbt] at h6
          replace hp : Hid _ := hp
          clear hbt
          go_wp2
          go_roundw
          case rel => exact ⟨i + 1, by omega, by omega, by go_num, by simp [hor], trivial, hp.out⟩
          case measure => simp [intOf]; omega
    · have hie : i = 10 := by omega
      subst hie
      simp only [Nat.sub_self, pt] at hp
      cases hp
      go_wp2
      refine bodyPost_ret (v := .tuple #[nbr 0 0 0, .int .i64 1200]) (by simp [results, Try.results99, go_sem, nbr]) rfl ⟨rfl, (by repeat first | exact Lz _ | apply La | apply Lv | apply Ld | apply Ln)⟩
end Go.Proofs.Ytkdfmgdadnlnlaa
