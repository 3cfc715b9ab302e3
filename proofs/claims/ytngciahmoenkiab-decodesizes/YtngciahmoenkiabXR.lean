/- XR: LVA, LVB, LVC, LVD, LVE, LVF, LVG, joined. -/
import Derived.Test.YtngciahmoenkiabXC
import Derived.Lib.VarintBits
/- Over this seat's translation: package leb: numbers written in parts, without sign and with it. -/
set_option linter.unusedVariables false
set_option linter.unusedSimpArgs false
set_option maxRecDepth 100000
set_option maxHeartbeats 4000000
namespace Go.Proofs.Ytngciahmoenkiab
open Go.RowKit
theorem or8 (y : Int) : bits .or .u8 (IntKind.u8.wrap y) 128 = y % 128 + 128 := by
  have h : ∀ n : Nat, n < 256 → bits .or .u8 (n : Int) 128 = (n : Int) % 128 + 128 := by decide +kernel
  have := h (y % 256).toNat (by omega)
  rw [Int.toNat_of_nonneg (by omega)] at this
  rw [IntKind.wrap_u8, this]
  omega
theorem andNot8 (y : Int) : bits .andNot .u8 (IntKind.u8.wrap y) 128 = y % 128 := by
  have h : ∀ n : Nat, n < 256 → bits .andNot .u8 (n : Int) 128 = (n : Int) % 128 := by decide +kernel
  have := h (y % 256).toNat (by omega)
  rw [Int.toNat_of_nonneg (by omega)] at this
  rw [IntKind.wrap_u8, this]
  omega
theorem or8m (y : Int) : bits .or .u8 (y % 256) 128 = y % 128 + 128 := by rw [← IntKind.wrap_u8]; exact or8 y
theorem andNot8m (y : Int) : bits .andNot .u8 (y % 256) 128 = y % 128 := by rw [← IntKind.wrap_u8]; exact andNot8 y
end Go.Proofs.Ytngciahmoenkiab


/- Over this seat's translation: package leb: parts walked. -/
set_option linter.unusedVariables false
set_option linter.unusedSimpArgs false
set_option maxRecDepth 100000
set_option maxHeartbeats 4000000
namespace Go.Proofs.Ytngciahmoenkiab
open Go.RowKit
theorem most_32 (w : World) : Calls Try.prog 60 #[.int .i64 32] w fun e w' => e = .returned (.int .i64 5) ∧ w' = w := by
  go_enter Try.func60, Try.ntmps60
  go_wp2
  go_ret
  exact ⟨rfl, rfl⟩
theorem most_64 (w : World) : Calls Try.prog 60 #[.int .i64 64] w fun e w' => e = .returned (.int .i64 10) ∧ w' = w := by
  go_enter Try.func60, Try.ntmps60
  go_wp2
  go_ret
  exact ⟨rfl, rfl⟩
theorem room_big (p bits_ : Int) (h0 : 0 ≤ p ∧ p ≤ 100) (h : 7 ≤ bits_ - 7 * (p - 1)) (h2 : bits_ ≤ 100) (w : World) : Calls Try.prog 49 #[.int .i64 p, .int .i64 bits_] w fun e w' => e = .returned (.int .i64 7) ∧ w' = w := by
  have hm : min 7 (bits_ - 7 * (p - 1)) = 7 := by omega
  go_enter Try.func49, Try.ntmps49
  go_wp2
  go_ret
  exact ⟨by simp [hm], rfl⟩
theorem room_32 (w : World) : Calls Try.prog 49 #[.int .i64 5, .int .i64 32] w fun e w' => e = .returned (.int .i64 4) ∧ w' = w := by
  go_enter Try.func49, Try.ntmps49
  go_wp2
  go_ret
  exact ⟨rfl, rfl⟩
theorem room_64 (w : World) : Calls Try.prog 49 #[.int .i64 10, .int .i64 64] w fun e w' => e = .returned (.int .i64 1) ∧ w' = w := by
  go_enter Try.func49, Try.ntmps49
  go_wp2
  go_ret
  exact ⟨rfl, rfl⟩
/-- what a number's parts hold -/
def nbr (low last parts : Int) : Value := .agg #[.int .u64 low, .int .u8 last, .int .i64 parts]
theorem walk_form (s : ByteArray) (at_ bits_ : Int) (h : ¬ ((bits_ = 32 ∨ bits_ = 64) ∧ 0 ≤ at_ ∧ at_ ≤ (s.size : Int))) (w : World) :
    Calls Try.prog 48 #[.string s, .int .i64 at_, .int .i64 bits_] w fun e w' => e = .returned (.tuple #[nbr 0 0 0, .int .i64 1200]) ∧ Later w w' := by
  have h3 : ((bits_ != 32) = true ∧ (bits_ != 64) = true) ∨ (bits_ = 32 ∧ at_ < 0) ∨ (bits_ = 32 ∧ ¬ at_ < 0 ∧ (s.size : Int) < at_) ∨ ((bits_ != 32) = true ∧ bits_ = 64 ∧ at_ < 0) ∨ ((bits_ != 32) = true ∧ bits_ = 64 ∧ ¬ at_ < 0 ∧ (s.size : Int) < at_) := by
    simp only [bne_iff_ne, ne_eq]
    omega
  clear h
  rcases h3 with ⟨h1, h2⟩ | ⟨rfl, h1⟩ | ⟨rfl, h1, h2⟩ | ⟨_, rfl, h1⟩ | ⟨_, rfl, h1, h2⟩
  all_goals
    go_enter Try.func48, Try.ntmps48
    go_wp2
    refine bodyPost_ret (v := .tuple #[nbr 0 0 0, .int .i64 1200]) (by simp [results, Try.results48, go_sem, nbr]) rfl ⟨rfl, (by repeat first | exact Lz _ | apply La | apply Lv | apply Ld | apply Ln)⟩
end Go.Proofs.Ytngciahmoenkiab


/- Over this seat's translation: package leb: parts walked, with what they hold. -/
set_option linter.unusedVariables false
set_option linter.unusedSimpArgs false
set_option maxRecDepth 100000
set_option maxHeartbeats 4000000
namespace Go.Proofs.Ytngciahmoenkiab
open Go.RowKit
/-- what the first parts hold -/
def lo (s : ByteArray) (a : Nat) : Nat → Int
  | 0 => 0
  | j + 1 => lo s a j + bt s (a + j) % 128 * 128 ^ j
theorem lo_rng (s : ByteArray) (a : Nat) : ∀ j : Nat, 0 ≤ lo s a j ∧ lo s a j < 128 ^ j
  | 0 => by simp [lo]
  | j + 1 => by
    have ih := lo_rng s a j
    have hb : 0 ≤ bt s (a + j) % 128 ∧ bt s (a + j) % 128 ≤ 127 := by omega
    simp only [lo, Int.pow_succ]
    generalize bt s (a + j) % 128 = b at *
    generalize lo s a j = l at *
    generalize hP : (128 : Int) ^ j = P at *
    have h1 : b * P ≤ 127 * P := Int.mul_le_mul_of_nonneg_right hb.2 (by omega)
    have h2 : 0 ≤ b * P := Int.mul_nonneg hb.1 (by omega)
    omega
theorem andNot_part (b : Int) (h : 0 ≤ b ∧ b < 256) : bits .andNot .u8 b 128 = b % 128 := by
  have hh : ∀ n : Nat, n < 256 → bits .andNot .u8 (n : Int) 128 = (n : Int) % 128 := by decide +kernel
  have := hh b.toNat (by omega)
  rwa [Int.toNat_of_nonneg h.1] at this
theorem lo_step0 (l c : Int) (hl : 0 ≤ l ∧ l < 1) (hc : 0 ≤ c ∧ c < 128) : bits .or .u64 (l % 18446744073709551616) (IntKind.u64.wrap (IntKind.u64.wrap c * 1)) = (l + c * 1) % 18446744073709551616 := by
  rw [IntKind.wrap_u64, IntKind.wrap_u64, show l % 18446744073709551616 = l by omega, show c % 18446744073709551616 = c by omega]
  rw [Go.u64_orv0 _ _ (by omega) (by omega) (by omega) (by omega) (by omega)]
  omega
theorem lo_step1 (l c : Int) (hl : 0 ≤ l ∧ l < 128) (hc : 0 ≤ c ∧ c < 128) : bits .or .u64 (l % 18446744073709551616) (IntKind.u64.wrap (IntKind.u64.wrap c * 128)) = (l + c * 128) % 18446744073709551616 := by
  rw [IntKind.wrap_u64, IntKind.wrap_u64, show l % 18446744073709551616 = l by omega, show c % 18446744073709551616 = c by omega]
  rw [Go.u64_orv7 _ _ (by omega) (by omega) (by omega) (by omega) (by omega)]
  omega
theorem lo_step2 (l c : Int) (hl : 0 ≤ l ∧ l < 16384) (hc : 0 ≤ c ∧ c < 128) : bits .or .u64 (l % 18446744073709551616) (IntKind.u64.wrap (IntKind.u64.wrap c * 16384)) = (l + c * 16384) % 18446744073709551616 := by
  rw [IntKind.wrap_u64, IntKind.wrap_u64, show l % 18446744073709551616 = l by omega, show c % 18446744073709551616 = c by omega]
  rw [Go.u64_orv14 _ _ (by omega) (by omega) (by omega) (by omega) (by omega)]
  omega
theorem lo_step3 (l c : Int) (hl : 0 ≤ l ∧ l < 2097152) (hc : 0 ≤ c ∧ c < 128) : bits .or .u64 (l % 18446744073709551616) (IntKind.u64.wrap (IntKind.u64.wrap c * 2097152)) = (l + c * 2097152) % 18446744073709551616 := by
  rw [IntKind.wrap_u64, IntKind.wrap_u64, show l % 18446744073709551616 = l by omega, show c % 18446744073709551616 = c by omega]
  rw [Go.u64_orv21 _ _ (by omega) (by omega) (by omega) (by omega) (by omega)]
  omega
theorem lo_step4 (l c : Int) (hl : 0 ≤ l ∧ l < 268435456) (hc : 0 ≤ c ∧ c < 128) : bits .or .u64 (l % 18446744073709551616) (IntKind.u64.wrap (IntKind.u64.wrap c * 268435456)) = (l + c * 268435456) % 18446744073709551616 := by
  rw [IntKind.wrap_u64, IntKind.wrap_u64, show l % 18446744073709551616 = l by omega, show c % 18446744073709551616 = c by omega]
  rw [Go.u64_orv28 _ _ (by omega) (by omega) (by omega) (by omega) (by omega)]
  omega
theorem lo_step5 (l c : Int) (hl : 0 ≤ l ∧ l < 34359738368) (hc : 0 ≤ c ∧ c < 128) : bits .or .u64 (l % 18446744073709551616) (IntKind.u64.wrap (IntKind.u64.wrap c * 34359738368)) = (l + c * 34359738368) % 18446744073709551616 := by
  rw [IntKind.wrap_u64, IntKind.wrap_u64, show l % 18446744073709551616 = l by omega, show c % 18446744073709551616 = c by omega]
  rw [Go.u64_orv35 _ _ (by omega) (by omega) (by omega) (by omega) (by omega)]
  omega
theorem lo_step6 (l c : Int) (hl : 0 ≤ l ∧ l < 4398046511104) (hc : 0 ≤ c ∧ c < 128) : bits .or .u64 (l % 18446744073709551616) (IntKind.u64.wrap (IntKind.u64.wrap c * 4398046511104)) = (l + c * 4398046511104) % 18446744073709551616 := by
  rw [IntKind.wrap_u64, IntKind.wrap_u64, show l % 18446744073709551616 = l by omega, show c % 18446744073709551616 = c by omega]
  rw [Go.u64_orv42 _ _ (by omega) (by omega) (by omega) (by omega) (by omega)]
  omega
theorem lo_step7 (l c : Int) (hl : 0 ≤ l ∧ l < 562949953421312) (hc : 0 ≤ c ∧ c < 128) : bits .or .u64 (l % 18446744073709551616) (IntKind.u64.wrap (IntKind.u64.wrap c * 562949953421312)) = (l + c * 562949953421312) % 18446744073709551616 := by
  rw [IntKind.wrap_u64, IntKind.wrap_u64, show l % 18446744073709551616 = l by omega, show c % 18446744073709551616 = c by omega]
  rw [Go.u64_orv49 _ _ (by omega) (by omega) (by omega) (by omega) (by omega)]
  omega
theorem lo_step8 (l c : Int) (hl : 0 ≤ l ∧ l < 72057594037927936) (hc : 0 ≤ c ∧ c < 128) : bits .or .u64 (l % 18446744073709551616) (IntKind.u64.wrap (IntKind.u64.wrap c * 72057594037927936)) = (l + c * 72057594037927936) % 18446744073709551616 := by
  rw [IntKind.wrap_u64, IntKind.wrap_u64, show l % 18446744073709551616 = l by omega, show c % 18446744073709551616 = c by omega]
  rw [Go.u64_orv56 _ _ (by omega) (by omega) (by omega) (by omega) (by omega)]
  omega
theorem lo_step9 (l c : Int) (hl : 0 ≤ l ∧ l < 9223372036854775808) (hc : 0 ≤ c ∧ c < 128) : bits .or .u64 (l % 18446744073709551616) (IntKind.u64.wrap (IntKind.u64.wrap c * 9223372036854775808)) = (l + c * 9223372036854775808) % 18446744073709551616 := by
  rw [IntKind.wrap_u64, IntKind.wrap_u64, show l % 18446744073709551616 = l by omega, show c % 18446744073709551616 = c by omega]
  rw [Go.u64_orv63 _ _ (by omega) (by omega) (by omega) (by omega) (by omega)]
  omega
theorem lo_step (l c : Int) (i : Nat) (hi : i ≤ 9) (hl : 0 ≤ l ∧ l < 128 ^ i) (hc : 0 ≤ c ∧ c < 128) : bits .or .u64 (l % 18446744073709551616) (IntKind.u64.wrap (IntKind.u64.wrap c * 2 ^ (7 * i))) = (l + c * 128 ^ i) % 18446744073709551616 := by
  match i, hi with
  | 0, _ => exact lo_step0 l c (by simpa using hl) hc
  | 1, _ => exact lo_step1 l c (by simpa using hl) hc
  | 2, _ => exact lo_step2 l c (by simpa using hl) hc
  | 3, _ => exact lo_step3 l c (by simpa using hl) hc
  | 4, _ => exact lo_step4 l c (by simpa using hl) hc
  | 5, _ => exact lo_step5 l c (by simpa using hl) hc
  | 6, _ => exact lo_step6 l c (by simpa using hl) hc
  | 7, _ => exact lo_step7 l c (by simpa using hl) hc
  | 8, _ => exact lo_step8 l c (by simpa using hl) hc
  | 9, _ => exact lo_step9 l c (by simpa using hl) hc
/-- the struct that walk hands back -/
def wkV (s : ByteArray) (a : Nat) (K E : Int) : Value := if E = 0 then nbr (lo s a (K.toNat + 1 - a) % 18446744073709551616) (bt s K.toNat) (((K.toNat + 1 - a : Nat) : Int)) else nbr 0 0 0
theorem walk_in32 (s : ByteArray) (hs : s.size < 9223372036854775000) (a : Nat) (ha : a ≤ s.size) (K E : Int) (hr : Hid (pt s a 5 0 = (K, E))) (w : World) :
    Calls Try.prog 48 #[.string s, .int .i64 (a : Int), .int .i64 32] w fun e w' => e = .returned (.tuple #[wkV s a K E, .int .i64 E]) ∧ Later w w' := by
  have h1 : ¬ (a : Int) < 0 := by omega
  have h2 : ¬ (s.size : Int) < (a : Int) := by omega
  go_enter Try.func48, Try.ntmps48
  go_wp2_with (go_at_call 60; refine (most_32 _).mono ?_; rintro e w' ⟨rfl, hw⟩; obtain rfl : _ = w' := hw.symm)
  go_loopw [8, 30] (fun l v wr => ∃ i : Nat, i ≤ 5 ∧ a + i ≤ s.size ∧ v = .int .i64 (i : Nat) ∧ l = .int .u64 (lo s a i % 18446744073709551616) ∧ wr = w.alloc (.cells #[.int .u64 0, .int .u8 0, .int .i64 0] 101) ∧ pt s a (5 - i) i = (K, E)) (fun l v _ => 5 - (intOf v).toNat)
  case atStart => exact ⟨0, by decide, ha, rfl, rfl, rfl, hr.out⟩
  case round =>
    obtain ⟨i, hi, hi2, rfl, rfl, hw, hp⟩ := hrel
    subst hw
    clear hr
    by_cases hlt : i < 5
    · have hl1 : (i : Int) < 5 := by omega
      rw [show 5 - i = (5 - (i + 1)) + 1 by omega] at hp
      unfold pt at hp
      by_cases h3 : s.size ≤ a + i
      · rw [if_pos h3] at hp
        cases hp
        have hz : ((i : Int) == (s.size : Int) - (a : Int)) = true := by simp; omega
        go_wp2
        refine bodyPost_ret (v := .tuple #[nbr 0 0 0, .int .i64 1201]) (by simp [results, Try.results48, go_sem, nbr]) rfl ⟨rfl, (by repeat first | exact Lz _ | apply La | apply Lv | apply Ld | apply Ln)⟩
      · rw [if_neg h3] at hp
        have h5 : a + i < s.size := by omega
        have h4 : ((i : Int) == (s.size : Int) - (a : Int)) = false := by simp; omega
        have hbt : bt s (a + i) = (s[a + i].toNat : Int) := dif_pos h5
        have hor : bits .or .u64 (lo s a i % 18446744073709551616) (IntKind.u64.wrap (IntKind.u64.wrap (bits .andNot .u8 (s[a + i].toNat : Int) 128) * 2 ^ (7 * i))) = lo s a (i + 1) % 18446744073709551616 := by
          rw [← hbt, andNot_part _ (bt_lt s (a + i))]
          exact lo_step _ _ i (by omega) (lo_rng s a i) (by omega)
        by_cases h6 : bt s (a + i) < 128
        · rw [if_pos h6] at hp
          cases hp
          have hv : Hid (wkV s a ((a + i : Nat) : Int) 0 = nbr (lo s a (i + 1) % 18446744073709551616) (s[a + i].toNat : Int) ((i : Int) + 1)) := by
            show _ = _
            unfold wkV
            rw [if_pos rfl, Int.toNat_natCast, hbt, show a + i + 1 - a = i + 1 by omega]
            rfl
          rw [hbt] at h6
          clear hbt
          generalize lo s a (i + 1) = L2 at *
          go_wp2
          refine bodyPost_ret (v := .tuple #[nbr (L2 % 18446744073709551616) (s[a + i].toNat : Int) ((i : Int) + 1), .int .i64 0]) (by simp [results, Try.results48, go_sem, nbr]) rfl ⟨by rw [hv.out], (by repeat first | exact Lz _ | apply La | apply Lv | apply Ld | apply Ln)⟩
        · rw [if_neg h6] at hp
          rw [hbt] at h6
          replace hp : Hid _ := hp
          clear hbt
          go_wp2
          go_roundw
          case rel => exact ⟨i + 1, by omega, by omega, by go_num, by simp [hor], trivial, hp.out⟩
          case measure => simp [intOf]; omega
    · have hie : i = 5 := by omega
      subst hie
      simp only [Nat.sub_self, pt] at hp
      cases hp
      go_wp2
      refine bodyPost_ret (v := .tuple #[nbr 0 0 0, .int .i64 1200]) (by simp [results, Try.results48, go_sem, nbr]) rfl ⟨rfl, (by repeat first | exact Lz _ | apply La | apply Lv | apply Ld | apply Ln)⟩
theorem walk_in64 (s : ByteArray) (hs : s.size < 9223372036854775000) (a : Nat) (ha : a ≤ s.size) (K E : Int) (hr : Hid (pt s a 10 0 = (K, E))) (w : World) :
    Calls Try.prog 48 #[.string s, .int .i64 (a : Int), .int .i64 64] w fun e w' => e = .returned (.tuple #[wkV s a K E, .int .i64 E]) ∧ Later w w' := by
  have h1 : ¬ (a : Int) < 0 := by omega
  have h2 : ¬ (s.size : Int) < (a : Int) := by omega
  go_enter Try.func48, Try.ntmps48
  go_wp2_with (go_at_call 60; refine (most_64 _).mono ?_; rintro e w' ⟨rfl, hw⟩; obtain rfl : _ = w' := hw.symm)
  go_loopw [8, 30] (fun l v wr => ∃ i : Nat, i ≤ 10 ∧ a + i ≤ s.size ∧ v = .int .i64 (i : Nat) ∧ l = .int .u64 (lo s a i % 18446744073709551616) ∧ wr = w.alloc (.cells #[.int .u64 0, .int .u8 0, .int .i64 0] 101) ∧ pt s a (10 - i) i = (K, E)) (fun l v _ => 10 - (intOf v).toNat)
  case atStart => exact ⟨0, by decide, ha, rfl, rfl, rfl, hr.out⟩
  case round =>
    obtain ⟨i, hi, hi2, rfl, rfl, hw, hp⟩ := hrel
    subst hw
    clear hr
    by_cases hlt : i < 10
    · have hl1 : (i : Int) < 10 := by omega
      rw [show 10 - i = (10 - (i + 1)) + 1 by omega] at hp
      unfold pt at hp
      by_cases h3 : s.size ≤ a + i
      · rw [if_pos h3] at hp
        cases hp
        have hz : ((i : Int) == (s.size : Int) - (a : Int)) = true := by simp; omega
        go_wp2
        refine bodyPost_ret (v := .tuple #[nbr 0 0 0, .int .i64 1201]) (by simp [results, Try.results48, go_sem, nbr]) rfl ⟨rfl, (by repeat first | exact Lz _ | apply La | apply Lv | apply Ld | apply Ln)⟩
      · rw [if_neg h3] at hp
        have h5 : a + i < s.size := by omega
        have h4 : ((i : Int) == (s.size : Int) - (a : Int)) = false := by simp; omega
        have hbt : bt s (a + i) = (s[a + i].toNat : Int) := dif_pos h5
        have hor : bits .or .u64 (lo s a i % 18446744073709551616) (IntKind.u64.wrap (IntKind.u64.wrap (bits .andNot .u8 (s[a + i].toNat : Int) 128) * 2 ^ (7 * i))) = lo s a (i + 1) % 18446744073709551616 := by
          rw [← hbt, andNot_part _ (bt_lt s (a + i))]
          exact lo_step _ _ i (by omega) (lo_rng s a i) (by omega)
        by_cases h6 : bt s (a + i) < 128
        · rw [if_pos h6] at hp
          cases hp
          have hv : Hid (wkV s a ((a + i : Nat) : Int) 0 = nbr (lo s a (i + 1) % 18446744073709551616) (s[a + i].toNat : Int) ((i : Int) + 1)) := by
            show _ = _
            unfold wkV
            rw [if_pos rfl, Int.toNat_natCast, hbt, show a + i + 1 - a = i + 1 by omega]
            rfl
          rw [hbt] at h6
          clear hbt
          generalize lo s a (i + 1) = L2 at *
          go_wp2
          refine bodyPost_ret (v := .tuple #[nbr (L2 % 18446744073709551616) (s[a + i].toNat : Int) ((i : Int) + 1), .int .i64 0]) (by simp [results, Try.results48, go_sem, nbr]) rfl ⟨by rw [hv.out], (by repeat first | exact Lz _ | apply La | apply Lv | apply Ld | apply Ln)⟩
        · rw [if_neg h6] at hp
          rw [hbt] at h6
          replace hp : Hid _ := hp
          clear hbt
          go_wp2
          go_roundw
          case rel => exact ⟨i + 1, by omega, by omega, by go_num, by simp [hor], trivial, hp.out⟩
          case measure => simp [intOf]; omega
    · have hie : i = 10 := by omega
      subst hie
      simp only [Nat.sub_self, pt] at hp
      cases hp
      go_wp2
      refine bodyPost_ret (v := .tuple #[nbr 0 0 0, .int .i64 1200]) (by simp [results, Try.results48, go_sem, nbr]) rfl ⟨rfl, (by repeat first | exact Lz _ | apply La | apply Lv | apply Ld | apply Ln)⟩
end Go.Proofs.Ytngciahmoenkiab


/- Over this seat's translation: package leb: Get, by its walk. -/
set_option linter.unusedVariables false
set_option linter.unusedSimpArgs false
set_option maxRecDepth 100000
set_option maxHeartbeats 4000000
namespace Go.Proofs.Ytngciahmoenkiab
open Go.RowKit
theorem walk_any (s : ByteArray) (hs : s.size < 9223372036854775000) (at_ bits_ : Int) (w : World) :
    Calls Try.prog 48 #[.string s, .int .i64 at_, .int .i64 bits_] w fun e w' => e = .returned (.tuple #[wkV s at_.toNat (ptR s at_ bits_).1 (ptR s at_ bits_).2, .int .i64 (ptR s at_ bits_).2]) ∧ Later w w' := by
  unfold ptR
  by_cases h : (bits_ = 32 ∨ bits_ = 64) ∧ 0 ≤ at_ ∧ at_ ≤ (s.size : Int)
  · rw [if_pos h]
    obtain ⟨a, rfl⟩ := Int.eq_ofNat_of_zero_le h.2.1
    rw [Int.toNat_natCast]
    rcases h.1 with rfl | rfl
    · exact walk_in32 s hs a (by omega) _ _ rfl w
    · exact walk_in64 s hs a (by omega) _ _ rfl w
  · rw [if_neg h]
    exact walk_form s at_ bits_ h w
theorem get_err (s : ByteArray) (hs : s.size < 9223372036854775000) (at_ bits_ : Int) (h : ¬ (ptR s at_ bits_).2 = 0) (w : World) :
    Calls Try.prog 27 #[.string s, .int .i64 at_, .int .i64 bits_] w fun e w' => e = .returned (.tuple #[.int .i64 0, .int .i64 0, .int .i64 (ptR s at_ bits_).2]) ∧ Later w w' := by
  have hp : Hid (∀ w : World, Calls Try.prog 48 #[.string s, .int .i64 at_, .int .i64 bits_] w fun e w' => e = .returned (.tuple #[nbr 0 0 0, .int .i64 (ptR s at_ bits_).2]) ∧ Later w w') := fun w => by
    have := walk_any s hs at_ bits_ w
    unfold wkV at this
    rwa [if_neg h] at this
  unfold nbr at hp
  generalize (ptR s at_ bits_).2 = E at *
  have h2 : (E != 0) = true := by simpa using h
  go_enter Try.func27, Try.ntmps27
  go_wp2_with (go_at_call 48; refine (hp.out _).mono ?_; rintro e w2 ⟨rfl, h3⟩)
  go_ret3
  exact ⟨rfl, La h3⟩
theorem get_form7 (s : ByteArray) (at_ bits_ L b p : Int) (hb : 0 ≤ b ∧ b < 128)
    (hp : Hid (∀ w : World, Calls Try.prog 48 #[.string s, .int .i64 at_, .int .i64 bits_] w fun e w' => e = .returned (.tuple #[nbr L b p, .int .i64 0]) ∧ Later w w'))
    (hr : Hid (∀ w : World, Calls Try.prog 49 #[.int .i64 p, .int .i64 bits_] w fun e w' => e = .returned (.int .i64 7) ∧ w' = w))
    (ht : (b / 128 != 0) = true) (w : World) :
    Calls Try.prog 27 #[.string s, .int .i64 at_, .int .i64 bits_] w fun e w' => e = .returned (.tuple #[.int .i64 0, .int .i64 0, .int .i64 1200]) ∧ Later w w' := by
  unfold nbr at hp
  go_enter Try.func27, Try.ntmps27
  go_wp2_with (go_at_call 48; refine (hp.out _).mono ?_; rintro e w2 ⟨rfl, h3⟩)
  go_quiet (first | (go_at_call 49; exact Calls.quiet_of_same (hr.out _)))
  go_wp2_with fail
  go_ret3
  exact ⟨rfl, (by repeat first | exact h3 | apply La | apply Lv | apply Ld | apply Ln)⟩
theorem get_ok7 (s : ByteArray) (at_ bits_ L b p : Int) (hb : 0 ≤ b ∧ b < 128) (hap : -9223372036854775808 ≤ at_ + p ∧ at_ + p ≤ 9223372036854775807)
    (hp : Hid (∀ w : World, Calls Try.prog 48 #[.string s, .int .i64 at_, .int .i64 bits_] w fun e w' => e = .returned (.tuple #[nbr L b p, .int .i64 0]) ∧ Later w w'))
    (hr : Hid (∀ w : World, Calls Try.prog 49 #[.int .i64 p, .int .i64 bits_] w fun e w' => e = .returned (.int .i64 7) ∧ w' = w))
    (ht : (b / 128 != 0) = false) (w : World) :
    Calls Try.prog 27 #[.string s, .int .i64 at_, .int .i64 bits_] w fun e w' => e = .returned (.tuple #[.int .i64 (wrap64 L), .int .i64 (at_ + p), .int .i64 0]) ∧ Later w w' := by
  unfold nbr at hp
  go_enter Try.func27, Try.ntmps27
  go_wp2_with (go_at_call 48; refine (hp.out _).mono ?_; rintro e w2 ⟨rfl, h3⟩)
  go_quiet (first | (go_at_call 49; exact Calls.quiet_of_same (hr.out _)))
  go_wp2_with fail
  go_quiet (fail)
  go_wp2_with fail
  go_ret3
  exact ⟨rfl, (by repeat first | exact h3 | apply La | apply Lv | apply Ld | apply Ln)⟩
theorem get_form4 (s : ByteArray) (at_ bits_ L b p : Int) (hb : 0 ≤ b ∧ b < 128)
    (hp : Hid (∀ w : World, Calls Try.prog 48 #[.string s, .int .i64 at_, .int .i64 bits_] w fun e w' => e = .returned (.tuple #[nbr L b p, .int .i64 0]) ∧ Later w w'))
    (hr : Hid (∀ w : World, Calls Try.prog 49 #[.int .i64 p, .int .i64 bits_] w fun e w' => e = .returned (.int .i64 4) ∧ w' = w))
    (ht : (b / 16 != 0) = true) (w : World) :
    Calls Try.prog 27 #[.string s, .int .i64 at_, .int .i64 bits_] w fun e w' => e = .returned (.tuple #[.int .i64 0, .int .i64 0, .int .i64 1200]) ∧ Later w w' := by
  unfold nbr at hp
  go_enter Try.func27, Try.ntmps27
  go_wp2_with (go_at_call 48; refine (hp.out _).mono ?_; rintro e w2 ⟨rfl, h3⟩)
  go_quiet (first | (go_at_call 49; exact Calls.quiet_of_same (hr.out _)))
  go_wp2_with fail
  go_ret3
  exact ⟨rfl, (by repeat first | exact h3 | apply La | apply Lv | apply Ld | apply Ln)⟩
theorem get_ok4 (s : ByteArray) (at_ bits_ L b p : Int) (hb : 0 ≤ b ∧ b < 128) (hap : -9223372036854775808 ≤ at_ + p ∧ at_ + p ≤ 9223372036854775807)
    (hp : Hid (∀ w : World, Calls Try.prog 48 #[.string s, .int .i64 at_, .int .i64 bits_] w fun e w' => e = .returned (.tuple #[nbr L b p, .int .i64 0]) ∧ Later w w'))
    (hr : Hid (∀ w : World, Calls Try.prog 49 #[.int .i64 p, .int .i64 bits_] w fun e w' => e = .returned (.int .i64 4) ∧ w' = w))
    (ht : (b / 16 != 0) = false) (w : World) :
    Calls Try.prog 27 #[.string s, .int .i64 at_, .int .i64 bits_] w fun e w' => e = .returned (.tuple #[.int .i64 (wrap64 L), .int .i64 (at_ + p), .int .i64 0]) ∧ Later w w' := by
  unfold nbr at hp
  go_enter Try.func27, Try.ntmps27
  go_wp2_with (go_at_call 48; refine (hp.out _).mono ?_; rintro e w2 ⟨rfl, h3⟩)
  go_quiet (first | (go_at_call 49; exact Calls.quiet_of_same (hr.out _)))
  go_wp2_with fail
  go_quiet (fail)
  go_wp2_with fail
  go_ret3
  exact ⟨rfl, (by repeat first | exact h3 | apply La | apply Lv | apply Ld | apply Ln)⟩
theorem get_form1 (s : ByteArray) (at_ bits_ L b p : Int) (hb : 0 ≤ b ∧ b < 128)
    (hp : Hid (∀ w : World, Calls Try.prog 48 #[.string s, .int .i64 at_, .int .i64 bits_] w fun e w' => e = .returned (.tuple #[nbr L b p, .int .i64 0]) ∧ Later w w'))
    (hr : Hid (∀ w : World, Calls Try.prog 49 #[.int .i64 p, .int .i64 bits_] w fun e w' => e = .returned (.int .i64 1) ∧ w' = w))
    (ht : (b / 2 != 0) = true) (w : World) :
    Calls Try.prog 27 #[.string s, .int .i64 at_, .int .i64 bits_] w fun e w' => e = .returned (.tuple #[.int .i64 0, .int .i64 0, .int .i64 1200]) ∧ Later w w' := by
  unfold nbr at hp
  go_enter Try.func27, Try.ntmps27
  go_wp2_with (go_at_call 48; refine (hp.out _).mono ?_; rintro e w2 ⟨rfl, h3⟩)
  go_quiet (first | (go_at_call 49; exact Calls.quiet_of_same (hr.out _)))
  go_wp2_with fail
  go_ret3
  exact ⟨rfl, (by repeat first | exact h3 | apply La | apply Lv | apply Ld | apply Ln)⟩
theorem get_ok1 (s : ByteArray) (at_ bits_ L b p : Int) (hb : 0 ≤ b ∧ b < 128) (hap : -9223372036854775808 ≤ at_ + p ∧ at_ + p ≤ 9223372036854775807)
    (hp : Hid (∀ w : World, Calls Try.prog 48 #[.string s, .int .i64 at_, .int .i64 bits_] w fun e w' => e = .returned (.tuple #[nbr L b p, .int .i64 0]) ∧ Later w w'))
    (hr : Hid (∀ w : World, Calls Try.prog 49 #[.int .i64 p, .int .i64 bits_] w fun e w' => e = .returned (.int .i64 1) ∧ w' = w))
    (ht : (b / 2 != 0) = false) (w : World) :
    Calls Try.prog 27 #[.string s, .int .i64 at_, .int .i64 bits_] w fun e w' => e = .returned (.tuple #[.int .i64 (wrap64 L), .int .i64 (at_ + p), .int .i64 0]) ∧ Later w w' := by
  unfold nbr at hp
  go_enter Try.func27, Try.ntmps27
  go_wp2_with (go_at_call 48; refine (hp.out _).mono ?_; rintro e w2 ⟨rfl, h3⟩)
  go_quiet (first | (go_at_call 49; exact Calls.quiet_of_same (hr.out _)))
  go_wp2_with fail
  go_quiet (fail)
  go_wp2_with fail
  go_ret3
  exact ⟨rfl, (by repeat first | exact h3 | apply La | apply Lv | apply Ld | apply Ln)⟩
end Go.Proofs.Ytngciahmoenkiab


/- Over this seat's translation: package leb: Get, whole; a number with the sign of its last part. -/
set_option linter.unusedVariables false
set_option linter.unusedSimpArgs false
set_option maxRecDepth 100000
set_option maxHeartbeats 4000000
namespace Go.Proofs.Ytngciahmoenkiab
open Go.RowKit
theorem wrap_ex (x : Int) : ∃ q : Int, wrap64 x = x + 18446744073709551616 * q := ⟨-((x + 9223372036854775808) / 18446744073709551616), by unfold wrap64; omega⟩
theorem wrap_wrap (x : Int) : wrap64 (wrap64 x) = wrap64 x := by unfold wrap64; omega
theorem wrap_mod (x : Int) : wrap64 (x % 18446744073709551616) = wrap64 x := by unfold wrap64; omega
theorem ac_lo (s : ByteArray) (a : Nat) : ∀ (j : Nat) (x : Int), wrap64 x = x → ac s a j x = wrap64 (lo s a j + x * 128 ^ j)
  | 0, x, h => by simp [ac, lo, h]
  | j + 1, x, h => by
    simp only [ac]
    rw [ac_lo s a j _ (wrap_wrap _)]
    obtain ⟨q, hq⟩ := wrap_ex (x * 128 + bt s (a + j) % 128)
    rw [hq]
    refine wrap_of (q * 128 ^ j) ?_
    simp only [lo, Int.pow_succ]
    generalize bt s (a + j) % 128 = c
    generalize (128 : Int) ^ j = P
    rw [Int.add_mul, Int.add_mul, Int.mul_assoc x 128 P, Int.mul_comm 128 P, Int.mul_assoc 18446744073709551616 q P]
    omega
theorem get_32 (s : ByteArray) (hs : s.size < 9223372036854775000) (a k : Nat) (hp : ptR s (a : Int) 32 = ((k : Int), 0)) (hk : a ≤ k) (hk2 : k < s.size) (hk3 : k < a + 5) (hk5 : bt s k < 128) (w : World) :
    Calls Try.prog 27 #[.string s, .int .i64 (a : Int), .int .i64 32] w fun e w' => e = .returned (.tuple #[.int .i64 (ulR s (a : Int) 32).1, .int .i64 (ulR s (a : Int) 32).2.1, .int .i64 (ulR s (a : Int) 32).2.2]) ∧ Later w w' := by
  have hb := bt_lt s k
  have hpp : Hid (∀ w : World, Calls Try.prog 48 #[.string s, .int .i64 (a : Int), .int .i64 32] w fun e w' => e = .returned (.tuple #[nbr (lo s a (k + 1 - a) % 18446744073709551616) (bt s k) (((k + 1 - a : Nat) : Int)), .int .i64 0]) ∧ Later w w') := fun w => by
    have := walk_any s hs (a : Int) 32 w
    rw [hp] at this
    exact this
  have hac : wrap64 (lo s a (k + 1 - a) % 18446744073709551616) = ac s a (k + 1 - a) 0 := by rw [wrap_mod, ac_lo s a _ 0 (by unfold wrap64; omega), Int.zero_mul, Int.add_zero]
  have hat : (a : Int) + ((k + 1 - a : Nat) : Int) = (k : Int) + 1 := by omega
  by_cases hc : k = a + 4
  · have hroom : Hid (∀ w : World, Calls Try.prog 49 #[.int .i64 ((k + 1 - a : Nat) : Int), .int .i64 32] w fun e w' => e = .returned (.int .i64 4) ∧ w' = w) := fun w => by
      rw [show ((k + 1 - a : Nat) : Int) = 5 by omega]
      exact room_32 w
    by_cases hd : bt s k / 16 = 0
    · have e : ulR s (a : Int) 32 = (ac s a (k + 1 - a) 0, (k : Int) + 1, 0) := by
        unfold ulR
        rw [hp, if_pos rfl, if_neg]
        · rfl
        · rintro ⟨x1, x2⟩
          exact x2 hd
      rw [e]
      have := get_ok4 s (a : Int) 32 _ _ _ ⟨hb.1, hk5⟩ (by omega) hpp hroom (by simpa using hd) w
      rwa [hac, hat] at this
    · have e : ulR s (a : Int) 32 = (0, 0, 1200) := by
        unfold ulR
        rw [hp, if_pos rfl, if_pos]
        exact ⟨by omega, hd⟩
      rw [e]
      exact get_form4 s (a : Int) 32 _ _ _ ⟨hb.1, hk5⟩ hpp hroom (by simpa using hd) w
  · have hroom : Hid (∀ w : World, Calls Try.prog 49 #[.int .i64 ((k + 1 - a : Nat) : Int), .int .i64 32] w fun e w' => e = .returned (.int .i64 7) ∧ w' = w) := fun w => room_big _ _ (by omega) (by omega) (by omega) w
    have e : ulR s (a : Int) 32 = (ac s a (k + 1 - a) 0, (k : Int) + 1, 0) := by
      unfold ulR
      rw [hp, if_pos rfl, if_neg]
      · rfl
      · rintro ⟨x1, x2⟩
        exact hc (by omega)
    rw [e]
    have := get_ok7 s (a : Int) 32 _ _ _ ⟨hb.1, hk5⟩ (by omega) hpp hroom (by simp; omega) w
    rwa [hac, hat] at this
theorem get_64 (s : ByteArray) (hs : s.size < 9223372036854775000) (a k : Nat) (hp : ptR s (a : Int) 64 = ((k : Int), 0)) (hk : a ≤ k) (hk2 : k < s.size) (hk3 : k < a + 10) (hk5 : bt s k < 128) (w : World) :
    Calls Try.prog 27 #[.string s, .int .i64 (a : Int), .int .i64 64] w fun e w' => e = .returned (.tuple #[.int .i64 (ulR s (a : Int) 64).1, .int .i64 (ulR s (a : Int) 64).2.1, .int .i64 (ulR s (a : Int) 64).2.2]) ∧ Later w w' := by
  have hb := bt_lt s k
  have hpp : Hid (∀ w : World, Calls Try.prog 48 #[.string s, .int .i64 (a : Int), .int .i64 64] w fun e w' => e = .returned (.tuple #[nbr (lo s a (k + 1 - a) % 18446744073709551616) (bt s k) (((k + 1 - a : Nat) : Int)), .int .i64 0]) ∧ Later w w') := fun w => by
    have := walk_any s hs (a : Int) 64 w
    rw [hp] at this
    exact this
  have hac : wrap64 (lo s a (k + 1 - a) % 18446744073709551616) = ac s a (k + 1 - a) 0 := by rw [wrap_mod, ac_lo s a _ 0 (by unfold wrap64; omega), Int.zero_mul, Int.add_zero]
  have hat : (a : Int) + ((k + 1 - a : Nat) : Int) = (k : Int) + 1 := by omega
  by_cases hc : k = a + 9
  · have hroom : Hid (∀ w : World, Calls Try.prog 49 #[.int .i64 ((k + 1 - a : Nat) : Int), .int .i64 64] w fun e w' => e = .returned (.int .i64 1) ∧ w' = w) := fun w => by
      rw [show ((k + 1 - a : Nat) : Int) = 10 by omega]
      exact room_64 w
    by_cases hd : bt s k / 2 = 0
    · have e : ulR s (a : Int) 64 = (ac s a (k + 1 - a) 0, (k : Int) + 1, 0) := by
        unfold ulR
        rw [hp, if_pos rfl, if_neg]
        · rfl
        · rintro ⟨x1, x2⟩
          exact x2 hd
      rw [e]
      have := get_ok1 s (a : Int) 64 _ _ _ ⟨hb.1, hk5⟩ (by omega) hpp hroom (by simpa using hd) w
      rwa [hac, hat] at this
    · have e : ulR s (a : Int) 64 = (0, 0, 1200) := by
        unfold ulR
        rw [hp, if_pos rfl, if_pos]
        exact ⟨by omega, hd⟩
      rw [e]
      exact get_form1 s (a : Int) 64 _ _ _ ⟨hb.1, hk5⟩ hpp hroom (by simpa using hd) w
  · have hroom : Hid (∀ w : World, Calls Try.prog 49 #[.int .i64 ((k + 1 - a : Nat) : Int), .int .i64 64] w fun e w' => e = .returned (.int .i64 7) ∧ w' = w) := fun w => room_big _ _ (by omega) (by omega) (by omega) w
    have e : ulR s (a : Int) 64 = (ac s a (k + 1 - a) 0, (k : Int) + 1, 0) := by
      unfold ulR
      rw [hp, if_pos rfl, if_neg]
      · rfl
      · rintro ⟨x1, x2⟩
        exact hc (by omega)
    rw [e]
    have := get_ok7 s (a : Int) 64 _ _ _ ⟨hb.1, hk5⟩ (by omega) hpp hroom (by simp; omega) w
    rwa [hac, hat] at this
theorem get_any (s : ByteArray) (hs : s.size < 9223372036854775000) (at_ bits_ : Int) (ha : -9223372036854775808 ≤ at_ ∧ at_ ≤ 9223372036854775807) (hb : -9223372036854775808 ≤ bits_ ∧ bits_ ≤ 9223372036854775807) (w : World) :
    Calls Try.prog 27 #[.string s, .int .i64 at_, .int .i64 bits_] w fun e w' => e = .returned (.tuple #[.int .i64 (ulR s at_ bits_).1, .int .i64 (ulR s at_ bits_).2.1, .int .i64 (ulR s at_ bits_).2.2]) ∧ Later w w' := by
  by_cases h : (ptR s at_ bits_).2 = 0
  · obtain ⟨a, k, m, rfl, hb, h1, h2, h3, h4, h5⟩ := ptR_in h
    have hp : ptR s (a : Int) bits_ = ((k : Int), 0) := Prod.ext h1 h
    rcases hb with ⟨rfl, rfl⟩ | ⟨rfl, rfl⟩
    · exact get_32 s hs a k hp h2 h3 h4 h5 w
    · exact get_64 s hs a k hp h2 h3 h4 h5 w
  · have e : ulR s at_ bits_ = (0, 0, (ptR s at_ bits_).2) := by unfold ulR; exact if_neg h
    rw [e]
    exact get_err s hs at_ bits_ h w
theorem ext_1 (L b : Int) (w : World) :
    Calls Try.prog 89 #[nbr L b 1] w fun e w' => e = .returned (.int .i64 (wrap64 (IntKind.u64.wrap (L * 144115188075855872)) / 144115188075855872)) ∧ Later w w' := by
  unfold nbr
  go_enter Try.func89, Try.ntmps89
  go_wp2_with fail
  go_ret
  exact ⟨rfl, (by repeat first | exact Lz _ | apply La | apply Lv | apply Ld | apply Ln)⟩
theorem ext_2 (L b : Int) (w : World) :
    Calls Try.prog 89 #[nbr L b 2] w fun e w' => e = .returned (.int .i64 (wrap64 (IntKind.u64.wrap (L * 1125899906842624)) / 1125899906842624)) ∧ Later w w' := by
  unfold nbr
  go_enter Try.func89, Try.ntmps89
  go_wp2_with fail
  go_ret
  exact ⟨rfl, (by repeat first | exact Lz _ | apply La | apply Lv | apply Ld | apply Ln)⟩
theorem ext_3 (L b : Int) (w : World) :
    Calls Try.prog 89 #[nbr L b 3] w fun e w' => e = .returned (.int .i64 (wrap64 (IntKind.u64.wrap (L * 8796093022208)) / 8796093022208)) ∧ Later w w' := by
  unfold nbr
  go_enter Try.func89, Try.ntmps89
  go_wp2_with fail
  go_ret
  exact ⟨rfl, (by repeat first | exact Lz _ | apply La | apply Lv | apply Ld | apply Ln)⟩
theorem ext_4 (L b : Int) (w : World) :
    Calls Try.prog 89 #[nbr L b 4] w fun e w' => e = .returned (.int .i64 (wrap64 (IntKind.u64.wrap (L * 68719476736)) / 68719476736)) ∧ Later w w' := by
  unfold nbr
  go_enter Try.func89, Try.ntmps89
  go_wp2_with fail
  go_ret
  exact ⟨rfl, (by repeat first | exact Lz _ | apply La | apply Lv | apply Ld | apply Ln)⟩
theorem ext_5 (L b : Int) (w : World) :
    Calls Try.prog 89 #[nbr L b 5] w fun e w' => e = .returned (.int .i64 (wrap64 (IntKind.u64.wrap (L * 536870912)) / 536870912)) ∧ Later w w' := by
  unfold nbr
  go_enter Try.func89, Try.ntmps89
  go_wp2_with fail
  go_ret
  exact ⟨rfl, (by repeat first | exact Lz _ | apply La | apply Lv | apply Ld | apply Ln)⟩
theorem ext_6 (L b : Int) (w : World) :
    Calls Try.prog 89 #[nbr L b 6] w fun e w' => e = .returned (.int .i64 (wrap64 (IntKind.u64.wrap (L * 4194304)) / 4194304)) ∧ Later w w' := by
  unfold nbr
  go_enter Try.func89, Try.ntmps89
  go_wp2_with fail
  go_ret
  exact ⟨rfl, (by repeat first | exact Lz _ | apply La | apply Lv | apply Ld | apply Ln)⟩
theorem ext_7 (L b : Int) (w : World) :
    Calls Try.prog 89 #[nbr L b 7] w fun e w' => e = .returned (.int .i64 (wrap64 (IntKind.u64.wrap (L * 32768)) / 32768)) ∧ Later w w' := by
  unfold nbr
  go_enter Try.func89, Try.ntmps89
  go_wp2_with fail
  go_ret
  exact ⟨rfl, (by repeat first | exact Lz _ | apply La | apply Lv | apply Ld | apply Ln)⟩
theorem ext_8 (L b : Int) (w : World) :
    Calls Try.prog 89 #[nbr L b 8] w fun e w' => e = .returned (.int .i64 (wrap64 (IntKind.u64.wrap (L * 256)) / 256)) ∧ Later w w' := by
  unfold nbr
  go_enter Try.func89, Try.ntmps89
  go_wp2_with fail
  go_ret
  exact ⟨rfl, (by repeat first | exact Lz _ | apply La | apply Lv | apply Ld | apply Ln)⟩
theorem ext_9 (L b : Int) (w : World) :
    Calls Try.prog 89 #[nbr L b 9] w fun e w' => e = .returned (.int .i64 (wrap64 (IntKind.u64.wrap (L * 2)) / 2)) ∧ Later w w' := by
  unfold nbr
  go_enter Try.func89, Try.ntmps89
  go_wp2_with fail
  go_ret
  exact ⟨rfl, (by repeat first | exact Lz _ | apply La | apply Lv | apply Ld | apply Ln)⟩
theorem ext_10 (L b : Int) (w : World) :
    Calls Try.prog 89 #[nbr L b 10] w fun e w' => e = .returned (.int .i64 (wrap64 (IntKind.u64.wrap (L * 1)) / 1)) ∧ Later w w' := by
  unfold nbr
  go_enter Try.func89, Try.ntmps89
  go_wp2_with fail
  go_ret
  exact ⟨rfl, (by repeat first | exact Lz _ | apply La | apply Lv | apply Ld | apply Ln)⟩
end Go.Proofs.Ytngciahmoenkiab


/- Over this seat's translation: package leb: GetSigned, whole. -/
set_option linter.unusedVariables false
set_option linter.unusedSimpArgs false
set_option maxRecDepth 100000
set_option maxHeartbeats 4000000
namespace Go.Proofs.Ytngciahmoenkiab
open Go.RowKit
theorem gets_ok7 (s : ByteArray) (at_ bits_ L b p X sv : Int) (hb : 0 ≤ b ∧ b < 128) (hap : -9223372036854775808 ≤ at_ + p ∧ at_ + p ≤ 9223372036854775807)
    (hp : Hid (∀ w : World, Calls Try.prog 48 #[.string s, .int .i64 at_, .int .i64 bits_] w fun e w' => e = .returned (.tuple #[nbr L b p, .int .i64 0]) ∧ Later w w'))
    (hr : Hid (∀ w : World, Calls Try.prog 49 #[.int .i64 p, .int .i64 bits_] w fun e w' => e = .returned (.int .i64 7) ∧ w' = w))
    (hx : Hid (∀ w : World, Calls Try.prog 89 #[nbr L b p] w fun e w' => e = .returned (.int .i64 X) ∧ Later w w'))
    (hsv : IntKind.i8.wrap (b * 2) / 2 = sv) (hsr : -64 ≤ sv ∧ sv ≤ 63) (ht : ((sv / 64) != 0) = false ∨ (((sv / 64) != 0) = true ∧ ((sv / 64) != -1) = false))
    (w : World) :
    Calls Try.prog 88 #[.string s, .int .i64 at_, .int .i64 bits_] w fun e w' => e = .returned (.tuple #[.int .i64 X, .int .i64 (at_ + p), .int .i64 0]) ∧ Later w w' := by
  unfold nbr at hp hx
  rcases ht with t1 | ⟨t1, t2⟩
  · go_enter Try.func88, Try.ntmps88
    go_wp2_with (first | (go_at_call 48; refine (hp.out _).mono ?_; rintro e w2 ⟨rfl, h3⟩) | (go_at_call 49; refine (hr.out _).mono ?_; rintro e w3 ⟨rfl, hw⟩; obtain rfl : _ = w3 := hw.symm))
    obtain ⟨W, hW⟩ : ∃ W : World, W = w2.alloc (.cells #[.int .u64 L, .int .u8 b, .int .i64 p] 101) := ⟨_, rfl⟩
    rw [← hW]
    have LW : Hid (Later w W) := by rw [hW]; exact La h3
    have v0 : W.cell? ⟨w2.heap.size, 0, none⟩ = some (.int .u64 L) := by rw [hW]; simp [go_sem]
    have v1 : W.cell? ⟨w2.heap.size, 1, none⟩ = some (.int .u8 b) := by rw [hW]; simp [go_sem]
    have v2 : W.cell? ⟨w2.heap.size, 2, none⟩ = some (.int .i64 p) := by rw [hW]; simp [go_sem]
    have hlt := cell_lt v0
    clear hW h3
    generalize w2.heap.size = g at *
    go_region_law (go_simp; go_at_call 89; refine (hx.out _).mono ?_; rintro e w4 ⟨rfl, h5⟩; replace h5 : Hid (Later _ w4) := h5; have z2 := (later_of h5).cell_of (w := W.drew) v2; have hlt4 := cell_lt z2)
    all_goals
      go_wp2_with fail
      go_ret3
      exact ⟨rfl, (by repeat first | exact LW.out | exact Later.trans (Ld LW.out) h5.out | apply La | apply Lv | apply Ld | apply Ln)⟩
  · go_enter Try.func88, Try.ntmps88
    go_wp2_with (first | (go_at_call 48; refine (hp.out _).mono ?_; rintro e w2 ⟨rfl, h3⟩) | (go_at_call 49; refine (hr.out _).mono ?_; rintro e w3 ⟨rfl, hw⟩; obtain rfl : _ = w3 := hw.symm))
    obtain ⟨W, hW⟩ : ∃ W : World, W = w2.alloc (.cells #[.int .u64 L, .int .u8 b, .int .i64 p] 101) := ⟨_, rfl⟩
    rw [← hW]
    have LW : Hid (Later w W) := by rw [hW]; exact La h3
    have v0 : W.cell? ⟨w2.heap.size, 0, none⟩ = some (.int .u64 L) := by rw [hW]; simp [go_sem]
    have v1 : W.cell? ⟨w2.heap.size, 1, none⟩ = some (.int .u8 b) := by rw [hW]; simp [go_sem]
    have v2 : W.cell? ⟨w2.heap.size, 2, none⟩ = some (.int .i64 p) := by rw [hW]; simp [go_sem]
    have hlt := cell_lt v0
    clear hW h3
    generalize w2.heap.size = g at *
    go_region_law (go_simp; go_at_call 89; refine (hx.out _).mono ?_; rintro e w4 ⟨rfl, h5⟩; replace h5 : Hid (Later _ w4) := h5; have z2 := (later_of h5).cell_of (w := W.drew) v2; have hlt4 := cell_lt z2)
    all_goals
      go_wp2_with fail
      go_ret3
      exact ⟨rfl, (by repeat first | exact LW.out | exact Later.trans (Ld LW.out) h5.out | apply La | apply Lv | apply Ld | apply Ln)⟩
theorem gets_form7 (s : ByteArray) (at_ bits_ L b p X sv : Int) (hb : 0 ≤ b ∧ b < 128) (hap : -9223372036854775808 ≤ at_ + p ∧ at_ + p ≤ 9223372036854775807)
    (hp : Hid (∀ w : World, Calls Try.prog 48 #[.string s, .int .i64 at_, .int .i64 bits_] w fun e w' => e = .returned (.tuple #[nbr L b p, .int .i64 0]) ∧ Later w w'))
    (hr : Hid (∀ w : World, Calls Try.prog 49 #[.int .i64 p, .int .i64 bits_] w fun e w' => e = .returned (.int .i64 7) ∧ w' = w))
    (hx : Hid (∀ w : World, Calls Try.prog 89 #[nbr L b p] w fun e w' => e = .returned (.int .i64 X) ∧ Later w w'))
    (hsv : IntKind.i8.wrap (b * 2) / 2 = sv) (hsr : -64 ≤ sv ∧ sv ≤ 63) (t1 : ((sv / 64) != 0) = true) (t2 : ((sv / 64) != -1) = true)
    (w : World) :
    Calls Try.prog 88 #[.string s, .int .i64 at_, .int .i64 bits_] w fun e w' => e = .returned (.tuple #[.int .i64 0, .int .i64 0, .int .i64 1200]) ∧ Later w w' := by
  unfold nbr at hp hx
  go_enter Try.func88, Try.ntmps88
  go_wp2_with (first | (go_at_call 48; refine (hp.out _).mono ?_; rintro e w2 ⟨rfl, h3⟩) | (go_at_call 49; refine (hr.out _).mono ?_; rintro e w3 ⟨rfl, hw⟩; obtain rfl : _ = w3 := hw.symm))
  go_ret3
  exact ⟨rfl, (by repeat first | exact h3 | apply La | apply Lv | apply Ld | apply Ln)⟩
theorem gets_ok4 (s : ByteArray) (at_ bits_ L b p X sv : Int) (hb : 0 ≤ b ∧ b < 128) (hap : -9223372036854775808 ≤ at_ + p ∧ at_ + p ≤ 9223372036854775807)
    (hp : Hid (∀ w : World, Calls Try.prog 48 #[.string s, .int .i64 at_, .int .i64 bits_] w fun e w' => e = .returned (.tuple #[nbr L b p, .int .i64 0]) ∧ Later w w'))
    (hr : Hid (∀ w : World, Calls Try.prog 49 #[.int .i64 p, .int .i64 bits_] w fun e w' => e = .returned (.int .i64 4) ∧ w' = w))
    (hx : Hid (∀ w : World, Calls Try.prog 89 #[nbr L b p] w fun e w' => e = .returned (.int .i64 X) ∧ Later w w'))
    (hsv : IntKind.i8.wrap (b * 2) / 2 = sv) (hsr : -64 ≤ sv ∧ sv ≤ 63) (ht : ((sv / 8) != 0) = false ∨ (((sv / 8) != 0) = true ∧ ((sv / 8) != -1) = false))
    (w : World) :
    Calls Try.prog 88 #[.string s, .int .i64 at_, .int .i64 bits_] w fun e w' => e = .returned (.tuple #[.int .i64 X, .int .i64 (at_ + p), .int .i64 0]) ∧ Later w w' := by
  unfold nbr at hp hx
  rcases ht with t1 | ⟨t1, t2⟩
  · go_enter Try.func88, Try.ntmps88
    go_wp2_with (first | (go_at_call 48; refine (hp.out _).mono ?_; rintro e w2 ⟨rfl, h3⟩) | (go_at_call 49; refine (hr.out _).mono ?_; rintro e w3 ⟨rfl, hw⟩; obtain rfl : _ = w3 := hw.symm))
    obtain ⟨W, hW⟩ : ∃ W : World, W = w2.alloc (.cells #[.int .u64 L, .int .u8 b, .int .i64 p] 101) := ⟨_, rfl⟩
    rw [← hW]
    have LW : Hid (Later w W) := by rw [hW]; exact La h3
    have v0 : W.cell? ⟨w2.heap.size, 0, none⟩ = some (.int .u64 L) := by rw [hW]; simp [go_sem]
    have v1 : W.cell? ⟨w2.heap.size, 1, none⟩ = some (.int .u8 b) := by rw [hW]; simp [go_sem]
    have v2 : W.cell? ⟨w2.heap.size, 2, none⟩ = some (.int .i64 p) := by rw [hW]; simp [go_sem]
    have hlt := cell_lt v0
    clear hW h3
    generalize w2.heap.size = g at *
    go_region_law (go_simp; go_at_call 89; refine (hx.out _).mono ?_; rintro e w4 ⟨rfl, h5⟩; replace h5 : Hid (Later _ w4) := h5; have z2 := (later_of h5).cell_of (w := W.drew) v2; have hlt4 := cell_lt z2)
    all_goals
      go_wp2_with fail
      go_ret3
      exact ⟨rfl, (by repeat first | exact LW.out | exact Later.trans (Ld LW.out) h5.out | apply La | apply Lv | apply Ld | apply Ln)⟩
  · go_enter Try.func88, Try.ntmps88
    go_wp2_with (first | (go_at_call 48; refine (hp.out _).mono ?_; rintro e w2 ⟨rfl, h3⟩) | (go_at_call 49; refine (hr.out _).mono ?_; rintro e w3 ⟨rfl, hw⟩; obtain rfl : _ = w3 := hw.symm))
    obtain ⟨W, hW⟩ : ∃ W : World, W = w2.alloc (.cells #[.int .u64 L, .int .u8 b, .int .i64 p] 101) := ⟨_, rfl⟩
    rw [← hW]
    have LW : Hid (Later w W) := by rw [hW]; exact La h3
    have v0 : W.cell? ⟨w2.heap.size, 0, none⟩ = some (.int .u64 L) := by rw [hW]; simp [go_sem]
    have v1 : W.cell? ⟨w2.heap.size, 1, none⟩ = some (.int .u8 b) := by rw [hW]; simp [go_sem]
    have v2 : W.cell? ⟨w2.heap.size, 2, none⟩ = some (.int .i64 p) := by rw [hW]; simp [go_sem]
    have hlt := cell_lt v0
    clear hW h3
    generalize w2.heap.size = g at *
    go_region_law (go_simp; go_at_call 89; refine (hx.out _).mono ?_; rintro e w4 ⟨rfl, h5⟩; replace h5 : Hid (Later _ w4) := h5; have z2 := (later_of h5).cell_of (w := W.drew) v2; have hlt4 := cell_lt z2)
    all_goals
      go_wp2_with fail
      go_ret3
      exact ⟨rfl, (by repeat first | exact LW.out | exact Later.trans (Ld LW.out) h5.out | apply La | apply Lv | apply Ld | apply Ln)⟩
theorem gets_form4 (s : ByteArray) (at_ bits_ L b p X sv : Int) (hb : 0 ≤ b ∧ b < 128) (hap : -9223372036854775808 ≤ at_ + p ∧ at_ + p ≤ 9223372036854775807)
    (hp : Hid (∀ w : World, Calls Try.prog 48 #[.string s, .int .i64 at_, .int .i64 bits_] w fun e w' => e = .returned (.tuple #[nbr L b p, .int .i64 0]) ∧ Later w w'))
    (hr : Hid (∀ w : World, Calls Try.prog 49 #[.int .i64 p, .int .i64 bits_] w fun e w' => e = .returned (.int .i64 4) ∧ w' = w))
    (hx : Hid (∀ w : World, Calls Try.prog 89 #[nbr L b p] w fun e w' => e = .returned (.int .i64 X) ∧ Later w w'))
    (hsv : IntKind.i8.wrap (b * 2) / 2 = sv) (hsr : -64 ≤ sv ∧ sv ≤ 63) (t1 : ((sv / 8) != 0) = true) (t2 : ((sv / 8) != -1) = true)
    (w : World) :
    Calls Try.prog 88 #[.string s, .int .i64 at_, .int .i64 bits_] w fun e w' => e = .returned (.tuple #[.int .i64 0, .int .i64 0, .int .i64 1200]) ∧ Later w w' := by
  unfold nbr at hp hx
  go_enter Try.func88, Try.ntmps88
  go_wp2_with (first | (go_at_call 48; refine (hp.out _).mono ?_; rintro e w2 ⟨rfl, h3⟩) | (go_at_call 49; refine (hr.out _).mono ?_; rintro e w3 ⟨rfl, hw⟩; obtain rfl : _ = w3 := hw.symm))
  go_ret3
  exact ⟨rfl, (by repeat first | exact h3 | apply La | apply Lv | apply Ld | apply Ln)⟩
theorem gets_ok1 (s : ByteArray) (at_ bits_ L b p X sv : Int) (hb : 0 ≤ b ∧ b < 128) (hap : -9223372036854775808 ≤ at_ + p ∧ at_ + p ≤ 9223372036854775807)
    (hp : Hid (∀ w : World, Calls Try.prog 48 #[.string s, .int .i64 at_, .int .i64 bits_] w fun e w' => e = .returned (.tuple #[nbr L b p, .int .i64 0]) ∧ Later w w'))
    (hr : Hid (∀ w : World, Calls Try.prog 49 #[.int .i64 p, .int .i64 bits_] w fun e w' => e = .returned (.int .i64 1) ∧ w' = w))
    (hx : Hid (∀ w : World, Calls Try.prog 89 #[nbr L b p] w fun e w' => e = .returned (.int .i64 X) ∧ Later w w'))
    (hsv : IntKind.i8.wrap (b * 2) / 2 = sv) (hsr : -64 ≤ sv ∧ sv ≤ 63) (ht : ((sv) != 0) = false ∨ (((sv) != 0) = true ∧ ((sv) != -1) = false))
    (w : World) :
    Calls Try.prog 88 #[.string s, .int .i64 at_, .int .i64 bits_] w fun e w' => e = .returned (.tuple #[.int .i64 X, .int .i64 (at_ + p), .int .i64 0]) ∧ Later w w' := by
  unfold nbr at hp hx
  rcases ht with t1 | ⟨t1, t2⟩
  · go_enter Try.func88, Try.ntmps88
    go_wp2_with (first | (go_at_call 48; refine (hp.out _).mono ?_; rintro e w2 ⟨rfl, h3⟩) | (go_at_call 49; refine (hr.out _).mono ?_; rintro e w3 ⟨rfl, hw⟩; obtain rfl : _ = w3 := hw.symm))
    obtain ⟨W, hW⟩ : ∃ W : World, W = w2.alloc (.cells #[.int .u64 L, .int .u8 b, .int .i64 p] 101) := ⟨_, rfl⟩
    rw [← hW]
    have LW : Hid (Later w W) := by rw [hW]; exact La h3
    have v0 : W.cell? ⟨w2.heap.size, 0, none⟩ = some (.int .u64 L) := by rw [hW]; simp [go_sem]
    have v1 : W.cell? ⟨w2.heap.size, 1, none⟩ = some (.int .u8 b) := by rw [hW]; simp [go_sem]
    have v2 : W.cell? ⟨w2.heap.size, 2, none⟩ = some (.int .i64 p) := by rw [hW]; simp [go_sem]
    have hlt := cell_lt v0
    clear hW h3
    generalize w2.heap.size = g at *
    go_region_law (go_simp; go_at_call 89; refine (hx.out _).mono ?_; rintro e w4 ⟨rfl, h5⟩; replace h5 : Hid (Later _ w4) := h5; have z2 := (later_of h5).cell_of (w := W.drew) v2; have hlt4 := cell_lt z2)
    all_goals
      go_wp2_with fail
      go_ret3
      exact ⟨rfl, (by repeat first | exact LW.out | exact Later.trans (Ld LW.out) h5.out | apply La | apply Lv | apply Ld | apply Ln)⟩
  · go_enter Try.func88, Try.ntmps88
    go_wp2_with (first | (go_at_call 48; refine (hp.out _).mono ?_; rintro e w2 ⟨rfl, h3⟩) | (go_at_call 49; refine (hr.out _).mono ?_; rintro e w3 ⟨rfl, hw⟩; obtain rfl : _ = w3 := hw.symm))
    obtain ⟨W, hW⟩ : ∃ W : World, W = w2.alloc (.cells #[.int .u64 L, .int .u8 b, .int .i64 p] 101) := ⟨_, rfl⟩
    rw [← hW]
    have LW : Hid (Later w W) := by rw [hW]; exact La h3
    have v0 : W.cell? ⟨w2.heap.size, 0, none⟩ = some (.int .u64 L) := by rw [hW]; simp [go_sem]
    have v1 : W.cell? ⟨w2.heap.size, 1, none⟩ = some (.int .u8 b) := by rw [hW]; simp [go_sem]
    have v2 : W.cell? ⟨w2.heap.size, 2, none⟩ = some (.int .i64 p) := by rw [hW]; simp [go_sem]
    have hlt := cell_lt v0
    clear hW h3
    generalize w2.heap.size = g at *
    go_region_law (go_simp; go_at_call 89; refine (hx.out _).mono ?_; rintro e w4 ⟨rfl, h5⟩; replace h5 : Hid (Later _ w4) := h5; have z2 := (later_of h5).cell_of (w := W.drew) v2; have hlt4 := cell_lt z2)
    all_goals
      go_wp2_with fail
      go_ret3
      exact ⟨rfl, (by repeat first | exact LW.out | exact Later.trans (Ld LW.out) h5.out | apply La | apply Lv | apply Ld | apply Ln)⟩
theorem gets_form1 (s : ByteArray) (at_ bits_ L b p X sv : Int) (hb : 0 ≤ b ∧ b < 128) (hap : -9223372036854775808 ≤ at_ + p ∧ at_ + p ≤ 9223372036854775807)
    (hp : Hid (∀ w : World, Calls Try.prog 48 #[.string s, .int .i64 at_, .int .i64 bits_] w fun e w' => e = .returned (.tuple #[nbr L b p, .int .i64 0]) ∧ Later w w'))
    (hr : Hid (∀ w : World, Calls Try.prog 49 #[.int .i64 p, .int .i64 bits_] w fun e w' => e = .returned (.int .i64 1) ∧ w' = w))
    (hx : Hid (∀ w : World, Calls Try.prog 89 #[nbr L b p] w fun e w' => e = .returned (.int .i64 X) ∧ Later w w'))
    (hsv : IntKind.i8.wrap (b * 2) / 2 = sv) (hsr : -64 ≤ sv ∧ sv ≤ 63) (t1 : ((sv) != 0) = true) (t2 : ((sv) != -1) = true)
    (w : World) :
    Calls Try.prog 88 #[.string s, .int .i64 at_, .int .i64 bits_] w fun e w' => e = .returned (.tuple #[.int .i64 0, .int .i64 0, .int .i64 1200]) ∧ Later w w' := by
  unfold nbr at hp hx
  go_enter Try.func88, Try.ntmps88
  go_wp2_with (first | (go_at_call 48; refine (hp.out _).mono ?_; rintro e w2 ⟨rfl, h3⟩) | (go_at_call 49; refine (hr.out _).mono ?_; rintro e w3 ⟨rfl, hw⟩; obtain rfl : _ = w3 := hw.symm))
  go_ret3
  exact ⟨rfl, (by repeat first | exact h3 | apply La | apply Lv | apply Ld | apply Ln)⟩
/-- a part's bits below its last as a number with its sign -/
theorem sv_of (b : Int) (hb : 0 ≤ b ∧ b < 128) : IntKind.i8.wrap (b * 2) / 2 = if b < 64 then b else b - 128 := by
  have h : ∀ n : Nat, n < 128 → IntKind.i8.wrap ((n : Int) * 2) / 2 = if (n : Int) < 64 then (n : Int) else (n : Int) - 128 := by decide +kernel
  have := h b.toNat (by omega)
  rwa [Int.toNat_of_nonneg hb.1] at this
theorem sx_1 (l c : Int) (hl : 0 ≤ l ∧ l < 1) (hc : 0 ≤ c ∧ c < 128) : wrap64 (IntKind.u64.wrap ((l + c * 1) % 18446744073709551616 * 144115188075855872)) / 144115188075855872 = wrap64 (l + c * 1 + (if c < 64 then 0 else -1) * 128) := by
  rw [IntKind.wrap_u64]
  unfold wrap64
  split <;> omega
theorem sx_2 (l c : Int) (hl : 0 ≤ l ∧ l < 128) (hc : 0 ≤ c ∧ c < 128) : wrap64 (IntKind.u64.wrap ((l + c * 128) % 18446744073709551616 * 1125899906842624)) / 1125899906842624 = wrap64 (l + c * 128 + (if c < 64 then 0 else -1) * 16384) := by
  rw [IntKind.wrap_u64]
  unfold wrap64
  split <;> omega
theorem sx_3 (l c : Int) (hl : 0 ≤ l ∧ l < 16384) (hc : 0 ≤ c ∧ c < 128) : wrap64 (IntKind.u64.wrap ((l + c * 16384) % 18446744073709551616 * 8796093022208)) / 8796093022208 = wrap64 (l + c * 16384 + (if c < 64 then 0 else -1) * 2097152) := by
  rw [IntKind.wrap_u64]
  unfold wrap64
  split <;> omega
theorem sx_4 (l c : Int) (hl : 0 ≤ l ∧ l < 2097152) (hc : 0 ≤ c ∧ c < 128) : wrap64 (IntKind.u64.wrap ((l + c * 2097152) % 18446744073709551616 * 68719476736)) / 68719476736 = wrap64 (l + c * 2097152 + (if c < 64 then 0 else -1) * 268435456) := by
  rw [IntKind.wrap_u64]
  unfold wrap64
  split <;> omega
theorem sx_5 (l c : Int) (hl : 0 ≤ l ∧ l < 268435456) (hc : 0 ≤ c ∧ c < 128) : wrap64 (IntKind.u64.wrap ((l + c * 268435456) % 18446744073709551616 * 536870912)) / 536870912 = wrap64 (l + c * 268435456 + (if c < 64 then 0 else -1) * 34359738368) := by
  rw [IntKind.wrap_u64]
  unfold wrap64
  split <;> omega
theorem sx_6 (l c : Int) (hl : 0 ≤ l ∧ l < 34359738368) (hc : 0 ≤ c ∧ c < 128) : wrap64 (IntKind.u64.wrap ((l + c * 34359738368) % 18446744073709551616 * 4194304)) / 4194304 = wrap64 (l + c * 34359738368 + (if c < 64 then 0 else -1) * 4398046511104) := by
  rw [IntKind.wrap_u64]
  unfold wrap64
  split <;> omega
theorem sx_7 (l c : Int) (hl : 0 ≤ l ∧ l < 4398046511104) (hc : 0 ≤ c ∧ c < 128) : wrap64 (IntKind.u64.wrap ((l + c * 4398046511104) % 18446744073709551616 * 32768)) / 32768 = wrap64 (l + c * 4398046511104 + (if c < 64 then 0 else -1) * 562949953421312) := by
  rw [IntKind.wrap_u64]
  unfold wrap64
  split <;> omega
theorem sx_8 (l c : Int) (hl : 0 ≤ l ∧ l < 562949953421312) (hc : 0 ≤ c ∧ c < 128) : wrap64 (IntKind.u64.wrap ((l + c * 562949953421312) % 18446744073709551616 * 256)) / 256 = wrap64 (l + c * 562949953421312 + (if c < 64 then 0 else -1) * 72057594037927936) := by
  rw [IntKind.wrap_u64]
  unfold wrap64
  split <;> omega
theorem sx_9 (l c : Int) (hl : 0 ≤ l ∧ l < 72057594037927936) (hc : 0 ≤ c ∧ c < 128) : wrap64 (IntKind.u64.wrap ((l + c * 72057594037927936) % 18446744073709551616 * 2)) / 2 = wrap64 (l + c * 72057594037927936 + (if c < 64 then 0 else -1) * 9223372036854775808) := by
  rw [IntKind.wrap_u64]
  unfold wrap64
  split <;> omega
theorem sx_10 (l c : Int) (hl : 0 ≤ l ∧ l < 9223372036854775808) (hc : 0 ≤ c ∧ c < 128) : wrap64 (IntKind.u64.wrap ((l + c * 9223372036854775808) % 18446744073709551616 * 1)) / 1 = wrap64 (l + c * 9223372036854775808 + (if c < 64 then 0 else -1) * 1180591620717411303424) := by
  rw [IntKind.wrap_u64]
  unfold wrap64
  split <;> omega
theorem s3_1 (l c : Int) (hl : 0 ≤ l ∧ l < 1) (hc : 0 ≤ c ∧ c < 128) : wrap64 (l + c * 1 + (if c < 64 then 0 else -1) * 128) = sg3 (wrap64 (l + c * 1 + (if c < 64 then 0 else -1) * 128)) := by
  unfold sg3 wrap64
  split <;> split <;> omega
theorem s3_2 (l c : Int) (hl : 0 ≤ l ∧ l < 128) (hc : 0 ≤ c ∧ c < 128) : wrap64 (l + c * 128 + (if c < 64 then 0 else -1) * 16384) = sg3 (wrap64 (l + c * 128 + (if c < 64 then 0 else -1) * 16384)) := by
  unfold sg3 wrap64
  split <;> split <;> omega
theorem s3_3 (l c : Int) (hl : 0 ≤ l ∧ l < 16384) (hc : 0 ≤ c ∧ c < 128) : wrap64 (l + c * 16384 + (if c < 64 then 0 else -1) * 2097152) = sg3 (wrap64 (l + c * 16384 + (if c < 64 then 0 else -1) * 2097152)) := by
  unfold sg3 wrap64
  split <;> split <;> omega
theorem s3_4 (l c : Int) (hl : 0 ≤ l ∧ l < 2097152) (hc : 0 ≤ c ∧ c < 128) : wrap64 (l + c * 2097152 + (if c < 64 then 0 else -1) * 268435456) = sg3 (wrap64 (l + c * 2097152 + (if c < 64 then 0 else -1) * 268435456)) := by
  unfold sg3 wrap64
  split <;> split <;> omega
theorem s3_5 (l c : Int) (hl : 0 ≤ l ∧ l < 268435456) (hc : 0 ≤ c ∧ c < 128) (h8 : c / 8 = 0 ∨ c / 8 = 15) : wrap64 (l + c * 268435456 + (if c < 64 then 0 else -1) * 34359738368) = sg3 (wrap64 (l + c * 268435456 + (if c < 64 then 0 else -1) * 34359738368)) := by
  unfold sg3 wrap64
  split <;> split <;> omega
end Go.Proofs.Ytngciahmoenkiab


/- Over this seat's translation: package leb: GetSigned is the document's. -/
set_option linter.unusedVariables false
set_option linter.unusedSimpArgs false
set_option maxRecDepth 100000
set_option maxHeartbeats 4000000
namespace Go.Proofs.Ytngciahmoenkiab
open Go.RowKit
theorem ac_sign (s : ByteArray) (a j : Nat) (c : Int) : ac s a j (if c < 64 then 0 else -1) = wrap64 (lo s a j + (if c < 64 then 0 else -1) * 128 ^ j) := ac_lo s a j _ (by unfold wrap64; split <;> omega)
theorem lo_at1 (s : ByteArray) (a : Nat) : lo s a 1 = lo s a 0 + bt s (a + 0) % 128 * 1 := by
  show lo s a 0 + bt s (a + 0) % 128 * (128 : Int) ^ 0 = _
  rw [show (128 : Int) ^ 0 = 1 by decide]
theorem lo_in1 (s : ByteArray) (a : Nat) : 0 ≤ lo s a 0 ∧ lo s a 0 < 1 := by
  have := lo_rng s a 0
  rwa [show (128 : Int) ^ 0 = 1 by decide] at this
theorem exv_1 (s : ByteArray) (a : Nat) (w : World) :
    Calls Try.prog 89 #[nbr (lo s a 1 % 18446744073709551616) (bt s (a + 0)) 1] w fun e w' => e = .returned (.int .i64 (ac s a 1 (if bt s (a + 0) % 128 < 64 then 0 else -1))) ∧ Later w w' := by
  have hm := sx_1 (lo s a 0) (bt s (a + 0) % 128) (lo_in1 s a) (by omega)
  rw [← lo_at1] at hm
  have h := ext_1 (lo s a 1 % 18446744073709551616) (bt s (a + 0)) w
  rw [hm] at h
  rw [ac_sign, show (128 : Int) ^ 1 = 128 by decide]
  exact h
theorem lo_at2 (s : ByteArray) (a : Nat) : lo s a 2 = lo s a 1 + bt s (a + 1) % 128 * 128 := by
  show lo s a 1 + bt s (a + 1) % 128 * (128 : Int) ^ 1 = _
  rw [show (128 : Int) ^ 1 = 128 by decide]
theorem lo_in2 (s : ByteArray) (a : Nat) : 0 ≤ lo s a 1 ∧ lo s a 1 < 128 := by
  have := lo_rng s a 1
  rwa [show (128 : Int) ^ 1 = 128 by decide] at this
theorem exv_2 (s : ByteArray) (a : Nat) (w : World) :
    Calls Try.prog 89 #[nbr (lo s a 2 % 18446744073709551616) (bt s (a + 1)) 2] w fun e w' => e = .returned (.int .i64 (ac s a 2 (if bt s (a + 1) % 128 < 64 then 0 else -1))) ∧ Later w w' := by
  have hm := sx_2 (lo s a 1) (bt s (a + 1) % 128) (lo_in2 s a) (by omega)
  rw [← lo_at2] at hm
  have h := ext_2 (lo s a 2 % 18446744073709551616) (bt s (a + 1)) w
  rw [hm] at h
  rw [ac_sign, show (128 : Int) ^ 2 = 16384 by decide]
  exact h
theorem lo_at3 (s : ByteArray) (a : Nat) : lo s a 3 = lo s a 2 + bt s (a + 2) % 128 * 16384 := by
  show lo s a 2 + bt s (a + 2) % 128 * (128 : Int) ^ 2 = _
  rw [show (128 : Int) ^ 2 = 16384 by decide]
theorem lo_in3 (s : ByteArray) (a : Nat) : 0 ≤ lo s a 2 ∧ lo s a 2 < 16384 := by
  have := lo_rng s a 2
  rwa [show (128 : Int) ^ 2 = 16384 by decide] at this
theorem exv_3 (s : ByteArray) (a : Nat) (w : World) :
    Calls Try.prog 89 #[nbr (lo s a 3 % 18446744073709551616) (bt s (a + 2)) 3] w fun e w' => e = .returned (.int .i64 (ac s a 3 (if bt s (a + 2) % 128 < 64 then 0 else -1))) ∧ Later w w' := by
  have hm := sx_3 (lo s a 2) (bt s (a + 2) % 128) (lo_in3 s a) (by omega)
  rw [← lo_at3] at hm
  have h := ext_3 (lo s a 3 % 18446744073709551616) (bt s (a + 2)) w
  rw [hm] at h
  rw [ac_sign, show (128 : Int) ^ 3 = 2097152 by decide]
  exact h
theorem lo_at4 (s : ByteArray) (a : Nat) : lo s a 4 = lo s a 3 + bt s (a + 3) % 128 * 2097152 := by
  show lo s a 3 + bt s (a + 3) % 128 * (128 : Int) ^ 3 = _
  rw [show (128 : Int) ^ 3 = 2097152 by decide]
theorem lo_in4 (s : ByteArray) (a : Nat) : 0 ≤ lo s a 3 ∧ lo s a 3 < 2097152 := by
  have := lo_rng s a 3
  rwa [show (128 : Int) ^ 3 = 2097152 by decide] at this
theorem exv_4 (s : ByteArray) (a : Nat) (w : World) :
    Calls Try.prog 89 #[nbr (lo s a 4 % 18446744073709551616) (bt s (a + 3)) 4] w fun e w' => e = .returned (.int .i64 (ac s a 4 (if bt s (a + 3) % 128 < 64 then 0 else -1))) ∧ Later w w' := by
  have hm := sx_4 (lo s a 3) (bt s (a + 3) % 128) (lo_in4 s a) (by omega)
  rw [← lo_at4] at hm
  have h := ext_4 (lo s a 4 % 18446744073709551616) (bt s (a + 3)) w
  rw [hm] at h
  rw [ac_sign, show (128 : Int) ^ 4 = 268435456 by decide]
  exact h
theorem lo_at5 (s : ByteArray) (a : Nat) : lo s a 5 = lo s a 4 + bt s (a + 4) % 128 * 268435456 := by
  show lo s a 4 + bt s (a + 4) % 128 * (128 : Int) ^ 4 = _
  rw [show (128 : Int) ^ 4 = 268435456 by decide]
theorem lo_in5 (s : ByteArray) (a : Nat) : 0 ≤ lo s a 4 ∧ lo s a 4 < 268435456 := by
  have := lo_rng s a 4
  rwa [show (128 : Int) ^ 4 = 268435456 by decide] at this
theorem exv_5 (s : ByteArray) (a : Nat) (w : World) :
    Calls Try.prog 89 #[nbr (lo s a 5 % 18446744073709551616) (bt s (a + 4)) 5] w fun e w' => e = .returned (.int .i64 (ac s a 5 (if bt s (a + 4) % 128 < 64 then 0 else -1))) ∧ Later w w' := by
  have hm := sx_5 (lo s a 4) (bt s (a + 4) % 128) (lo_in5 s a) (by omega)
  rw [← lo_at5] at hm
  have h := ext_5 (lo s a 5 % 18446744073709551616) (bt s (a + 4)) w
  rw [hm] at h
  rw [ac_sign, show (128 : Int) ^ 5 = 34359738368 by decide]
  exact h
theorem lo_at6 (s : ByteArray) (a : Nat) : lo s a 6 = lo s a 5 + bt s (a + 5) % 128 * 34359738368 := by
  show lo s a 5 + bt s (a + 5) % 128 * (128 : Int) ^ 5 = _
  rw [show (128 : Int) ^ 5 = 34359738368 by decide]
theorem lo_in6 (s : ByteArray) (a : Nat) : 0 ≤ lo s a 5 ∧ lo s a 5 < 34359738368 := by
  have := lo_rng s a 5
  rwa [show (128 : Int) ^ 5 = 34359738368 by decide] at this
theorem exv_6 (s : ByteArray) (a : Nat) (w : World) :
    Calls Try.prog 89 #[nbr (lo s a 6 % 18446744073709551616) (bt s (a + 5)) 6] w fun e w' => e = .returned (.int .i64 (ac s a 6 (if bt s (a + 5) % 128 < 64 then 0 else -1))) ∧ Later w w' := by
  have hm := sx_6 (lo s a 5) (bt s (a + 5) % 128) (lo_in6 s a) (by omega)
  rw [← lo_at6] at hm
  have h := ext_6 (lo s a 6 % 18446744073709551616) (bt s (a + 5)) w
  rw [hm] at h
  rw [ac_sign, show (128 : Int) ^ 6 = 4398046511104 by decide]
  exact h
theorem lo_at7 (s : ByteArray) (a : Nat) : lo s a 7 = lo s a 6 + bt s (a + 6) % 128 * 4398046511104 := by
  show lo s a 6 + bt s (a + 6) % 128 * (128 : Int) ^ 6 = _
  rw [show (128 : Int) ^ 6 = 4398046511104 by decide]
theorem lo_in7 (s : ByteArray) (a : Nat) : 0 ≤ lo s a 6 ∧ lo s a 6 < 4398046511104 := by
  have := lo_rng s a 6
  rwa [show (128 : Int) ^ 6 = 4398046511104 by decide] at this
theorem exv_7 (s : ByteArray) (a : Nat) (w : World) :
    Calls Try.prog 89 #[nbr (lo s a 7 % 18446744073709551616) (bt s (a + 6)) 7] w fun e w' => e = .returned (.int .i64 (ac s a 7 (if bt s (a + 6) % 128 < 64 then 0 else -1))) ∧ Later w w' := by
  have hm := sx_7 (lo s a 6) (bt s (a + 6) % 128) (lo_in7 s a) (by omega)
  rw [← lo_at7] at hm
  have h := ext_7 (lo s a 7 % 18446744073709551616) (bt s (a + 6)) w
  rw [hm] at h
  rw [ac_sign, show (128 : Int) ^ 7 = 562949953421312 by decide]
  exact h
theorem lo_at8 (s : ByteArray) (a : Nat) : lo s a 8 = lo s a 7 + bt s (a + 7) % 128 * 562949953421312 := by
  show lo s a 7 + bt s (a + 7) % 128 * (128 : Int) ^ 7 = _
  rw [show (128 : Int) ^ 7 = 562949953421312 by decide]
theorem lo_in8 (s : ByteArray) (a : Nat) : 0 ≤ lo s a 7 ∧ lo s a 7 < 562949953421312 := by
  have := lo_rng s a 7
  rwa [show (128 : Int) ^ 7 = 562949953421312 by decide] at this
theorem exv_8 (s : ByteArray) (a : Nat) (w : World) :
    Calls Try.prog 89 #[nbr (lo s a 8 % 18446744073709551616) (bt s (a + 7)) 8] w fun e w' => e = .returned (.int .i64 (ac s a 8 (if bt s (a + 7) % 128 < 64 then 0 else -1))) ∧ Later w w' := by
  have hm := sx_8 (lo s a 7) (bt s (a + 7) % 128) (lo_in8 s a) (by omega)
  rw [← lo_at8] at hm
  have h := ext_8 (lo s a 8 % 18446744073709551616) (bt s (a + 7)) w
  rw [hm] at h
  rw [ac_sign, show (128 : Int) ^ 8 = 72057594037927936 by decide]
  exact h
theorem lo_at9 (s : ByteArray) (a : Nat) : lo s a 9 = lo s a 8 + bt s (a + 8) % 128 * 72057594037927936 := by
  show lo s a 8 + bt s (a + 8) % 128 * (128 : Int) ^ 8 = _
  rw [show (128 : Int) ^ 8 = 72057594037927936 by decide]
theorem lo_in9 (s : ByteArray) (a : Nat) : 0 ≤ lo s a 8 ∧ lo s a 8 < 72057594037927936 := by
  have := lo_rng s a 8
  rwa [show (128 : Int) ^ 8 = 72057594037927936 by decide] at this
theorem exv_9 (s : ByteArray) (a : Nat) (w : World) :
    Calls Try.prog 89 #[nbr (lo s a 9 % 18446744073709551616) (bt s (a + 8)) 9] w fun e w' => e = .returned (.int .i64 (ac s a 9 (if bt s (a + 8) % 128 < 64 then 0 else -1))) ∧ Later w w' := by
  have hm := sx_9 (lo s a 8) (bt s (a + 8) % 128) (lo_in9 s a) (by omega)
  rw [← lo_at9] at hm
  have h := ext_9 (lo s a 9 % 18446744073709551616) (bt s (a + 8)) w
  rw [hm] at h
  rw [ac_sign, show (128 : Int) ^ 9 = 9223372036854775808 by decide]
  exact h
theorem lo_at10 (s : ByteArray) (a : Nat) : lo s a 10 = lo s a 9 + bt s (a + 9) % 128 * 9223372036854775808 := by
  show lo s a 9 + bt s (a + 9) % 128 * (128 : Int) ^ 9 = _
  rw [show (128 : Int) ^ 9 = 9223372036854775808 by decide]
theorem lo_in10 (s : ByteArray) (a : Nat) : 0 ≤ lo s a 9 ∧ lo s a 9 < 9223372036854775808 := by
  have := lo_rng s a 9
  rwa [show (128 : Int) ^ 9 = 9223372036854775808 by decide] at this
theorem exv_10 (s : ByteArray) (a : Nat) (w : World) :
    Calls Try.prog 89 #[nbr (lo s a 10 % 18446744073709551616) (bt s (a + 9)) 10] w fun e w' => e = .returned (.int .i64 (ac s a 10 (if bt s (a + 9) % 128 < 64 then 0 else -1))) ∧ Later w w' := by
  have hm := sx_10 (lo s a 9) (bt s (a + 9) % 128) (lo_in10 s a) (by omega)
  rw [← lo_at10] at hm
  have h := ext_10 (lo s a 10 % 18446744073709551616) (bt s (a + 9)) w
  rw [hm] at h
  rw [ac_sign, show (128 : Int) ^ 10 = 1180591620717411303424 by decide]
  exact h
theorem ext_any (s : ByteArray) (a j : Nat) (hj : j ≤ 9) (w : World) :
    Calls Try.prog 89 #[nbr (lo s a (j + 1) % 18446744073709551616) (bt s (a + j)) ((j : Int) + 1)] w fun e w' => e = .returned (.int .i64 (ac s a (j + 1) (if bt s (a + j) % 128 < 64 then 0 else -1))) ∧ Later w w' := by
  match j, hj with
  | 0, _ => exact exv_1 s a w
  | 1, _ => exact exv_2 s a w
  | 2, _ => exact exv_3 s a w
  | 3, _ => exact exv_4 s a w
  | 4, _ => exact exv_5 s a w
  | 5, _ => exact exv_6 s a w
  | 6, _ => exact exv_7 s a w
  | 7, _ => exact exv_8 s a w
  | 8, _ => exact exv_9 s a w
  | 9, _ => exact exv_10 s a w
theorem sgv_1 (s : ByteArray) (a : Nat) : ac s a 1 (if bt s (a + 0) % 128 < 64 then 0 else -1) = sg3 (ac s a 1 (if bt s (a + 0) % 128 < 64 then 0 else -1)) := by
  rw [ac_sign, lo_at1, show (128 : Int) ^ 1 = 128 by decide]
  exact s3_1 _ _ (lo_in1 s a) (by omega)
theorem sgv_2 (s : ByteArray) (a : Nat) : ac s a 2 (if bt s (a + 1) % 128 < 64 then 0 else -1) = sg3 (ac s a 2 (if bt s (a + 1) % 128 < 64 then 0 else -1)) := by
  rw [ac_sign, lo_at2, show (128 : Int) ^ 2 = 16384 by decide]
  exact s3_2 _ _ (lo_in2 s a) (by omega)
theorem sgv_3 (s : ByteArray) (a : Nat) : ac s a 3 (if bt s (a + 2) % 128 < 64 then 0 else -1) = sg3 (ac s a 3 (if bt s (a + 2) % 128 < 64 then 0 else -1)) := by
  rw [ac_sign, lo_at3, show (128 : Int) ^ 3 = 2097152 by decide]
  exact s3_3 _ _ (lo_in3 s a) (by omega)
theorem sgv_4 (s : ByteArray) (a : Nat) : ac s a 4 (if bt s (a + 3) % 128 < 64 then 0 else -1) = sg3 (ac s a 4 (if bt s (a + 3) % 128 < 64 then 0 else -1)) := by
  rw [ac_sign, lo_at4, show (128 : Int) ^ 4 = 268435456 by decide]
  exact s3_4 _ _ (lo_in4 s a) (by omega)
theorem sgv_5 (s : ByteArray) (a : Nat) (h8 : bt s (a + 4) % 128 / 8 = 0 ∨ bt s (a + 4) % 128 / 8 = 15) : ac s a 5 (if bt s (a + 4) % 128 < 64 then 0 else -1) = sg3 (ac s a 5 (if bt s (a + 4) % 128 < 64 then 0 else -1)) := by
  rw [ac_sign, lo_at5, show (128 : Int) ^ 5 = 34359738368 by decide]
  exact s3_5 _ _ (lo_in5 s a) (by omega) h8
theorem sg_any (s : ByteArray) (a j : Nat) (hj : j ≤ 4) (h8 : j = 4 → bt s (a + j) % 128 / 8 = 0 ∨ bt s (a + j) % 128 / 8 = 15) : ac s a (j + 1) (if bt s (a + j) % 128 < 64 then 0 else -1) = sg3 (ac s a (j + 1) (if bt s (a + j) % 128 < 64 then 0 else -1)) := by
  match j, hj, h8 with
  | 0, _, h => exact sgv_1 s a
  | 1, _, h => exact sgv_2 s a
  | 2, _, h => exact sgv_3 s a
  | 3, _, h => exact sgv_4 s a
  | 4, _, h => exact sgv_5 s a (h rfl)
theorem gets_32 (s : ByteArray) (hs : s.size < 9223372036854775000) (a j : Nat) (hp : ptR s (a : Int) 32 = (((a + j : Nat) : Int), 0)) (hk2 : a + j < s.size) (hj : j < 5) (hk5 : bt s (a + j) < 128) (w : World) :
    Calls Try.prog 88 #[.string s, .int .i64 (a : Int), .int .i64 32] w fun e w' => e = .returned (.tuple #[.int .i64 (usR s (a : Int) 32).1, .int .i64 (usR s (a : Int) 32).2.1, .int .i64 (usR s (a : Int) 32).2.2]) ∧ Later w w' := by
  have hb := bt_lt s (a + j)
  have hpp : Hid (∀ w : World, Calls Try.prog 48 #[.string s, .int .i64 (a : Int), .int .i64 32] w fun e w' => e = .returned (.tuple #[nbr (lo s a (j + 1) % 18446744073709551616) (bt s (a + j)) ((j : Int) + 1), .int .i64 0]) ∧ Later w w') := fun w => by
    have := walk_any s hs (a : Int) 32 w
    rw [hp] at this
    unfold wkV at this
    rw [if_pos rfl, Int.toNat_natCast, Int.toNat_natCast, show a + j + 1 - a = j + 1 by omega] at this
    exact this
  have hat : (a : Int) + ((j : Int) + 1) = ((a + j : Nat) : Int) + 1 := by omega
  have hsv := sv_of (bt s (a + j)) ⟨hb.1, hk5⟩
  have hsr : -64 ≤ (if bt s (a + j) < 64 then bt s (a + j) else bt s (a + j) - 128) ∧ (if bt s (a + j) < 64 then bt s (a + j) else bt s (a + j) - 128) ≤ 63 := by split <;> omega
  have hx := ext_any s a j (by omega)
  have hok : ¬ (j = 4 ∧ ¬ bt s (a + j) / 8 = 0 ∧ ¬ bt s (a + j) / 8 = 15) → usR s (a : Int) 32 = (sg3 (ac s a (j + 1) (if bt s (a + j) % 128 < 64 then 0 else -1)), ((a + j : Nat) : Int) + 1, 0) := by
    intro hn
    unfold usR
    rw [hp, if_pos rfl, if_neg]
    · show (_, _, _) = (_, _, _)
      simp only [Int.toNat_natCast, show a + j + 1 - a = j + 1 by omega]
      rfl
    · rintro ⟨x1, x2⟩
      exact hn ⟨by omega, x2⟩
  by_cases hc : j = 4
  · have hroom : Hid (∀ w : World, Calls Try.prog 49 #[.int .i64 ((j : Int) + 1), .int .i64 32] w fun e w' => e = .returned (.int .i64 4) ∧ w' = w) := fun w => by
      rw [hc]
      exact room_32 w
    by_cases hd : ¬ bt s (a + j) / 8 = 0 ∧ ¬ bt s (a + j) / 8 = 15
    · have e : usR s (a : Int) 32 = (0, 0, 1200) := by
        unfold usR
        rw [hp, if_pos rfl, if_pos]
        exact ⟨by omega, hd⟩
      rw [e]
      refine gets_form4 s (a : Int) 32 _ _ _ _ _ ⟨hb.1, hk5⟩ (by omega) hpp hroom hx hsv hsr ?_ ?_ w
      · simp only [bne_iff_ne, ne_eq]
        split <;> omega
      · simp only [bne_iff_ne, ne_eq]
        split <;> omega
    · rw [hok (fun h => hd h.2)]
      rw [← sg_any s a j (by omega) (fun _ => by omega)]
      have := gets_ok4 s (a : Int) 32 _ _ _ _ _ ⟨hb.1, hk5⟩ (by omega) hpp hroom hx hsv hsr ?_ w
      · rwa [hat] at this
      · simp only [bne_iff_ne, ne_eq, bne_eq_false_iff_eq]
        split <;> omega
  · have hroom : Hid (∀ w : World, Calls Try.prog 49 #[.int .i64 ((j : Int) + 1), .int .i64 32] w fun e w' => e = .returned (.int .i64 7) ∧ w' = w) := fun w => room_big _ _ (by omega) (by omega) (by omega) w
    rw [hok (fun h => hc h.1)]
    rw [← sg_any s a j (by omega) (fun h => absurd h hc)]
    have := gets_ok7 s (a : Int) 32 _ _ _ _ _ ⟨hb.1, hk5⟩ (by omega) hpp hroom hx hsv hsr ?_ w
    · rwa [hat] at this
    · simp only [bne_iff_ne, ne_eq, bne_eq_false_iff_eq]
      split <;> omega
theorem gets_64 (s : ByteArray) (hs : s.size < 9223372036854775000) (a j : Nat) (hp : ptR s (a : Int) 64 = (((a + j : Nat) : Int), 0)) (hk2 : a + j < s.size) (hj : j < 10) (hk5 : bt s (a + j) < 128) (w : World) :
    Calls Try.prog 88 #[.string s, .int .i64 (a : Int), .int .i64 64] w fun e w' => e = .returned (.tuple #[.int .i64 (usR s (a : Int) 64).1, .int .i64 (usR s (a : Int) 64).2.1, .int .i64 (usR s (a : Int) 64).2.2]) ∧ Later w w' := by
  have hb := bt_lt s (a + j)
  have hpp : Hid (∀ w : World, Calls Try.prog 48 #[.string s, .int .i64 (a : Int), .int .i64 64] w fun e w' => e = .returned (.tuple #[nbr (lo s a (j + 1) % 18446744073709551616) (bt s (a + j)) ((j : Int) + 1), .int .i64 0]) ∧ Later w w') := fun w => by
    have := walk_any s hs (a : Int) 64 w
    rw [hp] at this
    unfold wkV at this
    rw [if_pos rfl, Int.toNat_natCast, Int.toNat_natCast, show a + j + 1 - a = j + 1 by omega] at this
    exact this
  have hat : (a : Int) + ((j : Int) + 1) = ((a + j : Nat) : Int) + 1 := by omega
  have hsv := sv_of (bt s (a + j)) ⟨hb.1, hk5⟩
  have hsr : -64 ≤ (if bt s (a + j) < 64 then bt s (a + j) else bt s (a + j) - 128) ∧ (if bt s (a + j) < 64 then bt s (a + j) else bt s (a + j) - 128) ≤ 63 := by split <;> omega
  have hx := ext_any s a j (by omega)
  have hok : ¬ (j = 9 ∧ ¬ bt s (a + j) / 1 = 0 ∧ ¬ bt s (a + j) / 1 = 127) → usR s (a : Int) 64 = (ac s a (j + 1) (if bt s (a + j) % 128 < 64 then 0 else -1), ((a + j : Nat) : Int) + 1, 0) := by
    intro hn
    unfold usR
    rw [hp, if_pos rfl, if_neg]
    · show (_, _, _) = (_, _, _)
      simp only [Int.toNat_natCast, show a + j + 1 - a = j + 1 by omega]
      rfl
    · rintro ⟨x1, x2⟩
      exact hn ⟨by omega, x2⟩
  by_cases hc : j = 9
  · have hroom : Hid (∀ w : World, Calls Try.prog 49 #[.int .i64 ((j : Int) + 1), .int .i64 64] w fun e w' => e = .returned (.int .i64 1) ∧ w' = w) := fun w => by
      rw [hc]
      exact room_64 w
    by_cases hd : ¬ bt s (a + j) / 1 = 0 ∧ ¬ bt s (a + j) / 1 = 127
    · have e : usR s (a : Int) 64 = (0, 0, 1200) := by
        unfold usR
        rw [hp, if_pos rfl, if_pos]
        exact ⟨by omega, hd⟩
      rw [e]
      refine gets_form1 s (a : Int) 64 _ _ _ _ _ ⟨hb.1, hk5⟩ (by omega) hpp hroom hx hsv hsr ?_ ?_ w
      · simp only [bne_iff_ne, ne_eq]
        split <;> omega
      · simp only [bne_iff_ne, ne_eq]
        split <;> omega
    · rw [hok (fun h => hd h.2)]
      have := gets_ok1 s (a : Int) 64 _ _ _ _ _ ⟨hb.1, hk5⟩ (by omega) hpp hroom hx hsv hsr ?_ w
      · rwa [hat] at this
      · simp only [bne_iff_ne, ne_eq, bne_eq_false_iff_eq]
        split <;> omega
  · have hroom : Hid (∀ w : World, Calls Try.prog 49 #[.int .i64 ((j : Int) + 1), .int .i64 64] w fun e w' => e = .returned (.int .i64 7) ∧ w' = w) := fun w => room_big _ _ (by omega) (by omega) (by omega) w
    rw [hok (fun h => hc h.1)]
    have := gets_ok7 s (a : Int) 64 _ _ _ _ _ ⟨hb.1, hk5⟩ (by omega) hpp hroom hx hsv hsr ?_ w
    · rwa [hat] at this
    · simp only [bne_iff_ne, ne_eq, bne_eq_false_iff_eq]
      split <;> omega
theorem gets_err (s : ByteArray) (hs : s.size < 9223372036854775000) (at_ bits_ : Int) (h : ¬ (ptR s at_ bits_).2 = 0) (w : World) :
    Calls Try.prog 88 #[.string s, .int .i64 at_, .int .i64 bits_] w fun e w' => e = .returned (.tuple #[.int .i64 0, .int .i64 0, .int .i64 (ptR s at_ bits_).2]) ∧ Later w w' := by
  have hp : Hid (∀ w : World, Calls Try.prog 48 #[.string s, .int .i64 at_, .int .i64 bits_] w fun e w' => e = .returned (.tuple #[nbr 0 0 0, .int .i64 (ptR s at_ bits_).2]) ∧ Later w w') := fun w => by
    have := walk_any s hs at_ bits_ w
    unfold wkV at this
    rwa [if_neg h] at this
  unfold nbr at hp
  generalize (ptR s at_ bits_).2 = E at *
  have h2 : (E != 0) = true := by simpa using h
  go_enter Try.func88, Try.ntmps88
  go_wp2_with (go_at_call 48; refine (hp.out _).mono ?_; rintro e w2 ⟨rfl, h3⟩)
  go_ret3
  exact ⟨rfl, La h3⟩
theorem gets_any (s : ByteArray) (hs : s.size < 9223372036854775000) (at_ bits_ : Int) (ha : -9223372036854775808 ≤ at_ ∧ at_ ≤ 9223372036854775807) (hb : -9223372036854775808 ≤ bits_ ∧ bits_ ≤ 9223372036854775807) (w : World) :
    Calls Try.prog 88 #[.string s, .int .i64 at_, .int .i64 bits_] w fun e w' => e = .returned (.tuple #[.int .i64 (usR s at_ bits_).1, .int .i64 (usR s at_ bits_).2.1, .int .i64 (usR s at_ bits_).2.2]) ∧ Later w w' := by
  by_cases h : (ptR s at_ bits_).2 = 0
  · obtain ⟨a, k, m, rfl, hb, h1, h2, h3, h4, h5⟩ := ptR_in h
    obtain ⟨j, rfl⟩ : ∃ j, k = a + j := ⟨k - a, by omega⟩
    have hp : ptR s (a : Int) bits_ = (((a + j : Nat) : Int), 0) := Prod.ext h1 h
    rcases hb with ⟨rfl, rfl⟩ | ⟨rfl, rfl⟩
    · exact gets_32 s hs a j hp h3 (by omega) h5 w
    · exact gets_64 s hs a j hp h3 (by omega) h5 w
  · have e : usR s at_ bits_ = (0, 0, (ptR s at_ bits_).2) := by unfold usR; exact if_neg h
    rw [e]
    exact gets_err s hs at_ bits_ h w
end Go.Proofs.Ytngciahmoenkiab

