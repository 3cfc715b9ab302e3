/- Over this seat's translation: package leb: Get, whole; a number with the sign of its last part. -/
import Derived.Test.YtkdfmgdadnlnlaaLVD
set_option linter.unusedVariables false
set_option linter.unusedSimpArgs false
set_option maxRecDepth 100000
set_option maxHeartbeats 4000000
namespace Go.Proofs.Ytkdfmgdadnlnlaa
open Go.RowKit
theorem wrap_ex (x : Int) : ∃ q : Int, wrap64 x = x + 18446744073709551616 * q := ⟨-((x + 9223372036854775808) / 18446744073709551616), by unfold wrap64; omega⟩
theorem wrap_wrap (x : Int) : wrap64 (wrap64 x) = wrap64 x := by unfold wrap64; omega
theorem wrap_mod (x : Int) : wrap64 (x % 18446744073709551616) = wrap64 x := by unfold wrap64; omega
theorem ac_lo (s : ByteArray) (a : Nat) : ∀ (j : Nat) (x : Int), wrap64 x = x → ac s a j x = wrap64 (lo s a j + x * 128 ^ j)
  | 0, x, h => by simp [ac, lo, h]
  | j + 1, x, h => by
    simp only [ac]
    rw [ac_lo s a j _ (wrap_wrap _)]
    obtain ⟨q, hq⟩ := wrap_ex (x * 128 + bt s (a + j) % 128)
    rw [hq]
    refine wrap_of (q * 128 ^ j) ?_
    simp only [lo, Int.pow_succ]
    generalize bt s (a + j) % 128 = c
    generalize (128 : Int) ^ j = P
    rw [Int.add_mul, Int.add_mul, Int.mul_assoc x 128 P, Int.mul_comm 128 P, Int.mul_assoc 18446744073709551616 q P]
    omega
theorem get_32 (s : ByteArray) (hs : s.size < 9223372036854775000) (a k : Nat) (hp : ptR s (a : Int) 32 = ((k : Int), 0)) (hk : a ≤ k) (hk2 : k < s.size) (hk3 : k < a + 5) (hk5 : bt s k < 128) (w : World) :
    Calls Try.prog 94 #[.string s, .int .i64 (a : Int), .int .i64 32] w fun e w' => e = .returned (.tuple #[.int .i64 (ulR s (a : Int) 32).1, .int .i64 (ulR s (a : Int) 32).2.1, .int .i64 (ulR s (a : Int) 32).2.2]) ∧ Later w w' := by
  have hb := bt_lt s k
  have hpp : Hid (∀ w : World, Calls Try.prog 99 #[.string s, .int .i64 (a : Int), .int .i64 32] w fun e w' => e = .returned (.tuple #[nbr (lo s a (k + 1 - a) % 18446744073709551616) (bt s k) (((k + 1 - a : Nat) : Int)), .int .i64 0]) ∧ Later w w') := fun w => by
    have := walk_any s hs (a : Int) 32 w
    rw [hp] at this
    exact this
  have hac : wrap64 (lo s a (k + 1 - a) % 18446744073709551616) = ac s a (k + 1 - a) 0 := by rw [wrap_mod, ac_lo s a _ 0 (by unfold wrap64; omega), Int.zero_mul, Int.add_zero]
  have hat : (a : Int) + ((k + 1 - a : Nat) : Int) = (k : Int) + 1 := by omega
  by_cases hc : k = a + 4
  · have hroom : Hid (∀ w : World, Calls Try.prog 100 #[.int .i64 ((k + 1 - a : Nat) : Int), .int .i64 32] w fun e w' => e = .returned (.int .i64 4) ∧ w' = w) := fun w => by
      rw [show ((k + 1 - a : Nat) : Int) = 5 by omega]
      exact room_32 w
    by_cases hd : bt s k / 16 = 0
    · have e : ulR s (a : Int) 32 = (ac s a (k + 1 - a) 0, (k : Int) + 1, 0) := by
        unfold ulR
        rw [hp, if_pos rfl, if_neg]
        · rfl
        · rintro ⟨x1, x2⟩
          exact x2 hd
      rw [e]
      have := get_ok4 s (a : Int) 32 _ _ _ ⟨hb.1, hk5⟩ (by omega) hpp hroom (by simpa using hd) w
      rwa [hac, hat] at this
    · have e : ulR s (a : Int) 32 = (0, 0, 1200) := by
        unfold ulR
        rw [hp, if_pos rfl, if_pos]
        exact ⟨by omega, hd⟩
      rw [e]
      exact get_form4 s (a : Int) 32 _ _ _ ⟨hb.1, hk5⟩ hpp hroom (by simpa using hd) w
  · have hroom : Hid (∀ w : World, Calls Try.prog 100 #[.int .i64 ((k + 1 - a : Nat) : Int), .int .i64 32] w fun e w' => e = .returned (.int .i64 7) ∧ w' = w) := fun w => room_big _ _ (by omega) (by omega) (by omega) w
    have e : ulR s (a : Int) 32 = (ac s a (k + 1 - a) 0, (k : Int) + 1, 0) := by
      unfold ulR
      rw [hp, if_pos rfl, if_neg]
      · rfl
      · rintro ⟨x1, x2⟩
        exact hc (by omega)
    rw [e]
    have := get_ok7 s (a : Int) 32 _ _ _ ⟨hb.1, hk5⟩ (by omega) hpp hroom (by simp; omega) w
    rwa [hac, hat] at this
theorem get_64 (s : ByteArray) (hs : s.size < 9223372036854775000) (a k : Nat) (hp : ptR s (a : Int) 64 = ((k : Int), 0)) (hk : a ≤ k) (hk2 : k < s.size) (hk3 : k < a + 10) (hk5 : bt s k < 128) (w : World) :
    Calls Try.prog 94 #[.string s, .int .i64 (a : Int), .int .i64 64] w fun e w' => e = .returned (.tuple #[.int .i64 (ulR s (a : Int) 64).1, .int .i64 (ulR s (a : Int) 64).2.1, .int .i64 (ulR s (a : Int) 64).2.2]) ∧ Later w w' := by
  have hb := bt_lt s k
  have hpp : Hid (∀ w : World, Calls Try.prog 99 #[.string s, .int .i64 (a : Int), .int .i64 64] w fun e w' => e = .returned (.tuple #[nbr (lo s a (k + 1 - a) % 18446744073709551616) (bt s k) (((k + 1 - a : Nat) : Int)), .int .i64 0]) ∧ Later w w') := fun w => by
    have := walk_any s hs (a : Int) 64 w
    rw [hp] at this
    exact this
  have hac : wrap64 (lo s a (k + 1 - a) % 18446744073709551616) = ac s a (k + 1 - a) 0 := by rw [wrap_mod, ac_lo s a _ 0 (by unfold wrap64; omega), Int.zero_mul, Int.add_zero]
  have hat : (a : Int) + ((k + 1 - a : Nat) : Int) = (k : Int) + 1 := by omega
  by_cases hc : k = a + 9
  · have hroom : Hid (∀ w : World, Calls Try.prog 100 #[.int .i64 ((k + 1 - a : Nat) : Int), .int .i64 64] w fun e w' => e = .returned (.int .i64 1) ∧ w' = w) := fun w => by
      rw [show ((k + 1 - a : Nat) : Int) = 10 by omega]
      exact room_64 w
    by_cases hd : bt s k / 2 = 0
    · have e : ulR s (a : Int) 64 = (ac s a (k + 1 - a) 0, (k : Int) + 1, 0) := by
        unfold ulR
        rw [hp, if_pos rfl, if_neg]
        · rfl
        · rintro ⟨x1, x2⟩
          exact x2 hd
      rw [e]
      have := get_ok1 s (a : Int) 64 _ _ _ ⟨hb.1, hk5⟩ (by omega) hpp hroom (by simpa using hd) w
      rwa [hac, hat] at this
    · have e : ulR s (a : Int) 64 = (0, 0, 1200) := by
        unfold ulR
        rw [hp, if_pos rfl, if_pos]
        exact ⟨by omega, hd⟩
      rw [e]
      exact get_form1 s (a : Int) 64 _ _ _ ⟨hb.1, hk5⟩ hpp hroom (by simpa using hd) w
  · have hroom : Hid (∀ w : World, Calls Try.prog 100 #[.int .i64 ((k + 1 - a : Nat) : Int), .int .i64 64] w fun e w' => e = .returned (.int .i64 7) ∧ w' = w) := fun w => room_big _ _ (by omega) (by omega) (by omega) w
    have e : ulR s (a : Int) 64 = (ac s a (k + 1 - a) 0, (k : Int) + 1, 0) := by
      unfold ulR
      rw [hp, if_pos rfl, if_neg]
      · rfl
      · rintro ⟨x1, x2⟩
        exact hc (by omega)
    rw [e]
    have := get_ok7 s (a : Int) 64 _ _ _ ⟨hb.1, hk5⟩ (by omega) hpp hroom (by simp; omega) w
    rwa [hac, hat] at this
theorem get_any (s : ByteArray) (hs : s.size < 9223372036854775000) (at_ bits_ : Int) (ha : -9223372036854775808 ≤ at_ ∧ at_ ≤ 9223372036854775807) (hb : -9223372036854775808 ≤ bits_ ∧ bits_ ≤ 9223372036854775807) (w : World) :
    Calls Try.prog 94 #[.string s, .int .i64 at_, .int .i64 bits_] w fun e w' => e = .returned (.tuple #[.int .i64 (ulR s at_ bits_).1, .int .i64 (ulR s at_ bits_).2.1, .int .i64 (ulR s at_ bits_).2.2]) ∧ Later w w' := by
  by_cases h : (ptR s at_ bits_).2 = 0
  · obtain ⟨a, k, m, rfl, hb, h1, h2, h3, h4, h5⟩ := ptR_in h
    have hp : ptR s (a : Int) bits_ = ((k : Int), 0) := Prod.ext h1 h
    rcases hb with ⟨rfl, rfl⟩ | ⟨rfl, rfl⟩
    · exact get_32 s hs a k hp h2 h3 h4 h5 w
    · exact get_64 s hs a k hp h2 h3 h4 h5 w
  · have e : ulR s at_ bits_ = (0, 0, (ptR s at_ bits_).2) := by unfold ulR; exact if_neg h
    rw [e]
    exact get_err s hs at_ bits_ h w
theorem ext_1 (L b : Int) (w : World) :
    Calls Try.prog 101 #[nbr L b 1] w fun e w' => e = .returned (.int .i64 (wrap64 (IntKind.u64.wrap (L * 144115188075855872)) / 144115188075855872)) ∧ Later w w' := by
  unfold nbr
  go_enter Try.func101, Try.ntmps101
  go_wp2_with fail
  go_ret
  exact ⟨rfl, (by repeat first | exact Lz _ | apply La | apply Lv | apply Ld | apply Ln)⟩
theorem ext_2 (L b : Int) (w : World) :
    Calls Try.prog 101 #[nbr L b 2] w fun e w' => e = .returned (.int .i64 (wrap64 (IntKind.u64.wrap (L * 1125899906842624)) / 1125899906842624)) ∧ Later w w' := by
  unfold nbr
  go_enter Try.func101, Try.ntmps101
  go_wp2_with fail
  go_ret
  exact ⟨rfl, (by repeat first | exact Lz _ | apply La | apply Lv | apply Ld | apply Ln)⟩
theorem ext_3 (L b : Int) (w : World) :
    Calls Try.prog 101 #[nbr L b 3] w fun e w' => e = .returned (.int .i64 (wrap64 (IntKind.u64.wrap (L * 8796093022208)) / 8796093022208)) ∧ Later w w' := by
  unfold nbr
  go_enter Try.func101, Try.ntmps101
  go_wp2_with fail
  go_ret
  exact ⟨rfl, (by repeat first | exact Lz _ | apply La | apply Lv | apply Ld | apply Ln)⟩
theorem ext_4 (L b : Int) (w : World) :
    Calls Try.prog 101 #[nbr L b 4] w fun e w' => e = .returned (.int .i64 (wrap64 (IntKind.u64.wrap (L * 68719476736)) / 68719476736)) ∧ Later w w' := by
  unfold nbr
  go_enter Try.func101, Try.ntmps101
  go_wp2_with fail
  go_ret
  exact ⟨rfl, (by repeat first | exact Lz _ | apply La | apply Lv | apply Ld | apply Ln)⟩
theorem ext_5 (L b : Int) (w : World) :
    Calls Try.prog 101 #[nbr L b 5] w fun e w' => e = .returned (.int .i64 (wrap64 (IntKind.u64.wrap (L * 536870912)) / 536870912)) ∧ Later w w' := by
  unfold nbr
  go_enter Try.func101, Try.ntmps101
  go_wp2_with fail
  go_ret
  exact ⟨rfl, (by repeat first | exact Lz _ | apply La | apply Lv | apply Ld | apply Ln)⟩
theorem ext_6 (L b : Int) (w : World) :
    Calls Try.prog 101 #[nbr L b 6] w fun e w' => e = .returned (.int .i64 (wrap64 (IntKind.u64.wrap (L * 4194304)) / 4194304)) ∧ Later w w' := by
  unfold nbr
  go_enter Try.func101, Try.ntmps101
  go_wp2_with fail
  go_ret
  exact ⟨rfl, (by repeat first | exact Lz _ | apply La | apply Lv | apply Ld | apply Ln)⟩
theorem ext_7 (L b : Int) (w : World) :
    Calls Try.prog 101 #[nbr L b 7] w fun e w' => e = .returned (.int .i64 (wrap64 (IntKind.u64.wrap (L * 32768)) / 32768)) ∧ Later w w' := by
  unfold nbr
  go_enter Try.func101, Try.ntmps101
  go_wp2_with fail
  go_ret
  exact ⟨rfl, (by repeat first | exact Lz _ | apply La | apply Lv | apply Ld | apply Ln)⟩
theorem ext_8 (L b : Int) (w : World) :
    Calls Try.prog 101 #[nbr L b 8] w fun e w' => e = .returned (.int .i64 (wrap64 (IntKind.u64.wrap (L * 256)) / 256)) ∧ Later w w' := by
  unfold nbr
  go_enter Try.func101, Try.ntmps101
  go_wp2_with fail
  go_ret
  exact ⟨rfl, (by repeat first | exact Lz _ | apply La | apply Lv | apply Ld | apply Ln)⟩
theorem ext_9 (L b : Int) (w : World) :
    Calls Try.prog 101 #[nbr L b 9] w fun e w' => e = .returned (.int .i64 (wrap64 (IntKind.u64.wrap (L * 2)) / 2)) ∧ Later w w' := by
  unfold nbr
  go_enter Try.func101, Try.ntmps101
  go_wp2_with fail
  go_ret
  exact ⟨rfl, (by repeat first | exact Lz _ | apply La | apply Lv | apply Ld | apply Ln)⟩
theorem ext_10 (L b : Int) (w : World) :
    Calls Try.prog 101 #[nbr L b 10] w fun e w' => e = .returned (.int .i64 (wrap64 (IntKind.u64.wrap (L * 1)) / 1)) ∧ Later w w' := by
  unfold nbr
  go_enter Try.func101, Try.ntmps101
  go_wp2_with fail
  go_ret
  exact ⟨rfl, (by repeat first | exact Lz _ | apply La | apply Lv | apply Ld | apply Ln)⟩
end Go.Proofs.Ytkdfmgdadnlnlaa
