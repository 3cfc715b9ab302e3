/- Over this seat's translation: package leb: Get, by its walk. -/
import Derived.Test.YtkdfmgdadnlnlaaLVC
set_option linter.unusedVariables false
set_option linter.unusedSimpArgs false
set_option maxRecDepth 100000
set_option maxHeartbeats 4000000
namespace Go.Proofs.Ytkdfmgdadnlnlaa
open Go.RowKit
theorem walk_any (s : ByteArray) (hs : s.size < 9223372036854775000) (at_ bits_ : Int) (w : World) :
    Calls Try.prog 99 #[.string s, .int .i64 at_, .int .i64 bits_] w fun e w' => e = .returned (.tuple #[wkV s at_.toNat (ptR s at_ bits_).1 (ptR s at_ bits_).2, .int .i64 (ptR s at_ bits_).2]) ∧ Later w w' := by
  unfold ptR
  by_cases h : (bits_ = 32 ∨ bits_ = 64) ∧ 0 ≤ at_ ∧ at_ ≤ (s.size : Int)
  · rw [if_pos h]
    obtain ⟨a, rfl⟩ := Int.eq_ofNat_of_zero_le h.2.1
    rw [Int.toNat_natCast]
    rcases h.1 with rfl | rfl
    · exact walk_in32 s hs a (by omega) _ _ rfl w
    · exact walk_in64 s hs a (by omega) _ _ rfl w
  · rw [if_neg h]
    exact walk_form s at_ bits_ h w
theorem get_err (s : ByteArray) (hs : s.size < 9223372036854775000) (at_ bits_ : Int) (h : ¬ (ptR s at_ bits_).2 = 0) (w : World) :
    Calls Try.prog 94 #[.string s, .int .i64 at_, .int .i64 bits_] w fun e w' => e = .returned (.tuple #[.int .i64 0, .int .i64 0, .int .i64 (ptR s at_ bits_).2]) ∧ Later w w' := by
  have hp : Hid (∀ w : World, Calls Try.prog 99 #[.string s, .int .i64 at_, .int .i64 bits_] w fun e w' => e = .returned (.tuple #[nbr 0 0 0, .int .i64 (ptR s at_ bits_).2]) ∧ Later w w') := fun w => by
    have := walk_any s hs at_ bits_ w
    unfold wkV at this
    rwa [if_neg h] at this
  unfold nbr at hp
  generalize (ptR s at_ bits_).2 = E at *
  have h2 : (E != 0) = true := by simpa using h
  go_enter Try.func94, Try.ntmps94
  go_wp2_with (go_at_call 99; refine (hp.out _).mono ?_; rintro e w2 ⟨rfl, h3⟩)
  go_ret3
  exact ⟨rfl, La h3⟩
theorem get_form7 (s : ByteArray) (at_ bits_ L b p : Int) (hb : 0 ≤ b ∧ b < 128)
    (hp : Hid (∀ w : World, Calls Try.prog 99 #[.string s, .int .i64 at_, .int .i64 bits_] w fun e w' => e = .returned (.tuple #[nbr L b p, .int .i64 0]) ∧ Later w w'))
    (hr : Hid (∀ w : World, Calls Try.prog 100 #[.int .i64 p, .int .i64 bits_] w fun e w' => e = .returned (.int .i64 7) ∧ w' = w))
    (ht : (b / 128 != 0) = true) (w : World) :
    Calls Try.prog 94 #[.string s, .int .i64 at_, .int .i64 bits_] w fun e w' => e = .returned (.tuple #[.int .i64 0, .int .i64 0, .int .i64 1200]) ∧ Later w w' := by
  unfold nbr at hp
  go_enter Try.func94, Try.ntmps94
  go_wp2_with (go_at_call 99; refine (hp.out _).mono ?_; rintro e w2 ⟨rfl, h3⟩)
  go_quiet (first | (go_at_call 100; exact Calls.quiet_of_same (hr.out _)))
  go_wp2_with fail
  go_ret3
  exact ⟨rfl, (by repeat first | exact h3 | apply La | apply Lv | apply Ld | apply Ln)⟩
theorem get_ok7 (s : ByteArray) (at_ bits_ L b p : Int) (hb : 0 ≤ b ∧ b < 128) (hap : -9223372036854775808 ≤ at_ + p ∧ at_ + p ≤ 9223372036854775807)
    (hp : Hid (∀ w : World, Calls Try.prog 99 #[.string s, .int .i64 at_, .int .i64 bits_] w fun e w' => e = .returned (.tuple #[nbr L b p, .int .i64 0]) ∧ Later w w'))
    (hr : Hid (∀ w : World, Calls Try.prog 100 #[.int .i64 p, .int .i64 bits_] w fun e w' => e = .returned (.int .i64 7) ∧ w' = w))
    (ht : (b / 128 != 0) = false) (w : World) :
    Calls Try.prog 94 #[.string s, .int .i64 at_, .int .i64 bits_] w fun e w' => e = .returned (.tuple #[.int .i64 (wrap64 L), .int .i64 (at_ + p), .int .i64 0]) ∧ Later w w' := by
  unfold nbr at hp
  go_enter Try.func94, Try.ntmps94
  go_wp2_with (go_at_call 99; refine (hp.out _).mono ?_; rintro e w2 ⟨rfl, h3⟩)
  go_quiet (first | (go_at_call 100; exact Calls.quiet_of_same (hr.out _)))
  go_wp2_with fail
  go_quiet (fail)
  go_wp2_with fail
  go_ret3
  exact ⟨rfl, (by repeat first | exact h3 | apply La | apply Lv | apply Ld | apply Ln)⟩
theorem get_form4 (s : ByteArray) (at_ bits_ L b p : Int) (hb : 0 ≤ b ∧ b < 128)
    (hp : Hid (∀ w : World, Calls Try.prog 99 #[.string s, .int .i64 at_, .int .i64 bits_] w fun e w' => e = .returned (.tuple #[nbr L b p, .int .i64 0]) ∧ Later w w'))
    (hr : Hid (∀ w : World, Calls Try.prog 100 #[.int .i64 p, .int .i64 bits_] w fun e w' => e = .returned (.int .i64 4) ∧ w' = w))
    (ht : (b / 16 != 0) = true) (w : World) :
    Calls Try.prog 94 #[.string s, .int .i64 at_, .int .i64 bits_] w fun e w' => e = .returned (.tuple #[.int .i64 0, .int .i64 0, .int .i64 1200]) ∧ Later w w' := by
  unfold nbr at hp
  go_enter Try.func94, Try.ntmps94
  go_wp2_with (go_at_call 99; refine (hp.out _).mono ?_; rintro e w2 ⟨rfl, h3⟩)
  go_quiet (first | (go_at_call 100; exact Calls.quiet_of_same (hr.out _)))
  go_wp2_with fail
  go_ret3
  exact ⟨rfl, (by repeat first | exact h3 | apply La | apply Lv | apply Ld | apply Ln)⟩
theorem get_ok4 (s : ByteArray) (at_ bits_ L b p : Int) (hb : 0 ≤ b ∧ b < 128) (hap : -9223372036854775808 ≤ at_ + p ∧ at_ + p ≤ 9223372036854775807)
    (hp : Hid (∀ w : World, Calls Try.prog 99 #[.string s, .int .i64 at_, .int .i64 bits_] w fun e w' => e = .returned (.tuple #[nbr L b p, .int .i64 0]) ∧ Later w w'))
    (hr : Hid (∀ w : World, Calls Try.prog 100 #[.int .i64 p, .int .i64 bits_] w fun e w' => e = .returned (.int .i64 4) ∧ w' = w))
    (ht : (b / 16 != 0) = false) (w : World) :
    Calls Try.prog 94 #[.string s, .int .i64 at_, .int .i64 bits_] w fun e w' => e = .returned (.tuple #[.int .i64 (wrap64 L), .int .i64 (at_ + p), .int .i64 0]) ∧ Later w w' := by
  unfold nbr at hp
  go_enter Try.func94, Try.ntmps94
  go_wp2_with (go_at_call 99; refine (hp.out _).mono ?_; rintro e w2 ⟨rfl, h3⟩)
  go_quiet (first | (go_at_call 100; exact Calls.quiet_of_same (hr.out _)))
  go_wp2_with fail
  go_quiet (fail)
  go_wp2_with fail
  go_ret3
  exact ⟨rfl, (by repeat first | exact h3 | apply La | apply Lv | apply Ld | apply Ln)⟩
theorem get_form1 (s : ByteArray) (at_ bits_ L b p : Int) (hb : 0 ≤ b ∧ b < 128)
    (hp : Hid (∀ w : World, Calls Try.prog 99 #[.string s, .int .i64 at_, .int .i64 bits_] w fun e w' => e = .returned (.tuple #[nbr L b p, .int .i64 0]) ∧ Later w w'))
    (hr : Hid (∀ w : World, Calls Try.prog 100 #[.int .i64 p, .int .i64 bits_] w fun e w' => e = .returned (.int .i64 1) ∧ w' = w))
    (ht : (b / 2 != 0) = true) (w : World) :
    Calls Try.prog 94 #[.string s, .int .i64 at_, .int .i64 bits_] w fun e w' => e = .returned (.tuple #[.int .i64 0, .int .i64 0, .int .i64 1200]) ∧ Later w w' := by
  unfold nbr at hp
  go_enter Try.func94, Try.ntmps94
  go_wp2_with (go_at_call 99; refine (hp.out _).mono ?_; rintro e w2 ⟨rfl, h3⟩)
  go_quiet (first | (go_at_call 100; exact Calls.quiet_of_same (hr.out _)))
  go_wp2_with fail
  go_ret3
  exact ⟨rfl, (by repeat first | exact h3 | apply La | apply Lv | apply Ld | apply Ln)⟩
theorem get_ok1 (s : ByteArray) (at_ bits_ L b p : Int) (hb : 0 ≤ b ∧ b < 128) (hap : -9223372036854775808 ≤ at_ + p ∧ at_ + p ≤ 9223372036854775807)
    (hp : Hid (∀ w : World, Calls Try.prog 99 #[.string s, .int .i64 at_, .int .i64 bits_] w fun e w' => e = .returned (.tuple #[nbr L b p, .int .i64 0]) ∧ Later w w'))
    (hr : Hid (∀ w : World, Calls Try.prog 100 #[.int .i64 p, .int .i64 bits_] w fun e w' => e = .returned (.int .i64 1) ∧ w' = w))
    (ht : (b / 2 != 0) = false) (w : World) :
    Calls Try.prog 94 #[.string s, .int .i64 at_, .int .i64 bits_] w fun e w' => e = .returned (.tuple #[.int .i64 (wrap64 L), .int .i64 (at_ + p), .int .i64 0]) ∧ Later w w' := by
  unfold nbr at hp
  go_enter Try.func94, Try.ntmps94
  go_wp2_with (go_at_call 99; refine (hp.out _).mono ?_; rintro e w2 ⟨rfl, h3⟩)
  go_quiet (first | (go_at_call 100; exact Calls.quiet_of_same (hr.out _)))
  go_wp2_with fail
  go_quiet (fail)
  go_wp2_with fail
  go_ret3
  exact ⟨rfl, (by repeat first | exact h3 | apply La | apply Lv | apply Ld | apply Ln)⟩
end Go.Proofs.Ytkdfmgdadnlnlaa
