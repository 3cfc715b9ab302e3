/- The document's Unsleb, whole. -/
import Derived.Test.YtljogkiibpinaaaLG
set_option linter.unusedVariables false
set_option linter.unusedSimpArgs false
set_option maxRecDepth 100000
set_option maxHeartbeats 4000000
namespace Go.Proofs.Ytljogkiibpinaaa
open Go.RowKit
/-- Unsleb: the number with its sign, the place behind, an error -/
def usR (s : ByteArray) (at_ bits_ : Int) : Int × Int × Int :=
  if (ptR s at_ bits_).2 = 0 then
    if (ptR s at_ bits_).1 - at_ = (bits_ + 6) / 7 - 1 ∧ ¬ bt s (ptR s at_ bits_).1.toNat / 2 ^ (bits_ % 7 - 1).toNat = 0 ∧ ¬ bt s (ptR s at_ bits_).1.toNat / 2 ^ (bits_ % 7 - 1).toNat = 127 / 2 ^ (bits_ % 7 - 1).toNat then (0, 0, 1200)
    else (if bits_ = 32 then sg3 (ac s at_.toNat ((ptR s at_ bits_).1.toNat + 1 - at_.toNat) (if bt s (ptR s at_ bits_).1.toNat % 128 < 64 then 0 else -1)) else ac s at_.toNat ((ptR s at_ bits_).1.toNat + 1 - at_.toNat) (if bt s (ptR s at_ bits_).1.toNat % 128 < 64 then 0 else -1), (ptR s at_ bits_).1 + 1, 0)
  else (0, 0, (ptR s at_ bits_).2)
theorem unsleb_err (s : ByteArray) (hs : s.size < 9223372036854775000) (at_ bits_ : Int) (h : ¬ (ptR s at_ bits_).2 = 0) (w : World) :
    Calls Try.prog 12 #[.string s, .int .i64 at_, .int .i64 bits_] w fun e w' => e = .returned (.tuple #[.int .i64 0, .int .i64 0, .int .i64 (ptR s at_ bits_).2]) ∧ w' = w := by
  have hp := parts_any s hs at_ bits_
  replace hp : Hid (∀ w : World, Calls Try.prog 21 #[.string s, .int .i64 at_, .int .i64 bits_] w fun e w' => e = .returned (.tuple #[.int .i64 (ptR s at_ bits_).1, .int .i64 (ptR s at_ bits_).2]) ∧ w' = w) := hp
  generalize (ptR s at_ bits_).1 = K at *
  generalize (ptR s at_ bits_).2 = E at *
  have h2 : (E != 0) = true := by simpa using h
  go_enter Try.func12, Try.ntmps12
  go_wp2_with (go_at_call 21; refine (hp.out _).mono ?_; rintro e w' ⟨rfl, rfl⟩)
  go_ret3
  exact ⟨rfl, rfl⟩
theorem unsleb_any (s : ByteArray) (hs : s.size < 9223372036854775000) (at_ bits_ : Int) (w : World) :
    Calls Try.prog 12 #[.string s, .int .i64 at_, .int .i64 bits_] w fun e w' => e = .returned (.tuple #[.int .i64 (usR s at_ bits_).1, .int .i64 (usR s at_ bits_).2.1, .int .i64 (usR s at_ bits_).2.2]) ∧ w' = w := by
  by_cases h : (ptR s at_ bits_).2 = 0
  · obtain ⟨a, k, m, rfl, hb, h1, h2, h3, h4, h5⟩ := ptR_in h
    have hp : ptR s (a : Int) bits_ = ((k : Int), 0) := Prod.ext h1 h
    rcases hb with ⟨rfl, rfl⟩ | ⟨rfl, rfl⟩
    · by_cases hc : k = a + 4 ∧ ¬ bt s k / 8 = 0 ∧ ¬ bt s k / 8 = 15
      · have e : usR s (a : Int) 32 = (0, 0, 1200) := by
          unfold usR
          rw [hp, if_pos rfl, if_pos]
          exact ⟨by omega, hc.2⟩
        rw [e]
        exact unsleb_form32 s hs a k hp h2 h3 h4 hc.1 hc.2.1 hc.2.2 w
      · have e : usR s (a : Int) 32 = (sg3 (ac s a (k + 1 - a) (if bt s k % 128 < 64 then 0 else -1)), (k : Int) + 1, 0) := by
          unfold usR
          rw [hp, if_pos rfl, if_neg]
          · rfl
          · rintro ⟨x1, x2⟩
            exact hc ⟨by omega, x2⟩
        rw [e]
        exact unsleb_ok32 s hs a k hp h2 h3 h4 hc w
    · by_cases hc : k = a + 9 ∧ ¬ bt s k / 1 = 0 ∧ ¬ bt s k / 1 = 127
      · have e : usR s (a : Int) 64 = (0, 0, 1200) := by
          unfold usR
          rw [hp, if_pos rfl, if_pos]
          exact ⟨by omega, hc.2⟩
        rw [e]
        exact unsleb_form64 s hs a k hp h2 h3 h4 hc.1 hc.2.1 hc.2.2 w
      · have e : usR s (a : Int) 64 = (ac s a (k + 1 - a) (if bt s k % 128 < 64 then 0 else -1), (k : Int) + 1, 0) := by
          unfold usR
          rw [hp, if_pos rfl, if_neg]
          · rfl
          · rintro ⟨x1, x2⟩
            exact hc ⟨by omega, x2⟩
        rw [e]
        exact unsleb_ok64 s hs a k hp h2 h3 h4 hc w
  · have e : usR s at_ bits_ = (0, 0, (ptR s at_ bits_).2) := by unfold usR; exact if_neg h
    rw [e]
    exact unsleb_err s hs at_ bits_ h w
end Go.Proofs.Ytljogkiibpinaaa
