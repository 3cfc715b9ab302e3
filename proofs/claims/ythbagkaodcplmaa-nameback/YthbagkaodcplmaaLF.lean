/- The document's Unleb, whole. -/
import Derived.Test.YthbagkaodcplmaaLE
set_option linter.unusedVariables false
set_option linter.unusedSimpArgs false
set_option maxRecDepth 100000
set_option maxHeartbeats 4000000
namespace Go.Proofs.Ythbagkaodcplmaa
open Go.RowKit
theorem unleb_any (s : ByteArray) (hs : s.size < 9223372036854775000) (at_ bits_ : Int) (w : World) :
    Calls Try.prog 21 #[.string s, .int .i64 at_, .int .i64 bits_] w fun e w' => e = .returned (.tuple #[.int .i64 (ulR s at_ bits_).1, .int .i64 (ulR s at_ bits_).2.1, .int .i64 (ulR s at_ bits_).2.2]) ∧ w' = w := by
  by_cases h : (ptR s at_ bits_).2 = 0
  · obtain ⟨a, k, m, rfl, hb, h1, h2, h3, h4, h5⟩ := ptR_in h
    have hp : ptR s (a : Int) bits_ = ((k : Int), 0) := Prod.ext h1 h
    rcases hb with ⟨rfl, rfl⟩ | ⟨rfl, rfl⟩
    · by_cases hc : k = a + 4 ∧ ¬ bt s k / 16 = 0
      · have e : ulR s (a : Int) 32 = (0, 0, 1200) := by
          unfold ulR
          rw [hp, if_pos rfl, if_pos]
          exact ⟨by omega, hc.2⟩
        rw [e]
        exact unleb_form32 s hs a k hp h2 h3 h4 hc.1 hc.2 w
      · have e : ulR s (a : Int) 32 = (ac s a (k + 1 - a) 0, (k : Int) + 1, 0) := by
          unfold ulR
          rw [hp, if_pos rfl, if_neg]
          · rfl
          · rintro ⟨x1, x2⟩
            exact hc ⟨by omega, x2⟩
        rw [e]
        exact unleb_ok32 s hs a k hp h2 h3 h4 hc w
    · by_cases hc : k = a + 9 ∧ ¬ bt s k / 2 = 0
      · have e : ulR s (a : Int) 64 = (0, 0, 1200) := by
          unfold ulR
          rw [hp, if_pos rfl, if_pos]
          exact ⟨by omega, hc.2⟩
        rw [e]
        exact unleb_form64 s hs a k hp h2 h3 h4 hc.1 hc.2 w
      · have e : ulR s (a : Int) 64 = (ac s a (k + 1 - a) 0, (k : Int) + 1, 0) := by
          unfold ulR
          rw [hp, if_pos rfl, if_neg]
          · rfl
          · rintro ⟨x1, x2⟩
            exact hc ⟨by omega, x2⟩
        rw [e]
        exact unleb_ok64 s hs a k hp h2 h3 h4 hc w
  · have e : ulR s at_ bits_ = (0, 0, (ptR s at_ bits_).2) := by unfold ulR; exact if_neg h
    rw [e]
    exact unleb_err s hs at_ bits_ h w
end Go.Proofs.Ythbagkaodcplmaa
