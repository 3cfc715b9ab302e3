/- Over this seat's translation: parts read as a number: the document's Unleb. -/
import Derived.Test.YthbagkaodcplmaaLC
set_option linter.unusedVariables false
set_option linter.unusedSimpArgs false
set_option maxRecDepth 100000
set_option maxHeartbeats 4000000
namespace Go.Proofs.Ythbagkaodcplmaa
open Go.RowKit
/-- so many parts, the last first, put behind a number -/
def ac (s : ByteArray) (a : Nat) : Nat → Int → Int
  | 0, x => x
  | j + 1, x => ac s a j (wrap64 (x * 128 + bt s (a + j) % 128))
theorem or_part (x p : Int) (h0 : 0 ≤ p) (h1 : p < 128) : bits .or .i64 (wrap64 (x * 128)) p = wrap64 (x * 128 + p) := by
  rw [BM.or_i64]
  obtain ⟨V, hV⟩ : ∃ V : Nat, (wrap64 (x * 128) % 18446744073709551616).toNat = V * 128 := ⟨((x % 144115188075855872)).toNat, by unfold wrap64; omega⟩
  rw [hV, show (p % 18446744073709551616).toNat = p.toNat by omega]
  have hor : V * 128 ||| p.toNat = V * 128 + p.toNat := by
    rw [show V * 128 = V <<< 7 by rw [Nat.shiftLeft_eq]]
    exact (Nat.shiftLeft_add_eq_or_of_lt (by omega) V).symm
  rw [hor]
  unfold wrap64 at *
  omega
theorem and_127 (b : Int) (h : 0 ≤ b ∧ b < 256) : bits .and .u8 b 127 = b % 128 := by
  have hh : ∀ n : Nat, n < 256 → bits .and .u8 (n : Int) 127 = (n : Int) % 128 := by decide +kernel
  have := hh b.toNat (by omega)
  rwa [Int.toNat_of_nonneg h.1] at this
theorem wrap_part (b : Int) (h : 0 ≤ b ∧ b < 256) : wrap64 (b % 128) = b % 128 := by unfold wrap64; omega
/-- Unleb: the number, the place behind, an error -/
def ulR (s : ByteArray) (at_ bits_ : Int) : Int × Int × Int :=
  if (ptR s at_ bits_).2 = 0 then
    if (ptR s at_ bits_).1 - at_ = (bits_ + 6) / 7 - 1 ∧ ¬ bt s (ptR s at_ bits_).1.toNat / 2 ^ (bits_ % 7).toNat = 0 then (0, 0, 1200)
    else (ac s at_.toNat ((ptR s at_ bits_).1.toNat + 1 - at_.toNat) 0, (ptR s at_ bits_).1 + 1, 0)
  else (0, 0, (ptR s at_ bits_).2)
theorem parts_any (s : ByteArray) (hs : s.size < 9223372036854775000) (at_ bits_ : Int) (w : World) :
    Calls Try.prog 27 #[.string s, .int .i64 at_, .int .i64 bits_] w fun e w' => e = .returned (.tuple #[.int .i64 (ptR s at_ bits_).1, .int .i64 (ptR s at_ bits_).2]) ∧ w' = w := by
  unfold ptR
  by_cases h : (bits_ = 32 ∨ bits_ = 64) ∧ 0 ≤ at_ ∧ at_ ≤ (s.size : Int)
  · rw [if_pos h]
    obtain ⟨a, rfl⟩ := Int.eq_ofNat_of_zero_le h.2.1
    rw [Int.toNat_natCast]
    rcases h.1 with rfl | rfl
    · exact parts_in s hs a (by omega) 32 5 (Or.inl ⟨rfl, rfl⟩) _ _ rfl w
    · exact parts_in s hs a (by omega) 64 10 (Or.inr ⟨rfl, rfl⟩) _ _ rfl w
  · rw [if_neg h]
    exact parts_form s at_ bits_ h w
/-- where parts end: within the text, within so many -/
theorem pt_in (s : ByteArray) (a : Nat) : ∀ (r i : Nat), (pt s a r i).2 = 0 → ∃ k : Nat, (pt s a r i).1 = (k : Int) ∧ a + i ≤ k ∧ k < s.size ∧ k < a + i + r ∧ bt s k < 128
  | 0, i, h => by simp [pt] at h
  | r + 1, i, h => by
    unfold pt at h ⊢
    by_cases h3 : s.size ≤ a + i
    · rw [if_pos h3] at h; simp at h
    · rw [if_neg h3] at h ⊢
      by_cases h6 : bt s (a + i) < 128
      · rw [if_pos h6] at h ⊢
        exact ⟨a + i, rfl, by omega, by omega, by omega, h6⟩
      · rw [if_neg h6] at h ⊢
        obtain ⟨k, h7, h8, h9, h10, h11⟩ := pt_in s a r (i + 1) h
        exact ⟨k, h7, by omega, h9, by omega, h11⟩
theorem ptR_in {s : ByteArray} {at_ bits_ : Int} (h : (ptR s at_ bits_).2 = 0) : ∃ a k m : Nat, at_ = (a : Int) ∧ ((bits_ = 32 ∧ m = 5) ∨ (bits_ = 64 ∧ m = 10)) ∧ (ptR s at_ bits_).1 = (k : Int) ∧ a ≤ k ∧ k < s.size ∧ k < a + m ∧ bt s k < 128 := by
  unfold ptR at h ⊢
  by_cases hh : (bits_ = 32 ∨ bits_ = 64) ∧ 0 ≤ at_ ∧ at_ ≤ (s.size : Int)
  · rw [if_pos hh] at h ⊢
    obtain ⟨a, rfl⟩ := Int.eq_ofNat_of_zero_le hh.2.1
    rw [Int.toNat_natCast] at h ⊢
    rcases hh.1 with rfl | rfl
    · obtain ⟨k, h1, h2, h3, h4, h5⟩ := pt_in s a 5 0 h
      exact ⟨a, k, 5, rfl, Or.inl ⟨rfl, rfl⟩, h1, by omega, h3, by omega, h5⟩
    · obtain ⟨k, h1, h2, h3, h4, h5⟩ := pt_in s a 10 0 h
      exact ⟨a, k, 10, rfl, Or.inr ⟨rfl, rfl⟩, h1, by omega, h3, by omega, h5⟩
  · rw [if_neg hh] at h
    simp at h
theorem unleb_err (s : ByteArray) (hs : s.size < 9223372036854775000) (at_ bits_ : Int) (h : ¬ (ptR s at_ bits_).2 = 0) (w : World) :
    Calls Try.prog 21 #[.string s, .int .i64 at_, .int .i64 bits_] w fun e w' => e = .returned (.tuple #[.int .i64 0, .int .i64 0, .int .i64 (ptR s at_ bits_).2]) ∧ w' = w := by
  have hp := parts_any s hs at_ bits_
  replace hp : Hid (∀ w : World, Calls Try.prog 27 #[.string s, .int .i64 at_, .int .i64 bits_] w fun e w' => e = .returned (.tuple #[.int .i64 (ptR s at_ bits_).1, .int .i64 (ptR s at_ bits_).2]) ∧ w' = w) := hp
  generalize (ptR s at_ bits_).1 = K at *
  generalize (ptR s at_ bits_).2 = E at *
  have h2 : (E != 0) = true := by simpa using h
  go_enter Try.func21, Try.ntmps21
  go_wp2_with (go_at_call 27; refine (hp.out _).mono ?_; rintro e w' ⟨rfl, rfl⟩)
  go_ret3
  exact ⟨rfl, rfl⟩
end Go.Proofs.Ythbagkaodcplmaa
