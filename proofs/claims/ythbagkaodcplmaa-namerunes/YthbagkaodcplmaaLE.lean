/- Over this seat's translation: the document's Unleb of parts that end. -/
import Derived.Test.YthbagkaodcplmaaLD
set_option linter.unusedVariables false
set_option linter.unusedSimpArgs false
set_option maxRecDepth 100000
set_option maxHeartbeats 4000000
namespace Go.Proofs.Ythbagkaodcplmaa
open Go.RowKit
theorem unleb_form32 (s : ByteArray) (hs : s.size < 9223372036854775000) (a k : Nat) (hp : Hid (ptR s (a : Int) 32 = ((k : Int), 0))) (hk : a ≤ k) (hk2 : k < s.size) (hk3 : k < a + 5) (he : k = a + 4) (hf : ¬ bt s k / 16 = 0) (w : World) :
    Calls Try.prog 21 #[.string s, .int .i64 (a : Int), .int .i64 32] w fun e w' => e = .returned (.tuple #[.int .i64 0, .int .i64 0, .int .i64 1200]) ∧ w' = w := by
  have hpp : Hid (∀ w : World, Calls Try.prog 27 #[.string s, .int .i64 (a : Int), .int .i64 32] w fun e w' => e = .returned (.tuple #[.int .i64 (k : Int), .int .i64 0]) ∧ w' = w) := fun w => by
    have := parts_any s hs (a : Int) 32 w
    rwa [hp.out] at this
  clear hp
  have hbt : bt s k = (s[k].toNat : Int) := dif_pos hk2
  have hwr : wrap64 (s[k].toNat : Int) = (s[k].toNat : Int) := by have := s[k].toNat_lt; unfold wrap64; omega
  rw [hbt] at hf
  have hf2 : (((s[k].toNat : Int) / 16) != 0) = true := by simpa using hf
  have e1 : (k : Int) - (a : Int) = 4 := by omega
  clear hbt hf he
  go_enter Try.func21, Try.ntmps21
  go_wp2_with (go_at_call 27; refine (hpp.out _).mono ?_; rintro e w' ⟨rfl, hw⟩; obtain rfl : w = w' := hw.symm)
  go_ret3
  exact ⟨rfl, rfl⟩
theorem unleb_ok32 (s : ByteArray) (hs : s.size < 9223372036854775000) (a k : Nat) (hp : Hid (ptR s (a : Int) 32 = ((k : Int), 0))) (hk : a ≤ k) (hk2 : k < s.size) (hk3 : k < a + 5) (he : ¬ (k = a + 4 ∧ ¬ bt s k / 16 = 0)) (w : World) :
    Calls Try.prog 21 #[.string s, .int .i64 (a : Int), .int .i64 32] w fun e w' => e = .returned (.tuple #[.int .i64 (ac s a (k + 1 - a) 0), .int .i64 ((k : Int) + 1), .int .i64 0]) ∧ w' = w := by
  have hpp : Hid (∀ w : World, Calls Try.prog 27 #[.string s, .int .i64 (a : Int), .int .i64 32] w fun e w' => e = .returned (.tuple #[.int .i64 (k : Int), .int .i64 0]) ∧ w' = w) := fun w => by
    have := parts_any s hs (a : Int) 32 w
    rwa [hp.out] at this
  clear hp
  have hbt : bt s k = (s[k].toNat : Int) := dif_pos hk2
  have hwr : wrap64 (s[k].toNat : Int) = (s[k].toNat : Int) := by have := s[k].toNat_lt; unfold wrap64; omega
  rw [hbt] at he
  replace he : ((k : Int) - (a : Int) == 4) = false ∨ ((k : Int) - (a : Int) = 4 ∧ (((s[k].toNat : Int) / 16) != 0) = false) := by
    by_cases h1 : k = a + 4
    · right
      refine ⟨by omega, ?_⟩
      by_cases h2 : (s[k].toNat : Int) / 16 = 0
      · simpa using h2
      · exact absurd ⟨h1, h2⟩ he
    · left
      simp
      omega
  clear hbt
  obtain ⟨R, hR⟩ : ∃ R, ac s a (k + 1 - a) 0 = R := ⟨_, rfl⟩
  rw [hR]
  replace hR : Hid _ := hR
  rcases he with he | ⟨he, hf⟩
  all_goals
    go_enter Try.func21, Try.ntmps21
    go_wp2_with (go_at_call 27; refine (hpp.out _).mono ?_; rintro e w' ⟨rfl, hw⟩; obtain rfl : w = w' := hw.symm)
    go_loopw [11, 12] (fun v i wr => ∃ (j : Nat) (x : Int), v = .int .i64 x ∧ i = .int .i64 ((a : Int) + (j : Int) - 1) ∧ j ≤ k + 1 - a ∧ wr = w ∧ ac s a j x = R) (fun v i _ => (intOf i + 1 - (a : Int)).toNat)
    case atStart => exact ⟨k + 1 - a, 0, rfl, by congr 1; omega, Nat.le_refl _, rfl, hR.out⟩
    case round =>
      clear hR he hwr
      try clear hf
      obtain ⟨j, x, rfl, rfl, hj, hw, hac⟩ := hrel
      obtain rfl : w = wr := hw.symm
      by_cases h0 : j = 0
      · subst h0
        simp only [ac] at hac
        subst hac
        obtain ⟨z, hz⟩ : ∃ z, (a : Int) + ((0 : Nat) : Int) - 1 = z := ⟨_, rfl⟩
        rw [hz]
        have h1 : z < (a : Int) := by omega
        clear hz hj hw hpp hk hk3
        go_wp2
        go_ret3
        exact ⟨rfl, rfl⟩
      · obtain ⟨j, rfl⟩ : ∃ j', j = j' + 1 := ⟨j - 1, by omega⟩
        have e1 : (a : Int) + ((j + 1 : Nat) : Int) - 1 = (a : Int) + (j : Int) := by omega
        have hlt : a + j < s.size := by omega
        have h1 : (a : Int) ≤ (a : Int) + (j : Int) := by omega
        have h2 : (a : Int) + (j : Int) < (s.size : Int) := by omega
        have hb2 : bt s (a + j) = (s[a + j].toNat : Int) := dif_pos hlt
        have hbb := bt_lt s (a + j)
        rw [hb2] at hbb
        have q1 := and_127 _ hbb
        have q2 := wrap_part _ hbb
        have q3 := or_part x ((s[a + j].toNat : Int) % 128) (Int.emod_nonneg _ (by decide)) (Int.emod_lt_of_pos _ (by decide))
        simp only [ac, hb2] at hac
        rw [e1]
        replace hac : Hid _ := hac
        have hj2 : Hid (j ≤ k + 1 - a) := (by show j ≤ k + 1 - a; exact Nat.le_of_succ_le hj)
        clear hb2 hbb e1 hj hw h0 hpp hk hk3
        go_wp2
        go_roundw
        case rel => exact ⟨j, _, rfl, rfl, hj2.out, trivial, hac.out⟩
        case measure => simp [intOf]; omega
theorem unleb_form64 (s : ByteArray) (hs : s.size < 9223372036854775000) (a k : Nat) (hp : Hid (ptR s (a : Int) 64 = ((k : Int), 0))) (hk : a ≤ k) (hk2 : k < s.size) (hk3 : k < a + 10) (he : k = a + 9) (hf : ¬ bt s k / 2 = 0) (w : World) :
    Calls Try.prog 21 #[.string s, .int .i64 (a : Int), .int .i64 64] w fun e w' => e = .returned (.tuple #[.int .i64 0, .int .i64 0, .int .i64 1200]) ∧ w' = w := by
  have hpp : Hid (∀ w : World, Calls Try.prog 27 #[.string s, .int .i64 (a : Int), .int .i64 64] w fun e w' => e = .returned (.tuple #[.int .i64 (k : Int), .int .i64 0]) ∧ w' = w) := fun w => by
    have := parts_any s hs (a : Int) 64 w
    rwa [hp.out] at this
  clear hp
  have hbt : bt s k = (s[k].toNat : Int) := dif_pos hk2
  have hwr : wrap64 (s[k].toNat : Int) = (s[k].toNat : Int) := by have := s[k].toNat_lt; unfold wrap64; omega
  rw [hbt] at hf
  have hf2 : (((s[k].toNat : Int) / 2) != 0) = true := by simpa using hf
  have e1 : (k : Int) - (a : Int) = 9 := by omega
  clear hbt hf he
  go_enter Try.func21, Try.ntmps21
  go_wp2_with (go_at_call 27; refine (hpp.out _).mono ?_; rintro e w' ⟨rfl, hw⟩; obtain rfl : w = w' := hw.symm)
  go_ret3
  exact ⟨rfl, rfl⟩
theorem unleb_ok64 (s : ByteArray) (hs : s.size < 9223372036854775000) (a k : Nat) (hp : Hid (ptR s (a : Int) 64 = ((k : Int), 0))) (hk : a ≤ k) (hk2 : k < s.size) (hk3 : k < a + 10) (he : ¬ (k = a + 9 ∧ ¬ bt s k / 2 = 0)) (w : World) :
    Calls Try.prog 21 #[.string s, .int .i64 (a : Int), .int .i64 64] w fun e w' => e = .returned (.tuple #[.int .i64 (ac s a (k + 1 - a) 0), .int .i64 ((k : Int) + 1), .int .i64 0]) ∧ w' = w := by
  have hpp : Hid (∀ w : World, Calls Try.prog 27 #[.string s, .int .i64 (a : Int), .int .i64 64] w fun e w' => e = .returned (.tuple #[.int .i64 (k : Int), .int .i64 0]) ∧ w' = w) := fun w => by
    have := parts_any s hs (a : Int) 64 w
    rwa [hp.out] at this
  clear hp
  have hbt : bt s k = (s[k].toNat : Int) := dif_pos hk2
  have hwr : wrap64 (s[k].toNat : Int) = (s[k].toNat : Int) := by have := s[k].toNat_lt; unfold wrap64; omega
  rw [hbt] at he
  replace he : ((k : Int) - (a : Int) == 9) = false ∨ ((k : Int) - (a : Int) = 9 ∧ (((s[k].toNat : Int) / 2) != 0) = false) := by
    by_cases h1 : k = a + 9
    · right
      refine ⟨by omega, ?_⟩
      by_cases h2 : (s[k].toNat : Int) / 2 = 0
      · simpa using h2
      · exact absurd ⟨h1, h2⟩ he
    · left
      simp
      omega
  clear hbt
  obtain ⟨R, hR⟩ : ∃ R, ac s a (k + 1 - a) 0 = R := ⟨_, rfl⟩
  rw [hR]
  replace hR : Hid _ := hR
  rcases he with he | ⟨he, hf⟩
  all_goals
    go_enter Try.func21, Try.ntmps21
    go_wp2_with (go_at_call 27; refine (hpp.out _).mono ?_; rintro e w' ⟨rfl, hw⟩; obtain rfl : w = w' := hw.symm)
    go_loopw [11, 12] (fun v i wr => ∃ (j : Nat) (x : Int), v = .int .i64 x ∧ i = .int .i64 ((a : Int) + (j : Int) - 1) ∧ j ≤ k + 1 - a ∧ wr = w ∧ ac s a j x = R) (fun v i _ => (intOf i + 1 - (a : Int)).toNat)
    case atStart => exact ⟨k + 1 - a, 0, rfl, by congr 1; omega, Nat.le_refl _, rfl, hR.out⟩
    case round =>
      clear hR he hwr
      try clear hf
      obtain ⟨j, x, rfl, rfl, hj, hw, hac⟩ := hrel
      obtain rfl : w = wr := hw.symm
      by_cases h0 : j = 0
      · subst h0
        simp only [ac] at hac
        subst hac
        obtain ⟨z, hz⟩ : ∃ z, (a : Int) + ((0 : Nat) : Int) - 1 = z := ⟨_, rfl⟩
        rw [hz]
        have h1 : z < (a : Int) := by omega
        clear hz hj hw hpp hk hk3
        go_wp2
        go_ret3
        exact ⟨rfl, rfl⟩
      · obtain ⟨j, rfl⟩ : ∃ j', j = j' + 1 := ⟨j - 1, by omega⟩
        have e1 : (a : Int) + ((j + 1 : Nat) : Int) - 1 = (a : Int) + (j : Int) := by omega
        have hlt : a + j < s.size := by omega
        have h1 : (a : Int) ≤ (a : Int) + (j : Int) := by omega
        have h2 : (a : Int) + (j : Int) < (s.size : Int) := by omega
        have hb2 : bt s (a + j) = (s[a + j].toNat : Int) := dif_pos hlt
        have hbb := bt_lt s (a + j)
        rw [hb2] at hbb
        have q1 := and_127 _ hbb
        have q2 := wrap_part _ hbb
        have q3 := or_part x ((s[a + j].toNat : Int) % 128) (Int.emod_nonneg _ (by decide)) (Int.emod_lt_of_pos _ (by decide))
        simp only [ac, hb2] at hac
        rw [e1]
        replace hac : Hid _ := hac
        have hj2 : Hid (j ≤ k + 1 - a) := (by show j ≤ k + 1 - a; exact Nat.le_of_succ_le hj)
        clear hb2 hbb e1 hj hw h0 hpp hk hk3
        go_wp2
        go_roundw
        case rel => exact ⟨j, _, rfl, rfl, hj2.out, trivial, hac.out⟩
        case measure => simp [intOf]; omega
end Go.Proofs.Ythbagkaodcplmaa
