/- Over this seat's translation: the document's Unsleb. -/
import Derived.Test.YtljogkiibpinaaaLF
set_option linter.unusedVariables false
set_option linter.unusedSimpArgs false
set_option maxRecDepth 100000
set_option maxHeartbeats 4000000
namespace Go.Proofs.Ytljogkiibpinaaa
open Go.RowKit
/-- a number of 32 bits with its sign -/
def sg3 (x : Int) : Int := if x % 4294967296 < 2147483648 then x % 4294967296 else x % 4294967296 - 4294967296
theorem rlow_any (x : Int) (w : World) :
    Calls Try.prog 25 #[.int .i64 x] w fun e w' => e = .returned (.int .i64 (x % 4294967296)) ∧ w' = w := by
  have ha : bits .and .i64 x 4294967295 = x % 4294967296 := by rw [show (4294967295 : Int) = ((2 ^ 32 : Nat) - 1 : Int) by decide, BM.and_mask x 32 (by decide)]; rfl
  go_enter Try.func25, Try.ntmps25
  go_wp2
  go_ret
  exact ⟨rfl, rfl⟩
theorem rsign_any (x : Int) (w : World) :
    Calls Try.prog 23 #[.int .i64 x] w fun e w' => e = .returned (.int .i64 (sg3 x)) ∧ w' = w := by
  unfold sg3
  have hb : 0 ≤ x % 4294967296 ∧ x % 4294967296 < 4294967296 := by omega
  have hl : Hid (∀ w : World, Calls Try.prog 25 #[.int .i64 x] w fun e w' => e = .returned (.int .i64 (x % 4294967296)) ∧ w' = w) := rlow_any x
  generalize x % 4294967296 = y at *
  by_cases h : y < 2147483648
  · rw [if_pos h]
    go_enter Try.func23, Try.ntmps23
    go_wp2_with (go_at_call 25; refine (hl.out _).mono ?_; rintro e w' ⟨rfl, rfl⟩)
    go_ret
    exact ⟨rfl, rfl⟩
  · rw [if_neg h]
    go_enter Try.func23, Try.ntmps23
    go_wp2_with (go_at_call 25; refine (hl.out _).mono ?_; rintro e w' ⟨rfl, rfl⟩)
    go_ret
    exact ⟨rfl, rfl⟩
theorem and_64 (b : Int) (h : 0 ≤ b ∧ b < 256) : bits .and .i64 b 64 = if b % 128 < 64 then 0 else 64 := by
  have hh : ∀ n : Nat, n < 256 → bits .and .i64 (n : Int) 64 = if (n : Int) % 128 < 64 then 0 else 64 := by decide +kernel
  have := hh b.toNat (by omega)
  rwa [Int.toNat_of_nonneg h.1] at this
theorem unsleb_form32 (s : ByteArray) (hs : s.size < 9223372036854775000) (a k : Nat) (hp : Hid (ptR s (a : Int) 32 = ((k : Int), 0))) (hk : a ≤ k) (hk2 : k < s.size) (hk3 : k < a + 5) (he : k = a + 4) (hf : ¬ bt s k / 8 = 0) (hf2 : ¬ bt s k / 8 = 15) (w : World) :
    Calls Try.prog 12 #[.string s, .int .i64 (a : Int), .int .i64 32] w fun e w' => e = .returned (.tuple #[.int .i64 0, .int .i64 0, .int .i64 1200]) ∧ w' = w := by
  have hpp : Hid (∀ w : World, Calls Try.prog 21 #[.string s, .int .i64 (a : Int), .int .i64 32] w fun e w' => e = .returned (.tuple #[.int .i64 (k : Int), .int .i64 0]) ∧ w' = w) := fun w => by
    have := parts_any s hs (a : Int) 32 w
    rwa [hp.out] at this
  clear hp
  have hbt : bt s k = (s[k].toNat : Int) := dif_pos hk2
  have hwr : wrap64 (s[k].toNat : Int) = (s[k].toNat : Int) := by have := s[k].toNat_lt; unfold wrap64; omega
  have hbb := bt_lt s k
  rw [hbt] at hf hf2
  skip
  have hf3 : (((s[k].toNat : Int) / 8) != 0) = true := by simpa using hf
  have hf4 : (((s[k].toNat : Int) / 8) != 15) = true := by simpa using hf2
  have e1 : (k : Int) - (a : Int) = 4 := by omega
  clear hbt hf hf2 he hbb
  go_enter Try.func12, Try.ntmps12
  go_wp2_with (go_at_call 21; refine (hpp.out _).mono ?_; rintro e w' ⟨rfl, hw⟩; obtain rfl : w = w' := hw.symm)
  go_ret3
  exact ⟨rfl, rfl⟩
theorem unsleb_ok32 (s : ByteArray) (hs : s.size < 9223372036854775000) (a k : Nat) (hp : Hid (ptR s (a : Int) 32 = ((k : Int), 0))) (hk : a ≤ k) (hk2 : k < s.size) (hk3 : k < a + 5) (he : ¬ (k = a + 4 ∧ ¬ bt s k / 8 = 0 ∧ ¬ bt s k / 8 = 15)) (w : World) :
    Calls Try.prog 12 #[.string s, .int .i64 (a : Int), .int .i64 32] w fun e w' => e = .returned (.tuple #[.int .i64 (sg3 (ac s a (k + 1 - a) (if bt s k % 128 < 64 then 0 else -1))), .int .i64 ((k : Int) + 1), .int .i64 0]) ∧ w' = w := by
  have hpp : Hid (∀ w : World, Calls Try.prog 21 #[.string s, .int .i64 (a : Int), .int .i64 32] w fun e w' => e = .returned (.tuple #[.int .i64 (k : Int), .int .i64 0]) ∧ w' = w) := fun w => by
    have := parts_any s hs (a : Int) 32 w
    rwa [hp.out] at this
  clear hp
  have hbt : bt s k = (s[k].toNat : Int) := dif_pos hk2
  have hwr : wrap64 (s[k].toNat : Int) = (s[k].toNat : Int) := by have := s[k].toNat_lt; unfold wrap64; omega
  have hbb := bt_lt s k
  rw [hbt] at he hbb
  skip
  replace he : ((k : Int) - (a : Int) == 4) = false ∨ ((k : Int) - (a : Int) = 4 ∧ (((s[k].toNat : Int) / 8) != 0) = false) ∨ ((k : Int) - (a : Int) = 4 ∧ (((s[k].toNat : Int) / 8) != 0) = true ∧ (((s[k].toNat : Int) / 8) != 15) = false) := by
    by_cases h1 : k = a + 4
    · by_cases h2 : ((s[k].toNat : Int) / 8) = 0
      · exact Or.inr (Or.inl ⟨by omega, by simpa using h2⟩)
      · by_cases h3 : ((s[k].toNat : Int) / 8) = 15
        · exact Or.inr (Or.inr ⟨by omega, by simpa using h2, by simpa using h3⟩)
        · exact absurd ⟨h1, h2, h3⟩ he
    · left
      simp
      omega
  have h64 := and_64 _ hbb
  rw [hbt]
  obtain ⟨X, hX⟩ : ∃ X : Int, (if (s[k].toNat : Int) % 128 < 64 then 0 else -1) = X := ⟨_, rfl⟩
  rw [hX]
  obtain ⟨R, hR⟩ : ∃ R, ac s a (k + 1 - a) X = R := ⟨_, rfl⟩
  rw [hR]
  replace hR : Hid (ac s a (k + 1 - a) X = R) := hR
  have hs3 : (bits .and .i64 (s[k].toNat : Int) 64 = 0 ∧ X = 0) ∨ (bits .and .i64 (s[k].toNat : Int) 64 = 64 ∧ X = -1) := by
    rw [h64, ← hX]
    by_cases hq : (s[k].toNat : Int) % 128 < 64
    · rw [if_pos hq, if_pos hq]; exact Or.inl ⟨rfl, rfl⟩
    · rw [if_neg hq, if_neg hq]; exact Or.inr ⟨rfl, rfl⟩
  clear hbt hbb h64 hX
  rcases hs3 with ⟨hs3, rfl⟩ | ⟨hs3, rfl⟩ <;> rcases he with he | ⟨he, hf⟩ | ⟨he, hf, hf2⟩
  all_goals
    go_enter Try.func12, Try.ntmps12
    go_wp2_with (go_at_call 21; refine (hpp.out _).mono ?_; rintro e w' ⟨rfl, hw⟩; obtain rfl : w = w' := hw.symm)
    go_loopw [13, 14] (fun v i wr => ∃ (j : Nat) (x : Int), v = .int .i64 x ∧ i = .int .i64 ((a : Int) + (j : Int) - 1) ∧ j ≤ k + 1 - a ∧ wr = w ∧ ac s a j x = R) (fun v i _ => (intOf i + 1 - (a : Int)).toNat)
    case atStart =>
      clear hwr hs3 he
      try clear hf
      try clear hf2
      exact ⟨k + 1 - a, _, rfl, by congr 1; omega, Nat.le_refl _, rfl, hR.out⟩
    case round =>
      clear hR he hwr hs3
      try clear hf
      try clear hf2
      obtain ⟨j, x, rfl, rfl, hj, hw, hac⟩ := hrel
      obtain rfl : w = wr := hw.symm
      by_cases h0 : j = 0
      · subst h0
        simp only [ac] at hac
        subst hac
        obtain ⟨z, hz⟩ : ∃ z, (a : Int) + ((0 : Nat) : Int) - 1 = z := ⟨_, rfl⟩
        rw [hz]
        have h1 : z < (a : Int) := by omega
        clear hz hj hw hpp hk hk3
        go_wp2_with (go_at_call 23; refine (rsign_any _ _).mono ?_; rintro e w' ⟨rfl, hw⟩; obtain rfl : w = w' := hw.symm)
        go_ret3
        exact ⟨rfl, rfl⟩
      · obtain ⟨j, rfl⟩ : ∃ j', j = j' + 1 := ⟨j - 1, by omega⟩
        have e1 : (a : Int) + ((j + 1 : Nat) : Int) - 1 = (a : Int) + (j : Int) := by omega
        have hlt : a + j < s.size := by omega
        have h1 : (a : Int) ≤ (a : Int) + (j : Int) := by omega
        have h2 : (a : Int) + (j : Int) < (s.size : Int) := by omega
        have hb2 : bt s (a + j) = (s[a + j].toNat : Int) := dif_pos hlt
        have hbb := bt_lt s (a + j)
        rw [hb2] at hbb
        have q1 := and_127 _ hbb
        have q2 := wrap_part _ hbb
        have q3 := or_part x ((s[a + j].toNat : Int) % 128) (Int.emod_nonneg _ (by decide)) (Int.emod_lt_of_pos _ (by decide))
        simp only [ac, hb2] at hac
        rw [e1]
        replace hac : Hid _ := hac
        have hj2 : Hid (j ≤ k + 1 - a) := (by show j ≤ k + 1 - a; exact Nat.le_of_succ_le hj)
        clear hb2 hbb e1 hj hw h0 hpp hk hk3
        go_wp2
        go_roundw
        case rel => exact ⟨j, _, rfl, rfl, hj2.out, trivial, hac.out⟩
        case measure => simp [intOf]; omega
theorem unsleb_form64 (s : ByteArray) (hs : s.size < 9223372036854775000) (a k : Nat) (hp : Hid (ptR s (a : Int) 64 = ((k : Int), 0))) (hk : a ≤ k) (hk2 : k < s.size) (hk3 : k < a + 10) (he : k = a + 9) (hf : ¬ bt s k / 1 = 0) (hf2 : ¬ bt s k / 1 = 127) (w : World) :
    Calls Try.prog 12 #[.string s, .int .i64 (a : Int), .int .i64 64] w fun e w' => e = .returned (.tuple #[.int .i64 0, .int .i64 0, .int .i64 1200]) ∧ w' = w := by
  have hpp : Hid (∀ w : World, Calls Try.prog 21 #[.string s, .int .i64 (a : Int), .int .i64 64] w fun e w' => e = .returned (.tuple #[.int .i64 (k : Int), .int .i64 0]) ∧ w' = w) := fun w => by
    have := parts_any s hs (a : Int) 64 w
    rwa [hp.out] at this
  clear hp
  have hbt : bt s k = (s[k].toNat : Int) := dif_pos hk2
  have hwr : wrap64 (s[k].toNat : Int) = (s[k].toNat : Int) := by have := s[k].toNat_lt; unfold wrap64; omega
  have hbb := bt_lt s k
  rw [hbt] at hf hf2
  rw [Int.ediv_one] at hf hf2
  have hf3 : ((s[k].toNat : Int) != 0) = true := by simpa using hf
  have hf4 : ((s[k].toNat : Int) != 127) = true := by simpa using hf2
  have e1 : (k : Int) - (a : Int) = 9 := by omega
  clear hbt hf hf2 he hbb
  go_enter Try.func12, Try.ntmps12
  go_wp2_with (go_at_call 21; refine (hpp.out _).mono ?_; rintro e w' ⟨rfl, hw⟩; obtain rfl : w = w' := hw.symm)
  go_ret3
  exact ⟨rfl, rfl⟩
theorem unsleb_ok64 (s : ByteArray) (hs : s.size < 9223372036854775000) (a k : Nat) (hp : Hid (ptR s (a : Int) 64 = ((k : Int), 0))) (hk : a ≤ k) (hk2 : k < s.size) (hk3 : k < a + 10) (he : ¬ (k = a + 9 ∧ ¬ bt s k / 1 = 0 ∧ ¬ bt s k / 1 = 127)) (w : World) :
    Calls Try.prog 12 #[.string s, .int .i64 (a : Int), .int .i64 64] w fun e w' => e = .returned (.tuple #[.int .i64 (ac s a (k + 1 - a) (if bt s k % 128 < 64 then 0 else -1)), .int .i64 ((k : Int) + 1), .int .i64 0]) ∧ w' = w := by
  have hpp : Hid (∀ w : World, Calls Try.prog 21 #[.string s, .int .i64 (a : Int), .int .i64 64] w fun e w' => e = .returned (.tuple #[.int .i64 (k : Int), .int .i64 0]) ∧ w' = w) := fun w => by
    have := parts_any s hs (a : Int) 64 w
    rwa [hp.out] at this
  clear hp
  have hbt : bt s k = (s[k].toNat : Int) := dif_pos hk2
  have hwr : wrap64 (s[k].toNat : Int) = (s[k].toNat : Int) := by have := s[k].toNat_lt; unfold wrap64; omega
  have hbb := bt_lt s k
  rw [hbt] at he hbb
  rw [Int.ediv_one] at he
  replace he : ((k : Int) - (a : Int) == 9) = false ∨ ((k : Int) - (a : Int) = 9 ∧ ((s[k].toNat : Int) != 0) = false) ∨ ((k : Int) - (a : Int) = 9 ∧ ((s[k].toNat : Int) != 0) = true ∧ ((s[k].toNat : Int) != 127) = false) := by
    by_cases h1 : k = a + 9
    · by_cases h2 : (s[k].toNat : Int) = 0
      · exact Or.inr (Or.inl ⟨by omega, by simpa using h2⟩)
      · by_cases h3 : (s[k].toNat : Int) = 127
        · exact Or.inr (Or.inr ⟨by omega, by simpa using h2, by simpa using h3⟩)
        · exact absurd ⟨h1, h2, h3⟩ he
    · left
      simp
      omega
  have h64 := and_64 _ hbb
  rw [hbt]
  obtain ⟨X, hX⟩ : ∃ X : Int, (if (s[k].toNat : Int) % 128 < 64 then 0 else -1) = X := ⟨_, rfl⟩
  rw [hX]
  obtain ⟨R, hR⟩ : ∃ R, ac s a (k + 1 - a) X = R := ⟨_, rfl⟩
  rw [hR]
  replace hR : Hid (ac s a (k + 1 - a) X = R) := hR
  have hs3 : (bits .and .i64 (s[k].toNat : Int) 64 = 0 ∧ X = 0) ∨ (bits .and .i64 (s[k].toNat : Int) 64 = 64 ∧ X = -1) := by
    rw [h64, ← hX]
    by_cases hq : (s[k].toNat : Int) % 128 < 64
    · rw [if_pos hq, if_pos hq]; exact Or.inl ⟨rfl, rfl⟩
    · rw [if_neg hq, if_neg hq]; exact Or.inr ⟨rfl, rfl⟩
  clear hbt hbb h64 hX
  rcases hs3 with ⟨hs3, rfl⟩ | ⟨hs3, rfl⟩ <;> rcases he with he | ⟨he, hf⟩ | ⟨he, hf, hf2⟩
  all_goals
    go_enter Try.func12, Try.ntmps12
    go_wp2_with (go_at_call 21; refine (hpp.out _).mono ?_; rintro e w' ⟨rfl, hw⟩; obtain rfl : w = w' := hw.symm)
    go_loopw [13, 14] (fun v i wr => ∃ (j : Nat) (x : Int), v = .int .i64 x ∧ i = .int .i64 ((a : Int) + (j : Int) - 1) ∧ j ≤ k + 1 - a ∧ wr = w ∧ ac s a j x = R) (fun v i _ => (intOf i + 1 - (a : Int)).toNat)
    case atStart =>
      clear hwr hs3 he
      try clear hf
      try clear hf2
      exact ⟨k + 1 - a, _, rfl, by congr 1; omega, Nat.le_refl _, rfl, hR.out⟩
    case round =>
      clear hR he hwr hs3
      try clear hf
      try clear hf2
      obtain ⟨j, x, rfl, rfl, hj, hw, hac⟩ := hrel
      obtain rfl : w = wr := hw.symm
      by_cases h0 : j = 0
      · subst h0
        simp only [ac] at hac
        subst hac
        obtain ⟨z, hz⟩ : ∃ z, (a : Int) + ((0 : Nat) : Int) - 1 = z := ⟨_, rfl⟩
        rw [hz]
        have h1 : z < (a : Int) := by omega
        clear hz hj hw hpp hk hk3
        go_wp2
        go_ret3
        exact ⟨rfl, rfl⟩
      · obtain ⟨j, rfl⟩ : ∃ j', j = j' + 1 := ⟨j - 1, by omega⟩
        have e1 : (a : Int) + ((j + 1 : Nat) : Int) - 1 = (a : Int) + (j : Int) := by omega
        have hlt : a + j < s.size := by omega
        have h1 : (a : Int) ≤ (a : Int) + (j : Int) := by omega
        have h2 : (a : Int) + (j : Int) < (s.size : Int) := by omega
        have hb2 : bt s (a + j) = (s[a + j].toNat : Int) := dif_pos hlt
        have hbb := bt_lt s (a + j)
        rw [hb2] at hbb
        have q1 := and_127 _ hbb
        have q2 := wrap_part _ hbb
        have q3 := or_part x ((s[a + j].toNat : Int) % 128) (Int.emod_nonneg _ (by decide)) (Int.emod_lt_of_pos _ (by decide))
        simp only [ac, hb2] at hac
        rw [e1]
        replace hac : Hid _ := hac
        have hj2 : Hid (j ≤ k + 1 - a) := (by show j ≤ k + 1 - a; exact Nat.le_of_succ_le hj)
        clear hb2 hbb e1 hj hw h0 hpp hk hk3
        go_wp2
        go_roundw
        case rel => exact ⟨j, _, rfl, rfl, hj2.out, trivial, hac.out⟩
        case measure => simp [intOf]; omega
end Go.Proofs.Ytljogkiibpinaaa
