/- Over this seat's translation: names by the document (pelorusref12: NameMay, Name, Unname). -/
import Derived.Test.YthbagkaodcplmaaOA
import Derived.Test.YthbagkaodcplmaaLJ
set_option linter.unusedVariables false
set_option linter.unusedSimpArgs false
set_option maxRecDepth 100000
set_option maxHeartbeats 4000000
namespace Go.Proofs.Ythbagkaodcplmaa
open Go.RowKit
def mayN (s : ByteArray) : Bool := decide (s.size ≤ 64) && utfR s
/-- Put: the bytes, an error -/
def nmR (s : ByteArray) : ByteArray × Int := if 64 < s.size then (⟨#[]⟩, 1301) else if utfR s = true then (strOfNums (lebL (s.size : Int)) ++ s, 0) else (⟨#[]⟩, 1300)
/-- Get: the name, the place behind, an error -/
def unR (s : ByteArray) (at_ : Int) : ByteArray × Int × Int :=
  if (ulR s at_ 32).2.2 = 0 ∧ (ulR s at_ 32).1 ≤ (s.size : Int) - (ulR s at_ 32).2.1 then
    if 64 < (ulR s at_ 32).1 then (⟨#[]⟩, 0, 1301)
    else if utfR (s.extract (ulR s at_ 32).2.1.toNat ((ulR s at_ 32).2.1.toNat + (ulR s at_ 32).1.toNat)) = true then (s.extract (ulR s at_ 32).2.1.toNat ((ulR s at_ 32).2.1.toNat + (ulR s at_ 32).1.toNat), (ulR s at_ 32).2.1 + (ulR s at_ 32).1, 0)
    else (⟨#[]⟩, 0, 1300)
  else (⟨#[]⟩, 0, 1300)
/-- numbers from a place on -/
def bts (s : ByteArray) (a : Nat) : Nat → List Int
  | 0 => []
  | j + 1 => bt s a :: bts s (a + 1) j
theorem bts_len (s : ByteArray) : ∀ (j a : Nat), (bts s a j).length = j
  | 0, a => rfl
  | j + 1, a => by simp [bts, bts_len s j]
theorem bl_bts (s : ByteArray) : ∀ (j a : Nat), a + j ≤ s.size → bl s a (bts s a j)
  | 0, a, h => h
  | j + 1, a, h => ⟨by omega, rfl, bl_bts s j (a + 1) (by omega)⟩
theorem un_rng : ∀ (d : List Int), 0 ≤ un d 0 ∧ un d 0 < 128 ^ d.length
  | [] => by simp [un]
  | b :: d => by
    obtain ⟨h1, h2⟩ := un_rng d
    simp only [un, List.length_cons]
    rw [Int.pow_succ]
    omega
/-- what a number of 32 bits that is read may be -/
theorem ul_rng (s : ByteArray) (at_ : Int) (h : (ulR s at_ 32).2.2 = 0) : 0 ≤ (ulR s at_ 32).1 ∧ (ulR s at_ 32).1 < 34359738368 ∧ 0 ≤ (ulR s at_ 32).2.1 ∧ (ulR s at_ 32).2.1 ≤ (s.size : Int) := by
  by_cases hp : (ptR s at_ 32).2 = 0
  · obtain ⟨a, k, m, rfl, hb, h1, h2, h3, h4, h5⟩ := ptR_in hp
    obtain rfl : m = 5 := by omega
    have hp2 : ptR s (a : Int) 32 = ((k : Int), 0) := Prod.ext h1 hp
    by_cases hc : k = a + 4 ∧ ¬ bt s k / 16 = 0
    · have e : ulR s (a : Int) 32 = (0, 0, 1200) := by
        unfold ulR
        rw [hp2, if_pos rfl, if_pos]
        exact ⟨by omega, hc.2⟩
      rw [e] at h
      exact absurd h (by decide)
    · have e : ulR s (a : Int) 32 = (ac s a (k + 1 - a) 0, (k : Int) + 1, 0) := by
        unfold ulR
        rw [hp2, if_pos rfl, if_neg]
        · rfl
        · rintro ⟨x1, x2⟩
          exact hc ⟨by omega, x2⟩
      rw [e, ac_of s a (k + 1 - a) (bts s a (k + 1 - a)) 0 (bts_len s _ _) (bl_bts s _ _ (by omega)) (by unfold wrap64; omega)]
      obtain ⟨u1, u2⟩ := un_rng (bts s a (k + 1 - a))
      rw [bts_len] at u2
      have u3 : (128 : Int) ^ (k + 1 - a) ≤ 128 ^ 5 := by
        have : k + 1 - a ≤ 5 := by omega
        exact_mod_cast Nat.pow_le_pow_right (show 0 < 128 by decide) this
      generalize un (bts s a (k + 1 - a)) 0 = z at *
      have hz : wrap64 z = z := by unfold wrap64; omega
      refine ⟨?_, ?_, ?_, ?_⟩
      · show 0 ≤ wrap64 z; rw [hz]; exact u1
      · show wrap64 z < 34359738368; rw [hz]; omega
      · show 0 ≤ (k : Int) + 1; omega
      · show (k : Int) + 1 ≤ (s.size : Int); omega
  · have e : ulR s at_ 32 = (0, 0, (ptR s at_ 32).2) := by unfold ulR; exact if_neg hp
    rw [e] at h
    exact absurd h hp
theorem namemay_any (s : ByteArray) (hs : s.size < 9223372036854775000) (w : World) :
    Calls Try.prog 12 #[.string s] w fun e w' => e = .returned (.bool (mayN s)) ∧ w' = w := by
  have hu : Hid (∀ w : World, Calls Try.prog 17 #[.string s] w fun e w' => e = .returned (.bool (utfR s)) ∧ w' = w) := fun w => utf8_any s hs _ rfl w
  unfold mayN
  generalize utfR s = u at *
  by_cases h : s.size ≤ 64
  · have h1 : (s.size : Int) ≤ 64 := by omega
    rw [decide_eq_true h, Bool.true_and]
    go_enter Try.func12, Try.ntmps12
    go_wp2_with (go_at_call 17; refine (hu.out _).mono ?_; rintro e w' ⟨rfl, hw⟩; obtain rfl : w = w' := hw.symm)
    go_ret
    exact ⟨rfl, rfl⟩
  · have h1 : ¬ (s.size : Int) ≤ 64 := by omega
    rw [decide_eq_false h, Bool.false_and]
    go_enter Try.func12, Try.ntmps12
    go_wp2
    go_ret
    exact ⟨rfl, rfl⟩
theorem name_any (s : ByteArray) (hs : s.size < 9223372036854775000) (w : World) :
    Calls Try.prog 8 #[.string s] w fun e w' => e = .returned (.tuple #[.string (nmR s).1, .int .i64 (nmR s).2]) ∧ Later w w' := by
  unfold nmR
  by_cases h : 64 < s.size
  · have h1 : (64 : Int) < (s.size : Int) := by omega
    rw [if_pos h]
    go_enter Try.func8, Try.ntmps8
    go_wp2
    go_ret2
    exact ⟨rfl, Lz _⟩
  · have h1 : ¬ (64 : Int) < (s.size : Int) := by omega
    rw [if_neg h]
    cases hu : utfR s with
    | false =>
      have hu2 : Hid (∀ w : World, Calls Try.prog 17 #[.string s] w fun e w' => e = .returned (.bool false) ∧ w' = w) := fun w => utf8_any s hs _ hu w
      rw [if_neg (by decide)]
      clear hu
      go_enter Try.func8, Try.ntmps8
      go_wp2_with (go_at_call 17; refine (hu2.out _).mono ?_; rintro e w' ⟨rfl, hw⟩; obtain rfl : w = w' := hw.symm)
      go_ret2
      exact ⟨rfl, Lz _⟩
    | true =>
      have hu2 : Hid (∀ w : World, Calls Try.prog 17 #[.string s] w fun e w' => e = .returned (.bool true) ∧ w' = w) := fun w => utf8_any s hs _ hu w
      have hle : Hid (∀ w : World, Calls Try.prog 18 #[.int .i64 (s.size : Int)] w fun e w' => e = .returned (.string (strOfNums (lebL (s.size : Int)))) ∧ Later w w') := fun w => leb_any _ w
      have hz : (strOfNums (lebL (s.size : Int))).size ≤ 10 := by rw [strOfNums_size]; exact lebF_len 9 _
      rw [if_pos rfl]
      generalize strOfNums (lebL (s.size : Int)) = t at *
      clear hu
      go_enter Try.func8, Try.ntmps8
      go_wp2_with (first | (go_at_call 17; refine (hu2.out _).mono ?_; rintro e w' ⟨rfl, hw⟩; obtain rfl : w = w' := hw.symm) | (go_at_call 18; refine (hle.out _).mono ?_; rintro e w2 ⟨rfl, l2⟩; replace l2 : Hid (Later w w2) := l2))
      go_ret2
      exact ⟨rfl, l2.out⟩
theorem sl_eq (u : ByteArray) (a n : Nat) (h : a + n ≤ u.size) (w : World) : (Instr.slice 9 (.string u) (some (.int .i64 (a : Int))) (some (.int .i64 ((a : Int) + (n : Int)))) none).run Try.prog w = .ok (.string (u.extract a (a + n))) w := by
  have ht := Try.underlying9
  have h1 : (a : Int) ≤ (a : Int) + (n : Int) := by omega
  have h2 : (a : Int) + (n : Int) ≤ (u.size : Int) := by omega
  have h3 : (0 : Int) ≤ (a : Int) + (n : Int) := by omega
  have h4 : ((a : Int) + (n : Int)).toNat = a + n := by omega
  simp [Instr.slice, run_underlying ht, Instr.sliceBounds, run_sliceBound, sliced, h1, h2, h3, h4]
theorem unname_any (s : ByteArray) (hs : s.size < 9223372036854775000) (at_ : Int) (w : World) :
    Calls Try.prog 10 #[.string s, .int .i64 at_] w fun e w' => e = .returned (.tuple #[.string (unR s at_).1, .int .i64 (unR s at_).2.1, .int .i64 (unR s at_).2.2]) ∧ w' = w := by
  have hul : Hid (∀ w : World, Calls Try.prog 21 #[.string s, .int .i64 at_, .int .i64 32] w fun e w' => e = .returned (.tuple #[.int .i64 (ulR s at_ 32).1, .int .i64 (ulR s at_ 32).2.1, .int .i64 (ulR s at_ 32).2.2]) ∧ w' = w) := fun w => unleb_any s hs at_ 32 w
  unfold unR
  have hr := ul_rng s at_
  obtain ⟨⟨k, to, e⟩, hq⟩ : ∃ q, ulR s at_ 32 = q := ⟨_, rfl⟩
  rw [hq] at hul hr ⊢
  simp only at hul hr ⊢
  by_cases he : e = 0
  · subst he
    obtain ⟨r1, r2, r3, r4⟩ := hr rfl
    obtain ⟨K, rfl⟩ := Int.eq_ofNat_of_zero_le r1
    obtain ⟨A, rfl⟩ := Int.eq_ofNat_of_zero_le r3
    simp only [Int.toNat_natCast, true_and]
    clear hr hq
    have hw1 : -9223372036854775808 ≤ (s.size : Int) - (A : Int) := by omega
    have hw2 : (s.size : Int) - (A : Int) ≤ 9223372036854775807 := by omega
    by_cases hk : (K : Int) ≤ (s.size : Int) - (A : Int)
    · rw [if_pos hk]
      have hk1 : ¬ ((s.size : Int) - (A : Int) < (K : Int)) := by omega
      by_cases h64 : (64 : Int) < (K : Int)
      · rw [if_pos h64]
        clear r1 r2 r3 r4 hk
        go_enter Try.func10, Try.ntmps10
        go_wp2_with (go_at_call 21; refine (hul.out _).mono ?_; rintro e w' ⟨rfl, hw⟩; obtain rfl : w = w' := hw.symm)
        go_ret3
        exact ⟨rfl, rfl⟩
      · rw [if_neg h64]
        have hsl := sl_eq s A K (by omega)
        have hwk : wrap64 ((A : Int) + (K : Int)) = (A : Int) + (K : Int) := by unfold wrap64; omega
        have hz : (s.extract A (A + K)).size < 9223372036854775000 := by rw [ByteArray.size_extract]; omega
        cases hu : utfR (s.extract A (A + K)) with
        | false =>
          have hu2 : Hid (∀ w : World, Calls Try.prog 17 #[.string (s.extract A (A + K))] w fun e w' => e = .returned (.bool false) ∧ w' = w) := fun w => utf8_any _ hz _ hu w
          rw [if_neg (by decide)]
          clear hu hz r1 r2 r3 r4 hk
          go_enter Try.func10, Try.ntmps10
          go_wp2_with (first | (go_at_call 21; refine (hul.out _).mono ?_; rintro e w' ⟨rfl, hw⟩; obtain rfl : w = w' := hw.symm) | (go_at_call 17; refine (hu2.out _).mono ?_; rintro e w' ⟨rfl, hw⟩; obtain rfl : w = w' := hw.symm))
          go_ret3
          exact ⟨rfl, rfl⟩
        | true =>
          have hu2 : Hid (∀ w : World, Calls Try.prog 17 #[.string (s.extract A (A + K))] w fun e w' => e = .returned (.bool true) ∧ w' = w) := fun w => utf8_any _ hz _ hu w
          rw [if_pos rfl]
          clear hu hz r1 r2 r3 r4 hk
          go_enter Try.func10, Try.ntmps10
          go_wp2_with (first | (go_at_call 21; refine (hul.out _).mono ?_; rintro e w' ⟨rfl, hw⟩; obtain rfl : w = w' := hw.symm) | (go_at_call 17; refine (hu2.out _).mono ?_; rintro e w' ⟨rfl, hw⟩; obtain rfl : w = w' := hw.symm))
          go_ret3
          exact ⟨rfl, rfl⟩
    · rw [if_neg hk]
      have hk1 : (s.size : Int) - (A : Int) < (K : Int) := by omega
      clear hk
      go_enter Try.func10, Try.ntmps10
      go_wp2_with (go_at_call 21; refine (hul.out _).mono ?_; rintro e w' ⟨rfl, hw⟩; obtain rfl : w = w' := hw.symm)
      go_ret3
      exact ⟨rfl, rfl⟩
  · rw [if_neg (fun h => he h.1)]
    have he2 : (e != 0) = true := by simpa using he
    clear hr hq he
    go_enter Try.func10, Try.ntmps10
    go_wp2_with (go_at_call 21; refine (hul.out _).mono ?_; rintro e w' ⟨rfl, hw⟩; obtain rfl : w = w' := hw.symm)
    go_ret3
    exact ⟨rfl, rfl⟩
end Go.Proofs.Ythbagkaodcplmaa
