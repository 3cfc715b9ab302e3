/- Over this seat's translation: the faces of package names: May, Put, Get. -/
import Derived.Test.YthbagkaodcplmaaOVC
set_option linter.unusedVariables false
set_option linter.unusedSimpArgs false
set_option maxRecDepth 100000
set_option maxHeartbeats 4000000
namespace Go.Proofs.Ythbagkaodcplmaa
open Go.RowKit
theorem may_flt (s : ByteArray) : mayN s = (flt s == 0) := by
  unfold mayN flt
  by_cases h : 64 < s.size
  · rw [if_pos h, decide_eq_false (by omega)]; rfl
  · rw [if_neg h, decide_eq_true (by omega)]
    cases utfR s <;> rfl
theorem may_any (s : ByteArray) (hs : s.size < 9223372036854775000) (w : World) :
    Calls Try.prog 11 #[.string s] w fun e w' => e = .returned (.bool (mayN s)) ∧ Later w w' := by
  rw [may_flt]
  have hf : Hid (∀ w : World, Calls Try.prog 15 #[.string s] w fun e w' => e = .returned (.int .i64 (flt s)) ∧ Later w w') := fun w => fault_any s hs w
  generalize flt s = c at *
  go_enter Try.func11, Try.ntmps11
  go_wp2_with (go_at_call 15; refine (hf.out _).mono ?_; rintro e w2 ⟨rfl, l2⟩; replace l2 : Hid (Later w w2) := l2)
  go_ret
  exact ⟨rfl, l2.out⟩
theorem nm_flt (s : ByteArray) : (flt s = 0 ∧ s.size ≤ 64 ∧ nmR s = (strOfNums (lebL (s.size : Int)) ++ s, 0)) ∨ (¬ flt s = 0 ∧ nmR s = (⟨#[]⟩, flt s)) := by
  unfold flt nmR
  by_cases h : 64 < s.size
  · rw [if_pos h, if_pos h]; exact Or.inr ⟨by decide, rfl⟩
  · rw [if_neg h, if_neg h]
    by_cases hu : utfR s = true
    · rw [if_pos hu, if_pos hu]; exact Or.inl ⟨rfl, by omega, rfl⟩
    · rw [if_neg hu, if_neg hu]; exact Or.inr ⟨by decide, rfl⟩
theorem nput_any (s : ByteArray) (hs : s.size < 9223372036854775000) (w : World) :
    Calls Try.prog 7 #[.string s] w fun e w' => e = .returned (.tuple #[.string (nmR s).1, .int .i64 (nmR s).2]) ∧ Later w w' := by
  have hf : Hid (∀ w : World, Calls Try.prog 15 #[.string s] w fun e w' => e = .returned (.int .i64 (flt s)) ∧ Later w w') := fun w => fault_any s hs w
  rcases nm_flt s with ⟨h0, h64, hn⟩ | ⟨h0, hn⟩
  · rw [hn]
    rw [h0] at hf
    have hle : Hid (∀ w : World, Calls Try.prog 16 #[.int .i64 (s.size : Int)] w fun e w' => e = .returned (.string (strOfNums (lebL (s.size : Int)))) ∧ Later w w') := fun w => put_any _ (by omega) w
    have hz : (strOfNums (lebL (s.size : Int))).size ≤ 10 := by rw [strOfNums_size]; exact lebF_len 9 _
    generalize strOfNums (lebL (s.size : Int)) = t at *
    clear hn h0
    go_enter Try.func7, Try.ntmps7
    go_wp2_with (first | (go_at_call 15; refine (hf.out _).mono ?_; rintro e w2 ⟨rfl, l2⟩; replace l2 : Hid (Later w w2) := l2) | (go_at_call 16; refine (hle.out _).mono ?_; rintro e w3 ⟨rfl, l3⟩; replace l3 : Hid (Later w2 w3) := l3))
    go_ret2
    exact ⟨rfl, l2.out.trans l3.out⟩
  · rw [hn]
    generalize flt s = c at *
    have h1 : (c != 0) = true := by simpa using h0
    clear hn h0
    go_enter Try.func7, Try.ntmps7
    go_wp2_with (go_at_call 15; refine (hf.out _).mono ?_; rintro e w2 ⟨rfl, l2⟩; replace l2 : Hid (Later w w2) := l2)
    go_ret2
    exact ⟨rfl, l2.out⟩
theorem nget_any (s : ByteArray) (hs : s.size < 9223372036854775000) (at_ : Int) (ha : -9223372036854775808 ≤ at_ ∧ at_ ≤ 9223372036854775807) (w : World) :
    Calls Try.prog 9 #[.string s, .int .i64 at_] w fun e w' => e = .returned (.tuple #[.string (unR s at_).1, .int .i64 (unR s at_).2.1, .int .i64 (unR s at_).2.2]) ∧ Later w w' := by
  have hul : Hid (∀ w : World, Calls Try.prog 19 #[.string s, .int .i64 at_, .int .i64 32] w fun e w' => e = .returned (.tuple #[.int .i64 (ulR s at_ 32).1, .int .i64 (ulR s at_ 32).2.1, .int .i64 (ulR s at_ 32).2.2]) ∧ Later w w') := fun w => get_any s hs at_ 32 ha (by decide) w
  unfold unR
  have hr := ul_rng s at_
  obtain ⟨⟨k, to, e⟩, hq⟩ : ∃ q, ulR s at_ 32 = q := ⟨_, rfl⟩
  rw [hq] at hul hr ⊢
  simp only at hul hr ⊢
  by_cases he : e = 0
  · subst he
    obtain ⟨r1, r2, r3, r4⟩ := hr rfl
    obtain ⟨K, rfl⟩ := Int.eq_ofNat_of_zero_le r1
    obtain ⟨A, rfl⟩ := Int.eq_ofNat_of_zero_le r3
    simp only [Int.toNat_natCast, true_and]
    clear hr hq
    have hw1 : -9223372036854775808 ≤ (s.size : Int) - (A : Int) := by omega
    have hw2 : (s.size : Int) - (A : Int) ≤ 9223372036854775807 := by omega
    by_cases hk : (K : Int) ≤ (s.size : Int) - (A : Int)
    · rw [if_pos hk]
      have hk1 : ¬ ((s.size : Int) - (A : Int) < (K : Int)) := by omega
      have hsl := sl_eq s A K (by omega)
      have hw3 : -9223372036854775808 ≤ (A : Int) + (K : Int) := by omega
      have hw4 : (A : Int) + (K : Int) ≤ 9223372036854775807 := by omega
      have hz : (s.extract A (A + K)).size = K := by rw [ByteArray.size_extract]; omega
      have hf : Hid (∀ w : World, Calls Try.prog 15 #[.string (s.extract A (A + K))] w fun e w' => e = .returned (.int .i64 (flt (s.extract A (A + K)))) ∧ Later w w') := fun w => fault_any _ (by omega) w
      have hfl : flt (s.extract A (A + K)) = if (64 : Int) < (K : Int) then 1301 else if utfR (s.extract A (A + K)) = true then 0 else 1300 := by
        unfold flt
        rw [hz]
        by_cases h64 : 64 < K
        · rw [if_pos h64, if_pos (show (64 : Int) < (K : Int) by omega)]
        · rw [if_neg h64, if_neg (show ¬ (64 : Int) < (K : Int) by omega)]
      by_cases hc : ¬ (64 : Int) < (K : Int) ∧ utfR (s.extract A (A + K)) = true
      · rw [if_neg hc.1, if_pos hc.2] at hfl ⊢
        rw [hfl] at hf
        have hcl : Hid (∀ w : World, Calls Try.prog 20 #[.string (s.extract A (A + K))] w fun e w' => e = .returned (.string (s.extract A (A + K))) ∧ Later w w') := fun w => clone_any _ (by rw [hz]; omega) w
        clear hfl hc hz r1 r2 r3 r4 hk ha
        go_enter Try.func9, Try.ntmps9
        go_wp2_with (first | (go_at_call 19; refine (hul.out _).mono ?_; rintro e w2 ⟨rfl, l2⟩; replace l2 : Hid (Later w w2) := l2; clear hul) | (go_at_call 15; refine (hf.out _).mono ?_; rintro e w3 ⟨rfl, l3⟩; replace l3 : Hid (Later w2 w3) := l3; clear hf) | (go_at_call 20; refine (hcl.out _).mono ?_; rintro e w4 ⟨rfl, l4⟩; replace l4 : Hid (Later w3 w4) := l4; clear hcl))
        go_ret3
        exact ⟨rfl, (l2.out.trans l3.out).trans l4.out⟩
      · obtain ⟨E, hE, hE0, hE2⟩ : ∃ E : Int, flt (s.extract A (A + K)) = E ∧ ¬ E = 0 ∧ (if (64 : Int) < (K : Int) then ((⟨#[]⟩ : ByteArray), (0 : Int), (1301 : Int)) else if utfR (s.extract A (A + K)) = true then (s.extract A (A + K), (A : Int) + (K : Int), 0) else (⟨#[]⟩, 0, 1300)) = (⟨#[]⟩, 0, E) := by
          by_cases h64 : (64 : Int) < (K : Int)
          · rw [if_pos h64] at hfl ⊢; exact ⟨1301, hfl, by decide, rfl⟩
          · have hu : ¬ utfR (s.extract A (A + K)) = true := fun h => hc ⟨h64, h⟩
            rw [if_neg h64, if_neg hu] at hfl ⊢
            exact ⟨1300, hfl, by decide, rfl⟩
        rw [hE2]
        rw [hE] at hf
        have hE3 : (E != 0) = true := by simpa using hE0
        clear hfl hc hz r1 r2 r3 r4 hk ha hE hE0 hE2
        go_enter Try.func9, Try.ntmps9
        go_wp2_with (first | (go_at_call 19; refine (hul.out _).mono ?_; rintro e w2 ⟨rfl, l2⟩; replace l2 : Hid (Later w w2) := l2; clear hul) | (go_at_call 15; refine (hf.out _).mono ?_; rintro e w3 ⟨rfl, l3⟩; replace l3 : Hid (Later w2 w3) := l3; clear hf))
        go_ret3
        exact ⟨rfl, l2.out.trans l3.out⟩
    · rw [if_neg hk]
      have hk1 : (s.size : Int) - (A : Int) < (K : Int) := by omega
      clear hk
      go_enter Try.func9, Try.ntmps9
      go_wp2_with (go_at_call 19; refine (hul.out _).mono ?_; rintro e w2 ⟨rfl, l2⟩; replace l2 : Hid (Later w w2) := l2; clear hul)
      go_ret3
      exact ⟨rfl, l2.out⟩
  · rw [if_neg (fun h => he h.1)]
    have he2 : (e != 0) = true := by simpa using he
    clear hr hq he
    go_enter Try.func9, Try.ntmps9
    go_wp2_with (go_at_call 19; refine (hul.out _).mono ?_; rintro e w2 ⟨rfl, l2⟩; replace l2 : Hid (Later w w2) := l2; clear hul)
    go_ret3
    exact ⟨rfl, l2.out⟩
end Go.Proofs.Ythbagkaodcplmaa
