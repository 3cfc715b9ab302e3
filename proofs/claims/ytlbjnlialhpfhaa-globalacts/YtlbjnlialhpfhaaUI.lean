/- Globals of the program among a call's own blocks, call by call; 'awake'. -/
import Derived.Test.YtlbjnlialhpfhaaUH
set_option linter.unusedVariables false
set_option linter.unusedSimpArgs false
set_option maxRecDepth 100000
set_option maxHeartbeats 4000000
namespace Go.Proofs.Ytlbjnlialhpfhaa
open Go.RowKit
theorem own : ownKnob Try.prog.godebug = none := by kernel_rfl
def I64 (y : Int) : Prop := -9223372036854775808 ≤ y ∧ y ≤ 9223372036854775807
/-- globals among the blocks laid since w0 -/
def St (w0 w : World) (p n : Nat) (t : Nat → Int) (m : Nat → Bool) (b : Nat → Int) : Prop := ∃ lab, Later w0 w ∧ Glo lab w w0.heap.size p n t m b
section
variable {w0 w w' : World} {p n : Nat} {t : Nat → Int} {m : Nat → Bool} {b : Nat → Int}
theorem St.ltr (h : St w0 w p n t m b) : Later w0 w := by obtain ⟨lab, h1, _⟩ := h; exact h1
theorem St.later (h : St w0 w p n t m b) (hl : Later w w') : St w0 w' p n t m b := by
  obtain ⟨lab, h1, h2⟩ := h
  exact ⟨lab, h1.trans hl, h2.later hl⟩
theorem st_new (hL : Later w0 w) :
    Calls Try.prog 6 #[] w fun e w' => ∃ p, e = .returned (.pointer (some ⟨p, 0, none⟩)) ∧ ∀ t m b, St w0 w' p 0 t m b := by
  refine (new_any w0 w hL).mono ?_
  rintro e w' ⟨p, rfl, h1, h2⟩
  exact ⟨p, rfl, fun t m b => ⟨_, h1, h2 t m b⟩⟩
theorem st_add (h : St w0 w p n t m b) (x y : Int) (μ : Bool) (hy : I64 y) (hm : may x y = true) (hn : n < 1024) :
    Calls Try.prog 7 #[.pointer (some ⟨p, 0, none⟩), .agg #[.int .i64 x, .int .i64 y], .bool μ] w fun e w' => e = .returned (.int .i64 0) ∧ St w0 w' p (n + 1) (upd t n x) (upd m n μ) (upd b n y) := by
  obtain ⟨lab, h1, h2⟩ := h
  refine (add_ok lab w0 w p n t m b x y μ hy h1 h2 hm hn).mono ?_
  rintro e w' ⟨rfl, h3, lab', _, h4⟩
  exact ⟨rfl, lab', h3, h4⟩
theorem st_add_no (h : St w0 w p n t m b) (x y : Int) (μ : Bool) (hy : I64 y) (hn : may x y = false ∨ 1024 ≤ n) :
    Calls Try.prog 7 #[.pointer (some ⟨p, 0, none⟩), .agg #[.int .i64 x, .int .i64 y], .bool μ] w fun e w' => e = .returned (.int .i64 1000) ∧ Later w w' := by
  obtain ⟨lab, h1, h2⟩ := h
  by_cases hm : may x y = true
  · exact add_full lab w _ p n t m b x y μ hy h2 hm (by rcases hn with hn | hn; · rw [hn] at hm; cases hm
                                                        · exact hn)
  · exact add_form lab w _ p n t m b x y μ hy h2 (show may x y = false by simpa using hm)
theorem st_set (h : St w0 w p n t m b) (k : Nat) (x y : Int) (hy : I64 y) (hk : k < n) (hm : may x y = true) (hx : x = t k) (hc : m k = true) :
    Calls Try.prog 10 #[.pointer (some ⟨p, 0, none⟩), .int .i64 (k : Int), .agg #[.int .i64 x, .int .i64 y]] w fun e w' => e = .returned (.int .i64 0) ∧ St w0 w' p n t m (upd b k y) := by
  obtain ⟨lab, h1, h2⟩ := h
  refine (set_ok lab w0 w _ p n (Nat.le_refl _) h1 t m b k x y hy h2 hk hm hx hc).mono ?_
  rintro e w' ⟨rfl, h3, lab', _, h4⟩
  exact ⟨rfl, lab', h3, h4⟩
/-- what a Set answers that sets nothing -/
def stE (n : Nat) (t : Nat → Int) (m : Nat → Bool) (k x y : Int) : Int := if ¬ (0 ≤ k ∧ k < (n : Int)) ∨ may x y = false ∨ ¬ x = t k.toNat then 1000 else if m k.toNat = false then 1001 else 0
theorem st_set_no (h : St w0 w p n t m b) (k x y E : Int) (hy : I64 y) (hE : stE n t m k x y = E) (h0 : ¬ E = 0) :
    Calls Try.prog 10 #[.pointer (some ⟨p, 0, none⟩), .int .i64 k, .agg #[.int .i64 x, .int .i64 y]] w fun e w' => e = .returned (.int .i64 E) ∧ Later w w' := by
  obtain ⟨lab, h1, h2⟩ := h
  unfold stE at hE
  by_cases hk : 0 ≤ k ∧ k < (n : Int)
  · obtain ⟨j, rfl⟩ := Int.eq_ofNat_of_zero_le hk.1
    have hj : j < n := by omega
    rw [Int.toNat_natCast] at hE
    by_cases hm : may x y = true
    · by_cases hx : x = t j
      · rw [if_neg (by rintro (h | h | h); exact h hk; rw [hm] at h; cases h; exact h hx)] at hE
        by_cases hc : m j = false
        · rw [if_pos hc] at hE
          subst hE
          exact set_const lab w _ p n t m b j x y hy h2 hj hm hx hc
        · rw [if_neg hc] at hE
          exact absurd hE.symm h0
      · rw [if_pos (Or.inr (Or.inr hx))] at hE
        subst hE
        exact set_type lab w _ p n t m b j x y hy h2 hj hm hx
    · have hm' : may x y = false := by simpa using hm
      rw [if_pos (Or.inr (Or.inl hm'))] at hE
      subst hE
      exact set_form lab w _ p n t m b j x y hy h2 hj hm'
  · rw [if_pos (Or.inl hk)] at hE
    subst hE
    exact set_out lab w _ p n t m b k x y h2 hk
def gtR (n : Nat) (t b : Nat → Int) (k : Int) : Int × Int × Int := if 0 ≤ k ∧ k < (n : Int) then (t k.toNat, b k.toNat, 0) else (0, 0, 1000)
theorem st_get (h : St w0 w p n t m b) (k X Y E : Int) (hR : gtR n t b k = (X, Y, E)) :
    Calls Try.prog 12 #[.pointer (some ⟨p, 0, none⟩), .int .i64 k] w fun e w' => e = .returned (.tuple #[.agg #[.int .i64 X, .int .i64 Y], .int .i64 E]) ∧ Later w w' := by
  obtain ⟨lab, h1, h2⟩ := h
  unfold gtR at hR
  by_cases hk : 0 ≤ k ∧ k < (n : Int)
  · rw [if_pos hk] at hR
    obtain ⟨j, rfl⟩ := Int.eq_ofNat_of_zero_le hk.1
    rw [Int.toNat_natCast] at hR
    cases hR
    exact get_in lab w _ p n t m b j h2 (by omega)
  · rw [if_neg hk] at hR
    cases hR
    exact get_out lab w _ p n t m b k h2 hk
theorem st_all (h : St w0 w p n t m b) :
    Calls Try.prog 14 #[.pointer (some ⟨p, 0, none⟩)] w fun e w' => e = .returned (.slice (some ⟨w.heap.size, 0, none⟩) n n) ∧ Later w w' ∧ ∃ F, w'.rowIs w.heap.size 31 (n * 2) F ∧ ∀ i, i < n → F (i * 2) = .int .i64 (t i) ∧ F (i * 2 + 1) = .int .i64 (b i) := by
  obtain ⟨lab, h1, h2⟩ := h
  exact all_any lab w _ p n t m b h2
end
theorem awake_any (w0 w : World) (hl : Hid (Later w0 w)) :
    Calls Try.prog 17 #[] w fun e w' => e = .returned (.bool true) ∧ Later w0 w' := by
  go_enter Try.func17, Try.ntmps17
  go_wp2_with fail
  refine (st_new hl.out).mono ?_
  rintro e w1 ⟨p, rfl, S0⟩
  have S1 := S0 (fun _ => 0) (fun _ => false) (fun _ => 0)
  clear S0
  go_wp2_with fail
  refine (st_add S1 127 4 true (by unfold I64; decide) (by decide) (by decide)).mono ?_
  rintro e w2 ⟨rfl, S2⟩
  clear S1
  go_wp2_with fail
  refine (st_add S2 124 (-1) false (by unfold I64; decide) (by decide) (by decide)).mono ?_
  rintro e w3 ⟨rfl, S3⟩
  clear S2
  go_wp2_with fail
  refine (st_set S3 0 127 5 (by unfold I64; decide) (by decide) (by decide) (by decide) (by decide)).mono ?_
  rintro e w4 ⟨rfl, S4⟩
  clear S3
  go_wp2_with fail
  refine (st_set_no S4 1 124 0 1001 (by unfold I64; decide) (by decide) (by decide)).mono ?_
  rintro e w5 ⟨rfl, h5⟩
  replace S4 := S4.later h5
  clear h5
  go_wp2_with fail
  refine (st_set_no S4 0 126 0 1000 (by unfold I64; decide) (by decide) (by decide)).mono ?_
  rintro e w6 ⟨rfl, h6⟩
  replace S4 := S4.later h6
  clear h6
  go_wp2_with fail
  refine (st_get S4 0 127 5 0 (by decide)).mono ?_
  rintro e w7 ⟨rfl, h7⟩
  replace S4 := S4.later h7
  clear h7
  go_wp2_with fail
  refine (st_get (S4.later (by repeat first | exact Lz _ | apply La | apply Lv | apply Ld | apply Ln)) 2 0 0 1000 (by decide)).mono ?_
  rintro e w8 ⟨rfl, h8⟩
  have v1 : w8.cell? ⟨w7.heap.size, 1, none⟩ = some (.int .i64 5) := h8.cell_of (by simp [go_sem])
  have L8 : Hid (Later w0 w8) := S4.ltr.trans (Later.trans (by repeat first | exact Lz _ | apply La | apply Lv | apply Ld | apply Ln) h8)
  have lv := cell_lt v1
  clear S4 h8
  go_wp2_with (go_at_call 8; refine (num_any _ _).mono ?_; rintro e w' ⟨rfl, rfl⟩)
  go_ret
  exact ⟨rfl, L8.out.trans (by repeat first | exact Lz _ | apply La | apply Lv | apply Ld | apply Ln)⟩
end Go.Proofs.Ytlbjnlialhpfhaa
