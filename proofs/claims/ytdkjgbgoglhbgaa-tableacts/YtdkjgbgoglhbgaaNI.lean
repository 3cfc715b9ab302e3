/- Both tables at once, the program's and the document's, call by call. -/
import Derived.Test.YtdkjgbgoglhbgaaNH
set_option linter.unusedVariables false
set_option linter.unusedSimpArgs false
set_option maxRecDepth 100000
set_option maxHeartbeats 4000000
namespace Go.Proofs.Ytdkjgbgoglhbgaa
open Go.RowKit
/-- of the blocks laid since w0 some are the program's table, others the document's: n places each, the functions f and fr -/
def Duo (w0 w : World) (p g pr : Nat) (A : Option Addr) (n : Nat) (f fr : Nat → Int) : Prop :=
  ∃ cap capr, Later w0 w ∧ Tab 55 w w0.heap.size p (some ⟨g, 0, none⟩) n cap f ∧ Tab 48 w w0.heap.size pr A n capr fr ∧ (∀ k, Of p (some ⟨g, 0, none⟩) k → ¬ Of pr A k) ∧ ∀ i, 0 ≤ fr i ∨ fr i = -1
namespace Duo
variable {w0 w w' : World} {p g pr : Nat} {A : Option Addr} {n : Nat} {f fr : Nat → Int}
theorem ltr (h : Duo w0 w p g pr A n f fr) : Later w0 w := by obtain ⟨cap, capr, h1, _⟩ := h; exact h1
theorem later (h : Duo w0 w p g pr A n f fr) (hl : Later w w') : Duo w0 w' p g pr A n f fr := by
  obtain ⟨cap, capr, h1, h2, h3, h4⟩ := h
  exact ⟨cap, capr, h1.trans hl, h2.later hl, h3.later hl, h4⟩
theorem bound (h : Duo w0 w p g pr A n f fr) {k : Nat} (hk : Of p (some ⟨g, 0, none⟩) k ∨ Of pr A k) : w0.heap.size ≤ k ∧ k < w.heap.size := by
  obtain ⟨cap, capr, h1, h2, h3, h4⟩ := h
  rcases hk with hk | hk
  · exact h2.base hk
  · exact h3.base hk
/-- another new block turned -/
theorem turn (h : Duo w0 w p g pr A n f fr) {k : Nat} (hk : ¬ Of p (some ⟨g, 0, none⟩) k) (hkr : ¬ Of pr A k) (ht : Turned k w w') (hl : Later w0 w') : Duo w0 w' p g pr A n f fr := by
  obtain ⟨cap, capr, h1, h2, h3, h4⟩ := h
  exact ⟨cap, capr, hl, h2.turn hk ht, h3.turn hkr ht, h4⟩
theorem small (h : Duo w0 w p g pr A n f fr) : n ≤ 1024 := by
  obtain ⟨cap, capr, h1, h2, h3, h4⟩ := h
  exact h2.2.2.1
theorem rcell (h : Duo w0 w p g pr A n f fr) : ∃ capr, w.cell? ⟨pr, 0, none⟩ = some (.slice A n capr) := by
  obtain ⟨cap, capr, h1, h2, h3, h4⟩ := h
  exact ⟨capr, h3.c0⟩
theorem rlst (h : Duo w0 w p g pr A n f fr) : Lst w A n fr := by
  obtain ⟨cap, capr, h1, h2, h3, h4⟩ := h
  exact h3.lst
end Duo
theorem lay_fine {f h : Nat → Int} {a m : Nat} (hf : ∀ i, 0 ≤ f i ∨ f i = -1) (hh : neg h m = false) (i : Nat) : 0 ≤ lay f a m h i ∨ lay f a m h i = -1 := by
  unfold lay
  split
  · rename_i hi
    exact Or.inl (neg_no hh (i - a) (by omega))
  · exact hf i
/-- what a Put turns: a block of the table's -/
def Wrote (p : Nat) (A : Option Addr) (w w' : World) : Prop := ∃ k, Of p A k ∧ Turned k w w'
theorem wrote_row {p : Nat} {A : Option Addr} {w w' : World} (h : Wrote p A w w') {M : Nat} (hM : ∀ k, Of p A k → k < M) {b : Nat} {t : TypeId} {n : Nat} {F : Nat → Value} (hb : M ≤ b) (hr : w.rowIs b t n F) : w'.rowIs b t n F := by
  obtain ⟨k, hk, ht⟩ := h
  exact ht.row hr (by have := hM k hk; omega)
section
variable {w0 w : World} {p g pr : Nat} {A : Option Addr} {n : Nat} {f fr : Nat → Int}
theorem duo_put (hd : Duo w0 w p g pr A n f fr) (at_ : Int) (S : Option Addr) (m c : Nat) (h : Nat → Int) (hm : m ≤ 9223372036854775807) (hb : -9223372036854775808 ≤ at_ ∧ at_ ≤ 9223372036854775807) (hS : Lst w S m h) :
    Calls Try.prog 11 #[.pointer (some ⟨p, 0, none⟩), .int .i64 at_, .slice S m c] w fun e w' => e = .returned (.int .i64 (ptE n at_ m h)) ∧ Duo w0 w' p g pr A n (ptF n f at_ m h) fr ∧ Wrote p (some ⟨g, 0, none⟩) w w' := by
  obtain ⟨cap, capr, h1, h2, h3, h4, h5⟩ := id hd
  have hw : Wrote p (some ⟨g, 0, none⟩) w w := ⟨p, Or.inl rfl, Turned.refl h2.1⟩
  unfold ptE ptF
  by_cases hn : neg h m = true
  · rw [if_pos hn, if_pos hn]
    refine (put_neg p at_ S m c h hm w hS hn).mono ?_
    rintro e w' ⟨rfl, rfl⟩
    exact ⟨rfl, hd, hw⟩
  · rw [if_neg hn, if_neg hn]
    have hn' : neg h m = false := by simpa using hn
    by_cases ho : at_ < 0 ∨ (n : Int) - at_ < m
    · rw [if_pos ho, if_pos ho]
      refine (put_out _ _ p _ n cap f at_ S m c h hm w h2 hS hn' hb ho).mono ?_
      rintro e w' ⟨rfl, rfl⟩
      exact ⟨rfl, hd, hw⟩
    · rw [if_neg ho, if_neg ho]
      obtain ⟨a, rfl⟩ := Int.eq_ofNat_of_zero_le (show 0 ≤ at_ by omega)
      refine (put_ok _ _ p _ n cap f a S m c h w h2 hS hn' (by omega)).mono ?_
      rintro e w' ⟨rfl, ⟨k, hk, ht⟩, h6⟩
      exact ⟨rfl, ⟨cap, capr, h2.from_ h1 (Nat.le_refl _) hk ht, h6, h3.turn (h4 k hk) ht, h4, h5⟩, k, hk, ht⟩
theorem duo_rput (hd : Duo w0 w p g pr A n f fr) (at_ : Int) (S : Option Addr) (m c : Nat) (h : Nat → Int) (hm : m ≤ 9223372036854775807) (hb : -9223372036854775808 ≤ at_ ∧ at_ ≤ 9223372036854775807) (hS : Lst w S m h) :
    Calls Try.prog 12 #[.pointer (some ⟨pr, 0, none⟩), .int .i64 at_, .slice S m c] w fun e w' => e = .returned (.int .i64 (ptE n at_ m h)) ∧ Duo w0 w' p g pr A n f (ptF n fr at_ m h) ∧ Wrote pr A w w' := by
  obtain ⟨cap, capr, h1, h2, h3, h4, h5⟩ := id hd
  have hw : Wrote pr A w w := ⟨pr, Or.inl rfl, Turned.refl h3.1⟩
  unfold ptE ptF
  by_cases hn : neg h m = true
  · rw [if_pos hn, if_pos hn]
    refine (rput_neg pr at_ S m c h hm w hS hn).mono ?_
    rintro e w' ⟨rfl, rfl⟩
    exact ⟨rfl, hd, hw⟩
  · rw [if_neg hn, if_neg hn]
    have hn' : neg h m = false := by simpa using hn
    by_cases ho : at_ < 0 ∨ (n : Int) - at_ < m
    · rw [if_pos ho, if_pos ho]
      refine (rput_out _ _ pr _ n capr fr at_ S m c h hm w h3 hS hn' hb ho).mono ?_
      rintro e w' ⟨rfl, rfl⟩
      exact ⟨rfl, hd, hw⟩
    · rw [if_neg ho, if_neg ho]
      obtain ⟨a, rfl⟩ := Int.eq_ofNat_of_zero_le (show 0 ≤ at_ by omega)
      refine (rput_ok _ _ pr _ n capr fr a S m c h w h3 hS hn' (by omega)).mono ?_
      rintro e w' ⟨rfl, ⟨k, hk, ht⟩, h6⟩
      exact ⟨rfl, ⟨cap, capr, h3.from_ h1 (Nat.le_refl _) hk ht, h2.turn (fun h => h4 k h hk) ht, h6, h4, fun i => lay_fine h5 hn' i⟩, k, hk, ht⟩
theorem duo_get (hd : Duo w0 w p g pr A n f fr) (at_ : Int) :
    Calls Try.prog 13 #[.pointer (some ⟨p, 0, none⟩), .int .i64 at_] w fun e w' => e = .returned (.tuple #[.int .i64 (gtR n f at_).1, .int .i64 (gtR n f at_).2]) ∧ w' = w := by
  obtain ⟨cap, capr, h1, h2, h3, h4, h5⟩ := hd
  exact st_get ⟨g, cap, h1, h2⟩ at_ _ _ rfl
theorem duo_rget (hd : Duo w0 w p g pr A n f fr) (at_ : Int) :
    Calls Try.prog 14 #[.pointer (some ⟨pr, 0, none⟩), .int .i64 at_] w fun e w' => e = .returned (.tuple #[.int .i64 (gtR n fr at_).1, .int .i64 (gtR n fr at_).2]) ∧ w' = w := by
  obtain ⟨cap, capr, h1, h2, h3, h4, h5⟩ := hd
  unfold gtR
  by_cases ho : at_ < 0 ∨ (n : Int) ≤ at_
  · rw [if_pos ho]
    exact rget_out _ _ pr _ n capr fr at_ w h3 ho
  · rw [if_neg ho]
    obtain ⟨a, rfl⟩ := Int.eq_ofNat_of_zero_le (show 0 ≤ at_ by omega)
    have hg := rget_in _ _ pr _ n capr fr a w h3 (by omega) (h5 a)
    simp only [Int.toNat_natCast]
    by_cases h3 : fr a = -1
    · rw [if_pos h3] at hg ⊢
      exact hg
    · rw [if_neg h3] at hg ⊢
      exact hg
theorem duo_all (hd : Duo w0 w p g pr A n f fr) :
    Calls Try.prog 17 #[.pointer (some ⟨p, 0, none⟩)] w fun e w' => ∃ g2 cap2, e = .returned (.slice (some ⟨g2, 0, none⟩) n cap2) ∧ Hid (w'.ownsRow w.heap.size 3 1 (.slice (some ⟨g2, 0, none⟩) n cap2) n (xs f n)) ∧ Hid (Later w w') := by
  obtain ⟨cap, capr, h1, h2, h3, h4, h5⟩ := hd
  exact all_any _ _ p g n cap f w h2
end
/-- an owned row's cells -/
theorem owns_row {w : World} {B gg n cap : Nat} {L : List Value} (h : w.ownsRow B 3 1 (.slice (some ⟨gg, 0, none⟩) n cap) n L) : B ≤ gg ∧ ∃ F, w.rowIs gg 3 cap F ∧ n ≤ cap ∧ ∀ i u, L[i]? = some u → F i = u := by
  rcases h.2 with ⟨e, _⟩ | ⟨g', c', cur, e, h1, h2, h3, h4, h5, h6⟩
  · cases e
  · cases e
    rw [Nat.mul_one] at h5 h6
    refine ⟨h1, fun i => cur.getD i (.int .i64 0), ⟨cur, h2, h5, fun i hi => by simp [Array.getD, h5, hi]⟩, h3, fun i u hu => ?_⟩
    rw [← h6, List.getElem?_take] at hu
    split at hu
    · rw [Array.getElem?_toList] at hu
      obtain ⟨hi, rfl⟩ := Array.getElem?_eq_some_iff.1 hu
      simp [Array.getD, hi]
    · cases hu
theorem duo_new (w0 w w1 w2 : World) (p g pr : Nat) (A : Option Addr) (n cap capr : Nat) (f fr : Nat → Int) (hl : Later w0 w) (h1 : Later w w1) (h2 : Tab 55 w1 w.heap.size p (some ⟨g, 0, none⟩) n cap f) (h3 : Later w1 w2) (h4 : Tab 48 w2 w1.heap.size pr A n capr fr) (hf : ∀ i, 0 ≤ fr i ∨ fr i = -1) : Duo w0 w2 p g pr A n f fr := by
  have s1 := hl.size
  have s2 := h1.size
  refine ⟨cap, capr, (hl.trans h1).trans h3, tab_base (h2.later h3) s1, tab_base h4 (by omega), fun k hk hkr => ?_, hf⟩
  have b1 := (h2.base hk).2
  have b2 := (h4.base hkr).1
  omega
end Go.Proofs.Ytdkjgbgoglhbgaa
