/- Both globals at once, the program's and the document's, and an act's copy, call by call. -/
import Derived.Test.YtlbjnlialhpfhaaUK
set_option linter.unusedVariables false
set_option linter.unusedSimpArgs false
set_option maxRecDepth 100000
set_option maxHeartbeats 4000000
namespace Go.Proofs.Ytlbjnlialhpfhaa
open Go.RowKit
/-- what globals hold: how many; types, which may be set, bits -/
abbrev Gs : Type := Nat × (Nat → Int) × (Nat → Bool) × (Nat → Int)
def ad (s : Gs) (x y : Int) (μ : Bool) : Gs := if may x y = true ∧ s.1 < 1024 then (s.1 + 1, upd s.2.1 s.1 x, upd s.2.2.1 s.1 μ, upd s.2.2.2 s.1 y) else s
def adE (s : Gs) (x y : Int) : Int := if may x y = true ∧ s.1 < 1024 then 0 else 1000
def seE (s : Gs) (k x y : Int) : Int := stE s.1 s.2.1 s.2.2.1 k x y
def se (s : Gs) (k x y : Int) : Gs := if seE s k x y = 0 then (s.1, s.2.1, s.2.2.1, upd s.2.2.2 k.toNat y) else s
def ge (s : Gs) (k : Int) : Int × Int × Int := gtR s.1 s.2.1 s.2.2.2 k
/-- both globals among the blocks laid since w0; block a an act's copy -/
def Duo (w0 w : World) (p pr : Nat) (s s' : Gs) : Prop := ∃ lab, Later w0 w ∧ Glo lab w w0.heap.size p s.1 s.2.1 s.2.2.1 s.2.2.2 ∧ Doc lab w w0.heap.size pr s'.1 s'.2.1 s'.2.2.1 s'.2.2.2
def Mix (w0 w : World) (p pr : Nat) (s s' : Gs) (a : Nat) (V : Nat → Value) : Prop := ∃ lab, Later w0 w ∧ Glo lab w w0.heap.size p s.1 s.2.1 s.2.2.1 s.2.2.2 ∧ Doc lab w w0.heap.size pr s'.1 s'.2.1 s'.2.2.1 s'.2.2.2 ∧ Str lab 99 w w0.heap.size a 33 5 V
section
variable {w0 w w' : World} {p pr a : Nat} {s s' : Gs} {V : Nat → Value}
theorem Duo.ltr (h : Duo w0 w p pr s s') : Later w0 w := by obtain ⟨lab, h1, _⟩ := h; exact h1
theorem Duo.later (h : Duo w0 w p pr s s') (hl : Later w w') : Duo w0 w' p pr s s' := by
  obtain ⟨lab, h1, h2, h3⟩ := h
  exact ⟨lab, h1.trans hl, h2.later hl, h3.later hl⟩
/-- a new block turned -/
theorem Duo.spoil {w'' : World} (h : Duo w0 w p pr s s') (hl : Later w w') {k : Nat} (hk : w.heap.size ≤ k) {T : TypeId} {n : Nat} {F : Nat → Value} (hr : w'.rowIs k T n F) (ht : Turned k w' w'') : Duo w0 w'' p pr s s' := by
  obtain ⟨lab, h1, h2, h3⟩ := h
  exact ⟨lab, (h1.trans hl).turned hr (by have := h1.size; omega) ht, h2.chg (S := fun _ => False) (Chg.of_turned hl hk ht) (fun _ x => x.elim), h3.chg (S := fun _ => False) (Chg.of_turned hl hk ht) (fun _ x => x.elim)⟩
theorem Mix.duo (h : Mix w0 w p pr s s' a V) : Duo w0 w p pr s s' := by
  obtain ⟨lab, h1, h2, h3, _⟩ := h
  exact ⟨lab, h1, h2, h3⟩
theorem Mix.ltr (h : Mix w0 w p pr s s' a V) : Later w0 w := h.duo.ltr
theorem Mix.later (h : Mix w0 w p pr s s' a V) (hl : Later w w') : Mix w0 w' p pr s s' a V := by
  obtain ⟨lab, h1, h2, h3, h4⟩ := h
  exact ⟨lab, h1.trans hl, h2.later hl, h3.later hl, h4.chg (S := fun _ => False) (Chg.of_later hl) (fun x => x)⟩
theorem Mix.cell (h : Mix w0 w p pr s s' a V) (i : Nat) (hi : i < 5) : w.cell? ⟨a, i, none⟩ = some (V i) := by
  obtain ⟨lab, _, _, _, h4⟩ := h
  exact h4.1.cell hi
theorem duo_act (h : Duo w0 w p pr s s') (hl : Later w w') (ha : w.heap.size ≤ a) (hr : w'.rowIs a 33 5 V) : Mix w0 w' p pr s s' a V := by
  obtain ⟨lab, h1, h2, h3⟩ := h
  obtain ⟨lab1, C1, hz⟩ := Chg.fresh (lab := lab) (S := fun _ => False) hl 99
  exact ⟨lab1, h1.trans hl, h2.chg C1 (fun _ x => x.elim), h3.chg C1 (fun _ x => x.elim), hr, by have := h1.size; omega, hz a ha⟩
theorem mix_add (h : Mix w0 w p pr s s' a V) (x y : Int) (μ : Bool) (hy : I64 y) :
    Calls Try.prog 7 #[.pointer (some ⟨p, 0, none⟩), .agg #[.int .i64 x, .int .i64 y], .bool μ] w fun e w' => e = .returned (.int .i64 (adE s x y)) ∧ Mix w0 w' p pr (ad s x y μ) s' a V := by
  obtain ⟨lab, h1, h2, h3, h4⟩ := id h
  by_cases hc : may x y = true ∧ s.1 < 1024
  · rw [show adE s x y = 0 from if_pos hc, show ad s x y μ = (s.1 + 1, upd s.2.1 s.1 x, upd s.2.2.1 s.1 μ, upd s.2.2.2 s.1 y) from if_pos hc]
    refine (add_ok lab w0 w p _ _ _ _ x y μ hy h1 h2 hc.1 hc.2).mono ?_
    rintro e w' ⟨rfl, h5, lab', C, h6⟩
    exact ⟨rfl, lab', h5, h6, h3.chg C (fun k hk => hk), h4.chg C (by decide)⟩
  · rw [show adE s x y = 1000 from if_neg hc, show ad s x y μ = s from if_neg hc]
    refine (st_add_no ⟨lab, h1, h2⟩ x y μ hy ?_).mono ?_
    · cases hm : may x y
      · exact Or.inl rfl
      · exact Or.inr (by have : ¬ s.1 < 1024 := fun hh => hc ⟨hm, hh⟩
                         omega)
    · rintro e w' ⟨rfl, hl⟩
      exact ⟨rfl, h.later hl⟩
theorem mix_radd (h : Mix w0 w p pr s s' a V) (x y : Int) (μ : Bool) :
    Calls Try.prog 9 #[.pointer (some ⟨pr, 0, none⟩), .agg #[.int .i64 x, .int .i64 y], .bool μ] w fun e w' => e = .returned (.int .i64 (adE s' x y)) ∧ Mix w0 w' p pr s (ad s' x y μ) a V := by
  obtain ⟨lab, h1, h2, h3, h4⟩ := id h
  by_cases hc : may x y = true ∧ s'.1 < 1024
  · rw [show adE s' x y = 0 from if_pos hc, show ad s' x y μ = (s'.1 + 1, upd s'.2.1 s'.1 x, upd s'.2.2.1 s'.1 μ, upd s'.2.2.2 s'.1 y) from if_pos hc]
    refine (radd_ok lab w0 w pr _ _ _ _ x y μ h1 h3 hc.1 hc.2).mono ?_
    rintro e w' ⟨rfl, h5, lab', C, h6⟩
    exact ⟨rfl, lab', h5, h2.chg C (fun k hk => hk.1), h6, h4.chg C (by decide)⟩
  · rw [show adE s' x y = 1000 from if_neg hc, show ad s' x y μ = s' from if_neg hc]
    cases hm : may x y
    · refine (radd_form w pr x y μ hm).mono ?_
      rintro e w' ⟨rfl, hl⟩
      exact ⟨rfl, h.later hl⟩
    · refine (radd_full lab w _ pr _ _ _ _ x y μ h3 hm (by have : ¬ s'.1 < 1024 := fun hh => hc ⟨hm, hh⟩
                                                           omega)).mono ?_
      rintro e w' ⟨rfl, hl⟩
      exact ⟨rfl, h.later hl⟩
theorem seE_0 {s : Gs} {k x y : Int} (h : seE s k x y = 0) : (0 ≤ k ∧ k < (s.1 : Int)) ∧ may x y = true ∧ x = s.2.1 k.toNat ∧ s.2.2.1 k.toNat = true := by
  unfold seE stE at h
  by_cases h1 : ¬ (0 ≤ k ∧ k < (s.1 : Int)) ∨ may x y = false ∨ ¬ x = s.2.1 k.toNat
  · rw [if_pos h1] at h
    cases h
  · rw [if_neg h1] at h
    have h2 : (0 ≤ k ∧ k < (s.1 : Int)) := Decidable.not_not.1 (fun e => h1 (Or.inl e))
    have h3 : ¬ may x y = false := fun e => h1 (Or.inr (Or.inl e))
    have h4 : x = s.2.1 k.toNat := Decidable.not_not.1 (fun e => h1 (Or.inr (Or.inr e)))
    refine ⟨h2, by simpa using h3, h4, ?_⟩
    cases hm : s.2.2.1 k.toNat
    · rw [if_pos hm] at h
      cases h
    · rfl
theorem mix_set (h : Mix w0 w p pr s s' a V) (k x y : Int) (hy : I64 y) :
    Calls Try.prog 10 #[.pointer (some ⟨p, 0, none⟩), .int .i64 k, .agg #[.int .i64 x, .int .i64 y]] w fun e w' => e = .returned (.int .i64 (seE s k x y)) ∧ Mix w0 w' p pr (se s k x y) s' a V := by
  obtain ⟨lab, h1, h2, h3, h4⟩ := id h
  by_cases hc : seE s k x y = 0
  · obtain ⟨c1, c2, c3, c4⟩ := seE_0 hc
    rw [hc, show se s k x y = (s.1, s.2.1, s.2.2.1, upd s.2.2.2 k.toNat y) from if_pos hc]
    obtain ⟨j, rfl⟩ := Int.eq_ofNat_of_zero_le c1.1
    rw [Int.toNat_natCast] at c3 c4 ⊢
    refine (set_ok lab w0 w _ p _ (Nat.le_refl _) h1 _ _ _ j x y hy h2 (by omega) c2 c3 c4).mono ?_
    rintro e w' ⟨rfl, h5, lab', C, h6⟩
    exact ⟨rfl, lab', h5, h6, h3.chg C (fun k hk => hk), h4.chg C (by decide)⟩
  · rw [show se s k x y = s from if_neg hc]
    refine (st_set_no ⟨lab, h1, h2⟩ k x y _ hy rfl hc).mono ?_
    rintro e w' ⟨rfl, hl⟩
    exact ⟨rfl, h.later hl⟩
theorem rset_no {lab : Nat → Nat} {B n : Nat} {t : Nat → Int} {m : Nat → Bool} {b : Nat → Int} (h2 : Doc lab w B pr n t m b) (k x y E : Int) (hE : stE n t m k x y = E) (h0 : ¬ E = 0) :
    Calls Try.prog 11 #[.pointer (some ⟨pr, 0, none⟩), .int .i64 k, .agg #[.int .i64 x, .int .i64 y]] w fun e w' => e = .returned (.int .i64 E) ∧ Later w w' := by
  unfold stE at hE
  by_cases hk : 0 ≤ k ∧ k < (n : Int)
  · obtain ⟨j, rfl⟩ := Int.eq_ofNat_of_zero_le hk.1
    have hj : j < n := by omega
    rw [Int.toNat_natCast] at hE
    by_cases hm : may x y = true
    · by_cases hx : x = t j
      · rw [if_neg (by rintro (h | h | h); exact h hk; rw [hm] at h; cases h; exact h hx)] at hE
        by_cases hc : m j = false
        · rw [if_pos hc] at hE
          subst hE
          exact rset_const lab w _ pr n t m b j x y h2 hj hm hx hc
        · rw [if_neg hc] at hE
          exact absurd hE.symm h0
      · rw [if_pos (Or.inr (Or.inr hx))] at hE
        subst hE
        exact rset_type lab w _ pr n t m b j x y h2 hj hm hx
    · have hm' : may x y = false := by simpa using hm
      rw [if_pos (Or.inr (Or.inl hm'))] at hE
      subst hE
      exact rset_form lab w _ pr n t m b j x y h2 hj hm'
  · rw [if_pos (Or.inl hk)] at hE
    subst hE
    by_cases h3 : k < 0
    · exact rset_out1 lab w _ pr n t m b k x y h2 (decide_eq_true h3)
    · exact rset_out2 lab w _ pr n t m b k x y h2 (decide_eq_false h3) (decide_eq_true (by omega))
theorem mix_rset (h : Mix w0 w p pr s s' a V) (k x y : Int) :
    Calls Try.prog 11 #[.pointer (some ⟨pr, 0, none⟩), .int .i64 k, .agg #[.int .i64 x, .int .i64 y]] w fun e w' => e = .returned (.int .i64 (seE s' k x y)) ∧ Mix w0 w' p pr s (se s' k x y) a V := by
  obtain ⟨lab, h1, h2, h3, h4⟩ := id h
  by_cases hc : seE s' k x y = 0
  · obtain ⟨c1, c2, c3, c4⟩ := seE_0 hc
    rw [hc, show se s' k x y = (s'.1, s'.2.1, s'.2.2.1, upd s'.2.2.2 k.toNat y) from if_pos hc]
    obtain ⟨j, rfl⟩ := Int.eq_ofNat_of_zero_le c1.1
    rw [Int.toNat_natCast] at c3 c4 ⊢
    refine (rset_ok lab w0 w _ pr _ (Nat.le_refl _) h1 _ _ _ j x y h3 (by omega) c2 c3 c4).mono ?_
    rintro e w' ⟨rfl, h5, lab', C, h6⟩
    exact ⟨rfl, lab', h5, h2.chg C (fun k hk => hk.1), h6, h4.chg C (by decide)⟩
  · rw [show se s' k x y = s' from if_neg hc]
    refine (rset_no h3 k x y _ rfl hc).mono ?_
    rintro e w' ⟨rfl, hl⟩
    exact ⟨rfl, h.later hl⟩
theorem mix_get (h : Mix w0 w p pr s s' a V) (k : Int) :
    Calls Try.prog 12 #[.pointer (some ⟨p, 0, none⟩), .int .i64 k] w fun e w' => e = .returned (.tuple #[.agg #[.int .i64 (ge s k).1, .int .i64 (ge s k).2.1], .int .i64 (ge s k).2.2]) ∧ Later w w' := by
  obtain ⟨lab, h1, h2, h3, h4⟩ := h
  exact st_get ⟨lab, h1, h2⟩ k _ _ _ rfl
theorem mix_rget (h : Mix w0 w p pr s s' a V) (k : Int) :
    Calls Try.prog 13 #[.pointer (some ⟨pr, 0, none⟩), .int .i64 k] w fun e w' => e = .returned (.tuple #[.agg #[.int .i64 (ge s' k).1, .int .i64 (ge s' k).2.1], .int .i64 (ge s' k).2.2]) ∧ Later w w' := by
  obtain ⟨lab, h1, h2, h3, h4⟩ := h
  unfold ge gtR
  by_cases hk : 0 ≤ k ∧ k < (s'.1 : Int)
  · rw [if_pos hk]
    obtain ⟨j, rfl⟩ := Int.eq_ofNat_of_zero_le hk.1
    rw [Int.toNat_natCast]
    exact rget_in lab w _ pr _ _ _ _ j h3 (by omega)
  · rw [if_neg hk]
    exact rget_out lab w _ pr _ _ _ _ k h3 hk
theorem duo_all (h : Duo w0 w p pr s s') :
    Calls Try.prog 14 #[.pointer (some ⟨p, 0, none⟩)] w fun e w' => e = .returned (.slice (some ⟨w.heap.size, 0, none⟩) s.1 s.1) ∧ Later w w' ∧ ∃ F, w'.rowIs w.heap.size 31 (s.1 * 2) F ∧ ∀ i, i < s.1 → F (i * 2) = .int .i64 (s.2.1 i) ∧ F (i * 2 + 1) = .int .i64 (s.2.2.2 i) := by
  obtain ⟨lab, h1, h2, h3⟩ := h
  exact st_all ⟨lab, h1, h2⟩
/-- the document's values lie where its struct says -/
theorem Duo.vals (h : Duo w0 w p pr s s') : s'.1 ≤ 1024 ∧ ∃ A c, w.cell? ⟨pr, 0, none⟩ = some (.slice A s'.1 c) ∧ Vst w A s'.1 s'.2.1 s'.2.2.2 := by
  obtain ⟨lab, h1, h2, hn, A1, A2, c1, c2, s0, f1, f2⟩ := h
  exact ⟨hn, A1, c1, s0.1.cell (i := 0) (by decide), fld_vst f1⟩
theorem row_vst {g n : Nat} {F : Nat → Value} {t b : Nat → Int} (hr : w.rowIs g 31 (n * 2) F) (hF : ∀ i, i < n → F (i * 2) = .int .i64 (t i) ∧ F (i * 2 + 1) = .int .i64 (b i)) : Vst w (some ⟨g, 0, none⟩) n t b :=
  Or.inr ⟨g, 0, rfl, fun j hj => ⟨by rw [Nat.zero_add, ← (hF j hj).1]; exact hr.cell (by omega), by rw [Nat.zero_add, ← (hF j hj).2]; exact hr.cell (by omega)⟩⟩
end
end Go.Proofs.Ytlbjnlialhpfhaa
