/- Longer forms: the last part made one that goes on, a nought behind it: read alike. No walk but what a byte's 'or' makes. -/
import Derived.Test.YtljogkiibpinaaaLJ
import Derived.Test.YtljogkiibpinaaaLX
set_option linter.unusedVariables false
set_option linter.unusedSimpArgs false
set_option maxRecDepth 100000
set_option maxHeartbeats 4000000
namespace Go.Proofs.Ytljogkiibpinaaa
open Go.RowKit
theorem or_128b (b : Int) (h : 0 ≤ b ∧ b < 128) : bits .or .u8 b 128 = b + 128 := by
  have hh : ∀ n : Nat, n < 128 → bits .or .u8 (n : Int) 128 = (n : Int) + 128 := by decide +kernel
  have := hh b.toNat (by omega)
  rwa [Int.toNat_of_nonneg h.1] at this
/-- parts that make a number -/
def Fm (y : Int) (e : List Int) : Prop := Pts e ∧ un e 0 = y ∧ ∀ b ∈ e, 0 ≤ b ∧ b < 256
theorem last_ex {e : List Int} (h : e ≠ []) : ∃ d b, e = d ++ [b] := ⟨e.dropLast, e.getLast h, (List.dropLast_concat_getLast h).symm⟩
theorem pts_snoc : ∀ {d : List Int} {b : Int}, Pts (d ++ [b]) ↔ (∀ c ∈ d, 128 ≤ c ∧ c < 256) ∧ 0 ≤ b ∧ b < 128
  | [], b => by simp [Pts]
  | c :: d, b => by
    simp only [List.cons_append, Pts, pts_snoc (d := d) (b := b)]
    constructor
    · rintro (⟨h, _⟩ | ⟨h1, h2, h3, h4⟩)
      · simp at h
      · refine ⟨fun a ha => ?_, h4⟩
        rcases List.mem_cons.1 ha with rfl | ha
        · exact ⟨h1, h2⟩
        · exact h3 a ha
    · rintro ⟨h1, h2⟩
      exact Or.inr ⟨(h1 c (by simp)).1, (h1 c (by simp)).2, fun a ha => h1 a (by simp [ha]), h2⟩
theorem mor_of {d : List Int} (h : ∀ c ∈ d, 128 ≤ c ∧ c < 256) : Mor d := by
  induction d with
  | nil => trivial
  | cons c d ih => exact ⟨(h c (by simp)).1, ih fun a ha => h a (by simp [ha])⟩
/-- the form one part longer -/
def pd (e : List Int) : List Int := e.set (e.length - 1) (la e + 128) ++ [0]
theorem pd_is (d : List Int) (b : Int) : pd (d ++ [b]) = d ++ [b + 128, 0] := by
  unfold pd
  rw [la_app]
  simp
theorem pd_len (e : List Int) : (pd e).length = e.length + 1 := by simp [pd]
theorem fm_pd {y : Int} {e : List Int} (h : Fm y e) : Fm y (pd e) ∧ la (pd e) = 0 ∧ Mor ((pd e).take e.length) := by
  obtain ⟨h1, h2, h3⟩ := h
  obtain ⟨d, b, rfl⟩ := last_ex (pts_ne h1)
  obtain ⟨h4, h5⟩ := pts_snoc.1 h1
  rw [pd_is]
  have h6 : ∀ c ∈ d ++ [b + 128], 128 ≤ c ∧ c < 256 := fun c hc => by
    rcases List.mem_append.1 hc with hc | hc
    · exact h4 c hc
    · simp only [List.mem_cons, List.not_mem_nil, or_false] at hc
      omega
  rw [show d ++ [b + 128, 0] = (d ++ [b + 128]) ++ [0] by simp]
  refine ⟨⟨pts_snoc.2 ⟨h6, by decide⟩, ?_, fun c hc => ?_⟩, la_app _ _, ?_⟩
  · have e : un ([b + 128] ++ [0]) 0 = un [b] 0 := by
      simp only [un, List.cons_append, List.nil_append]
      omega
    rw [List.append_assoc, un_app, e, ← un_app]
    exact h2
  · rcases List.mem_append.1 hc with hc | hc
    · have := h6 c hc
      omega
    · simp only [List.mem_cons, List.not_mem_nil, or_false] at hc
      omega
  · rw [show (d ++ [b]).length = (d ++ [b + 128]).length by simp, List.take_left']
    · exact mor_of h6
    · rfl
theorem fm_last {y : Int} {e : List Int} (h : Fm y e) : ∃ hl : e.length - 1 < e.length, e[e.length - 1] = la e ∧ 0 ≤ la e ∧ la e < 128 := by
  obtain ⟨h1, h2, h3⟩ := h
  obtain ⟨d, b, rfl⟩ := last_ex (pts_ne h1)
  refine ⟨by simp, ?_, ?_⟩
  · rw [la_app]; simp
  · rw [la_app]; exact (pts_snoc.1 h1).2
theorem fm_get {y : Int} {e : List Int} (h : Fm y e) (hy : 0 ≤ y ∧ y < 4294967296) (hl : e.length ≤ 5) (h5 : e.length = 5 → la e < 16) : ulR (strOfNums e) 0 32 = (y, (e.length : Int), 0) := by
  have hla := fm_last h
  obtain ⟨_, _, hl0, _⟩ := hla
  have := ul_of (strOfNums e) 0 e 32 5 (Or.inl ⟨rfl, rfl⟩) (bl_num e h.2.2) h.1 hl (fun he => by
    have := h5 he
    show la e / 16 = 0
    omega)
  rw [show ((0 : Nat) : Int) = 0 from rfl] at this
  rw [this, h.2.1, Nat.zero_add]
  refine Prod.ext ?_ rfl
  show wrap64 y = y
  unfold wrap64
  omega
theorem fm_gets {y : Int} {e : List Int} (h : Fm y e) (hy : 0 ≤ y ∧ y < 2147483648) (hl : e.length ≤ 5) (hs : la e < 64) (h5 : e.length = 5 → la e < 8) : usR (strOfNums e) 0 32 = (y, (e.length : Int), 0) := by
  have hla := fm_last h
  obtain ⟨_, _, hl0, _⟩ := hla
  have hsg : sgn e = 0 := if_pos (by omega)
  have := us_of (strOfNums e) 0 e 32 5 (Or.inl ⟨rfl, rfl⟩) (bl_num e h.2.2) h.1 hl (fun he => by
    have := h5 he
    left
    show la e / 8 = 0
    omega)
  rw [show ((0 : Nat) : Int) = 0 from rfl] at this
  rw [this, hsg, h.2.1, Nat.zero_add, if_pos rfl]
  refine Prod.ext ?_ rfl
  show sg3 (wrap64 y) = y
  unfold sg3 wrap64
  omega
theorem fm_cut {e : List Int} (k : Nat) (hk : k ≤ e.length) (hm : Mor (e.take k)) (hb : ∀ b ∈ e, 0 ≤ b ∧ b < 256) (h5 : k < 5) : ulR (strOfNums (e.take k)) 0 32 = (0, 0, 1201) := by
  have hlen : (e.take k).length = k := by simp; omega
  exact ul_cut (strOfNums (e.take k)) 0 (e.take k) 32 5 (Or.inl ⟨rfl, rfl⟩) (bl_num _ (fun b h => hb b (List.mem_of_mem_take h))) hm (by rw [strOfNums_size, Nat.zero_add]) (by omega)
theorem fm_leb (y : Int) (hy : 0 ≤ y ∧ y < 4294967296) : Fm y (lebL y) ∧ (lebL y).length ≤ 5 := by
  have hb := lebL_byte y
  rw [leb32 y hy] at hb ⊢
  exact ⟨⟨lebF_pts 4 y hy.1 (by omega), lebF_un 4 y hy.1 (by omega), hb⟩, lebF_len 4 y⟩
theorem fm_sleb (y : Int) (hy : 0 ≤ y ∧ y < 2147483648) : Fm y (slebL y) ∧ (slebL y).length ≤ 5 ∧ la (slebL y) < 64 ∧ ((slebL y).length = 5 → la (slebL y) < 8) := by
  rw [sleb32 y (by omega)]
  have hs := slebF_sgn 4 y (by omega) (by omega)
  have hu := slebF_un 4 y (by omega) (by omega)
  rw [if_pos hy.1] at hs hu
  have hF : Fm y (slebF 4 y) := ⟨slebF_pts 4 y, hu, slebF_byte 4 y⟩
  obtain ⟨_, _, h0, h1⟩ := fm_last hF
  have h2 : la (slebF 4 y) % 128 < 64 := by
    unfold sgn at hs
    by_cases h : la (slebF 4 y) % 128 < 64
    · exact h
    · rw [if_neg h] at hs
      exact absurd hs (by decide)
  refine ⟨hF, slebF_len 4 y, by omega, fun hl => ?_⟩
  obtain ⟨z, h3, h4, h5⟩ := slebF_la 4 y 8 (by omega) (by omega) hl
  omega
end Go.Proofs.Ytljogkiibpinaaa
