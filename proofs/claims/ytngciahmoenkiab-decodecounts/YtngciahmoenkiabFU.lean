/- Numbers in parts are read alike wherever the same bytes stand; one section of a text that is read without an error. -/
import Derived.Test.YtngciahmoenkiabFF
set_option linter.unusedVariables false
set_option linter.unusedSimpArgs false
set_option maxRecDepth 100000
set_option maxHeartbeats 8000000
namespace Go.Proofs.Ytngciahmoenkiab
open Go.RowKit
theorem pt_move {s v : ByteArray} {a c n : Nat} (hv : ∀ x, x < n → bt v (c + x) = bt s (a + x)) (hz : c + n ≤ v.size) : ∀ (r i k : Nat), pt s a r i = (((a + k : Nat) : Int), 0) → k < n → pt v c r i = (((c + k : Nat) : Int), 0)
  | 0, i, k, h, hk => by
    have := congrArg Prod.snd h
    simp [pt] at this
  | r + 1, i, k, h, hk => by
    unfold pt at h ⊢
    by_cases h3 : s.size ≤ a + i
    · rw [if_pos h3] at h
      have := congrArg Prod.snd h
      simp at this
    · rw [if_neg h3] at h
      by_cases h6 : bt s (a + i) < 128
      · rw [if_pos h6] at h
        have e := congrArg Prod.fst h
        simp only at e
        have e2 : i = k := by omega
        subst e2
        rw [if_neg (by omega), hv i hk, if_pos h6]
      · rw [if_neg h6] at h
        obtain ⟨k2, e1, e2, _⟩ := pt_in s a r (i + 1) (by rw [h])
        rw [h] at e1
        have e1 : ((a + k : Nat) : Int) = (k2 : Int) := e1
        rw [if_neg (by omega), hv i (by omega), if_neg h6]
        exact pt_move hv hz r (i + 1) k h hk
theorem ac_move {s v : ByteArray} {a c n : Nat} (hv : ∀ x, x < n → bt v (c + x) = bt s (a + x)) : ∀ (j : Nat) (x : Int), j ≤ n → ac v c j x = ac s a j x
  | 0, x, _ => rfl
  | j + 1, x, h => by
    unfold ac
    rw [hv j (by omega), ac_move hv j _ (by omega)]
theorem ul_move {s v : ByteArray} {a c n : Nat} {X : Int} (hv : ∀ x, x < n → bt v (c + x) = bt s (a + x)) (hz : c + n ≤ v.size) (h : ulR s (a : Int) 32 = (X, ((a + n : Nat) : Int), 0)) : ulR v (c : Int) 32 = (X, ((c + n : Nat) : Int), 0) := by
  by_cases hp : (ptR s (a : Int) 32).2 = 0
  · have hc : ((32 : Int) = 32 ∨ (32 : Int) = 64) ∧ 0 ≤ (a : Int) ∧ (a : Int) ≤ (s.size : Int) := by
      refine Classical.byContradiction fun hc => ?_
      unfold ptR at hp
      rw [if_neg hc] at hp
      exact absurd hp (by decide)
    have e5 : ((32 + 6 : Int) / 7).toNat = 5 := by decide
    have hP : ptR s (a : Int) 32 = pt s a 5 0 := by
      unfold ptR
      rw [if_pos hc, Int.toNat_natCast, e5]
    have hV : ptR v (c : Int) 32 = pt v c 5 0 := by
      unfold ptR
      rw [if_pos ⟨Or.inl rfl, by omega, by omega⟩, Int.toNat_natCast, e5]
    obtain ⟨k0, h1, h2, h3, h4, h5⟩ := pt_in s a 5 0 (by rw [← hP]; exact hp)
    obtain ⟨k, rfl⟩ : ∃ k, k0 = a + k := ⟨k0 - a, by omega⟩
    have hE : pt s a 5 0 = (((a + k : Nat) : Int), 0) := Prod.ext h1 (by rw [← hP]; exact hp)
    unfold ulR at h
    rw [hP, hE, if_pos rfl] at h
    split at h
    · have := congrArg (fun t => t.2.2) h
      simp at this
    · rename_i hq
      have ek := congrArg (fun t => t.2.1) h
      have ex := congrArg (fun t => t.1) h
      simp only at ek ex
      have hkn : k + 1 = n := by omega
      have hE2 := pt_move hv hz 5 0 k hE (by omega)
      unfold ulR
      rw [hV, hE2, if_pos rfl]
      simp only [Int.toNat_natCast] at hq ex ⊢
      have hb : bt v (c + k) = bt s (a + k) := hv k (by omega)
      rw [if_neg (fun z => hq ⟨by have := z.1; omega, by rw [hb] at z; exact z.2⟩)]
      have e1 : c + k + 1 - c = n := by omega
      have e2 : a + k + 1 - a = n := by omega
      rw [e2] at ex
      rw [e1, ac_move hv n 0 (Nat.le_refl _), ex]
      refine Prod.ext rfl (Prod.ext ?_ rfl)
      show ((c + k : Nat) : Int) + 1 = ((c + n : Nat) : Int)
      omega
  · unfold ulR at h
    rw [if_neg hp] at h
    exact absurd (congrArg (fun t => t.2.2) h) hp
/-- one section of a text that is read without an error -/
theorem unL_step {s : ByteArray} {n i g : Nat} {m M : Md} (hi : i < s.size) (h : unL s (n + 1) i g m = (M, 0)) :
    bt s i ≤ 11 ∧ ¬ (¬ bt s i = 0 ∧ bt s i ≤ (g : Int)) ∧ ∃ X T : Nat, ulR s ((i : Int) + 1) 32 = ((X : Int), (T : Int), 0) ∧ i + 1 < T ∧ T + X ≤ s.size ∧ (ssec0 (s.extract T (T + X)) (bt s i) m X).2.code = 0 ∧
      unL s n (T + X) (if bt s i = 0 then g else (bt s i).toNat) (ssec0 (s.extract T (T + X)) (bt s i) m X).1 = (M, 0) := by
  have hh := h
  unfold unL at hh
  rw [if_pos hi] at hh
  by_cases h1 : 11 < bt s i
  · rw [if_pos h1] at hh
    exact absurd (congrArg Prod.snd hh) (by simp)
  rw [if_neg h1] at hh
  by_cases h2 : ¬ bt s i = 0 ∧ bt s i ≤ (g : Int)
  · rw [if_pos h2] at hh
    exact absurd (congrArg Prod.snd hh) (by simp)
  rw [if_neg h2] at hh
  by_cases h3 : (ulR s ((i : Int) + 1) 32).2.2 = 0 ∧ (ulR s ((i : Int) + 1) 32).1 ≤ (s.size : Int) - (ulR s ((i : Int) + 1) 32).2.1
  · have hr := ul_rng s ((i : Int) + 1) h3.1
    have hg := ul_gt s ((i : Int) + 1) h3.1
    obtain ⟨X, hX⟩ := Int.eq_ofNat_of_zero_le (show 0 ≤ (ulR s ((i : Int) + 1) 32).1 by omega)
    obtain ⟨T, hT⟩ := Int.eq_ofNat_of_zero_le (show 0 ≤ (ulR s ((i : Int) + 1) 32).2.1 by omega)
    have hu : ulR s ((i : Int) + 1) 32 = ((X : Int), (T : Int), 0) := Prod.ext hX (Prod.ext hT h3.1)
    have hle : T + X ≤ s.size := by have := h3.2; rw [hX, hT] at this; omega
    have hgo := unL_go (n := n) (m := m) hi h1 h2 hu hle
    rw [hgo] at h
    by_cases hc : (ssec0 (s.extract T (T + X)) (bt s i) m X).2.code = 0
    · rw [if_pos hc] at h
      exact ⟨by omega, h2, X, T, hu, by rw [hT] at hg; omega, hle, hc, h⟩
    · rw [if_neg hc] at h
      exact absurd (congrArg Prod.snd h) hc
  · rw [if_pos h3] at hh
    exact absurd (congrArg Prod.snd hh) (by simp)
theorem bt_ext (s : ByteArray) (i j x : Nat) (hj : j ≤ s.size) (hx : i + x < j) : bt (s.extract i j) x = bt s (i + x) := by
  unfold bt
  rw [dif_pos (by rw [ByteArray.size_extract]; omega), dif_pos (by omega), ByteArray.getElem_extract]
theorem bt_mid (t u q : ByteArray) (x : Nat) (hx : x < u.size) : bt (t ++ (u ++ q)) (t.size + x) = bt u x := by
  unfold bt
  rw [dif_pos (by rw [ByteArray.size_append, ByteArray.size_append]; omega), dif_pos hx, ByteArray.getElem_append_right (by omega)]
  have e : t.size + x - t.size = x := by omega
  simp only [e]
  rw [ByteArray.getElem_append_left hx]
end Go.Proofs.Ytngciahmoenkiab
