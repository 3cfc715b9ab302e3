/- The document's reader of modules: a module that is cut within its first section; a module with sections of bytes put in. -/
import Derived.Test.YtngciahmoenkiabFU
set_option linter.unusedVariables false
set_option linter.unusedSimpArgs false
set_option maxRecDepth 100000
set_option maxHeartbeats 8000000
namespace Go.Proofs.Ytngciahmoenkiab
open Go.RowKit
theorem un_open {s : ByteArray} {M : Md} (h : unM s = (M, 0)) : s.size ≤ 65536 ∧ 8 ≤ s.size ∧ (s.extract 0 8).toList = [0, 97, 115, 109, 1, 0, 0, 0] ∧ unL s s.size 8 0 (mdZ (-1)) = (M, 0) := by
  unfold unM at h
  by_cases h1 : 65536 < s.size
  · rw [if_pos h1] at h
    exact absurd (congrArg Prod.snd h) (by simp)
  rw [if_neg h1] at h
  by_cases h2 : s.size < 8 ∨ ¬ (s.extract 0 8).toList = [0, 97, 115, 109, 1, 0, 0, 0]
  · rw [if_pos h2] at h
    exact absurd (congrArg Prod.snd h) (by simp)
  rw [if_neg h2] at h
  exact ⟨by omega, by omega, Classical.byContradiction fun x => h2 (Or.inr x), h⟩
theorem un_short {s : ByteArray} (h : s.size < 8) : unM s = (mdZ 0, 1500) := by
  unfold unM
  rw [if_neg (by omega), if_pos (Or.inl h)]
theorem ext_size (s : ByteArray) (k : Nat) (h : k ≤ s.size) : (s.extract 0 k).size = k := by rw [ByteArray.size_extract]; omega
theorem un_cut {s : ByteArray} {M : Md} (h : unM s = (M, 0)) (h8 : 8 < s.size) : s.size ≤ 65536 ∧ ∃ X T : Nat, ulR s 9 32 = ((X : Int), (T : Int), 0) ∧ 9 < T ∧ T + X ≤ s.size ∧ ∀ k, T ≤ k → k < T + X → unM (s.extract 0 k) = (mdZ 0, 1501) := by
  obtain ⟨h1, h2, h3, h4⟩ := un_open h
  obtain ⟨n, hn⟩ : ∃ n, s.size = n + 1 := ⟨s.size - 1, by omega⟩
  rw [hn] at h4
  obtain ⟨a1, a2, X, T, a3, a4, a5, a6, _⟩ := unL_step (s := s) (by omega) h4
  refine ⟨h1, X, T, a3, a4, a5, fun k k1 k2 => ?_⟩
  have hz := ext_size s k (by omega)
  obtain ⟨d, rfl⟩ : ∃ d, T = 9 + d := ⟨T - 9, by omega⟩
  have hb : ∀ x, x < k → bt (s.extract 0 k) x = bt s x := fun x hx => by
    have t := bt_ext s 0 k x (by omega) (by omega)
    rw [Nat.zero_add] at t
    exact t
  have hu : ulR (s.extract 0 k) ((9 : Nat) : Int) 32 = ((X : Int), ((9 + d : Nat) : Int), 0) := ul_move (s := s) (a := 9) (fun x hx => hb (9 + x) (by omega)) (by omega) a3
  have e8 : (s.extract 0 k).extract 0 8 = s.extract 0 8 := by
    rw [ByteArray.extract_extract]
    congr 1
    omega
  have b8 := hb 8 (by omega)
  unfold unM
  rw [if_neg (by omega), if_neg (by rintro (x | x); omega; rw [e8] at x; exact x h3)]
  obtain ⟨m, hm⟩ : ∃ m, (s.extract 0 k).size = m + 1 := ⟨k - 1, by omega⟩
  rw [hm]
  refine unL_cut (by omega) (by rw [b8]; omega) (by rw [b8]; exact a2) (fun z => ?_)
  have hu2 : ulR (s.extract 0 k) (((8 : Nat) : Int) + 1) 32 = ((X : Int), ((9 + d : Nat) : Int), 0) := hu
  rw [hu2] at z
  have z2 : (X : Int) ≤ ((s.extract 0 k).size : Int) - ((9 + d : Nat) : Int) := z.2
  omega
/-- a text ahead of whatever: where its reader stands -/
def Ahd (t : ByteArray) (g : Nat) (m : Md) : Prop := 8 ≤ t.size ∧ (t.extract 0 8).toList = [0, 97, 115, 109, 1, 0, 0, 0] ∧ ∀ q : ByteArray, (t ++ q).size ≤ 65536 → ∃ n, q.size < n ∧ unL (t ++ q) (t ++ q).size 8 0 (mdZ (-1)) = unL (t ++ q) n t.size g m
theorem Ahd.start {t : ByteArray} (h : t.size = 8) (h2 : t.toList = [0, 97, 115, 109, 1, 0, 0, 0]) : Ahd t 0 (mdZ (-1)) := by
  refine ⟨by omega, ?_, fun q hq => ⟨(t ++ q).size, ?_, ?_⟩⟩
  · rw [show t.extract 0 8 = t by rw [← h]; exact ByteArray.extract_zero_size]
    exact h2
  · rw [ByteArray.size_append]
    omega
  · rw [h]
theorem pre_app (t q : ByteArray) (h : 8 ≤ t.size) : (t ++ q).extract 0 8 = t.extract 0 8 := by
  apply ByteArray.ext
  simp only [ByteArray.data_extract, ByteArray.data_append]
  have h : 8 ≤ t.data.size := h
  rw [Array.extract_append]
  have e : 8 - t.data.size = 0 := by omega
  rw [e]
  simp
theorem Ahd.sec {t : ByteArray} {g : Nat} {m : Md} (h : Ahd t g m) (b : ByteArray) (hb : (sname b ⟨0, 0⟩).2.code = 0) : Ahd (t ++ secB ((0 : Nat) : Int) b) g m := by
  obtain ⟨h1, h2, h3⟩ := h
  refine ⟨by rw [ByteArray.size_append]; omega, by rw [pre_app t _ h1]; exact h2, fun q hq => ?_⟩
  rw [ByteArray.append_assoc] at hq ⊢
  obtain ⟨n, hn, e⟩ := h3 (secB ((0 : Nat) : Int) b ++ q) hq
  have hs := sec_len ((0 : Nat) : Int) b
  rw [ByteArray.size_append] at hn
  obtain ⟨k, rfl⟩ : ∃ k, n = k + 1 := ⟨n - 1, by omega⟩
  refine ⟨k, by omega, ?_⟩
  rw [e, ← ByteArray.append_assoc]
  rw [← ByteArray.append_assoc] at hq
  rw [unL_one t q b 0 g k m (by decide) (Or.inl rfl) hq]
  have hc : (ssec0 b ((0 : Nat) : Int) m b.size).2.code = 0 := hb
  rw [if_pos hc, ByteArray.size_append]
  rfl
theorem Ahd.step {s t : ByteArray} {i g X T : Nat} {m : Md} (h : Ahd t g m) (hi : i < s.size) (a1 : bt s i ≤ 11) (a2 : ¬ (¬ bt s i = 0 ∧ bt s i ≤ (g : Int))) (a3 : ulR s ((i : Int) + 1) 32 = ((X : Int), (T : Int), 0)) (a4 : i + 1 < T) (a5 : T + X ≤ s.size) (a6 : (ssec0 (s.extract T (T + X)) (bt s i) m X).2.code = 0) :
    Ahd (t ++ s.extract i (T + X)) (if bt s i = 0 then g else (bt s i).toNat) (ssec0 (s.extract T (T + X)) (bt s i) m X).1 := by
  obtain ⟨h1, h2, h3⟩ := h
  have hu : (s.extract i (T + X)).size = T + X - i := by rw [ByteArray.size_extract]; omega
  refine ⟨by rw [ByteArray.size_append]; omega, by rw [pre_app t _ h1]; exact h2, fun q hq => ?_⟩
  rw [ByteArray.append_assoc] at hq ⊢
  obtain ⟨n, hn, e⟩ := h3 (s.extract i (T + X) ++ q) hq
  rw [ByteArray.size_append] at hn
  obtain ⟨k, rfl⟩ : ∃ k, n = k + 1 := ⟨n - 1, by omega⟩
  refine ⟨k, by omega, ?_⟩
  rw [e]
  have hb : ∀ x, x < T + X - i → bt (t ++ (s.extract i (T + X) ++ q)) (t.size + x) = bt s (i + x) := fun x hx => by
    rw [bt_mid t _ q x (by omega), bt_ext s i (T + X) x a5 (by omega)]
  have hz : (t ++ (s.extract i (T + X) ++ q)).size = t.size + (T + X - i) + q.size := by rw [ByteArray.size_append, ByteArray.size_append, hu]; omega
  obtain ⟨d, rfl⟩ : ∃ d, T = i + 1 + d := ⟨T - i - 1, by omega⟩
  have b0 : bt (t ++ (s.extract i (i + 1 + d + X) ++ q)) t.size = bt s i := by
    have := hb 0 (by omega)
    simpa using this
  have hm : ulR (t ++ (s.extract i (i + 1 + d + X) ++ q)) ((t.size + 1 : Nat) : Int) 32 = ((X : Int), ((t.size + 1 + d : Nat) : Int), 0) := ul_move (s := s) (a := i + 1) (n := d) (fun x hx => by
    have := hb (1 + x) (by omega)
    rw [← Nat.add_assoc, ← Nat.add_assoc] at this
    exact this) (by omega) a3
  have hx : (t ++ (s.extract i (i + 1 + d + X) ++ q)).extract (t.size + 1 + d) (t.size + 1 + d + X) = s.extract (i + 1 + d) (i + 1 + d + X) := by
    have es : s.extract i (i + 1 + d + X) = s.extract i (i + 1 + d) ++ s.extract (i + 1 + d) (i + 1 + d + X) := by
      rw [ByteArray.extract_append_extract, Nat.min_eq_left (by omega), Nat.max_eq_right (by omega)]
    have e1 : t ++ (s.extract i (i + 1 + d + X) ++ q) = (t ++ s.extract i (i + 1 + d)) ++ s.extract (i + 1 + d) (i + 1 + d + X) ++ q := by
      rw [es]
      simp only [ByteArray.append_assoc]
    have hc := cut_mid (t ++ s.extract i (i + 1 + d)) (s.extract (i + 1 + d) (i + 1 + d + X)) q
    have z1 : (t ++ s.extract i (i + 1 + d)).size = t.size + 1 + d := by rw [ByteArray.size_append, ByteArray.size_extract]; omega
    have z2 : (s.extract (i + 1 + d) (i + 1 + d + X)).size = X := by rw [ByteArray.size_extract]; omega
    rw [z1, z2] at hc
    rw [e1]
    exact hc
  have hgo := unL_go (s := t ++ (s.extract i (i + 1 + d + X) ++ q)) (n := k) (a := t.size) (g := g) (m := m) (X := X) (T := t.size + 1 + d) (by omega) (by rw [b0]; omega) (by rw [b0]; exact a2) hm (by omega)
  rw [hgo, hx, b0, if_pos a6, ByteArray.size_append, hu]
  congr 1
  omega
/-- at its end -/
theorem Ahd.fin {t : ByteArray} {g : Nat} {m : Md} (h : Ahd t g m) (hz : t.size ≤ 65536) (hm : m.fu.length = m.co.length) : unM t = (m, 0) := by
  obtain ⟨h1, h2, h3⟩ := h
  obtain ⟨n, hn, e⟩ := h3 ByteArray.empty (by rw [ByteArray.append_empty]; exact hz)
  rw [ByteArray.append_empty] at e
  obtain ⟨k, rfl⟩ : ∃ k, n = k + 1 := ⟨n - 1, by have : n ≠ 0 := by rintro rfl; exact absurd hn (by decide)
                                                 omega⟩
  unfold unM
  rw [if_neg (by omega), if_neg (by rintro (x | x); omega; exact x h2), e, unL_end (by omega), if_pos hm]
/-- what is read, at its end -/
theorem unL_fin {s : ByteArray} {n i g : Nat} {m M : Md} (hi : ¬ i < s.size) (h : unL s (n + 1) i g m = (M, 0)) : M = m ∧ m.fu.length = m.co.length := by
  rw [unL_end hi] at h
  split at h
  · exact ⟨(congrArg Prod.fst h).symm, by assumption⟩
  · exact absurd (congrArg Prod.snd h) (by simp)
end Go.Proofs.Ytngciahmoenkiab
