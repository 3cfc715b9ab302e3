/- The document's reader of modules: a section of bytes with a name; a module with sections of bytes put in, step by step. -/
import Derived.Test.YtngciahmoenkiabFK
set_option linter.unusedVariables false
set_option linter.unusedSimpArgs false
set_option maxRecDepth 100000
set_option maxHeartbeats 8000000
namespace Go.Proofs.Ytngciahmoenkiab
open Go.RowKit
theorem name_ok (nm ex : ByteArray) (h : mayN nm = true) : (sname (strOfNums (lebL (nm.size : Int)) ++ nm ++ ex) ⟨0, 0⟩).2.code = 0 := by
  unfold mayN at h
  obtain ⟨h1, h2⟩ : decide (nm.size ≤ 64) = true ∧ utfR nm = true := by simpa using h
  have h64 : nm.size ≤ 64 := of_decide_eq_true h1
  have hb : bl (strOfNums (lebL (nm.size : Int)) ++ nm ++ ex) 0 (lebL (nm.size : Int)) := by
    rw [ByteArray.append_assoc]
    exact bl_leb _ _
  have hu : ulR (strOfNums (lebL (nm.size : Int)) ++ nm ++ ex) 0 32 = ((nm.size : Int), ((0 + (lebL (nm.size : Int)).length : Nat) : Int), 0) := by
    have t := get_put32 (nm.size : Int) (by omega) _ 0 hb
    rw [← t]
    rfl
  have hc := cut_mid (strOfNums (lebL (nm.size : Int))) nm ex
  rw [strOfNums_size] at hc
  have hz : (strOfNums (lebL (nm.size : Int)) ++ nm ++ ex).size = (lebL (nm.size : Int)).length + nm.size + ex.size := by rw [ByteArray.size_append, ByteArray.size_append, strOfNums_size]
  rw [Nat.zero_add] at hu
  have hr : (unR (strOfNums (lebL (nm.size : Int)) ++ nm ++ ex) 0).2.2 = 0 := by
    unfold unR
    rw [hu]
    simp only [Int.toNat_natCast]
    rw [if_pos ⟨trivial, by omega⟩, if_neg (by omega), hc, if_pos h2]
  unfold sname
  rw [if_neg (by simp)]
  show (if (unR (strOfNums (lebL (nm.size : Int)) ++ nm ++ ex) 0).2.2 = 0 then _ else _ : ByteArray × Sst).2.code = 0
  rw [if_pos hr]
theorem unL_bad (s : ByteArray) : ∀ (n a b : Nat) (m : Md), ¬ (unL s n a b m).2 = 0 → (unL s n a b m).1 = mdZ 0
  | 0, a, b, m, h => absurd rfl h
  | n + 1, a, b, m, h => by
    unfold unL at h ⊢
    split at h
    · rename_i h0
      rw [if_pos h0]
      split at h
      · rename_i h1
        rw [if_pos h1]
      · rename_i h1
        rw [if_neg h1]
        split at h
        · rename_i h2
          rw [if_pos h2]
        · rename_i h2
          rw [if_neg h2]
          split at h
          · rename_i h3
            rw [if_pos h3]
          · rename_i h3
            rw [if_neg h3]
            split at h
            · rename_i h4
              rw [if_pos h4]
              exact unL_bad s n _ _ _ h
            · rename_i h4
              rw [if_neg h4]
    · rename_i h0
      rw [if_neg h0]
      split at h
      · exact absurd rfl h
      · rename_i h1
        rw [if_neg h1]
theorem unM_bad {s : ByteArray} (h : ¬ (unM s).2 = 0) : (unM s).1 = mdZ 0 := by
  unfold unM at h ⊢
  split at h
  · rename_i h0
    rw [if_pos h0]
  · rename_i h0
    rw [if_neg h0]
    split at h
    · rename_i h1
      rw [if_pos h1]
    · rename_i h1
      rw [if_neg h1]
      exact unL_bad s _ _ _ _ h
/-- where the law's loop stands: what is left to be read of s, what is written so far -/
def Cus (s : ByteArray) (M : Md) (C : Nat) (t : ByteArray) (k i q : Nat) : Prop := 8 ≤ i ∧ i ≤ s.size ∧ k ≤ i ∧ t.size ≤ i + (if q < k then C else 0) ∧ ∃ n g m, s.size < n + i ∧ unL s n i g m = (M, 0) ∧ Ahd t g m
theorem Cus.start {s : ByteArray} {M : Md} (h : unM s = (M, 0)) (C q : Nat) : Cus s M C (s.extract 0 8) 0 8 q := by
  obtain ⟨h1, h2, h3, h4⟩ := un_open h
  have hz := ext_size s 8 h2
  refine ⟨Nat.le_refl _, h2, by omega, by rw [hz]; omega, s.size, 0, mdZ (-1), by omega, h4, Ahd.start hz h3⟩
/-- one section on, with the section of bytes ahead of it or not -/
theorem Cus.step {s t : ByteArray} {M : Md} {k i q : Nat} (b : ByteArray) (hb : (sname b ⟨0, 0⟩).2.code = 0) (h : Cus s M (secB ((0 : Nat) : Int) b).size t k i q) (hi : i < s.size) :
    ∃ X T : Nat, ulR s ((i : Int) + 1) 32 = ((X : Int), (T : Int), 0) ∧ i + 1 < T ∧ T + X ≤ s.size ∧ (¬ k = q → Cus s M (secB ((0 : Nat) : Int) b).size (t ++ s.extract i (T + X)) (k + 1) (T + X) q) ∧ (k = q → Cus s M (secB ((0 : Nat) : Int) b).size (t ++ secB ((0 : Nat) : Int) b ++ s.extract i (T + X)) (k + 1) (T + X) q) := by
  obtain ⟨h1, h2, h3, h4, n, g, m, h5, h6, h7⟩ := h
  obtain ⟨n, rfl⟩ : ∃ j, n = j + 1 := ⟨n - 1, by omega⟩
  obtain ⟨a1, a2, X, T, a3, a4, a5, a6, a7⟩ := unL_step hi h6
  have hz : (s.extract i (T + X)).size = T + X - i := by rw [ByteArray.size_extract]; omega
  refine ⟨X, T, a3, a4, a5, fun hk => ?_, fun hk => ?_⟩
  · refine ⟨by omega, a5, by omega, ?_, n, _, _, by omega, a7, h7.step hi a1 a2 a3 a4 a5 a6⟩
    rw [ByteArray.size_append, hz]
    split at h4
    · rw [if_pos (by omega)]
      omega
    · split <;> omega
  · refine ⟨by omega, a5, by omega, ?_, n, _, _, by omega, a7, (h7.sec b hb).step hi a1 a2 a3 a4 a5 a6⟩
    rw [ByteArray.size_append, ByteArray.size_append, hz, if_pos (by omega)]
    rw [if_neg (by omega)] at h4
    omega
theorem Cus.fin {s t : ByteArray} {M : Md} {k i q C : Nat} (b : ByteArray) (hb : (sname b ⟨0, 0⟩).2.code = 0) (hC : C = (secB ((0 : Nat) : Int) b).size) (h : Cus s M C t k i q) (hi : ¬ i < s.size) (hz : s.size + C + C ≤ 65536) : unM (t ++ secB ((0 : Nat) : Int) b) = (M, 0) := by
  obtain ⟨h1, h2, h3, h4, n, g, m, h5, h6, h7⟩ := h
  obtain ⟨n, rfl⟩ : ∃ j, n = j + 1 := ⟨n - 1, by omega⟩
  obtain ⟨rfl, e2⟩ := unL_fin hi h6
  refine (h7.sec b hb).fin ?_ e2
  rw [ByteArray.size_append, ← hC]
  split at h4 <;> omega
end Go.Proofs.Ytngciahmoenkiab
