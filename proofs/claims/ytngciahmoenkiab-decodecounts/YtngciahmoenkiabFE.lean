/- The document's reader of modules: a number that stands at a place; lists beyond their bounds; a custom section of noughts. -/
import Derived.Test.YtngciahmoenkiabFD
set_option linter.unusedVariables false
set_option linter.unusedSimpArgs false
set_option maxRecDepth 100000
set_option maxHeartbeats 8000000
namespace Go.Proofs.Ytngciahmoenkiab
open Go.RowKit
theorem snum_bl {u : ByteArray} {a : Nat} {y : Int} (hy : 0 ≤ y ∧ y < 4294967296) (h : bl u a (lebL y)) : snum u ⟨(a : Int), 0⟩ = (y, ⟨((a + (lebL y).length : Nat) : Int), 0⟩) := by
  have hu := get_put32 y hy u a h
  unfold snum
  rw [if_neg (by simp), hu]
  rfl
theorem bl_leb (y : Int) (t : ByteArray) : bl (strOfNums (lebL y) ++ t) 0 (lebL y) := bl_left t (bl_num (lebL y) (lebL_byte y))
theorem bl_leb0 (y : Int) : bl (strOfNums (lebL y)) 0 (lebL y) := bl_num (lebL y) (lebL_byte y)
theorem smany_long {u : ByteArray} {y most : Int} (hy : 0 ≤ y ∧ y < 4294967296) (h : bl u 0 (lebL y)) (hm : most < y) : ∃ a, smany u most ⟨0, 0⟩ = (0, ⟨a, 1508⟩) := by
  have e : snum u ⟨0, 0⟩ = (y, ⟨((0 + (lebL y).length : Nat) : Int), 0⟩) := snum_bl hy h
  refine ⟨((0 + (lebL y).length : Nat) : Int), ?_⟩
  unfold smany
  rw [e]
  show (if most < y then _ else _) = _
  rw [if_pos hm]
  rfl
/-- how many a section's list may have -/
def mo (k : Nat) : Int := if k = 1 ∨ k = 3 ∨ k = 10 then 256 else 1024
theorem sec_long {u : ByteArray} {k x : Nat} {m : Md} {a : Int} (hk : 1 ≤ k ∧ k ≤ 11) (h8 : ¬ k = 8) (h : smany u (mo k) ⟨0, 0⟩ = (0, ⟨a, 1508⟩)) : (ssec0 u (k : Int) m x).2.code = 1508 := by
  have hz : ∀ st : Sst, st = ⟨a, 1508⟩ → (sclose (x : Int) 0 st).code = 1508 := fun st e => by subst e; rfl
  obtain rfl | rfl | rfl | rfl | rfl | rfl | rfl | rfl | rfl | rfl : k = 1 ∨ k = 2 ∨ k = 3 ∨ k = 4 ∨ k = 5 ∨ k = 6 ∨ k = 7 ∨ k = 9 ∨ k = 10 ∨ k = 11 := by omega
  · exact hz _ (show (stys u ⟨0, 0⟩).2 = _ by unfold stys; rw [show smany u 256 ⟨0, 0⟩ = _ from h]; rfl)
  · exact hz _ (show (simps u ⟨0, 0⟩).2 = _ by unfold simps; rw [show smany u 1024 ⟨0, 0⟩ = _ from h]; rfl)
  · exact hz _ (show (sfuncs u ⟨0, 0⟩).2 = _ by unfold sfuncs; rw [show smany u 256 ⟨0, 0⟩ = _ from h]; rfl)
  · exact hz _ (show (stabs u ⟨0, 0⟩).2 = _ by unfold stabs; rw [show smany u 1024 ⟨0, 0⟩ = _ from h]; rfl)
  · exact hz _ (show (smems u ⟨0, 0⟩).2 = _ by unfold smems; rw [show smany u 1024 ⟨0, 0⟩ = _ from h]; rfl)
  · exact hz _ (show (sglos u ⟨0, 0⟩).2 = _ by unfold sglos; rw [show smany u 1024 ⟨0, 0⟩ = _ from h]; rfl)
  · exact hz _ (show (sexps u ⟨0, 0⟩).2 = _ by unfold sexps; rw [show smany u 1024 ⟨0, 0⟩ = _ from h]; rfl)
  · exact hz _ (show (selms u ⟨0, 0⟩).2 = _ by unfold selms; rw [show smany u 1024 ⟨0, 0⟩ = _ from h]; rfl)
  · exact hz _ (show (scodes u ⟨0, 0⟩).2 = _ by unfold scodes; rw [show smany u 256 ⟨0, 0⟩ = _ from h]; rfl)
  · exact hz _ (show (sdats u ⟨0, 0⟩).2 = _ by unfold sdats; rw [show smany u 1024 ⟨0, 0⟩ = _ from h]; rfl)
theorem un_long (k : Nat) (hk : 1 ≤ k ∧ k ≤ 11) (h8 : ¬ k = 8) (y : Int) (hy : 0 ≤ y ∧ y < 4294967296) (hm : mo k < y) : unM (hd8 ++ secB (k : Int) (strOfNums (lebL y))) = (mdZ 0, 1508) := by
  obtain ⟨a, ha⟩ := smany_long hy (bl_leb0 y) hm
  have hl := lebL_max y
  rw [unM_one k _ hk (by rw [strOfNums_size]; omega), sec_long hk h8 ha, if_neg (by decide)]
theorem un_most : ∀ k : Fin 12, 1 ≤ k.val → ¬ k.val = 8 → (unM (hd8 ++ secB (k.val : Int) (strOfNums (lebL (mo k.val))))).2 = 1506 := by decide +kernel
/-- a custom section of noughts -/
theorem name0 (n : Nat) : (sname (⟨#[0]⟩ ++ zb n) ⟨0, 0⟩).2.code = 0 := by
  have h : bl (⟨#[0]⟩ ++ zb n) 0 (lebL 0) := bl_leb 0 (zb n)
  have hu : ulR (⟨#[0]⟩ ++ zb n) 0 32 = (0, 1, 0) := get_put32 0 (by decide) _ 0 h
  have hr : unR (⟨#[0]⟩ ++ zb n) 0 = ((⟨#[0]⟩ ++ zb n).extract 1 1, 1, 0) := by
    unfold unR
    rw [hu]
    have hs : (1 : Int) ≤ ((⟨#[0]⟩ ++ zb n : ByteArray).size : Int) := by rw [ByteArray.size_append]; show (1 : Int) ≤ ((1 + _ : Nat) : Int); omega
    rw [if_pos ⟨rfl, by show (0 : Int) ≤ _ - 1; omega⟩, if_neg (by decide), if_pos]
    · rfl
    · show utfR ((⟨#[0]⟩ ++ zb n : ByteArray).extract 1 1) = true
      have : ((⟨#[0]⟩ ++ zb n : ByteArray).extract 1 1).size = 0 := by rw [ByteArray.size_extract]; omega
      unfold utfR
      rw [this]
      rfl
  unfold sname
  rw [if_neg (by simp)]
  show (if (unR (⟨#[0]⟩ ++ zb n) 0).2.2 = 0 then _ else _ : ByteArray × Sst).2.code = 0
  rw [hr]
  rfl
theorem un_cust (b : ByteArray) (hb : (sname b ⟨0, 0⟩).2.code = 0) (hsz : (hd8 ++ secB ((0 : Nat) : Int) b).size ≤ 65536) : (unM (hd8 ++ secB ((0 : Nat) : Int) b)).2 = 0 := by
  have hz : (hd8 ++ secB ((0 : Nat) : Int) b).size = 8 + (secB ((0 : Nat) : Int) b).size := by rw [ByteArray.size_append]; rfl
  have hs := sec_len ((0 : Nat) : Int) b
  have htx : ((hd8 ++ secB ((0 : Nat) : Int) b).extract 0 8).toList = [0, 97, 115, 109, 1, 0, 0, 0] := by
    rw [pre8]
    kernel_rfl
  unfold unM
  rw [if_neg (by omega), if_neg (by rintro (h | h); omega; exact h htx)]
  obtain ⟨n, hn⟩ : ∃ n, (hd8 ++ secB ((0 : Nat) : Int) b).size = n + 1 + 1 := ⟨(hd8 ++ secB ((0 : Nat) : Int) b).size - 2, by omega⟩
  have h1 := unL_one hd8 ByteArray.empty b 0 0 (n + 1) (mdZ (-1)) (by decide) (Or.inl rfl) (by rw [ByteArray.append_empty]; omega)
  rw [ByteArray.append_empty] at h1
  rw [hn]
  show (unL _ (n + 1 + 1) hd8.size 0 _).2 = _
  have hc : (ssec0 b ((0 : Nat) : Int) (mdZ (-1)) b.size).2.code = 0 := hb
  have hm : (ssec0 b ((0 : Nat) : Int) (mdZ (-1)) b.size).1 = mdZ (-1) := rfl
  rw [h1, if_pos hc, hm, unL_end (by rw [hz]; show ¬ 8 + _ < _; omega)]
  rfl
theorem leb3 : ∀ j : Fin 4, (lebL (65524 + (j.val : Int))).length = 3 := by decide +kernel
theorem un_big (j N : Nat) (hj : j < 4) (hN : N = 65523 + j) : (hd8 ++ secB ((0 : Nat) : Int) (⟨#[0]⟩ ++ zb N)).size = 65536 + j ∧ (unM (hd8 ++ secB ((0 : Nat) : Int) (⟨#[0]⟩ ++ zb N))).2 = if j = 0 then 0 else 1508 := by
  have hb : (⟨#[0]⟩ ++ zb N : ByteArray).size = 65524 + j := by rw [ByteArray.size_append, zb_size]; show 1 + _ = _; omega
  have h3 : (lebL ((65524 + j : Nat) : Int)).length = 3 := by
    have t := leb3 ⟨j, hj⟩
    have e : ((65524 + j : Nat) : Int) = 65524 + (j : Int) := by omega
    rw [e]
    exact t
  have hz : (hd8 ++ secB ((0 : Nat) : Int) (⟨#[0]⟩ ++ zb N)).size = 65536 + j := by
    rw [ByteArray.size_append, sec_len, hb, h3]
    show 8 + _ = _
    omega
  refine ⟨hz, ?_⟩
  have hn := name0 N
  generalize (⟨#[0]⟩ ++ zb N : ByteArray) = b at *
  by_cases h0 : j = 0
  · rw [if_pos h0]
    exact un_cust b hn (by omega)
  · rw [if_neg h0]
    unfold unM
    rw [if_pos (by omega)]
end Go.Proofs.Ytngciahmoenkiab
