/- What the laws of stage 15 share: noughts in a row as a text; numbers by their rest. -/
import Derived.Test.YtngciahmoenkiabFB
import Derived.Laws.MakeOwn
import Derived.Laws.OwnMore
set_option linter.unusedVariables false
set_option linter.unusedSimpArgs false
set_option maxRecDepth 100000
set_option maxHeartbeats 8000000
namespace Go.Proofs.Ytngciahmoenkiab
open Go.RowKit
/-- so many noughts -/
def zb (n : Nat) : ByteArray := strOfNums (List.replicate n 0)
theorem zb_size (n : Nat) : (zb n).size = n := by unfold zb; rw [strOfNums_size, List.length_replicate]
abbrev zcs (n : Nat) : Array Value := (bys (List.replicate n 0)).toArray
theorem mk_z (n : Nat) (h : n ≤ 100000) (W : World) : (Instr.makeSlice 39 (.int .i64 (n : Int)) (.int .i64 (n : Int))).run Try.prog W = .ok (.slice (some ⟨W.heap.size, 0, none⟩) n n) (W.alloc (.cells (zcs n) 5)) := by
  obtain ⟨iv, hv1, hv2, hv3, hv4⟩ := byte_parts
  have hr := run_make (P := Try.prog) W 39 5 iv _ Try.underlying39 hv1 hv2 .i64 .i64 n n (by omega) (Int.le_refl _) (by rw [hv4]; omega) (by omega)
  have e : madeCells (Value.int .u8 0).cells (((n : Nat) : Int).toNat * iv.size) = zcs n := by
    apply Array.ext'
    rw [hv3, Int.toNat_natCast, Nat.mul_one]
    show (madeCells #[Value.int .u8 0] n).toList = _
    rw [toList_madeCells_one]
    simp [zcs, bys]
  rw [e] at hr
  simpa using hr
theorem conv_z (n : Nat) {W W' : World} (hl : Later (W.alloc (.cells (zcs n) 5)) W') : (convert 39 9 (.slice (some ⟨W.heap.size, 0, none⟩) n n)).run Try.prog W' = .ok (.string (zb n)) W' :=
  conv_l (List.replicate n 0) (fun b hb => by obtain rfl := List.eq_of_mem_replicate hb; decide) n (List.length_replicate ..) hl
theorem by11 (a : Int) : ∃ x : Nat, wrap64 (1 + wrap64 ((IntKind.u64.wrap a).tmod 11)) = (x : Int) ∧ 1 ≤ x ∧ x < 12 := by
  have h0 : 0 ≤ IntKind.u64.wrap a ∧ IntKind.u64.wrap a < 18446744073709551616 := by rw [IntKind.wrap_u64]; omega
  generalize IntKind.u64.wrap a = u at *
  refine ⟨(1 + u % 11).toNat, ?_, ?_, ?_⟩
  · rw [Int.tmod_eq_emod_of_nonneg h0.1]
    unfold wrap64
    omega
  · omega
  · omega
theorem and_m (x : Int) (k : Nat) (hk : k ≤ 62) : ∃ j : Nat, bits .and .i64 x ((2 ^ k : Nat) - 1 : Int) = (j : Int) ∧ j < 2 ^ k := ⟨(x % (2 ^ k : Nat)).toNat, by
    rw [BM.and_mask x k (by omega)]
    have : (0 : Int) < (2 ^ k : Nat) := by exact_mod_cast Nat.pow_pos (by decide)
    have := Int.emod_nonneg x (by omega : ((2 ^ k : Nat) : Int) ≠ 0)
    first | (push_cast at *; omega) | omega, by
    have : (0 : Int) < (2 ^ k : Nat) := by exact_mod_cast Nat.pow_pos (by decide)
    have h1 := Int.emod_nonneg x (by omega : ((2 ^ k : Nat) : Int) ≠ 0)
    have h2 := Int.emod_lt_of_pos x this
    omega⟩
end Go.Proofs.Ytngciahmoenkiab
