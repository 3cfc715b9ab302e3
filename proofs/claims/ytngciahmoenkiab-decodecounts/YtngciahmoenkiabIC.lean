/- Over this seat's translation: a list of instructions copied. -/
import Derived.Test.YtngciahmoenkiabXD
set_option linter.unusedVariables false
set_option linter.unusedSimpArgs false
set_option maxRecDepth 100000
set_option maxHeartbeats 4000000
namespace Go.Proofs.Ytngciahmoenkiab
open Go.RowKit
theorem lq_owns {w : World} {base g n cap : Nat} {ls : List Int} (h : w.ownsRow base 3 1 (.slice (some ⟨g, 0, none⟩) n cap) n (xs (fun j => ls.getD j 0) ls.length)) : Lq (base ≤ ·) w (some ⟨g, 0, none⟩) ls := by
  refine ⟨Or.inr ⟨g, 0, rfl, fun j hj => ?_⟩, fun _ a ha => ?_⟩
  · rw [Nat.zero_add]
    exact owns_cell h (xs_get _ _ _ hj)
  · cases ha
    exact (owns_base h).1
/-- the fields of an instruction at hand -/
def fl (op a b bi ty : Int) (x y z : Value) (j : Nat) : Value := [Value.int .i64 op, .int .i64 a, .int .i64 b, .int .i64 bi, .int .i64 ty, x, y, z].getD j undef
end Go.Proofs.Ytngciahmoenkiab
