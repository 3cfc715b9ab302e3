/- What the frames of a law want. -/
import Derived.Test.YtngciahmoenkiacBT
import Derived.Test.YtngciahmoenkiacXS
set_option linter.unusedVariables false
set_option maxRecDepth 100000
namespace Go.Proofs.Ytngciahmoenkiac
open Go.RowKit
theorem own : ownKnob Try.prog.godebug = none := by kernel_rfl
theorem wf_i64 {a : Int} (h : (Lit.int .i64 a).wf = true) : -9223372036854775808 ≤ a ∧ a ≤ 9223372036854775807 := by
  simp only [Lit.wf, IntKind.min, IntKind.max, IntKind.signed, IntKind.bits, Bool.and_eq_true, decide_eq_true_eq, if_true] at h
  omega
end Go.Proofs.Ytngciahmoenkiac
