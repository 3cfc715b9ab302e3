/- Over this seat's translation: a list of instructions as bytes, by the document. -/
import Derived.Test.YtngciahmoenkiacXJ
set_option linter.unusedVariables false
set_option linter.unusedSimpArgs false
set_option maxRecDepth 100000
set_option maxHeartbeats 40000000
namespace Go.Proofs.Ytngciahmoenkiac
open Go.RowKit
end Go.Proofs.Ytngciahmoenkiac
