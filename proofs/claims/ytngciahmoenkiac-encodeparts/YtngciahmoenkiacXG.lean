/- XG: IFE, IFF, IFG, joined. -/
import Derived.Test.YtngciahmoenkiacXE
/- Over this seat's translation: which instructions may be, by the document: some kinds. -/
set_option linter.unusedVariables false
set_option linter.unusedSimpArgs false
set_option maxRecDepth 100000
set_option maxHeartbeats 40000000
namespace Go.Proofs.Ytngciahmoenkiac
open Go.RowKit
end Go.Proofs.Ytngciahmoenkiac


/- Over this seat's translation: which instructions may be, by the document: some kinds. -/
set_option linter.unusedVariables false
set_option linter.unusedSimpArgs false
set_option maxRecDepth 100000
set_option maxHeartbeats 40000000
namespace Go.Proofs.Ytngciahmoenkiac
open Go.RowKit
end Go.Proofs.Ytngciahmoenkiac


/- Over this seat's translation: which instructions may be, by the document: some kinds. -/
set_option linter.unusedVariables false
set_option linter.unusedSimpArgs false
set_option maxRecDepth 100000
set_option maxHeartbeats 40000000
namespace Go.Proofs.Ytngciahmoenkiac
open Go.RowKit
end Go.Proofs.Ytngciahmoenkiac

