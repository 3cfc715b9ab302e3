/- Over this seat's translation: package leb's four faces: put_any, puts_any, get_any, gets_any. -/
import Derived.Test.YtljogkiibpinaaaLVG
namespace Go.Proofs.Ytljogkiibpinaaa
end Go.Proofs.Ytljogkiibpinaaa
