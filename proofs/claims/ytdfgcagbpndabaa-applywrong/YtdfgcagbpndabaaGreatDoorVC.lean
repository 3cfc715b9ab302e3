/- Over this seat's translation: the types of conversions, by the document. -/
import Derived.Test.YtdfgcagbpndabaaGreatDoorRows
import Derived.WalkKit
import Derived.ProofKit
import Derived.Test.YtdfgcagbpndabaaGreatDoorZA
import Derived.Test.YtdfgcagbpndabaaGreatDoorVL
set_option linter.unusedVariables false
set_option maxHeartbeats 4000000
set_option maxRecDepth 100000
namespace Go.Proofs.YtdfgcagbpndabaaGreatDoor
open Go.RowKit Go.AM
theorem rcv_core (op p r : Int) (h : Cnv op p r) (w : World) :
    RW Tryz.prog 20 #[.int .i64 op] w (.tuple #[.int .i64 p, .int .i64 r]) := by
  rcases h with ⟨rfl, rfl, rfl⟩ | ⟨rfl, rfl, rfl⟩ | ⟨rfl, rfl, rfl⟩ | ⟨rfl, rfl, rfl⟩ | ⟨rfl, rfl, rfl⟩ | ⟨rfl, rfl, rfl⟩ | ⟨rfl, rfl, rfl⟩ | ⟨rfl, rfl, rfl⟩ | ⟨rfl, rfl, rfl⟩ | ⟨rfl, rfl, rfl⟩ | ⟨rfl, rfl, rfl⟩ | ⟨rfl, rfl, rfl⟩ | ⟨rfl, rfl, rfl⟩ | ⟨rfl, rfl, rfl⟩ | ⟨rfl, rfl, rfl⟩ | ⟨rfl, rfl, rfl⟩ | ⟨rfl, rfl, rfl⟩ | ⟨rfl, rfl, rfl⟩ | ⟨rfl, rfl, rfl⟩ | ⟨rfl, rfl, rfl⟩ | ⟨rfl, rfl, rfl⟩ | ⟨rfl, rfl, rfl⟩ | ⟨rfl, rfl, rfl⟩ | ⟨rfl, rfl, rfl⟩ | ⟨rfl, rfl, rfl⟩ | F
  all_goals first | exact F.elim | skip
  all_goals
    go_enter Tryz.func20, Tryz.ntmps20
    go_wp2
    go_region
    all_goals (try go_wp2)
    all_goals go_ret2
    all_goals exact ⟨rfl, (by repeat first | exact Lz _ | apply La | apply Lv | apply Ln | apply Ld)⟩
theorem rcv_any (op : Int) (h0 : 167 ≤ op) (h1 : op ≤ 191) (w : World) :
    RW Tryz.prog 20 #[.int .i64 op] w (.tuple #[.int .i64 (kP op), .int .i64 (kR op)]) := rcv_core op _ _ (cnv_k op h0 h1) w
end Go.Proofs.YtdfgcagbpndabaaGreatDoor
