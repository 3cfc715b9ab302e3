/-
  DERIVED. GIVEN WITH THE SEED: THE CARDS: each row of YtdfgcagbpndabaaGreatDoorRows.lean that lists a variable, with what it lists TIED to the program's text (the seventh form; the later family's looks); each row that meets fmt, with fmt's text TOLD by the authors' own Lean function (tested against real Go, not proved from fmt's source: count such statements apart). THE CARD IS WHAT COUNTS. Prove the row's statement (the work); the ties are given (YtdfgcagbpndabaaGreatDoorTie.lean); close each card by the builder's one call (the guide's Derived/Test/ToyasCard.lean, 'card_holds'). Laid BY PROGRAM, IN A SANDBOX (cutbox-door.mjs). By AI agents, Wed Nov 11 2026. No macro, syntax, notation, axiom, sorry.
-/
import Derived.Test.YtdfgcagbpndabaaGreatDoorRows
import GoSem.ClaimSeven
namespace Go.Proofs.YtdfgcagbpndabaaGreatDoor
namespace Rows

/-- THE TIED CARD OF 'peloruslaw7.Applies'. -/
def appliesCard : Claim7 := { stood := { row := appliesRow, standIns := [], harness := (true, "858e6e0648fcb45bf74692b8baf86f4e36d11ad85089584bc713cf3883128cf4"), looks := false }, kinds := [], alts := [], laidByText := true, laidKinds := [.data, .data], laidTests := true, laidLooks := .later }
def AppliesCardSaid : Prop := Claim7.holds Tryz.pinned (.plain (OpenSpec.ofChange appliesSpec)) appliesCard

/-- THE TIED CARD OF 'peloruslaw7.ApplyEach'. -/
def applyEachCard : Claim7 := { stood := { row := applyEachRow, standIns := [], harness := (true, "858e6e0648fcb45bf74692b8baf86f4e36d11ad85089584bc713cf3883128cf4"), looks := false }, kinds := [], alts := [], laidByText := true, laidKinds := [.data, .data], laidTests := true, laidLooks := .later }
def ApplyEachCardSaid : Prop := Claim7.holds Tryz.pinned (.plain (OpenSpec.ofChange applyEachSpec)) applyEachCard

/-- THE TIED CARD OF 'peloruslaw7.ApplyWrong'. -/
def applyWrongCard : Claim7 := { stood := { row := applyWrongRow, standIns := [], harness := (true, "858e6e0648fcb45bf74692b8baf86f4e36d11ad85089584bc713cf3883128cf4"), looks := false }, kinds := [], alts := [], laidByText := true, laidKinds := [.data, .data], laidTests := true, laidLooks := .later }
def ApplyWrongCardSaid : Prop := Claim7.holds Tryz.pinned (.plain (OpenSpec.ofChange applyWrongSpec)) applyWrongCard

/-- THE SECOND FORM's CARD OF 'peloruslaw7.Applies'. -/
def appliesUptoCard : Claim7 := { stood := { row := appliesUptoRow, standIns := [], harness := (true, "858e6e0648fcb45bf74692b8baf86f4e36d11ad85089584bc713cf3883128cf4"), looks := false }, kinds := [], alts := [], laidByText := true, laidKinds := [.data, .data], laidTests := true, laidLooks := .later }
def AppliesUptoCardSaid : Prop := Claim7.holds Tryz.pinned (.plain (OpenSpec.upto appliesSpec)) appliesUptoCard

/-- THE SECOND FORM's CARD OF 'peloruslaw7.ApplyEach'. -/
def applyEachUptoCard : Claim7 := { stood := { row := applyEachUptoRow, standIns := [], harness := (true, "858e6e0648fcb45bf74692b8baf86f4e36d11ad85089584bc713cf3883128cf4"), looks := false }, kinds := [], alts := [], laidByText := true, laidKinds := [.data, .data], laidTests := true, laidLooks := .later }
def ApplyEachUptoCardSaid : Prop := Claim7.holds Tryz.pinned (.plain (OpenSpec.upto applyEachSpec)) applyEachUptoCard

/-- THE SECOND FORM's CARD OF 'peloruslaw7.ApplyWrong'. -/
def applyWrongUptoCard : Claim7 := { stood := { row := applyWrongUptoRow, standIns := [], harness := (true, "858e6e0648fcb45bf74692b8baf86f4e36d11ad85089584bc713cf3883128cf4"), looks := false }, kinds := [], alts := [], laidByText := true, laidKinds := [.data, .data], laidTests := true, laidLooks := .later }
def ApplyWrongUptoCardSaid : Prop := Claim7.holds Tryz.pinned (.plain (OpenSpec.upto applyWrongSpec)) applyWrongUptoCard
end Rows
end Go.Proofs.YtdfgcagbpndabaaGreatDoor
