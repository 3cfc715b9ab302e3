/-
  DERIVED. GIVEN WITH THE SEED: THE CARDS: each row of YtdcmiahgmkkdoabDoorRows.lean that lists a variable, with what it lists TIED to the program's text (the seventh form; the later family's looks); each row that meets fmt, with fmt's text TOLD by the authors' own Lean function (tested against real Go, not proved from fmt's source: count such statements apart). THE CARD IS WHAT COUNTS. Prove the row's statement (the work); the ties are given (YtdcmiahgmkkdoabDoorTie.lean); close each card by the builder's one call (the guide's Derived/Test/ToyasCard.lean, 'card_holds'). Laid BY PROGRAM, IN A SANDBOX (cutbox-door.mjs). By AI agents, Wed Nov 11 2026. No macro, syntax, notation, axiom, sorry.
-/
import Derived.Test.YtdcmiahgmkkdoabDoorRows
import GoSem.ClaimSeven
namespace Go.Proofs.YtdcmiahgmkkdoabDoor
namespace Rows

/-- THE TIED CARD OF 'peloruslaw2.I32Shifts'. -/
def i32ShiftsCard : Claim7 := { stood := { row := i32ShiftsRow, standIns := [], harness := (true, "81248f1b6c8ddbf2d173da93f4ace5a498ce79495c5525198b2d1d1e98a0ebf2"), looks := false }, kinds := [], alts := [], laidByText := true, laidKinds := [.data, .data], laidTests := true, laidLooks := .later }
def I32ShiftsCardSaid : Prop := Claim7.holds Tryd.pinned (.plain (OpenSpec.ofChange i32ShiftsSpec)) i32ShiftsCard

/-- THE TIED CARD OF 'peloruslaw2.I32Counts'. -/
def i32CountsCard : Claim7 := { stood := { row := i32CountsRow, standIns := [], harness := (true, "81248f1b6c8ddbf2d173da93f4ace5a498ce79495c5525198b2d1d1e98a0ebf2"), looks := false }, kinds := [], alts := [], laidByText := true, laidKinds := [.data, .data], laidTests := true, laidLooks := .later }
def I32CountsCardSaid : Prop := Claim7.holds Tryd.pinned (.plain (OpenSpec.ofChange i32CountsSpec)) i32CountsCard

/-- THE TIED CARD OF 'peloruslaw2.I32Signs'. -/
def i32SignsCard : Claim7 := { stood := { row := i32SignsRow, standIns := [], harness := (true, "81248f1b6c8ddbf2d173da93f4ace5a498ce79495c5525198b2d1d1e98a0ebf2"), looks := false }, kinds := [], alts := [], laidByText := true, laidKinds := [.data, .data], laidTests := true, laidLooks := .later }
def I32SignsCardSaid : Prop := Claim7.holds Tryd.pinned (.plain (OpenSpec.ofChange i32SignsSpec)) i32SignsCard

/-- THE SECOND FORM's CARD OF 'peloruslaw2.I32Shifts'. -/
def i32ShiftsUptoCard : Claim7 := { stood := { row := i32ShiftsUptoRow, standIns := [], harness := (true, "81248f1b6c8ddbf2d173da93f4ace5a498ce79495c5525198b2d1d1e98a0ebf2"), looks := false }, kinds := [], alts := [], laidByText := true, laidKinds := [.data, .data], laidTests := true, laidLooks := .later }
def I32ShiftsUptoCardSaid : Prop := Claim7.holds Tryd.pinned (.plain (OpenSpec.upto i32ShiftsSpec)) i32ShiftsUptoCard

/-- THE SECOND FORM's CARD OF 'peloruslaw2.I32Counts'. -/
def i32CountsUptoCard : Claim7 := { stood := { row := i32CountsUptoRow, standIns := [], harness := (true, "81248f1b6c8ddbf2d173da93f4ace5a498ce79495c5525198b2d1d1e98a0ebf2"), looks := false }, kinds := [], alts := [], laidByText := true, laidKinds := [.data, .data], laidTests := true, laidLooks := .later }
def I32CountsUptoCardSaid : Prop := Claim7.holds Tryd.pinned (.plain (OpenSpec.upto i32CountsSpec)) i32CountsUptoCard

/-- THE SECOND FORM's CARD OF 'peloruslaw2.I32Signs'. -/
def i32SignsUptoCard : Claim7 := { stood := { row := i32SignsUptoRow, standIns := [], harness := (true, "81248f1b6c8ddbf2d173da93f4ace5a498ce79495c5525198b2d1d1e98a0ebf2"), looks := false }, kinds := [], alts := [], laidByText := true, laidKinds := [.data, .data], laidTests := true, laidLooks := .later }
def I32SignsUptoCardSaid : Prop := Claim7.holds Tryd.pinned (.plain (OpenSpec.upto i32SignsSpec)) i32SignsUptoCard
end Rows
end Go.Proofs.YtdcmiahgmkkdoabDoor
