/-
  DERIVED. GIVEN WITH THE SEED: THE CARDS: each row of YtjolnfipacpjgabDoorRows.lean that lists a variable, with what it lists TIED to the program's text (the seventh form; the later family's looks); each row that meets fmt, with fmt's text TOLD by the authors' own Lean function (tested against real Go, not proved from fmt's source: count such statements apart). THE CARD IS WHAT COUNTS. Prove the row's statement (the work); the ties are given (YtjolnfipacpjgabDoorTie.lean); close each card by the builder's one call (the guide's Derived/Test/ToyasCard.lean, 'card_holds'). Laid BY PROGRAM, IN A SANDBOX (cutbox-door.mjs). By AI agents, Wed Nov 11 2026. No macro, syntax, notation, axiom, sorry.
-/
import Derived.Test.YtjolnfipacpjgabDoorRows
import GoSem.ClaimSeven
namespace Go.Proofs.YtjolnfipacpjgabDoor
namespace Rows

/-- THE TIED CARD OF 'peloruslaw3.I64Shifts'. -/
def i64ShiftsCard : Claim7 := { stood := { row := i64ShiftsRow, standIns := [], harness := (true, "ed7db2eddbd7e302792604a516b8434e370b64c360d87d30f7410cf47a96c261"), looks := false }, kinds := [], alts := [], laidByText := true, laidKinds := [.data, .data], laidTests := true, laidLooks := .later }
def I64ShiftsCardSaid : Prop := Claim7.holds Tryd.pinned (.plain (OpenSpec.ofChange i64ShiftsSpec)) i64ShiftsCard

/-- THE TIED CARD OF 'peloruslaw3.I64Counts'. -/
def i64CountsCard : Claim7 := { stood := { row := i64CountsRow, standIns := [], harness := (true, "ed7db2eddbd7e302792604a516b8434e370b64c360d87d30f7410cf47a96c261"), looks := false }, kinds := [], alts := [], laidByText := true, laidKinds := [.data, .data], laidTests := true, laidLooks := .later }
def I64CountsCardSaid : Prop := Claim7.holds Tryd.pinned (.plain (OpenSpec.ofChange i64CountsSpec)) i64CountsCard

/-- THE TIED CARD OF 'peloruslaw3.I64Signs'. -/
def i64SignsCard : Claim7 := { stood := { row := i64SignsRow, standIns := [], harness := (true, "ed7db2eddbd7e302792604a516b8434e370b64c360d87d30f7410cf47a96c261"), looks := false }, kinds := [], alts := [], laidByText := true, laidKinds := [.data, .data], laidTests := true, laidLooks := .later }
def I64SignsCardSaid : Prop := Claim7.holds Tryd.pinned (.plain (OpenSpec.ofChange i64SignsSpec)) i64SignsCard

/-- THE SECOND FORM's CARD OF 'peloruslaw3.I64Shifts'. -/
def i64ShiftsUptoCard : Claim7 := { stood := { row := i64ShiftsUptoRow, standIns := [], harness := (true, "ed7db2eddbd7e302792604a516b8434e370b64c360d87d30f7410cf47a96c261"), looks := false }, kinds := [], alts := [], laidByText := true, laidKinds := [.data, .data], laidTests := true, laidLooks := .later }
def I64ShiftsUptoCardSaid : Prop := Claim7.holds Tryd.pinned (.plain (OpenSpec.upto i64ShiftsSpec)) i64ShiftsUptoCard

/-- THE SECOND FORM's CARD OF 'peloruslaw3.I64Counts'. -/
def i64CountsUptoCard : Claim7 := { stood := { row := i64CountsUptoRow, standIns := [], harness := (true, "ed7db2eddbd7e302792604a516b8434e370b64c360d87d30f7410cf47a96c261"), looks := false }, kinds := [], alts := [], laidByText := true, laidKinds := [.data, .data], laidTests := true, laidLooks := .later }
def I64CountsUptoCardSaid : Prop := Claim7.holds Tryd.pinned (.plain (OpenSpec.upto i64CountsSpec)) i64CountsUptoCard

/-- THE SECOND FORM's CARD OF 'peloruslaw3.I64Signs'. -/
def i64SignsUptoCard : Claim7 := { stood := { row := i64SignsUptoRow, standIns := [], harness := (true, "ed7db2eddbd7e302792604a516b8434e370b64c360d87d30f7410cf47a96c261"), looks := false }, kinds := [], alts := [], laidByText := true, laidKinds := [.data, .data], laidTests := true, laidLooks := .later }
def I64SignsUptoCardSaid : Prop := Claim7.holds Tryd.pinned (.plain (OpenSpec.upto i64SignsSpec)) i64SignsUptoCard
end Rows
end Go.Proofs.YtjolnfipacpjgabDoor
