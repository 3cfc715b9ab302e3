/-
  DERIVED. GIVEN WITH THE SEED: THE CARDS: each row of YtdcmiahgmkkdoaaDoorRows.lean that lists a variable, with what it lists TIED to the program's text (the seventh form; the later family's looks); each row that meets fmt, with fmt's text TOLD by the authors' own Lean function (tested against real Go, not proved from fmt's source: count such statements apart). THE CARD IS WHAT COUNTS. Prove the row's statement (the work); the ties are given (YtdcmiahgmkkdoaaDoorTie.lean); close each card by the builder's one call (the guide's Derived/Test/ToyasCard.lean, 'card_holds'). Laid BY PROGRAM, IN A SANDBOX (cutbox-door.mjs). By AI agents, Wed Nov 11 2026. No macro, syntax, notation, axiom, sorry.
-/
import Derived.Test.YtdcmiahgmkkdoaaDoorRows
import GoSem.ClaimSeven
namespace Go.Proofs.YtdcmiahgmkkdoaaDoor
namespace Rows

/-- THE TIED CARD OF 'peloruslaw2.I32All'. -/
def i32AllCard : Claim7 := { stood := { row := i32AllRow, standIns := [], harness := (true, "03aaa95249fb4af9e6912b7fb28c194595348c44959a030161ef470846f6dc32"), looks := false }, kinds := [], alts := [], laidByText := true, laidKinds := [.data, .data], laidTests := true, laidLooks := .later }
def I32AllCardSaid : Prop := Claim7.holds Tryd.pinned (.plain (OpenSpec.ofChange i32AllSpec)) i32AllCard

/-- THE TIED CARD OF 'peloruslaw2.I32Each'. -/
def i32EachCard : Claim7 := { stood := { row := i32EachRow, standIns := [], harness := (true, "03aaa95249fb4af9e6912b7fb28c194595348c44959a030161ef470846f6dc32"), looks := false }, kinds := [], alts := [], laidByText := true, laidKinds := [.data, .data], laidTests := true, laidLooks := .later }
def I32EachCardSaid : Prop := Claim7.holds Tryd.pinned (.plain (OpenSpec.ofChange i32EachSpec)) i32EachCard

/-- THE TIED CARD OF 'peloruslaw2.I32Rules'. -/
def i32RulesCard : Claim7 := { stood := { row := i32RulesRow, standIns := [], harness := (true, "03aaa95249fb4af9e6912b7fb28c194595348c44959a030161ef470846f6dc32"), looks := false }, kinds := [], alts := [], laidByText := true, laidKinds := [.data, .data], laidTests := true, laidLooks := .later }
def I32RulesCardSaid : Prop := Claim7.holds Tryd.pinned (.plain (OpenSpec.ofChange i32RulesSpec)) i32RulesCard

/-- THE TIED CARD OF 'peloruslaw2.I32Ring'. -/
def i32RingCard : Claim7 := { stood := { row := i32RingRow, standIns := [], harness := (true, "03aaa95249fb4af9e6912b7fb28c194595348c44959a030161ef470846f6dc32"), looks := false }, kinds := [], alts := [], laidByText := true, laidKinds := [.data, .data], laidTests := true, laidLooks := .later }
def I32RingCardSaid : Prop := Claim7.holds Tryd.pinned (.plain (OpenSpec.ofChange i32RingSpec)) i32RingCard

/-- THE TIED CARD OF 'peloruslaw2.I32Order'. -/
def i32OrderCard : Claim7 := { stood := { row := i32OrderRow, standIns := [], harness := (true, "03aaa95249fb4af9e6912b7fb28c194595348c44959a030161ef470846f6dc32"), looks := false }, kinds := [], alts := [], laidByText := true, laidKinds := [.data, .data], laidTests := true, laidLooks := .later }
def I32OrderCardSaid : Prop := Claim7.holds Tryd.pinned (.plain (OpenSpec.ofChange i32OrderSpec)) i32OrderCard

/-- THE TIED CARD OF 'peloruslaw2.I32Logic'. -/
def i32LogicCard : Claim7 := { stood := { row := i32LogicRow, standIns := [], harness := (true, "03aaa95249fb4af9e6912b7fb28c194595348c44959a030161ef470846f6dc32"), looks := false }, kinds := [], alts := [], laidByText := true, laidKinds := [.data, .data], laidTests := true, laidLooks := .later }
def I32LogicCardSaid : Prop := Claim7.holds Tryd.pinned (.plain (OpenSpec.ofChange i32LogicSpec)) i32LogicCard

/-- THE SECOND FORM's CARD OF 'peloruslaw2.I32All'. -/
def i32AllUptoCard : Claim7 := { stood := { row := i32AllUptoRow, standIns := [], harness := (true, "03aaa95249fb4af9e6912b7fb28c194595348c44959a030161ef470846f6dc32"), looks := false }, kinds := [], alts := [], laidByText := true, laidKinds := [.data, .data], laidTests := true, laidLooks := .later }
def I32AllUptoCardSaid : Prop := Claim7.holds Tryd.pinned (.plain (OpenSpec.upto i32AllSpec)) i32AllUptoCard

/-- THE SECOND FORM's CARD OF 'peloruslaw2.I32Each'. -/
def i32EachUptoCard : Claim7 := { stood := { row := i32EachUptoRow, standIns := [], harness := (true, "03aaa95249fb4af9e6912b7fb28c194595348c44959a030161ef470846f6dc32"), looks := false }, kinds := [], alts := [], laidByText := true, laidKinds := [.data, .data], laidTests := true, laidLooks := .later }
def I32EachUptoCardSaid : Prop := Claim7.holds Tryd.pinned (.plain (OpenSpec.upto i32EachSpec)) i32EachUptoCard

/-- THE SECOND FORM's CARD OF 'peloruslaw2.I32Rules'. -/
def i32RulesUptoCard : Claim7 := { stood := { row := i32RulesUptoRow, standIns := [], harness := (true, "03aaa95249fb4af9e6912b7fb28c194595348c44959a030161ef470846f6dc32"), looks := false }, kinds := [], alts := [], laidByText := true, laidKinds := [.data, .data], laidTests := true, laidLooks := .later }
def I32RulesUptoCardSaid : Prop := Claim7.holds Tryd.pinned (.plain (OpenSpec.upto i32RulesSpec)) i32RulesUptoCard

/-- THE SECOND FORM's CARD OF 'peloruslaw2.I32Ring'. -/
def i32RingUptoCard : Claim7 := { stood := { row := i32RingUptoRow, standIns := [], harness := (true, "03aaa95249fb4af9e6912b7fb28c194595348c44959a030161ef470846f6dc32"), looks := false }, kinds := [], alts := [], laidByText := true, laidKinds := [.data, .data], laidTests := true, laidLooks := .later }
def I32RingUptoCardSaid : Prop := Claim7.holds Tryd.pinned (.plain (OpenSpec.upto i32RingSpec)) i32RingUptoCard

/-- THE SECOND FORM's CARD OF 'peloruslaw2.I32Order'. -/
def i32OrderUptoCard : Claim7 := { stood := { row := i32OrderUptoRow, standIns := [], harness := (true, "03aaa95249fb4af9e6912b7fb28c194595348c44959a030161ef470846f6dc32"), looks := false }, kinds := [], alts := [], laidByText := true, laidKinds := [.data, .data], laidTests := true, laidLooks := .later }
def I32OrderUptoCardSaid : Prop := Claim7.holds Tryd.pinned (.plain (OpenSpec.upto i32OrderSpec)) i32OrderUptoCard

/-- THE SECOND FORM's CARD OF 'peloruslaw2.I32Logic'. -/
def i32LogicUptoCard : Claim7 := { stood := { row := i32LogicUptoRow, standIns := [], harness := (true, "03aaa95249fb4af9e6912b7fb28c194595348c44959a030161ef470846f6dc32"), looks := false }, kinds := [], alts := [], laidByText := true, laidKinds := [.data, .data], laidTests := true, laidLooks := .later }
def I32LogicUptoCardSaid : Prop := Claim7.holds Tryd.pinned (.plain (OpenSpec.upto i32LogicSpec)) i32LogicUptoCard
end Rows
end Go.Proofs.YtdcmiahgmkkdoaaDoor
