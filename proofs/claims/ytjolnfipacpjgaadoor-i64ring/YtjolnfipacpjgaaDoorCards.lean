/-
  DERIVED. GIVEN WITH THE SEED: THE CARDS: each row of YtjolnfipacpjgaaDoorRows.lean that lists a variable, with what it lists TIED to the program's text (the seventh form; the later family's looks); each row that meets fmt, with fmt's text TOLD by the authors' own Lean function (tested against real Go, not proved from fmt's source: count such statements apart). THE CARD IS WHAT COUNTS. Prove the row's statement (the work); the ties are given (YtjolnfipacpjgaaDoorTie.lean); close each card by the builder's one call (the guide's Derived/Test/ToyasCard.lean, 'card_holds'). Laid BY PROGRAM, IN A SANDBOX (cutbox-door.mjs). By AI agents, Wed Nov 11 2026. No macro, syntax, notation, axiom, sorry.
-/
import Derived.Test.YtjolnfipacpjgaaDoorRows
import GoSem.ClaimSeven
namespace Go.Proofs.YtjolnfipacpjgaaDoor
namespace Rows

/-- THE TIED CARD OF 'peloruslaw3.I64All'. -/
def i64AllCard : Claim7 := { stood := { row := i64AllRow, standIns := [], harness := (true, "2ebdc143f2b4abfbe67d11490afdcbc72c2e3198a97a59044c44f84c43a9fa4b"), looks := false }, kinds := [], alts := [], laidByText := true, laidKinds := [.data, .data], laidTests := true, laidLooks := .later }
def I64AllCardSaid : Prop := Claim7.holds Tryd.pinned (.plain (OpenSpec.ofChange i64AllSpec)) i64AllCard

/-- THE TIED CARD OF 'peloruslaw3.I64Each'. -/
def i64EachCard : Claim7 := { stood := { row := i64EachRow, standIns := [], harness := (true, "2ebdc143f2b4abfbe67d11490afdcbc72c2e3198a97a59044c44f84c43a9fa4b"), looks := false }, kinds := [], alts := [], laidByText := true, laidKinds := [.data, .data], laidTests := true, laidLooks := .later }
def I64EachCardSaid : Prop := Claim7.holds Tryd.pinned (.plain (OpenSpec.ofChange i64EachSpec)) i64EachCard

/-- THE TIED CARD OF 'peloruslaw3.I64Rules'. -/
def i64RulesCard : Claim7 := { stood := { row := i64RulesRow, standIns := [], harness := (true, "2ebdc143f2b4abfbe67d11490afdcbc72c2e3198a97a59044c44f84c43a9fa4b"), looks := false }, kinds := [], alts := [], laidByText := true, laidKinds := [.data, .data], laidTests := true, laidLooks := .later }
def I64RulesCardSaid : Prop := Claim7.holds Tryd.pinned (.plain (OpenSpec.ofChange i64RulesSpec)) i64RulesCard

/-- THE TIED CARD OF 'peloruslaw3.I64Ring'. -/
def i64RingCard : Claim7 := { stood := { row := i64RingRow, standIns := [], harness := (true, "2ebdc143f2b4abfbe67d11490afdcbc72c2e3198a97a59044c44f84c43a9fa4b"), looks := false }, kinds := [], alts := [], laidByText := true, laidKinds := [.data, .data], laidTests := true, laidLooks := .later }
def I64RingCardSaid : Prop := Claim7.holds Tryd.pinned (.plain (OpenSpec.ofChange i64RingSpec)) i64RingCard

/-- THE TIED CARD OF 'peloruslaw3.I64Order'. -/
def i64OrderCard : Claim7 := { stood := { row := i64OrderRow, standIns := [], harness := (true, "2ebdc143f2b4abfbe67d11490afdcbc72c2e3198a97a59044c44f84c43a9fa4b"), looks := false }, kinds := [], alts := [], laidByText := true, laidKinds := [.data, .data], laidTests := true, laidLooks := .later }
def I64OrderCardSaid : Prop := Claim7.holds Tryd.pinned (.plain (OpenSpec.ofChange i64OrderSpec)) i64OrderCard

/-- THE TIED CARD OF 'peloruslaw3.I64Logic'. -/
def i64LogicCard : Claim7 := { stood := { row := i64LogicRow, standIns := [], harness := (true, "2ebdc143f2b4abfbe67d11490afdcbc72c2e3198a97a59044c44f84c43a9fa4b"), looks := false }, kinds := [], alts := [], laidByText := true, laidKinds := [.data, .data], laidTests := true, laidLooks := .later }
def I64LogicCardSaid : Prop := Claim7.holds Tryd.pinned (.plain (OpenSpec.ofChange i64LogicSpec)) i64LogicCard

/-- THE SECOND FORM's CARD OF 'peloruslaw3.I64All'. -/
def i64AllUptoCard : Claim7 := { stood := { row := i64AllUptoRow, standIns := [], harness := (true, "2ebdc143f2b4abfbe67d11490afdcbc72c2e3198a97a59044c44f84c43a9fa4b"), looks := false }, kinds := [], alts := [], laidByText := true, laidKinds := [.data, .data], laidTests := true, laidLooks := .later }
def I64AllUptoCardSaid : Prop := Claim7.holds Tryd.pinned (.plain (OpenSpec.upto i64AllSpec)) i64AllUptoCard

/-- THE SECOND FORM's CARD OF 'peloruslaw3.I64Each'. -/
def i64EachUptoCard : Claim7 := { stood := { row := i64EachUptoRow, standIns := [], harness := (true, "2ebdc143f2b4abfbe67d11490afdcbc72c2e3198a97a59044c44f84c43a9fa4b"), looks := false }, kinds := [], alts := [], laidByText := true, laidKinds := [.data, .data], laidTests := true, laidLooks := .later }
def I64EachUptoCardSaid : Prop := Claim7.holds Tryd.pinned (.plain (OpenSpec.upto i64EachSpec)) i64EachUptoCard

/-- THE SECOND FORM's CARD OF 'peloruslaw3.I64Rules'. -/
def i64RulesUptoCard : Claim7 := { stood := { row := i64RulesUptoRow, standIns := [], harness := (true, "2ebdc143f2b4abfbe67d11490afdcbc72c2e3198a97a59044c44f84c43a9fa4b"), looks := false }, kinds := [], alts := [], laidByText := true, laidKinds := [.data, .data], laidTests := true, laidLooks := .later }
def I64RulesUptoCardSaid : Prop := Claim7.holds Tryd.pinned (.plain (OpenSpec.upto i64RulesSpec)) i64RulesUptoCard

/-- THE SECOND FORM's CARD OF 'peloruslaw3.I64Ring'. -/
def i64RingUptoCard : Claim7 := { stood := { row := i64RingUptoRow, standIns := [], harness := (true, "2ebdc143f2b4abfbe67d11490afdcbc72c2e3198a97a59044c44f84c43a9fa4b"), looks := false }, kinds := [], alts := [], laidByText := true, laidKinds := [.data, .data], laidTests := true, laidLooks := .later }
def I64RingUptoCardSaid : Prop := Claim7.holds Tryd.pinned (.plain (OpenSpec.upto i64RingSpec)) i64RingUptoCard

/-- THE SECOND FORM's CARD OF 'peloruslaw3.I64Order'. -/
def i64OrderUptoCard : Claim7 := { stood := { row := i64OrderUptoRow, standIns := [], harness := (true, "2ebdc143f2b4abfbe67d11490afdcbc72c2e3198a97a59044c44f84c43a9fa4b"), looks := false }, kinds := [], alts := [], laidByText := true, laidKinds := [.data, .data], laidTests := true, laidLooks := .later }
def I64OrderUptoCardSaid : Prop := Claim7.holds Tryd.pinned (.plain (OpenSpec.upto i64OrderSpec)) i64OrderUptoCard

/-- THE SECOND FORM's CARD OF 'peloruslaw3.I64Logic'. -/
def i64LogicUptoCard : Claim7 := { stood := { row := i64LogicUptoRow, standIns := [], harness := (true, "2ebdc143f2b4abfbe67d11490afdcbc72c2e3198a97a59044c44f84c43a9fa4b"), looks := false }, kinds := [], alts := [], laidByText := true, laidKinds := [.data, .data], laidTests := true, laidLooks := .later }
def I64LogicUptoCardSaid : Prop := Claim7.holds Tryd.pinned (.plain (OpenSpec.upto i64LogicSpec)) i64LogicUptoCard
end Rows
end Go.Proofs.YtjolnfipacpjgaaDoor
