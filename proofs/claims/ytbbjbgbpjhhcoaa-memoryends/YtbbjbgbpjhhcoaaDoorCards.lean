/-
  DERIVED. GIVEN WITH THE SEED: THE CARDS: each row of YtbbjbgbpjhhcoaaDoorRows.lean that lists a variable, with what it lists TIED to the program's text (the seventh form; the later family's looks); each row that meets fmt, with fmt's text TOLD by the authors' own Lean function (tested against real Go, not proved from fmt's source: count such statements apart). THE CARD IS WHAT COUNTS. Prove the row's statement (the work); the ties are given (YtbbjbgbpjhhcoaaDoorTie.lean); close each card by the builder's one call (the guide's Derived/Test/ToyasCard.lean, 'card_holds'). Laid BY PROGRAM, IN A SANDBOX (cutbox-door.mjs). By AI agents, Wed Nov 11 2026. No macro, syntax, notation, axiom, sorry.
-/
import Derived.Test.YtbbjbgbpjhhcoaaDoorRows
import GoSem.ClaimSeven
namespace Go.Proofs.YtbbjbgbpjhhcoaaDoor
namespace Rows

/-- THE TIED CARD OF 'peloruslaw8.MemoryActs'. -/
def memoryActsCard : Claim7 := { stood := { row := memoryActsRow, standIns := [], harness := (true, "18417c4c36e59d634bb1d7bc2a46973f3e80d886067ccc57eeafcee2dfb5387b"), looks := false }, kinds := [], alts := [], laidByText := true, laidKinds := [.data], laidTests := true, laidLooks := .later }
def MemoryActsCardSaid : Prop := Claim7.holds Tryd.pinned (.plain (OpenSpec.ofChange memoryActsSpec)) memoryActsCard

/-- THE TIED CARD OF 'peloruslaw8.MemoryBack'. -/
def memoryBackCard : Claim7 := { stood := { row := memoryBackRow, standIns := [], harness := (true, "18417c4c36e59d634bb1d7bc2a46973f3e80d886067ccc57eeafcee2dfb5387b"), looks := false }, kinds := [], alts := [], laidByText := true, laidKinds := [.data], laidTests := true, laidLooks := .later }
def MemoryBackCardSaid : Prop := Claim7.holds Tryd.pinned (.plain (OpenSpec.ofChange memoryBackSpec)) memoryBackCard

/-- THE TIED CARD OF 'peloruslaw8.MemoryEnds'. -/
def memoryEndsCard : Claim7 := { stood := { row := memoryEndsRow, standIns := [], harness := (true, "18417c4c36e59d634bb1d7bc2a46973f3e80d886067ccc57eeafcee2dfb5387b"), looks := false }, kinds := [], alts := [], laidByText := true, laidKinds := [.data], laidTests := true, laidLooks := .later }
def MemoryEndsCardSaid : Prop := Claim7.holds Tryd.pinned (.plain (OpenSpec.ofChange memoryEndsSpec)) memoryEndsCard

/-- THE TIED CARD OF 'peloruslaw8.MemoryGrows'. -/
def memoryGrowsCard : Claim7 := { stood := { row := memoryGrowsRow, standIns := [], harness := (true, "18417c4c36e59d634bb1d7bc2a46973f3e80d886067ccc57eeafcee2dfb5387b"), looks := false }, kinds := [], alts := [], laidByText := true, laidKinds := [.data], laidTests := true, laidLooks := .later }
def MemoryGrowsCardSaid : Prop := Claim7.holds Tryd.pinned (.plain (OpenSpec.ofChange memoryGrowsSpec)) memoryGrowsCard

/-- THE TIED CARD OF 'peloruslaw8.MemoryWidths'. -/
def memoryWidthsCard : Claim7 := { stood := { row := memoryWidthsRow, standIns := [], harness := (true, "18417c4c36e59d634bb1d7bc2a46973f3e80d886067ccc57eeafcee2dfb5387b"), looks := false }, kinds := [], alts := [], laidByText := true, laidKinds := [.data], laidTests := true, laidLooks := .later }
def MemoryWidthsCardSaid : Prop := Claim7.holds Tryd.pinned (.plain (OpenSpec.ofChange memoryWidthsSpec)) memoryWidthsCard

/-- THE TIED CARD OF 'peloruslaw8.MemoryPuts'. -/
def memoryPutsCard : Claim7 := { stood := { row := memoryPutsRow, standIns := [], harness := (true, "18417c4c36e59d634bb1d7bc2a46973f3e80d886067ccc57eeafcee2dfb5387b"), looks := false }, kinds := [], alts := [], laidByText := true, laidKinds := [.data], laidTests := true, laidLooks := .later }
def MemoryPutsCardSaid : Prop := Claim7.holds Tryd.pinned (.plain (OpenSpec.ofChange memoryPutsSpec)) memoryPutsCard

/-- THE SECOND FORM's CARD OF 'peloruslaw8.MemoryActs'. -/
def memoryActsUptoCard : Claim7 := { stood := { row := memoryActsUptoRow, standIns := [], harness := (true, "18417c4c36e59d634bb1d7bc2a46973f3e80d886067ccc57eeafcee2dfb5387b"), looks := false }, kinds := [], alts := [], laidByText := true, laidKinds := [.data], laidTests := true, laidLooks := .later }
def MemoryActsUptoCardSaid : Prop := Claim7.holds Tryd.pinned (.plain (OpenSpec.upto memoryActsSpec)) memoryActsUptoCard

/-- THE SECOND FORM's CARD OF 'peloruslaw8.MemoryBack'. -/
def memoryBackUptoCard : Claim7 := { stood := { row := memoryBackUptoRow, standIns := [], harness := (true, "18417c4c36e59d634bb1d7bc2a46973f3e80d886067ccc57eeafcee2dfb5387b"), looks := false }, kinds := [], alts := [], laidByText := true, laidKinds := [.data], laidTests := true, laidLooks := .later }
def MemoryBackUptoCardSaid : Prop := Claim7.holds Tryd.pinned (.plain (OpenSpec.upto memoryBackSpec)) memoryBackUptoCard

/-- THE SECOND FORM's CARD OF 'peloruslaw8.MemoryEnds'. -/
def memoryEndsUptoCard : Claim7 := { stood := { row := memoryEndsUptoRow, standIns := [], harness := (true, "18417c4c36e59d634bb1d7bc2a46973f3e80d886067ccc57eeafcee2dfb5387b"), looks := false }, kinds := [], alts := [], laidByText := true, laidKinds := [.data], laidTests := true, laidLooks := .later }
def MemoryEndsUptoCardSaid : Prop := Claim7.holds Tryd.pinned (.plain (OpenSpec.upto memoryEndsSpec)) memoryEndsUptoCard

/-- THE SECOND FORM's CARD OF 'peloruslaw8.MemoryGrows'. -/
def memoryGrowsUptoCard : Claim7 := { stood := { row := memoryGrowsUptoRow, standIns := [], harness := (true, "18417c4c36e59d634bb1d7bc2a46973f3e80d886067ccc57eeafcee2dfb5387b"), looks := false }, kinds := [], alts := [], laidByText := true, laidKinds := [.data], laidTests := true, laidLooks := .later }
def MemoryGrowsUptoCardSaid : Prop := Claim7.holds Tryd.pinned (.plain (OpenSpec.upto memoryGrowsSpec)) memoryGrowsUptoCard

/-- THE SECOND FORM's CARD OF 'peloruslaw8.MemoryWidths'. -/
def memoryWidthsUptoCard : Claim7 := { stood := { row := memoryWidthsUptoRow, standIns := [], harness := (true, "18417c4c36e59d634bb1d7bc2a46973f3e80d886067ccc57eeafcee2dfb5387b"), looks := false }, kinds := [], alts := [], laidByText := true, laidKinds := [.data], laidTests := true, laidLooks := .later }
def MemoryWidthsUptoCardSaid : Prop := Claim7.holds Tryd.pinned (.plain (OpenSpec.upto memoryWidthsSpec)) memoryWidthsUptoCard

/-- THE SECOND FORM's CARD OF 'peloruslaw8.MemoryPuts'. -/
def memoryPutsUptoCard : Claim7 := { stood := { row := memoryPutsUptoRow, standIns := [], harness := (true, "18417c4c36e59d634bb1d7bc2a46973f3e80d886067ccc57eeafcee2dfb5387b"), looks := false }, kinds := [], alts := [], laidByText := true, laidKinds := [.data], laidTests := true, laidLooks := .later }
def MemoryPutsUptoCardSaid : Prop := Claim7.holds Tryd.pinned (.plain (OpenSpec.upto memoryPutsSpec)) memoryPutsUptoCard
end Rows
end Go.Proofs.YtbbjbgbpjhhcoaaDoor
