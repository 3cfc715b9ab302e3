/-
  DERIVED. GIVEN WITH THE SEED: THE CARDS: each row of YtojfhjpimpfkiaaDoorRows.lean that lists a variable, with what it lists TIED to the program's text (the seventh form; the later family's looks); each row that meets fmt, with fmt's text TOLD by the authors' own Lean function (tested against real Go, not proved from fmt's source: count such statements apart). THE CARD IS WHAT COUNTS. Prove the row's statement (the work); the ties are given (YtojfhjpimpfkiaaDoorTie.lean); close each card by the builder's one call (the guide's Derived/Test/ToyasCard.lean, 'card_holds'). Laid BY PROGRAM, IN A SANDBOX (cutbox-door.mjs). By AI agents, Wed Nov 11 2026. No macro, syntax, notation, axiom, sorry.
-/
import Derived.Test.YtojfhjpimpfkiaaDoorRows
import GoSem.ClaimSeven
namespace Go.Proofs.YtojfhjpimpfkiaaDoor
namespace Rows

/-- THE TIED CARD OF 'peloruslaw1.BitsAll'. -/
def bitsAllCard : Claim7 := { stood := { row := bitsAllRow, standIns := [], harness := (true, "8a9db70321aaf070d5e9b4a6db6bee6f3ba930786013acb7dcb2f39f3288ac9d"), looks := false }, kinds := [], alts := [], laidByText := true, laidKinds := [.data, .data], laidTests := true, laidLooks := .later }
def BitsAllCardSaid : Prop := Claim7.holds Tryd.pinned (.plain (OpenSpec.ofChange bitsAllSpec)) bitsAllCard

/-- THE TIED CARD OF 'peloruslaw1.BitsRules'. -/
def bitsRulesCard : Claim7 := { stood := { row := bitsRulesRow, standIns := [], harness := (true, "8a9db70321aaf070d5e9b4a6db6bee6f3ba930786013acb7dcb2f39f3288ac9d"), looks := false }, kinds := [], alts := [], laidByText := true, laidKinds := [.data, .data], laidTests := true, laidLooks := .later }
def BitsRulesCardSaid : Prop := Claim7.holds Tryd.pinned (.plain (OpenSpec.ofChange bitsRulesSpec)) bitsRulesCard

/-- THE TIED CARD OF 'peloruslaw1.BitsPowers'. -/
def bitsPowersCard : Claim7 := { stood := { row := bitsPowersRow, standIns := [], harness := (true, "8a9db70321aaf070d5e9b4a6db6bee6f3ba930786013acb7dcb2f39f3288ac9d"), looks := false }, kinds := [], alts := [], laidByText := true, laidKinds := [.data, .data], laidTests := true, laidLooks := .later }
def BitsPowersCardSaid : Prop := Claim7.holds Tryd.pinned (.plain (OpenSpec.ofChange bitsPowersSpec)) bitsPowersCard

/-- THE SECOND FORM's CARD OF 'peloruslaw1.BitsAll'. -/
def bitsAllUptoCard : Claim7 := { stood := { row := bitsAllUptoRow, standIns := [], harness := (true, "8a9db70321aaf070d5e9b4a6db6bee6f3ba930786013acb7dcb2f39f3288ac9d"), looks := false }, kinds := [], alts := [], laidByText := true, laidKinds := [.data, .data], laidTests := true, laidLooks := .later }
def BitsAllUptoCardSaid : Prop := Claim7.holds Tryd.pinned (.plain (OpenSpec.upto bitsAllSpec)) bitsAllUptoCard

/-- THE SECOND FORM's CARD OF 'peloruslaw1.BitsRules'. -/
def bitsRulesUptoCard : Claim7 := { stood := { row := bitsRulesUptoRow, standIns := [], harness := (true, "8a9db70321aaf070d5e9b4a6db6bee6f3ba930786013acb7dcb2f39f3288ac9d"), looks := false }, kinds := [], alts := [], laidByText := true, laidKinds := [.data, .data], laidTests := true, laidLooks := .later }
def BitsRulesUptoCardSaid : Prop := Claim7.holds Tryd.pinned (.plain (OpenSpec.upto bitsRulesSpec)) bitsRulesUptoCard

/-- THE SECOND FORM's CARD OF 'peloruslaw1.BitsPowers'. -/
def bitsPowersUptoCard : Claim7 := { stood := { row := bitsPowersUptoRow, standIns := [], harness := (true, "8a9db70321aaf070d5e9b4a6db6bee6f3ba930786013acb7dcb2f39f3288ac9d"), looks := false }, kinds := [], alts := [], laidByText := true, laidKinds := [.data, .data], laidTests := true, laidLooks := .later }
def BitsPowersUptoCardSaid : Prop := Claim7.holds Tryd.pinned (.plain (OpenSpec.upto bitsPowersSpec)) bitsPowersUptoCard
end Rows
end Go.Proofs.YtojfhjpimpfkiaaDoor
