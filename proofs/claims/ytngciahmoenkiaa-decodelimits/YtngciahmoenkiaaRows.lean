/-
  No cell of these rows narrows 'for every input' (looked for: loops, veiled, ifaces, maps, wideKeys, modest, calm, conditions, laid).
  DERIVED. THE GIVEN ROWS OF THIS SEAT. 5 by the template 'for every input the law returns true; each argument reads behind the call as it read before'; 0 by the template 'total and deterministic' (their statements: YtngciahmoenkiaaTotals.lean).
  GIVEN WITH THE SEED: the statements are not yours to turn. If you find one false, say at which input.
  Laid BY PROGRAM, IN A SANDBOX (cutbox-rows.mjs): the forced cells as the released guide's own fill.sh prints them over the translation 25e1244024c635e0… (all of the seat's roots in one cut). By AI agents, Wed Nov 11 2026. No macro, syntax, notation, axiom, sorry.
-/
import Derived.Test.YtngciahmoenkiaaChecked
import GoSem.Claim
import GoSem.ClaimJoined
import GoSem.ClaimMapViews
import Derived.JoinedTies
import Derived.KernelRfl
namespace Go.Proofs.Ytngciahmoenkiaa
/- THE CELL 'sum', in the pinned program and in every row, IS THE sha256 OF THE DUMP (.gsa) THAT YtngciahmoenkiaaProg.lean LOADS. Nothing in Lean hashes anything: it is a label: what it is worth is what the hold of that sum in a sandbox is worth. -/
noncomputable def Try.pinned : Pinned := { name := "ytngciahmoenkiaa", sum := "25e1244024c635e0bb1040f749faba00e1744c0d631911e100155defd341d2b5", checked := Try.checked }
namespace Rows
def none {H : Type} : Left H := { results := [], args := [] }

/-- 'peloruslaw15.DecodeCustoms': WHATEVER THE INPUT: true; the input reads as it did. -/
def decodeCustomsSpec : ChangeSpec := { name := "decodeCustoms", fn := fun _ => fun
  | [d1, d2, d3, d4] => { results := [.lit (.bool true)], args := [d1, d2, d3, d4] }
  | _ => none }
def decodeCustomsRow : OpenClaim := { program := "ytngciahmoenkiaa", sum := "25e1244024c635e0bb1040f749faba00e1744c0d631911e100155defd341d2b5", func := "pelorus/peloruslaw15.DecodeCustoms", spec := "decodeCustoms", unfollowed := true, recurses := true, apart := false }
def DecodeCustomsSaid : Prop := decodeCustomsRow.holds Try.pinned (OpenSpec.ofChange decodeCustomsSpec)

/-- ITS FALSE NEIGHBOUR: 'it returns false'. Refute it at one input. -/
def decodeCustomsWrong : ChangeSpec := { name := "decodeCustoms", fn := fun _ => fun
  | [d1, d2, d3, d4] => { results := [.lit (.bool false)], args := [d1, d2, d3, d4] }
  | _ => none }
def DecodeCustomsWrongFalsely : Prop := decodeCustomsRow.holds Try.pinned (OpenSpec.ofChange decodeCustomsWrong)

/-- 'peloruslaw15.DecodeCuts': WHATEVER THE INPUT: true; the input reads as it did. -/
def decodeCutsSpec : ChangeSpec := { name := "decodeCuts", fn := fun _ => fun
  | [d1, d2] => { results := [.lit (.bool true)], args := [d1, d2] }
  | _ => none }
def decodeCutsRow : OpenClaim := { program := "ytngciahmoenkiaa", sum := "25e1244024c635e0bb1040f749faba00e1744c0d631911e100155defd341d2b5", func := "pelorus/peloruslaw15.DecodeCuts", spec := "decodeCuts", unfollowed := true, recurses := true, apart := false }
def DecodeCutsSaid : Prop := decodeCutsRow.holds Try.pinned (OpenSpec.ofChange decodeCutsSpec)

/-- ITS FALSE NEIGHBOUR: 'it returns false'. Refute it at one input. -/
def decodeCutsWrong : ChangeSpec := { name := "decodeCuts", fn := fun _ => fun
  | [d1, d2] => { results := [.lit (.bool false)], args := [d1, d2] }
  | _ => none }
def DecodeCutsWrongFalsely : Prop := decodeCutsRow.holds Try.pinned (OpenSpec.ofChange decodeCutsWrong)

/-- 'peloruslaw15.DecodeRows': WHATEVER THE INPUT: true; the input reads as it did. -/
def decodeRowsSpec : ChangeSpec := { name := "decodeRows", fn := fun _ => fun
  | [d1, d2] => { results := [.lit (.bool true)], args := [d1, d2] }
  | _ => none }
def decodeRowsRow : OpenClaim := { program := "ytngciahmoenkiaa", sum := "25e1244024c635e0bb1040f749faba00e1744c0d631911e100155defd341d2b5", func := "pelorus/peloruslaw15.DecodeRows", spec := "decodeRows", unfollowed := true, recurses := true, apart := false }
def DecodeRowsSaid : Prop := decodeRowsRow.holds Try.pinned (OpenSpec.ofChange decodeRowsSpec)

/-- ITS FALSE NEIGHBOUR: 'it returns false'. Refute it at one input. -/
def decodeRowsWrong : ChangeSpec := { name := "decodeRows", fn := fun _ => fun
  | [d1, d2] => { results := [.lit (.bool false)], args := [d1, d2] }
  | _ => none }
def DecodeRowsWrongFalsely : Prop := decodeRowsRow.holds Try.pinned (OpenSpec.ofChange decodeRowsWrong)

/-- 'peloruslaw15.DecodeTypes': WHATEVER THE INPUT: true; the input reads as it did. -/
def decodeTypesSpec : ChangeSpec := { name := "decodeTypes", fn := fun _ => fun
  | [d1, d2, d3] => { results := [.lit (.bool true)], args := [d1, d2, d3] }
  | _ => none }
def decodeTypesRow : OpenClaim := { program := "ytngciahmoenkiaa", sum := "25e1244024c635e0bb1040f749faba00e1744c0d631911e100155defd341d2b5", func := "pelorus/peloruslaw15.DecodeTypes", spec := "decodeTypes", unfollowed := true, recurses := true, apart := false }
def DecodeTypesSaid : Prop := decodeTypesRow.holds Try.pinned (OpenSpec.ofChange decodeTypesSpec)

/-- ITS FALSE NEIGHBOUR: 'it returns false'. Refute it at one input. -/
def decodeTypesWrong : ChangeSpec := { name := "decodeTypes", fn := fun _ => fun
  | [d1, d2, d3] => { results := [.lit (.bool false)], args := [d1, d2, d3] }
  | _ => none }
def DecodeTypesWrongFalsely : Prop := decodeTypesRow.holds Try.pinned (OpenSpec.ofChange decodeTypesWrong)

/-- 'peloruslaw15.DecodeLimits': WHATEVER THE INPUT: true; the input reads as it did. -/
def decodeLimitsSpec : ChangeSpec := { name := "decodeLimits", fn := fun _ => fun
  | [d1, d2, d3] => { results := [.lit (.bool true)], args := [d1, d2, d3] }
  | _ => none }
def decodeLimitsRow : OpenClaim := { program := "ytngciahmoenkiaa", sum := "25e1244024c635e0bb1040f749faba00e1744c0d631911e100155defd341d2b5", func := "pelorus/peloruslaw15.DecodeLimits", spec := "decodeLimits", unfollowed := true, recurses := true, apart := false }
def DecodeLimitsSaid : Prop := decodeLimitsRow.holds Try.pinned (OpenSpec.ofChange decodeLimitsSpec)

/-- ITS FALSE NEIGHBOUR: 'it returns false'. Refute it at one input. -/
def decodeLimitsWrong : ChangeSpec := { name := "decodeLimits", fn := fun _ => fun
  | [d1, d2, d3] => { results := [.lit (.bool false)], args := [d1, d2, d3] }
  | _ => none }
def DecodeLimitsWrongFalsely : Prop := decodeLimitsRow.holds Try.pinned (OpenSpec.ofChange decodeLimitsWrong)

/- THE SECOND FORM. 'bulk': how many values and letters a reading holds, each counted each time it is reached (what is shared counts as often as it is met; a slice's spare places count too). A statement '..UptoSaid' is the law's where the arguments, and the package variables that the reading takes, are together of bulk at most 1048576: NARROWER than '..Said'. Prove '..Said' where nothing that the law and all that it calls make is longer than what came in: it says more and counts as full. Else prove '..UptoSaid'. A law counts once. -/
mutual
def uptoBulk {H : Type} : DataW H → Nat
  | .lit (.string bytes) => bytes.length + 1
  | .lit _ => 1
  | .nil => 1
  | .ptr d => uptoBulk d + 1
  | .slice elems spare => uptoBulkAll elems + uptoBulkAll spare + 1
  | .agg parts => uptoBulkAll parts + 1
  | .iface _ d => uptoBulk d + 1
  | .map entries => uptoBulkEntries entries + 1
  | .held _ => 1
def uptoBulkAll {H : Type} : List (DataW H) → Nat
  | [] => 0
  | d :: r => uptoBulk d + uptoBulkAll r
def uptoBulkEntries {H : Type} : List (Lit × DataW H) → Nat
  | [] => 0
  | x :: r => uptoBulkEntry x + uptoBulkEntries r
def uptoBulkEntry {H : Type} : Lit × DataW H → Nat
  | (.string bytes, d) => bytes.length + uptoBulk d + 1
  | (_, d) => uptoBulk d + 1
 end
def uptoSmall : (H : Type) → List (DataW H) → Bool := fun _ ds => decide (uptoBulkAll ds ≤ 1048576)
def OpenSpec.upto (s : _root_.Go.ChangeSpec) : _root_.Go.OpenSpec := { _root_.Go.OpenSpec.ofChange s with cond := some uptoSmall }

/-- 'peloruslaw15.DecodeCustoms', WHERE WHAT IT READS IS OF BULK AT MOST 1048576: true; the input reads as it did. -/
def decodeCustomsUptoRow : OpenClaim := { program := "ytngciahmoenkiaa", sum := "25e1244024c635e0bb1040f749faba00e1744c0d631911e100155defd341d2b5", func := "pelorus/peloruslaw15.DecodeCustoms", spec := "decodeCustoms", unfollowed := true, recurses := true, apart := false, narrowed := true }
def DecodeCustomsUptoSaid : Prop := decodeCustomsUptoRow.holds Try.pinned (OpenSpec.upto decodeCustomsSpec)

/-- 'peloruslaw15.DecodeCuts', WHERE WHAT IT READS IS OF BULK AT MOST 1048576: true; the input reads as it did. -/
def decodeCutsUptoRow : OpenClaim := { program := "ytngciahmoenkiaa", sum := "25e1244024c635e0bb1040f749faba00e1744c0d631911e100155defd341d2b5", func := "pelorus/peloruslaw15.DecodeCuts", spec := "decodeCuts", unfollowed := true, recurses := true, apart := false, narrowed := true }
def DecodeCutsUptoSaid : Prop := decodeCutsUptoRow.holds Try.pinned (OpenSpec.upto decodeCutsSpec)

/-- 'peloruslaw15.DecodeRows', WHERE WHAT IT READS IS OF BULK AT MOST 1048576: true; the input reads as it did. -/
def decodeRowsUptoRow : OpenClaim := { program := "ytngciahmoenkiaa", sum := "25e1244024c635e0bb1040f749faba00e1744c0d631911e100155defd341d2b5", func := "pelorus/peloruslaw15.DecodeRows", spec := "decodeRows", unfollowed := true, recurses := true, apart := false, narrowed := true }
def DecodeRowsUptoSaid : Prop := decodeRowsUptoRow.holds Try.pinned (OpenSpec.upto decodeRowsSpec)

/-- 'peloruslaw15.DecodeTypes', WHERE WHAT IT READS IS OF BULK AT MOST 1048576: true; the input reads as it did. -/
def decodeTypesUptoRow : OpenClaim := { program := "ytngciahmoenkiaa", sum := "25e1244024c635e0bb1040f749faba00e1744c0d631911e100155defd341d2b5", func := "pelorus/peloruslaw15.DecodeTypes", spec := "decodeTypes", unfollowed := true, recurses := true, apart := false, narrowed := true }
def DecodeTypesUptoSaid : Prop := decodeTypesUptoRow.holds Try.pinned (OpenSpec.upto decodeTypesSpec)

/-- 'peloruslaw15.DecodeLimits', WHERE WHAT IT READS IS OF BULK AT MOST 1048576: true; the input reads as it did. -/
def decodeLimitsUptoRow : OpenClaim := { program := "ytngciahmoenkiaa", sum := "25e1244024c635e0bb1040f749faba00e1744c0d631911e100155defd341d2b5", func := "pelorus/peloruslaw15.DecodeLimits", spec := "decodeLimits", unfollowed := true, recurses := true, apart := false, narrowed := true }
def DecodeLimitsUptoSaid : Prop := decodeLimitsUptoRow.holds Try.pinned (OpenSpec.upto decodeLimitsSpec)

end Rows
end Go.Proofs.Ytngciahmoenkiaa
