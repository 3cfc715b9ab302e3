/-
  No cell of these rows narrows 'for every input' (looked for: loops, veiled, ifaces, maps, wideKeys, modest, calm, conditions, laid).
  DERIVED. THE GIVEN ROWS OF THIS SEAT. 4 by the template 'for every input the law returns true; each argument reads behind the call as it read before'; 0 by the template 'total and deterministic' (their statements: YtngciahmoenkiabTotals.lean).
  GIVEN WITH THE SEED: the statements are not yours to turn. If you find one false, say at which input.
  Laid BY PROGRAM, IN A SANDBOX (cutbox-rows.mjs): the forced cells as the released guide's own fill.sh prints them over the translation ead062f08a545e1d… (all of the seat's roots in one cut). By AI agents, Wed Nov 11 2026. No macro, syntax, notation, axiom, sorry.
-/
import Derived.Test.YtngciahmoenkiabChecked
import GoSem.Claim
import GoSem.ClaimJoined
import GoSem.ClaimMapViews
import Derived.JoinedTies
import Derived.KernelRfl
namespace Go.Proofs.Ytngciahmoenkiab
/- THE CELL 'sum', in the pinned program and in every row, IS THE sha256 OF THE DUMP (.gsa) THAT YtngciahmoenkiabProg.lean LOADS. Nothing in Lean hashes anything: it is a label: what it is worth is what the hold of that sum in a sandbox is worth. -/
noncomputable def Try.pinned : Pinned := { name := "ytngciahmoenkiab", sum := "ead062f08a545e1d7007faa283b2f4bfba93ddf7a23ba8b46bbcf2b74c186f87", checked := Try.checked }
namespace Rows
def none {H : Type} : Left H := { results := [], args := [] }

/-- 'peloruslaw15.DecodeSizes': WHATEVER THE INPUT: true; the input reads as it did. -/
def decodeSizesSpec : ChangeSpec := { name := "decodeSizes", fn := fun _ => fun
  | [d1, d2] => { results := [.lit (.bool true)], args := [d1, d2] }
  | _ => none }
def decodeSizesRow : OpenClaim := { program := "ytngciahmoenkiab", sum := "ead062f08a545e1d7007faa283b2f4bfba93ddf7a23ba8b46bbcf2b74c186f87", func := "pelorus/peloruslaw15.DecodeSizes", spec := "decodeSizes", unfollowed := true, recurses := true, apart := false }
def DecodeSizesSaid : Prop := decodeSizesRow.holds Try.pinned (OpenSpec.ofChange decodeSizesSpec)

/-- ITS FALSE NEIGHBOUR: 'it returns false'. Refute it at one input. -/
def decodeSizesWrong : ChangeSpec := { name := "decodeSizes", fn := fun _ => fun
  | [d1, d2] => { results := [.lit (.bool false)], args := [d1, d2] }
  | _ => none }
def DecodeSizesWrongFalsely : Prop := decodeSizesRow.holds Try.pinned (OpenSpec.ofChange decodeSizesWrong)

/-- 'peloruslaw15.DecodeLong': WHATEVER THE INPUT: true; the input reads as it did. -/
def decodeLongSpec : ChangeSpec := { name := "decodeLong", fn := fun _ => fun
  | [d1, d2] => { results := [.lit (.bool true)], args := [d1, d2] }
  | _ => none }
def decodeLongRow : OpenClaim := { program := "ytngciahmoenkiab", sum := "ead062f08a545e1d7007faa283b2f4bfba93ddf7a23ba8b46bbcf2b74c186f87", func := "pelorus/peloruslaw15.DecodeLong", spec := "decodeLong", unfollowed := true, recurses := true, apart := false }
def DecodeLongSaid : Prop := decodeLongRow.holds Try.pinned (OpenSpec.ofChange decodeLongSpec)

/-- ITS FALSE NEIGHBOUR: 'it returns false'. Refute it at one input. -/
def decodeLongWrong : ChangeSpec := { name := "decodeLong", fn := fun _ => fun
  | [d1, d2] => { results := [.lit (.bool false)], args := [d1, d2] }
  | _ => none }
def DecodeLongWrongFalsely : Prop := decodeLongRow.holds Try.pinned (OpenSpec.ofChange decodeLongWrong)

/-- 'peloruslaw15.DecodeCounts': WHATEVER THE INPUT: true; the input reads as it did. -/
def decodeCountsSpec : ChangeSpec := { name := "decodeCounts", fn := fun _ => fun
  | [d1, d2] => { results := [.lit (.bool true)], args := [d1, d2] }
  | _ => none }
def decodeCountsRow : OpenClaim := { program := "ytngciahmoenkiab", sum := "ead062f08a545e1d7007faa283b2f4bfba93ddf7a23ba8b46bbcf2b74c186f87", func := "pelorus/peloruslaw15.DecodeCounts", spec := "decodeCounts", unfollowed := true, recurses := true, apart := false }
def DecodeCountsSaid : Prop := decodeCountsRow.holds Try.pinned (OpenSpec.ofChange decodeCountsSpec)

/-- ITS FALSE NEIGHBOUR: 'it returns false'. Refute it at one input. -/
def decodeCountsWrong : ChangeSpec := { name := "decodeCounts", fn := fun _ => fun
  | [d1, d2] => { results := [.lit (.bool false)], args := [d1, d2] }
  | _ => none }
def DecodeCountsWrongFalsely : Prop := decodeCountsRow.holds Try.pinned (OpenSpec.ofChange decodeCountsWrong)

/-- 'peloruslaw15.DecodeLocals': WHATEVER THE INPUT: true; the input reads as it did. -/
def decodeLocalsSpec : ChangeSpec := { name := "decodeLocals", fn := fun _ => fun
  | [d1, d2, d3] => { results := [.lit (.bool true)], args := [d1, d2, d3] }
  | _ => none }
def decodeLocalsRow : OpenClaim := { program := "ytngciahmoenkiab", sum := "ead062f08a545e1d7007faa283b2f4bfba93ddf7a23ba8b46bbcf2b74c186f87", func := "pelorus/peloruslaw15.DecodeLocals", spec := "decodeLocals", unfollowed := true, recurses := true, apart := false }
def DecodeLocalsSaid : Prop := decodeLocalsRow.holds Try.pinned (OpenSpec.ofChange decodeLocalsSpec)

/-- ITS FALSE NEIGHBOUR: 'it returns false'. Refute it at one input. -/
def decodeLocalsWrong : ChangeSpec := { name := "decodeLocals", fn := fun _ => fun
  | [d1, d2, d3] => { results := [.lit (.bool false)], args := [d1, d2, d3] }
  | _ => none }
def DecodeLocalsWrongFalsely : Prop := decodeLocalsRow.holds Try.pinned (OpenSpec.ofChange decodeLocalsWrong)

/- THE SECOND FORM. 'bulk': how many values and letters a reading holds, each counted each time it is reached (what is shared counts as often as it is met; a slice's spare places count too). A statement '..UptoSaid' is the law's where the arguments, and the package variables that the reading takes, are together of bulk at most 1048576: NARROWER than '..Said'. Prove '..Said' where nothing that the law and all that it calls make is longer than what came in: it says more and counts as full. Else prove '..UptoSaid'. A law counts once. -/
mutual
def uptoBulk {H : Type} : DataW H → Nat
  | .lit (.string bytes) => bytes.length + 1
  | .lit _ => 1
  | .nil => 1
  | .ptr d => uptoBulk d + 1
  | .slice elems spare => uptoBulkAll elems + uptoBulkAll spare + 1
  | .agg parts => uptoBulkAll parts + 1
  | .iface _ d => uptoBulk d + 1
  | .map entries => uptoBulkEntries entries + 1
  | .held _ => 1
def uptoBulkAll {H : Type} : List (DataW H) → Nat
  | [] => 0
  | d :: r => uptoBulk d + uptoBulkAll r
def uptoBulkEntries {H : Type} : List (Lit × DataW H) → Nat
  | [] => 0
  | x :: r => uptoBulkEntry x + uptoBulkEntries r
def uptoBulkEntry {H : Type} : Lit × DataW H → Nat
  | (.string bytes, d) => bytes.length + uptoBulk d + 1
  | (_, d) => uptoBulk d + 1
 end
def uptoSmall : (H : Type) → List (DataW H) → Bool := fun _ ds => decide (uptoBulkAll ds ≤ 1048576)
def OpenSpec.upto (s : _root_.Go.ChangeSpec) : _root_.Go.OpenSpec := { _root_.Go.OpenSpec.ofChange s with cond := some uptoSmall }

/-- 'peloruslaw15.DecodeSizes', WHERE WHAT IT READS IS OF BULK AT MOST 1048576: true; the input reads as it did. -/
def decodeSizesUptoRow : OpenClaim := { program := "ytngciahmoenkiab", sum := "ead062f08a545e1d7007faa283b2f4bfba93ddf7a23ba8b46bbcf2b74c186f87", func := "pelorus/peloruslaw15.DecodeSizes", spec := "decodeSizes", unfollowed := true, recurses := true, apart := false, narrowed := true }
def DecodeSizesUptoSaid : Prop := decodeSizesUptoRow.holds Try.pinned (OpenSpec.upto decodeSizesSpec)

/-- 'peloruslaw15.DecodeLong', WHERE WHAT IT READS IS OF BULK AT MOST 1048576: true; the input reads as it did. -/
def decodeLongUptoRow : OpenClaim := { program := "ytngciahmoenkiab", sum := "ead062f08a545e1d7007faa283b2f4bfba93ddf7a23ba8b46bbcf2b74c186f87", func := "pelorus/peloruslaw15.DecodeLong", spec := "decodeLong", unfollowed := true, recurses := true, apart := false, narrowed := true }
def DecodeLongUptoSaid : Prop := decodeLongUptoRow.holds Try.pinned (OpenSpec.upto decodeLongSpec)

/-- 'peloruslaw15.DecodeCounts', WHERE WHAT IT READS IS OF BULK AT MOST 1048576: true; the input reads as it did. -/
def decodeCountsUptoRow : OpenClaim := { program := "ytngciahmoenkiab", sum := "ead062f08a545e1d7007faa283b2f4bfba93ddf7a23ba8b46bbcf2b74c186f87", func := "pelorus/peloruslaw15.DecodeCounts", spec := "decodeCounts", unfollowed := true, recurses := true, apart := false, narrowed := true }
def DecodeCountsUptoSaid : Prop := decodeCountsUptoRow.holds Try.pinned (OpenSpec.upto decodeCountsSpec)

/-- 'peloruslaw15.DecodeLocals', WHERE WHAT IT READS IS OF BULK AT MOST 1048576: true; the input reads as it did. -/
def decodeLocalsUptoRow : OpenClaim := { program := "ytngciahmoenkiab", sum := "ead062f08a545e1d7007faa283b2f4bfba93ddf7a23ba8b46bbcf2b74c186f87", func := "pelorus/peloruslaw15.DecodeLocals", spec := "decodeLocals", unfollowed := true, recurses := true, apart := false, narrowed := true }
def DecodeLocalsUptoSaid : Prop := decodeLocalsUptoRow.holds Try.pinned (OpenSpec.upto decodeLocalsSpec)

end Rows
end Go.Proofs.Ytngciahmoenkiab
