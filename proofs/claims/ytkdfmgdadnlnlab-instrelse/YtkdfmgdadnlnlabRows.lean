/-
  No cell of these rows narrows 'for every input' (looked for: loops, veiled, ifaces, maps, wideKeys, modest, calm, conditions, laid).
  DERIVED. THE GIVEN ROWS OF THIS SEAT. 4 by the template 'for every input the law returns true; each argument reads behind the call as it read before'; 0 by the template 'total and deterministic' (their statements: YtkdfmgdadnlnlabTotals.lean).
  GIVEN WITH THE SEED: the statements are not yours to turn. If you find one false, say at which input.
  Laid BY PROGRAM, IN A SANDBOX (cutbox-rows.mjs): the forced cells as the released guide's own fill.sh prints them over the translation cd305163b56cee39… (all of the seat's roots in one cut). By AI agents, Wed Nov 11 2026. No macro, syntax, notation, axiom, sorry.
-/
import Derived.Test.YtkdfmgdadnlnlabChecked
import GoSem.Claim
import GoSem.ClaimJoined
import GoSem.ClaimMapViews
import Derived.JoinedTies
import Derived.KernelRfl
namespace Go.Proofs.Ytkdfmgdadnlnlab
/- THE CELL 'sum', in the pinned program and in every row, IS THE sha256 OF THE DUMP (.gsa) THAT YtkdfmgdadnlnlabProg.lean LOADS. Nothing in Lean hashes anything: it is a label: what it is worth is what the hold of that sum in a sandbox is worth. -/
noncomputable def Try.pinned : Pinned := { name := "ytkdfmgdadnlnlab", sum := "cd305163b56cee39a15a0349879e743ff842f21d81f1fbe33fddee73308115f3", checked := Try.checked }
namespace Rows
def none {H : Type} : Left H := { results := [], args := [] }

/-- 'peloruslaw14.InstrFields': WHATEVER THE INPUT: true; the input reads as it did. -/
def instrFieldsSpec : ChangeSpec := { name := "instrFields", fn := fun _ => fun
  | [d1, d2] => { results := [.lit (.bool true)], args := [d1, d2] }
  | _ => none }
def instrFieldsRow : OpenClaim := { program := "ytkdfmgdadnlnlab", sum := "cd305163b56cee39a15a0349879e743ff842f21d81f1fbe33fddee73308115f3", func := "pelorus/peloruslaw14.InstrFields", spec := "instrFields", unfollowed := true, recurses := true, apart := false }
def InstrFieldsSaid : Prop := instrFieldsRow.holds Try.pinned (OpenSpec.ofChange instrFieldsSpec)

/-- ITS FALSE NEIGHBOUR: 'it returns false'. Refute it at one input. -/
def instrFieldsWrong : ChangeSpec := { name := "instrFields", fn := fun _ => fun
  | [d1, d2] => { results := [.lit (.bool false)], args := [d1, d2] }
  | _ => none }
def InstrFieldsWrongFalsely : Prop := instrFieldsRow.holds Try.pinned (OpenSpec.ofChange instrFieldsWrong)

/-- 'peloruslaw14.InstrConsts': WHATEVER THE INPUT: true; the input reads as it did. -/
def instrConstsSpec : ChangeSpec := { name := "instrConsts", fn := fun _ => fun
  | [d] => { results := [.lit (.bool true)], args := [d] }
  | _ => none }
def instrConstsRow : OpenClaim := { program := "ytkdfmgdadnlnlab", sum := "cd305163b56cee39a15a0349879e743ff842f21d81f1fbe33fddee73308115f3", func := "pelorus/peloruslaw14.InstrConsts", spec := "instrConsts", unfollowed := true, recurses := true, apart := false }
def InstrConstsSaid : Prop := instrConstsRow.holds Try.pinned (OpenSpec.ofChange instrConstsSpec)

/-- ITS FALSE NEIGHBOUR: 'it returns false'. Refute it at one input. -/
def instrConstsWrong : ChangeSpec := { name := "instrConsts", fn := fun _ => fun
  | [d] => { results := [.lit (.bool false)], args := [d] }
  | _ => none }
def InstrConstsWrongFalsely : Prop := instrConstsRow.holds Try.pinned (OpenSpec.ofChange instrConstsWrong)

/-- 'peloruslaw14.InstrLabels': WHATEVER THE INPUT: true; the input reads as it did. -/
def instrLabelsSpec : ChangeSpec := { name := "instrLabels", fn := fun _ => fun
  | [d] => { results := [.lit (.bool true)], args := [d] }
  | _ => none }
def instrLabelsRow : OpenClaim := { program := "ytkdfmgdadnlnlab", sum := "cd305163b56cee39a15a0349879e743ff842f21d81f1fbe33fddee73308115f3", func := "pelorus/peloruslaw14.InstrLabels", spec := "instrLabels", unfollowed := true, recurses := true, apart := false }
def InstrLabelsSaid : Prop := instrLabelsRow.holds Try.pinned (OpenSpec.ofChange instrLabelsSpec)

/-- ITS FALSE NEIGHBOUR: 'it returns false'. Refute it at one input. -/
def instrLabelsWrong : ChangeSpec := { name := "instrLabels", fn := fun _ => fun
  | [d] => { results := [.lit (.bool false)], args := [d] }
  | _ => none }
def InstrLabelsWrongFalsely : Prop := instrLabelsRow.holds Try.pinned (OpenSpec.ofChange instrLabelsWrong)

/-- 'peloruslaw14.InstrElse': WHATEVER THE INPUT: true; the input reads as it did. -/
def instrElseSpec : ChangeSpec := { name := "instrElse", fn := fun _ => fun
  | [d] => { results := [.lit (.bool true)], args := [d] }
  | _ => none }
def instrElseRow : OpenClaim := { program := "ytkdfmgdadnlnlab", sum := "cd305163b56cee39a15a0349879e743ff842f21d81f1fbe33fddee73308115f3", func := "pelorus/peloruslaw14.InstrElse", spec := "instrElse", unfollowed := true, recurses := true, apart := false }
def InstrElseSaid : Prop := instrElseRow.holds Try.pinned (OpenSpec.ofChange instrElseSpec)

/-- ITS FALSE NEIGHBOUR: 'it returns false'. Refute it at one input. -/
def instrElseWrong : ChangeSpec := { name := "instrElse", fn := fun _ => fun
  | [d] => { results := [.lit (.bool false)], args := [d] }
  | _ => none }
def InstrElseWrongFalsely : Prop := instrElseRow.holds Try.pinned (OpenSpec.ofChange instrElseWrong)

/- THE SECOND FORM. 'bulk': how many values and letters a reading holds, each counted each time it is reached (what is shared counts as often as it is met; a slice's spare places count too). A statement '..UptoSaid' is the law's where the arguments, and the package variables that the reading takes, are together of bulk at most 1048576: NARROWER than '..Said'. Prove '..Said' where nothing that the law and all that it calls make is longer than what came in: it says more and counts as full. Else prove '..UptoSaid'. A law counts once. -/
mutual
def uptoBulk {H : Type} : DataW H → Nat
  | .lit (.string bytes) => bytes.length + 1
  | .lit _ => 1
  | .nil => 1
  | .ptr d => uptoBulk d + 1
  | .slice elems spare => uptoBulkAll elems + uptoBulkAll spare + 1
  | .agg parts => uptoBulkAll parts + 1
  | .iface _ d => uptoBulk d + 1
  | .map entries => uptoBulkEntries entries + 1
  | .held _ => 1
def uptoBulkAll {H : Type} : List (DataW H) → Nat
  | [] => 0
  | d :: r => uptoBulk d + uptoBulkAll r
def uptoBulkEntries {H : Type} : List (Lit × DataW H) → Nat
  | [] => 0
  | x :: r => uptoBulkEntry x + uptoBulkEntries r
def uptoBulkEntry {H : Type} : Lit × DataW H → Nat
  | (.string bytes, d) => bytes.length + uptoBulk d + 1
  | (_, d) => uptoBulk d + 1
 end
def uptoSmall : (H : Type) → List (DataW H) → Bool := fun _ ds => decide (uptoBulkAll ds ≤ 1048576)
def OpenSpec.upto (s : _root_.Go.ChangeSpec) : _root_.Go.OpenSpec := { _root_.Go.OpenSpec.ofChange s with cond := some uptoSmall }

/-- 'peloruslaw14.InstrFields', WHERE WHAT IT READS IS OF BULK AT MOST 1048576: true; the input reads as it did. -/
def instrFieldsUptoRow : OpenClaim := { program := "ytkdfmgdadnlnlab", sum := "cd305163b56cee39a15a0349879e743ff842f21d81f1fbe33fddee73308115f3", func := "pelorus/peloruslaw14.InstrFields", spec := "instrFields", unfollowed := true, recurses := true, apart := false, narrowed := true }
def InstrFieldsUptoSaid : Prop := instrFieldsUptoRow.holds Try.pinned (OpenSpec.upto instrFieldsSpec)

/-- 'peloruslaw14.InstrConsts', WHERE WHAT IT READS IS OF BULK AT MOST 1048576: true; the input reads as it did. -/
def instrConstsUptoRow : OpenClaim := { program := "ytkdfmgdadnlnlab", sum := "cd305163b56cee39a15a0349879e743ff842f21d81f1fbe33fddee73308115f3", func := "pelorus/peloruslaw14.InstrConsts", spec := "instrConsts", unfollowed := true, recurses := true, apart := false, narrowed := true }
def InstrConstsUptoSaid : Prop := instrConstsUptoRow.holds Try.pinned (OpenSpec.upto instrConstsSpec)

/-- 'peloruslaw14.InstrLabels', WHERE WHAT IT READS IS OF BULK AT MOST 1048576: true; the input reads as it did. -/
def instrLabelsUptoRow : OpenClaim := { program := "ytkdfmgdadnlnlab", sum := "cd305163b56cee39a15a0349879e743ff842f21d81f1fbe33fddee73308115f3", func := "pelorus/peloruslaw14.InstrLabels", spec := "instrLabels", unfollowed := true, recurses := true, apart := false, narrowed := true }
def InstrLabelsUptoSaid : Prop := instrLabelsUptoRow.holds Try.pinned (OpenSpec.upto instrLabelsSpec)

/-- 'peloruslaw14.InstrElse', WHERE WHAT IT READS IS OF BULK AT MOST 1048576: true; the input reads as it did. -/
def instrElseUptoRow : OpenClaim := { program := "ytkdfmgdadnlnlab", sum := "cd305163b56cee39a15a0349879e743ff842f21d81f1fbe33fddee73308115f3", func := "pelorus/peloruslaw14.InstrElse", spec := "instrElse", unfollowed := true, recurses := true, apart := false, narrowed := true }
def InstrElseUptoSaid : Prop := instrElseUptoRow.holds Try.pinned (OpenSpec.upto instrElseSpec)

end Rows
end Go.Proofs.Ytkdfmgdadnlnlab
