/-
  No cell of these rows narrows 'for every input' (looked for: loops, veiled, ifaces, maps, wideKeys, modest, calm, conditions, laid).
  DERIVED. THE GIVEN ROWS OF THIS SEAT. 3 by the template 'for every input the law returns true; each argument reads behind the call as it read before'; 0 by the template 'total and deterministic' (their statements: YtlckiipkndipiaaTotals.lean).
  GIVEN WITH THE SEED: the statements are not yours to turn. If you find one false, say at which input.
  Laid BY PROGRAM, IN A SANDBOX (cutbox-rows.mjs): the forced cells as the released guide's own fill.sh prints them over the translation aa27ec2d67507e25… (all of the seat's roots in one cut). By AI agents, Wed Nov 11 2026. No macro, syntax, notation, axiom, sorry.
-/
import Derived.Test.YtlckiipkndipiaaChecked
import GoSem.Claim
import GoSem.ClaimJoined
import GoSem.ClaimMapViews
import Derived.JoinedTies
import Derived.KernelRfl
namespace Go.Proofs.Ytlckiipkndipiaa
/- THE CELL 'sum', in the pinned program and in every row, IS THE sha256 OF THE DUMP (.gsa) THAT YtlckiipkndipiaaProg.lean LOADS. Nothing in Lean hashes anything: it is a label: what it is worth is what the hold of that sum in a sandbox is worth. -/
noncomputable def Try.pinned : Pinned := { name := "ytlckiipkndipiaa", sum := "aa27ec2d67507e25e688123a71b61d7800038c88abd26b0ad904847becca6622", checked := Try.checked }
namespace Rows
def none {H : Type} : Left H := { results := [], args := [] }

/-- 'peloruslaw11.TraceActs': WHATEVER THE INPUT: true; the input reads as it did. -/
def traceActsSpec : ChangeSpec := { name := "traceActs", fn := fun _ => fun
  | [d1, d2] => { results := [.lit (.bool true)], args := [d1, d2] }
  | _ => none }
def traceActsRow : OpenClaim := { program := "ytlckiipkndipiaa", sum := "aa27ec2d67507e25e688123a71b61d7800038c88abd26b0ad904847becca6622", func := "pelorus/peloruslaw11.TraceActs", spec := "traceActs", unfollowed := true, recurses := true, apart := false }
def TraceActsSaid : Prop := traceActsRow.holds Try.pinned (OpenSpec.ofChange traceActsSpec)

/-- ITS FALSE NEIGHBOUR: 'it returns false'. Refute it at one input. -/
def traceActsWrong : ChangeSpec := { name := "traceActs", fn := fun _ => fun
  | [d1, d2] => { results := [.lit (.bool false)], args := [d1, d2] }
  | _ => none }
def TraceActsWrongFalsely : Prop := traceActsRow.holds Try.pinned (OpenSpec.ofChange traceActsWrong)

/-- 'peloruslaw11.TraceOrder': WHATEVER THE INPUT: true; the input reads as it did. -/
def traceOrderSpec : ChangeSpec := { name := "traceOrder", fn := fun _ => fun
  | [d1, d2] => { results := [.lit (.bool true)], args := [d1, d2] }
  | _ => none }
def traceOrderRow : OpenClaim := { program := "ytlckiipkndipiaa", sum := "aa27ec2d67507e25e688123a71b61d7800038c88abd26b0ad904847becca6622", func := "pelorus/peloruslaw11.TraceOrder", spec := "traceOrder", unfollowed := true, recurses := true, apart := false }
def TraceOrderSaid : Prop := traceOrderRow.holds Try.pinned (OpenSpec.ofChange traceOrderSpec)

/-- ITS FALSE NEIGHBOUR: 'it returns false'. Refute it at one input. -/
def traceOrderWrong : ChangeSpec := { name := "traceOrder", fn := fun _ => fun
  | [d1, d2] => { results := [.lit (.bool false)], args := [d1, d2] }
  | _ => none }
def TraceOrderWrongFalsely : Prop := traceOrderRow.holds Try.pinned (OpenSpec.ofChange traceOrderWrong)

/-- 'peloruslaw11.TraceTypes': WHATEVER THE INPUT: true; the input reads as it did. -/
def traceTypesSpec : ChangeSpec := { name := "traceTypes", fn := fun _ => fun
  | [d1, d2, d3] => { results := [.lit (.bool true)], args := [d1, d2, d3] }
  | _ => none }
def traceTypesRow : OpenClaim := { program := "ytlckiipkndipiaa", sum := "aa27ec2d67507e25e688123a71b61d7800038c88abd26b0ad904847becca6622", func := "pelorus/peloruslaw11.TraceTypes", spec := "traceTypes", unfollowed := true, recurses := true, apart := false }
def TraceTypesSaid : Prop := traceTypesRow.holds Try.pinned (OpenSpec.ofChange traceTypesSpec)

/-- ITS FALSE NEIGHBOUR: 'it returns false'. Refute it at one input. -/
def traceTypesWrong : ChangeSpec := { name := "traceTypes", fn := fun _ => fun
  | [d1, d2, d3] => { results := [.lit (.bool false)], args := [d1, d2, d3] }
  | _ => none }
def TraceTypesWrongFalsely : Prop := traceTypesRow.holds Try.pinned (OpenSpec.ofChange traceTypesWrong)

/- THE SECOND FORM. 'bulk': how many values and letters a reading holds, each counted each time it is reached (what is shared counts as often as it is met; a slice's spare places count too). A statement '..UptoSaid' is the law's where the arguments, and the package variables that the reading takes, are together of bulk at most 1048576: NARROWER than '..Said'. Prove '..Said' where nothing that the law and all that it calls make is longer than what came in: it says more and counts as full. Else prove '..UptoSaid'. A law counts once. -/
mutual
def uptoBulk {H : Type} : DataW H → Nat
  | .lit (.string bytes) => bytes.length + 1
  | .lit _ => 1
  | .nil => 1
  | .ptr d => uptoBulk d + 1
  | .slice elems spare => uptoBulkAll elems + uptoBulkAll spare + 1
  | .agg parts => uptoBulkAll parts + 1
  | .iface _ d => uptoBulk d + 1
  | .map entries => uptoBulkEntries entries + 1
  | .held _ => 1
def uptoBulkAll {H : Type} : List (DataW H) → Nat
  | [] => 0
  | d :: r => uptoBulk d + uptoBulkAll r
def uptoBulkEntries {H : Type} : List (Lit × DataW H) → Nat
  | [] => 0
  | x :: r => uptoBulkEntry x + uptoBulkEntries r
def uptoBulkEntry {H : Type} : Lit × DataW H → Nat
  | (.string bytes, d) => bytes.length + uptoBulk d + 1
  | (_, d) => uptoBulk d + 1
 end
def uptoSmall : (H : Type) → List (DataW H) → Bool := fun _ ds => decide (uptoBulkAll ds ≤ 1048576)
def OpenSpec.upto (s : _root_.Go.ChangeSpec) : _root_.Go.OpenSpec := { _root_.Go.OpenSpec.ofChange s with cond := some uptoSmall }

/-- 'peloruslaw11.TraceActs', WHERE WHAT IT READS IS OF BULK AT MOST 1048576: true; the input reads as it did. -/
def traceActsUptoRow : OpenClaim := { program := "ytlckiipkndipiaa", sum := "aa27ec2d67507e25e688123a71b61d7800038c88abd26b0ad904847becca6622", func := "pelorus/peloruslaw11.TraceActs", spec := "traceActs", unfollowed := true, recurses := true, apart := false, narrowed := true }
def TraceActsUptoSaid : Prop := traceActsUptoRow.holds Try.pinned (OpenSpec.upto traceActsSpec)

/-- 'peloruslaw11.TraceOrder', WHERE WHAT IT READS IS OF BULK AT MOST 1048576: true; the input reads as it did. -/
def traceOrderUptoRow : OpenClaim := { program := "ytlckiipkndipiaa", sum := "aa27ec2d67507e25e688123a71b61d7800038c88abd26b0ad904847becca6622", func := "pelorus/peloruslaw11.TraceOrder", spec := "traceOrder", unfollowed := true, recurses := true, apart := false, narrowed := true }
def TraceOrderUptoSaid : Prop := traceOrderUptoRow.holds Try.pinned (OpenSpec.upto traceOrderSpec)

/-- 'peloruslaw11.TraceTypes', WHERE WHAT IT READS IS OF BULK AT MOST 1048576: true; the input reads as it did. -/
def traceTypesUptoRow : OpenClaim := { program := "ytlckiipkndipiaa", sum := "aa27ec2d67507e25e688123a71b61d7800038c88abd26b0ad904847becca6622", func := "pelorus/peloruslaw11.TraceTypes", spec := "traceTypes", unfollowed := true, recurses := true, apart := false, narrowed := true }
def TraceTypesUptoSaid : Prop := traceTypesUptoRow.holds Try.pinned (OpenSpec.upto traceTypesSpec)

end Rows
end Go.Proofs.Ytlckiipkndipiaa
