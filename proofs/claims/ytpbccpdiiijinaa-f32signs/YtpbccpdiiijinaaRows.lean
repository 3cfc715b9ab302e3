/-
  No cell of these rows narrows 'for every input' (looked for: loops, veiled, ifaces, maps, wideKeys, modest, calm, conditions, laid).
  DERIVED. THE GIVEN ROWS OF THIS SEAT. 6 by the template 'for every input the law returns true; each argument reads behind the call as it read before'; 0 by the template 'total and deterministic' (their statements: YtpbccpdiiijinaaTotals.lean).
  GIVEN WITH THE SEED: the statements are not yours to turn. If you find one false, say at which input.
  Laid BY PROGRAM, IN A SANDBOX (cutbox-rows.mjs): the forced cells as the released guide's own fill.sh prints them over the translation 7e0f0f24b512c25d… (all of the seat's roots in one cut). By AI agents, Wed Nov 11 2026. No macro, syntax, notation, axiom, sorry.
-/
import Derived.Test.YtpbccpdiiijinaaChecked
import GoSem.Claim
import GoSem.ClaimJoined
import GoSem.ClaimMapViews
import Derived.JoinedTies
import Derived.KernelRfl
namespace Go.Proofs.Ytpbccpdiiijinaa
/- THE CELL 'sum', in the pinned program and in every row, IS THE sha256 OF THE DUMP (.gsa) THAT YtpbccpdiiijinaaProg.lean LOADS. Nothing in Lean hashes anything: it is a label: what it is worth is what the hold of that sum in a sandbox is worth. -/
noncomputable def Try.pinned : Pinned := { name := "ytpbccpdiiijinaa", sum := "7e0f0f24b512c25ddfeef544de2f0f11b37e2eab2b14c33ab6853f2d8946bb33", checked := Try.checked }
namespace Rows
def none {H : Type} : Left H := { results := [], args := [] }

/-- 'peloruslaw4.F32All': WHATEVER THE INPUT: true; the input reads as it did. -/
def f32AllSpec : ChangeSpec := { name := "f32All", fn := fun _ => fun
  | [d1, d2, d3] => { results := [.lit (.bool true)], args := [d1, d2, d3] }
  | _ => none }
def f32AllRow : OpenClaim := { program := "ytpbccpdiiijinaa", sum := "7e0f0f24b512c25ddfeef544de2f0f11b37e2eab2b14c33ab6853f2d8946bb33", func := "pelorus/peloruslaw4.F32All", spec := "f32All", inPlace := ["math.Float32frombits", "math.archCeil", "math.archFloor", "math.Float64bits", "math.Float64frombits", "math.archTrunc", "math.RoundToEven", "math.sqrt", "math.Float32bits"], apart := false }
def F32AllSaid : Prop := f32AllRow.holds Try.pinned (OpenSpec.ofChange f32AllSpec)

/-- ITS FALSE NEIGHBOUR: 'it returns false'. Refute it at one input. -/
def f32AllWrong : ChangeSpec := { name := "f32All", fn := fun _ => fun
  | [d1, d2, d3] => { results := [.lit (.bool false)], args := [d1, d2, d3] }
  | _ => none }
def F32AllWrongFalsely : Prop := f32AllRow.holds Try.pinned (OpenSpec.ofChange f32AllWrong)

/-- 'peloruslaw4.F32Each': WHATEVER THE INPUT: true; the input reads as it did. -/
def f32EachSpec : ChangeSpec := { name := "f32Each", fn := fun _ => fun
  | [d1, d2] => { results := [.lit (.bool true)], args := [d1, d2] }
  | _ => none }
def f32EachRow : OpenClaim := { program := "ytpbccpdiiijinaa", sum := "7e0f0f24b512c25ddfeef544de2f0f11b37e2eab2b14c33ab6853f2d8946bb33", func := "pelorus/peloruslaw4.F32Each", spec := "f32Each", inPlace := ["math.Float32frombits", "math.Float32bits", "math.archCeil", "math.archFloor", "math.Float64bits", "math.Float64frombits", "math.archTrunc", "math.RoundToEven", "math.sqrt"], apart := false }
def F32EachSaid : Prop := f32EachRow.holds Try.pinned (OpenSpec.ofChange f32EachSpec)

/-- ITS FALSE NEIGHBOUR: 'it returns false'. Refute it at one input. -/
def f32EachWrong : ChangeSpec := { name := "f32Each", fn := fun _ => fun
  | [d1, d2] => { results := [.lit (.bool false)], args := [d1, d2] }
  | _ => none }
def F32EachWrongFalsely : Prop := f32EachRow.holds Try.pinned (OpenSpec.ofChange f32EachWrong)

/-- 'peloruslaw4.F32Rules': WHATEVER THE INPUT: true; the input reads as it did. -/
def f32RulesSpec : ChangeSpec := { name := "f32Rules", fn := fun _ => fun
  | [d1, d2] => { results := [.lit (.bool true)], args := [d1, d2] }
  | _ => none }
def f32RulesRow : OpenClaim := { program := "ytpbccpdiiijinaa", sum := "7e0f0f24b512c25ddfeef544de2f0f11b37e2eab2b14c33ab6853f2d8946bb33", func := "pelorus/peloruslaw4.F32Rules", spec := "f32Rules", inPlace := ["math.Float32frombits", "math.Float32bits", "math.archCeil", "math.archFloor", "math.Float64bits", "math.Float64frombits", "math.archTrunc", "math.RoundToEven", "math.sqrt"], apart := false }
def F32RulesSaid : Prop := f32RulesRow.holds Try.pinned (OpenSpec.ofChange f32RulesSpec)

/-- ITS FALSE NEIGHBOUR: 'it returns false'. Refute it at one input. -/
def f32RulesWrong : ChangeSpec := { name := "f32Rules", fn := fun _ => fun
  | [d1, d2] => { results := [.lit (.bool false)], args := [d1, d2] }
  | _ => none }
def F32RulesWrongFalsely : Prop := f32RulesRow.holds Try.pinned (OpenSpec.ofChange f32RulesWrong)

/-- 'peloruslaw4.F32Whole': WHATEVER THE INPUT: true; the input reads as it did. -/
def f32WholeSpec : ChangeSpec := { name := "f32Whole", fn := fun _ => fun
  | [d] => { results := [.lit (.bool true)], args := [d] }
  | _ => none }
def f32WholeRow : OpenClaim := { program := "ytpbccpdiiijinaa", sum := "7e0f0f24b512c25ddfeef544de2f0f11b37e2eab2b14c33ab6853f2d8946bb33", func := "pelorus/peloruslaw4.F32Whole", spec := "f32Whole", inPlace := ["math.Float32frombits", "math.Float32bits", "math.archCeil", "math.archFloor", "math.Float64bits", "math.Float64frombits", "math.archTrunc", "math.RoundToEven", "math.sqrt"], apart := false }
def F32WholeSaid : Prop := f32WholeRow.holds Try.pinned (OpenSpec.ofChange f32WholeSpec)

/-- ITS FALSE NEIGHBOUR: 'it returns false'. Refute it at one input. -/
def f32WholeWrong : ChangeSpec := { name := "f32Whole", fn := fun _ => fun
  | [d] => { results := [.lit (.bool false)], args := [d] }
  | _ => none }
def F32WholeWrongFalsely : Prop := f32WholeRow.holds Try.pinned (OpenSpec.ofChange f32WholeWrong)

/-- 'peloruslaw4.F32Order': WHATEVER THE INPUT: true; the input reads as it did. -/
def f32OrderSpec : ChangeSpec := { name := "f32Order", fn := fun _ => fun
  | [d1, d2] => { results := [.lit (.bool true)], args := [d1, d2] }
  | _ => none }
def f32OrderRow : OpenClaim := { program := "ytpbccpdiiijinaa", sum := "7e0f0f24b512c25ddfeef544de2f0f11b37e2eab2b14c33ab6853f2d8946bb33", func := "pelorus/peloruslaw4.F32Order", spec := "f32Order", inPlace := ["math.Float32frombits", "math.Float32bits", "math.archCeil", "math.archFloor", "math.Float64bits", "math.Float64frombits", "math.archTrunc", "math.RoundToEven", "math.sqrt"], apart := false }
def F32OrderSaid : Prop := f32OrderRow.holds Try.pinned (OpenSpec.ofChange f32OrderSpec)

/-- ITS FALSE NEIGHBOUR: 'it returns false'. Refute it at one input. -/
def f32OrderWrong : ChangeSpec := { name := "f32Order", fn := fun _ => fun
  | [d1, d2] => { results := [.lit (.bool false)], args := [d1, d2] }
  | _ => none }
def F32OrderWrongFalsely : Prop := f32OrderRow.holds Try.pinned (OpenSpec.ofChange f32OrderWrong)

/-- 'peloruslaw4.F32Signs': WHATEVER THE INPUT: true; the input reads as it did. -/
def f32SignsSpec : ChangeSpec := { name := "f32Signs", fn := fun _ => fun
  | [d1, d2] => { results := [.lit (.bool true)], args := [d1, d2] }
  | _ => none }
def f32SignsRow : OpenClaim := { program := "ytpbccpdiiijinaa", sum := "7e0f0f24b512c25ddfeef544de2f0f11b37e2eab2b14c33ab6853f2d8946bb33", func := "pelorus/peloruslaw4.F32Signs", spec := "f32Signs", inPlace := ["math.Float32frombits", "math.Float32bits", "math.archCeil", "math.archFloor", "math.Float64bits", "math.Float64frombits", "math.archTrunc", "math.RoundToEven", "math.sqrt"], apart := false }
def F32SignsSaid : Prop := f32SignsRow.holds Try.pinned (OpenSpec.ofChange f32SignsSpec)

/-- ITS FALSE NEIGHBOUR: 'it returns false'. Refute it at one input. -/
def f32SignsWrong : ChangeSpec := { name := "f32Signs", fn := fun _ => fun
  | [d1, d2] => { results := [.lit (.bool false)], args := [d1, d2] }
  | _ => none }
def F32SignsWrongFalsely : Prop := f32SignsRow.holds Try.pinned (OpenSpec.ofChange f32SignsWrong)

/- THE SECOND FORM. 'bulk': how many values and letters a reading holds, each counted each time it is reached (what is shared counts as often as it is met; a slice's spare places count too). A statement '..UptoSaid' is the law's where the arguments, and the package variables that the reading takes, are together of bulk at most 1048576: NARROWER than '..Said'. Prove '..Said' where nothing that the law and all that it calls make is longer than what came in: it says more and counts as full. Else prove '..UptoSaid'. A law counts once. -/
mutual
def uptoBulk {H : Type} : DataW H → Nat
  | .lit (.string bytes) => bytes.length + 1
  | .lit _ => 1
  | .nil => 1
  | .ptr d => uptoBulk d + 1
  | .slice elems spare => uptoBulkAll elems + uptoBulkAll spare + 1
  | .agg parts => uptoBulkAll parts + 1
  | .iface _ d => uptoBulk d + 1
  | .map entries => uptoBulkEntries entries + 1
  | .held _ => 1
def uptoBulkAll {H : Type} : List (DataW H) → Nat
  | [] => 0
  | d :: r => uptoBulk d + uptoBulkAll r
def uptoBulkEntries {H : Type} : List (Lit × DataW H) → Nat
  | [] => 0
  | x :: r => uptoBulkEntry x + uptoBulkEntries r
def uptoBulkEntry {H : Type} : Lit × DataW H → Nat
  | (.string bytes, d) => bytes.length + uptoBulk d + 1
  | (_, d) => uptoBulk d + 1
 end
def uptoSmall : (H : Type) → List (DataW H) → Bool := fun _ ds => decide (uptoBulkAll ds ≤ 1048576)
def OpenSpec.upto (s : _root_.Go.ChangeSpec) : _root_.Go.OpenSpec := { _root_.Go.OpenSpec.ofChange s with cond := some uptoSmall }

/-- 'peloruslaw4.F32All', WHERE WHAT IT READS IS OF BULK AT MOST 1048576: true; the input reads as it did. -/
def f32AllUptoRow : OpenClaim := { program := "ytpbccpdiiijinaa", sum := "7e0f0f24b512c25ddfeef544de2f0f11b37e2eab2b14c33ab6853f2d8946bb33", func := "pelorus/peloruslaw4.F32All", spec := "f32All", inPlace := ["math.Float32frombits", "math.archCeil", "math.archFloor", "math.Float64bits", "math.Float64frombits", "math.archTrunc", "math.RoundToEven", "math.sqrt", "math.Float32bits"], apart := false, narrowed := true }
def F32AllUptoSaid : Prop := f32AllUptoRow.holds Try.pinned (OpenSpec.upto f32AllSpec)

/-- 'peloruslaw4.F32Each', WHERE WHAT IT READS IS OF BULK AT MOST 1048576: true; the input reads as it did. -/
def f32EachUptoRow : OpenClaim := { program := "ytpbccpdiiijinaa", sum := "7e0f0f24b512c25ddfeef544de2f0f11b37e2eab2b14c33ab6853f2d8946bb33", func := "pelorus/peloruslaw4.F32Each", spec := "f32Each", inPlace := ["math.Float32frombits", "math.Float32bits", "math.archCeil", "math.archFloor", "math.Float64bits", "math.Float64frombits", "math.archTrunc", "math.RoundToEven", "math.sqrt"], apart := false, narrowed := true }
def F32EachUptoSaid : Prop := f32EachUptoRow.holds Try.pinned (OpenSpec.upto f32EachSpec)

/-- 'peloruslaw4.F32Rules', WHERE WHAT IT READS IS OF BULK AT MOST 1048576: true; the input reads as it did. -/
def f32RulesUptoRow : OpenClaim := { program := "ytpbccpdiiijinaa", sum := "7e0f0f24b512c25ddfeef544de2f0f11b37e2eab2b14c33ab6853f2d8946bb33", func := "pelorus/peloruslaw4.F32Rules", spec := "f32Rules", inPlace := ["math.Float32frombits", "math.Float32bits", "math.archCeil", "math.archFloor", "math.Float64bits", "math.Float64frombits", "math.archTrunc", "math.RoundToEven", "math.sqrt"], apart := false, narrowed := true }
def F32RulesUptoSaid : Prop := f32RulesUptoRow.holds Try.pinned (OpenSpec.upto f32RulesSpec)

/-- 'peloruslaw4.F32Whole', WHERE WHAT IT READS IS OF BULK AT MOST 1048576: true; the input reads as it did. -/
def f32WholeUptoRow : OpenClaim := { program := "ytpbccpdiiijinaa", sum := "7e0f0f24b512c25ddfeef544de2f0f11b37e2eab2b14c33ab6853f2d8946bb33", func := "pelorus/peloruslaw4.F32Whole", spec := "f32Whole", inPlace := ["math.Float32frombits", "math.Float32bits", "math.archCeil", "math.archFloor", "math.Float64bits", "math.Float64frombits", "math.archTrunc", "math.RoundToEven", "math.sqrt"], apart := false, narrowed := true }
def F32WholeUptoSaid : Prop := f32WholeUptoRow.holds Try.pinned (OpenSpec.upto f32WholeSpec)

/-- 'peloruslaw4.F32Order', WHERE WHAT IT READS IS OF BULK AT MOST 1048576: true; the input reads as it did. -/
def f32OrderUptoRow : OpenClaim := { program := "ytpbccpdiiijinaa", sum := "7e0f0f24b512c25ddfeef544de2f0f11b37e2eab2b14c33ab6853f2d8946bb33", func := "pelorus/peloruslaw4.F32Order", spec := "f32Order", inPlace := ["math.Float32frombits", "math.Float32bits", "math.archCeil", "math.archFloor", "math.Float64bits", "math.Float64frombits", "math.archTrunc", "math.RoundToEven", "math.sqrt"], apart := false, narrowed := true }
def F32OrderUptoSaid : Prop := f32OrderUptoRow.holds Try.pinned (OpenSpec.upto f32OrderSpec)

/-- 'peloruslaw4.F32Signs', WHERE WHAT IT READS IS OF BULK AT MOST 1048576: true; the input reads as it did. -/
def f32SignsUptoRow : OpenClaim := { program := "ytpbccpdiiijinaa", sum := "7e0f0f24b512c25ddfeef544de2f0f11b37e2eab2b14c33ab6853f2d8946bb33", func := "pelorus/peloruslaw4.F32Signs", spec := "f32Signs", inPlace := ["math.Float32frombits", "math.Float32bits", "math.archCeil", "math.archFloor", "math.Float64bits", "math.Float64frombits", "math.archTrunc", "math.RoundToEven", "math.sqrt"], apart := false, narrowed := true }
def F32SignsUptoSaid : Prop := f32SignsUptoRow.holds Try.pinned (OpenSpec.upto f32SignsSpec)

end Rows
end Go.Proofs.Ytpbccpdiiijinaa
