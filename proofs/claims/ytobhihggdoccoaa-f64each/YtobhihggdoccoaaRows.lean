/-
  No cell of these rows narrows 'for every input' (looked for: loops, veiled, ifaces, maps, wideKeys, modest, calm, conditions, laid).
  DERIVED. THE GIVEN ROWS OF THIS SEAT. 6 by the template 'for every input the law returns true; each argument reads behind the call as it read before'; 0 by the template 'total and deterministic' (their statements: YtobhihggdoccoaaTotals.lean).
  GIVEN WITH THE SEED: the statements are not yours to turn. If you find one false, say at which input.
  Laid BY PROGRAM, IN A SANDBOX (cutbox-rows.mjs): the forced cells as the released guide's own fill.sh prints them over the translation 8f941f8dfb74bf19… (all of the seat's roots in one cut). By AI agents, Wed Nov 11 2026. No macro, syntax, notation, axiom, sorry.
-/
import Derived.Test.YtobhihggdoccoaaChecked
import GoSem.Claim
import GoSem.ClaimJoined
import GoSem.ClaimMapViews
import Derived.JoinedTies
import Derived.KernelRfl
namespace Go.Proofs.Ytobhihggdoccoaa
/- THE CELL 'sum', in the pinned program and in every row, IS THE sha256 OF THE DUMP (.gsa) THAT YtobhihggdoccoaaProg.lean LOADS. Nothing in Lean hashes anything: it is a label: what it is worth is what the hold of that sum in a sandbox is worth. -/
noncomputable def Try.pinned : Pinned := { name := "ytobhihggdoccoaa", sum := "8f941f8dfb74bf19b762d7b3817e51c7a9467f481f6d1486639a3e6ec649f855", checked := Try.checked }
namespace Rows
def none {H : Type} : Left H := { results := [], args := [] }

/-- 'peloruslaw4.F32All': WHATEVER THE INPUT: true; the input reads as it did. -/
def f32AllSpec : ChangeSpec := { name := "f32All", fn := fun _ => fun
  | [d1, d2, d3] => { results := [.lit (.bool true)], args := [d1, d2, d3] }
  | _ => none }
def f32AllRow : OpenClaim := { program := "ytobhihggdoccoaa", sum := "8f941f8dfb74bf19b762d7b3817e51c7a9467f481f6d1486639a3e6ec649f855", func := "pelorus/peloruslaw4.F32All", spec := "f32All", inPlace := ["math.Float32frombits", "math.archCeil", "math.archFloor", "math.Float64bits", "math.Float64frombits", "math.archTrunc", "math.RoundToEven", "math.sqrt", "math.Float32bits"], apart := false }
def F32AllSaid : Prop := f32AllRow.holds Try.pinned (OpenSpec.ofChange f32AllSpec)

/-- ITS FALSE NEIGHBOUR: 'it returns false'. Refute it at one input. -/
def f32AllWrong : ChangeSpec := { name := "f32All", fn := fun _ => fun
  | [d1, d2, d3] => { results := [.lit (.bool false)], args := [d1, d2, d3] }
  | _ => none }
def F32AllWrongFalsely : Prop := f32AllRow.holds Try.pinned (OpenSpec.ofChange f32AllWrong)

/-- 'peloruslaw4.F32Each': WHATEVER THE INPUT: true; the input reads as it did. -/
def f32EachSpec : ChangeSpec := { name := "f32Each", fn := fun _ => fun
  | [d1, d2] => { results := [.lit (.bool true)], args := [d1, d2] }
  | _ => none }
def f32EachRow : OpenClaim := { program := "ytobhihggdoccoaa", sum := "8f941f8dfb74bf19b762d7b3817e51c7a9467f481f6d1486639a3e6ec649f855", func := "pelorus/peloruslaw4.F32Each", spec := "f32Each", inPlace := ["math.Float32frombits", "math.Float32bits", "math.archCeil", "math.archFloor", "math.Float64bits", "math.Float64frombits", "math.archTrunc", "math.RoundToEven", "math.sqrt"], apart := false }
def F32EachSaid : Prop := f32EachRow.holds Try.pinned (OpenSpec.ofChange f32EachSpec)

/-- ITS FALSE NEIGHBOUR: 'it returns false'. Refute it at one input. -/
def f32EachWrong : ChangeSpec := { name := "f32Each", fn := fun _ => fun
  | [d1, d2] => { results := [.lit (.bool false)], args := [d1, d2] }
  | _ => none }
def F32EachWrongFalsely : Prop := f32EachRow.holds Try.pinned (OpenSpec.ofChange f32EachWrong)

/-- 'peloruslaw5.F64All': WHATEVER THE INPUT: true; the input reads as it did. -/
def f64AllSpec : ChangeSpec := { name := "f64All", fn := fun _ => fun
  | [d1, d2, d3] => { results := [.lit (.bool true)], args := [d1, d2, d3] }
  | _ => none }
def f64AllRow : OpenClaim := { program := "ytobhihggdoccoaa", sum := "8f941f8dfb74bf19b762d7b3817e51c7a9467f481f6d1486639a3e6ec649f855", func := "pelorus/peloruslaw5.F64All", spec := "f64All", inPlace := ["math.Float64frombits", "math.archCeil", "math.archFloor", "math.Float64bits", "math.archTrunc", "math.RoundToEven", "math.sqrt"], apart := false }
def F64AllSaid : Prop := f64AllRow.holds Try.pinned (OpenSpec.ofChange f64AllSpec)

/-- ITS FALSE NEIGHBOUR: 'it returns false'. Refute it at one input. -/
def f64AllWrong : ChangeSpec := { name := "f64All", fn := fun _ => fun
  | [d1, d2, d3] => { results := [.lit (.bool false)], args := [d1, d2, d3] }
  | _ => none }
def F64AllWrongFalsely : Prop := f64AllRow.holds Try.pinned (OpenSpec.ofChange f64AllWrong)

/-- 'peloruslaw5.F64Each': WHATEVER THE INPUT: true; the input reads as it did. -/
def f64EachSpec : ChangeSpec := { name := "f64Each", fn := fun _ => fun
  | [d1, d2] => { results := [.lit (.bool true)], args := [d1, d2] }
  | _ => none }
def f64EachRow : OpenClaim := { program := "ytobhihggdoccoaa", sum := "8f941f8dfb74bf19b762d7b3817e51c7a9467f481f6d1486639a3e6ec649f855", func := "pelorus/peloruslaw5.F64Each", spec := "f64Each", inPlace := ["math.Float64frombits", "math.Float64bits", "math.archCeil", "math.archFloor", "math.archTrunc", "math.RoundToEven", "math.sqrt"], apart := false }
def F64EachSaid : Prop := f64EachRow.holds Try.pinned (OpenSpec.ofChange f64EachSpec)

/-- ITS FALSE NEIGHBOUR: 'it returns false'. Refute it at one input. -/
def f64EachWrong : ChangeSpec := { name := "f64Each", fn := fun _ => fun
  | [d1, d2] => { results := [.lit (.bool false)], args := [d1, d2] }
  | _ => none }
def F64EachWrongFalsely : Prop := f64EachRow.holds Try.pinned (OpenSpec.ofChange f64EachWrong)

/-- 'peloruslaw5.F64Rules': WHATEVER THE INPUT: true; the input reads as it did. -/
def f64RulesSpec : ChangeSpec := { name := "f64Rules", fn := fun _ => fun
  | [d1, d2] => { results := [.lit (.bool true)], args := [d1, d2] }
  | _ => none }
def f64RulesRow : OpenClaim := { program := "ytobhihggdoccoaa", sum := "8f941f8dfb74bf19b762d7b3817e51c7a9467f481f6d1486639a3e6ec649f855", func := "pelorus/peloruslaw5.F64Rules", spec := "f64Rules", inPlace := ["math.Float64frombits", "math.Float64bits", "math.archCeil", "math.archFloor", "math.archTrunc", "math.RoundToEven", "math.sqrt"], apart := false }
def F64RulesSaid : Prop := f64RulesRow.holds Try.pinned (OpenSpec.ofChange f64RulesSpec)

/-- ITS FALSE NEIGHBOUR: 'it returns false'. Refute it at one input. -/
def f64RulesWrong : ChangeSpec := { name := "f64Rules", fn := fun _ => fun
  | [d1, d2] => { results := [.lit (.bool false)], args := [d1, d2] }
  | _ => none }
def F64RulesWrongFalsely : Prop := f64RulesRow.holds Try.pinned (OpenSpec.ofChange f64RulesWrong)

/-- 'peloruslaw5.F64Whole': WHATEVER THE INPUT: true; the input reads as it did. -/
def f64WholeSpec : ChangeSpec := { name := "f64Whole", fn := fun _ => fun
  | [d] => { results := [.lit (.bool true)], args := [d] }
  | _ => none }
def f64WholeRow : OpenClaim := { program := "ytobhihggdoccoaa", sum := "8f941f8dfb74bf19b762d7b3817e51c7a9467f481f6d1486639a3e6ec649f855", func := "pelorus/peloruslaw5.F64Whole", spec := "f64Whole", inPlace := ["math.Float64frombits", "math.Float64bits", "math.archCeil", "math.archFloor", "math.archTrunc", "math.RoundToEven", "math.sqrt"], apart := false }
def F64WholeSaid : Prop := f64WholeRow.holds Try.pinned (OpenSpec.ofChange f64WholeSpec)

/-- ITS FALSE NEIGHBOUR: 'it returns false'. Refute it at one input. -/
def f64WholeWrong : ChangeSpec := { name := "f64Whole", fn := fun _ => fun
  | [d] => { results := [.lit (.bool false)], args := [d] }
  | _ => none }
def F64WholeWrongFalsely : Prop := f64WholeRow.holds Try.pinned (OpenSpec.ofChange f64WholeWrong)

/- THE SECOND FORM. 'bulk': how many values and letters a reading holds, each counted each time it is reached (what is shared counts as often as it is met; a slice's spare places count too). A statement '..UptoSaid' is the law's where the arguments, and the package variables that the reading takes, are together of bulk at most 1048576: NARROWER than '..Said'. Prove '..Said' where nothing that the law and all that it calls make is longer than what came in: it says more and counts as full. Else prove '..UptoSaid'. A law counts once. -/
mutual
def uptoBulk {H : Type} : DataW H → Nat
  | .lit (.string bytes) => bytes.length + 1
  | .lit _ => 1
  | .nil => 1
  | .ptr d => uptoBulk d + 1
  | .slice elems spare => uptoBulkAll elems + uptoBulkAll spare + 1
  | .agg parts => uptoBulkAll parts + 1
  | .iface _ d => uptoBulk d + 1
  | .map entries => uptoBulkEntries entries + 1
  | .held _ => 1
def uptoBulkAll {H : Type} : List (DataW H) → Nat
  | [] => 0
  | d :: r => uptoBulk d + uptoBulkAll r
def uptoBulkEntries {H : Type} : List (Lit × DataW H) → Nat
  | [] => 0
  | x :: r => uptoBulkEntry x + uptoBulkEntries r
def uptoBulkEntry {H : Type} : Lit × DataW H → Nat
  | (.string bytes, d) => bytes.length + uptoBulk d + 1
  | (_, d) => uptoBulk d + 1
 end
def uptoSmall : (H : Type) → List (DataW H) → Bool := fun _ ds => decide (uptoBulkAll ds ≤ 1048576)
def OpenSpec.upto (s : _root_.Go.ChangeSpec) : _root_.Go.OpenSpec := { _root_.Go.OpenSpec.ofChange s with cond := some uptoSmall }

/-- 'peloruslaw4.F32All', WHERE WHAT IT READS IS OF BULK AT MOST 1048576: true; the input reads as it did. -/
def f32AllUptoRow : OpenClaim := { program := "ytobhihggdoccoaa", sum := "8f941f8dfb74bf19b762d7b3817e51c7a9467f481f6d1486639a3e6ec649f855", func := "pelorus/peloruslaw4.F32All", spec := "f32All", inPlace := ["math.Float32frombits", "math.archCeil", "math.archFloor", "math.Float64bits", "math.Float64frombits", "math.archTrunc", "math.RoundToEven", "math.sqrt", "math.Float32bits"], apart := false, narrowed := true }
def F32AllUptoSaid : Prop := f32AllUptoRow.holds Try.pinned (OpenSpec.upto f32AllSpec)

/-- 'peloruslaw4.F32Each', WHERE WHAT IT READS IS OF BULK AT MOST 1048576: true; the input reads as it did. -/
def f32EachUptoRow : OpenClaim := { program := "ytobhihggdoccoaa", sum := "8f941f8dfb74bf19b762d7b3817e51c7a9467f481f6d1486639a3e6ec649f855", func := "pelorus/peloruslaw4.F32Each", spec := "f32Each", inPlace := ["math.Float32frombits", "math.Float32bits", "math.archCeil", "math.archFloor", "math.Float64bits", "math.Float64frombits", "math.archTrunc", "math.RoundToEven", "math.sqrt"], apart := false, narrowed := true }
def F32EachUptoSaid : Prop := f32EachUptoRow.holds Try.pinned (OpenSpec.upto f32EachSpec)

/-- 'peloruslaw5.F64All', WHERE WHAT IT READS IS OF BULK AT MOST 1048576: true; the input reads as it did. -/
def f64AllUptoRow : OpenClaim := { program := "ytobhihggdoccoaa", sum := "8f941f8dfb74bf19b762d7b3817e51c7a9467f481f6d1486639a3e6ec649f855", func := "pelorus/peloruslaw5.F64All", spec := "f64All", inPlace := ["math.Float64frombits", "math.archCeil", "math.archFloor", "math.Float64bits", "math.archTrunc", "math.RoundToEven", "math.sqrt"], apart := false, narrowed := true }
def F64AllUptoSaid : Prop := f64AllUptoRow.holds Try.pinned (OpenSpec.upto f64AllSpec)

/-- 'peloruslaw5.F64Each', WHERE WHAT IT READS IS OF BULK AT MOST 1048576: true; the input reads as it did. -/
def f64EachUptoRow : OpenClaim := { program := "ytobhihggdoccoaa", sum := "8f941f8dfb74bf19b762d7b3817e51c7a9467f481f6d1486639a3e6ec649f855", func := "pelorus/peloruslaw5.F64Each", spec := "f64Each", inPlace := ["math.Float64frombits", "math.Float64bits", "math.archCeil", "math.archFloor", "math.archTrunc", "math.RoundToEven", "math.sqrt"], apart := false, narrowed := true }
def F64EachUptoSaid : Prop := f64EachUptoRow.holds Try.pinned (OpenSpec.upto f64EachSpec)

/-- 'peloruslaw5.F64Rules', WHERE WHAT IT READS IS OF BULK AT MOST 1048576: true; the input reads as it did. -/
def f64RulesUptoRow : OpenClaim := { program := "ytobhihggdoccoaa", sum := "8f941f8dfb74bf19b762d7b3817e51c7a9467f481f6d1486639a3e6ec649f855", func := "pelorus/peloruslaw5.F64Rules", spec := "f64Rules", inPlace := ["math.Float64frombits", "math.Float64bits", "math.archCeil", "math.archFloor", "math.archTrunc", "math.RoundToEven", "math.sqrt"], apart := false, narrowed := true }
def F64RulesUptoSaid : Prop := f64RulesUptoRow.holds Try.pinned (OpenSpec.upto f64RulesSpec)

/-- 'peloruslaw5.F64Whole', WHERE WHAT IT READS IS OF BULK AT MOST 1048576: true; the input reads as it did. -/
def f64WholeUptoRow : OpenClaim := { program := "ytobhihggdoccoaa", sum := "8f941f8dfb74bf19b762d7b3817e51c7a9467f481f6d1486639a3e6ec649f855", func := "pelorus/peloruslaw5.F64Whole", spec := "f64Whole", inPlace := ["math.Float64frombits", "math.Float64bits", "math.archCeil", "math.archFloor", "math.archTrunc", "math.RoundToEven", "math.sqrt"], apart := false, narrowed := true }
def F64WholeUptoSaid : Prop := f64WholeUptoRow.holds Try.pinned (OpenSpec.upto f64WholeSpec)

end Rows
end Go.Proofs.Ytobhihggdoccoaa
