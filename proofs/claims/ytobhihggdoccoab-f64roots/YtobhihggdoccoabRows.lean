/-
  No cell of these rows narrows 'for every input' (looked for: loops, veiled, ifaces, maps, wideKeys, modest, calm, conditions, laid).
  DERIVED. THE GIVEN ROWS OF THIS SEAT. 6 by the template 'for every input the law returns true; each argument reads behind the call as it read before'; 0 by the template 'total and deterministic' (their statements: YtobhihggdoccoabTotals.lean).
  GIVEN WITH THE SEED: the statements are not yours to turn. If you find one false, say at which input.
  Laid BY PROGRAM, IN A SANDBOX (cutbox-rows.mjs): the forced cells as the released guide's own fill.sh prints them over the translation 3e0666ebbcf5e938… (all of the seat's roots in one cut). By AI agents, Wed Nov 11 2026. No macro, syntax, notation, axiom, sorry.
-/
import Derived.Test.YtobhihggdoccoabChecked
import GoSem.Claim
import GoSem.ClaimJoined
import GoSem.ClaimMapViews
import Derived.JoinedTies
import Derived.KernelRfl
namespace Go.Proofs.Ytobhihggdoccoab
/- THE CELL 'sum', in the pinned program and in every row, IS THE sha256 OF THE DUMP (.gsa) THAT YtobhihggdoccoabProg.lean LOADS. Nothing in Lean hashes anything: it is a label: what it is worth is what the hold of that sum in a sandbox is worth. -/
noncomputable def Try.pinned : Pinned := { name := "ytobhihggdoccoab", sum := "3e0666ebbcf5e938e34da9f1029e7993f8f2bbee627e132fb9d49f353836c389", checked := Try.checked }
namespace Rows
def none {H : Type} : Left H := { results := [], args := [] }

/-- 'peloruslaw5.F64Order': WHATEVER THE INPUT: true; the input reads as it did. -/
def f64OrderSpec : ChangeSpec := { name := "f64Order", fn := fun _ => fun
  | [d1, d2] => { results := [.lit (.bool true)], args := [d1, d2] }
  | _ => none }
def f64OrderRow : OpenClaim := { program := "ytobhihggdoccoab", sum := "3e0666ebbcf5e938e34da9f1029e7993f8f2bbee627e132fb9d49f353836c389", func := "pelorus/peloruslaw5.F64Order", spec := "f64Order", inPlace := ["math.Float64frombits", "math.Float64bits", "math.archCeil", "math.archFloor", "math.archTrunc", "math.RoundToEven", "math.sqrt"], apart := false }
def F64OrderSaid : Prop := f64OrderRow.holds Try.pinned (OpenSpec.ofChange f64OrderSpec)

/-- ITS FALSE NEIGHBOUR: 'it returns false'. Refute it at one input. -/
def f64OrderWrong : ChangeSpec := { name := "f64Order", fn := fun _ => fun
  | [d1, d2] => { results := [.lit (.bool false)], args := [d1, d2] }
  | _ => none }
def F64OrderWrongFalsely : Prop := f64OrderRow.holds Try.pinned (OpenSpec.ofChange f64OrderWrong)

/-- 'peloruslaw5.F64Signs': WHATEVER THE INPUT: true; the input reads as it did. -/
def f64SignsSpec : ChangeSpec := { name := "f64Signs", fn := fun _ => fun
  | [d1, d2] => { results := [.lit (.bool true)], args := [d1, d2] }
  | _ => none }
def f64SignsRow : OpenClaim := { program := "ytobhihggdoccoab", sum := "3e0666ebbcf5e938e34da9f1029e7993f8f2bbee627e132fb9d49f353836c389", func := "pelorus/peloruslaw5.F64Signs", spec := "f64Signs", inPlace := ["math.Float64frombits", "math.Float64bits", "math.archCeil", "math.archFloor", "math.archTrunc", "math.RoundToEven", "math.sqrt"], apart := false }
def F64SignsSaid : Prop := f64SignsRow.holds Try.pinned (OpenSpec.ofChange f64SignsSpec)

/-- ITS FALSE NEIGHBOUR: 'it returns false'. Refute it at one input. -/
def f64SignsWrong : ChangeSpec := { name := "f64Signs", fn := fun _ => fun
  | [d1, d2] => { results := [.lit (.bool false)], args := [d1, d2] }
  | _ => none }
def F64SignsWrongFalsely : Prop := f64SignsRow.holds Try.pinned (OpenSpec.ofChange f64SignsWrong)

/-- 'peloruslaw5.F64Units': WHATEVER THE INPUT: true; the input reads as it did. -/
def f64UnitsSpec : ChangeSpec := { name := "f64Units", fn := fun _ => fun
  | [d] => { results := [.lit (.bool true)], args := [d] }
  | _ => none }
def f64UnitsRow : OpenClaim := { program := "ytobhihggdoccoab", sum := "3e0666ebbcf5e938e34da9f1029e7993f8f2bbee627e132fb9d49f353836c389", func := "pelorus/peloruslaw5.F64Units", spec := "f64Units", inPlace := ["math.Float64frombits", "math.Float64bits", "math.archCeil", "math.archFloor", "math.archTrunc", "math.RoundToEven", "math.sqrt"], apart := false }
def F64UnitsSaid : Prop := f64UnitsRow.holds Try.pinned (OpenSpec.ofChange f64UnitsSpec)

/-- ITS FALSE NEIGHBOUR: 'it returns false'. Refute it at one input. -/
def f64UnitsWrong : ChangeSpec := { name := "f64Units", fn := fun _ => fun
  | [d] => { results := [.lit (.bool false)], args := [d] }
  | _ => none }
def F64UnitsWrongFalsely : Prop := f64UnitsRow.holds Try.pinned (OpenSpec.ofChange f64UnitsWrong)

/-- 'peloruslaw5.F64Extremes': WHATEVER THE INPUT: true; the input reads as it did. -/
def f64ExtremesSpec : ChangeSpec := { name := "f64Extremes", fn := fun _ => fun
  | [d1, d2] => { results := [.lit (.bool true)], args := [d1, d2] }
  | _ => none }
def f64ExtremesRow : OpenClaim := { program := "ytobhihggdoccoab", sum := "3e0666ebbcf5e938e34da9f1029e7993f8f2bbee627e132fb9d49f353836c389", func := "pelorus/peloruslaw5.F64Extremes", spec := "f64Extremes", inPlace := ["math.Float64frombits", "math.Float64bits", "math.archCeil", "math.archFloor", "math.archTrunc", "math.RoundToEven", "math.sqrt"], apart := false }
def F64ExtremesSaid : Prop := f64ExtremesRow.holds Try.pinned (OpenSpec.ofChange f64ExtremesSpec)

/-- ITS FALSE NEIGHBOUR: 'it returns false'. Refute it at one input. -/
def f64ExtremesWrong : ChangeSpec := { name := "f64Extremes", fn := fun _ => fun
  | [d1, d2] => { results := [.lit (.bool false)], args := [d1, d2] }
  | _ => none }
def F64ExtremesWrongFalsely : Prop := f64ExtremesRow.holds Try.pinned (OpenSpec.ofChange f64ExtremesWrong)

/-- 'peloruslaw5.F64Roots': WHATEVER THE INPUT: true; the input reads as it did. -/
def f64RootsSpec : ChangeSpec := { name := "f64Roots", fn := fun _ => fun
  | [d] => { results := [.lit (.bool true)], args := [d] }
  | _ => none }
def f64RootsRow : OpenClaim := { program := "ytobhihggdoccoab", sum := "3e0666ebbcf5e938e34da9f1029e7993f8f2bbee627e132fb9d49f353836c389", func := "pelorus/peloruslaw5.F64Roots", spec := "f64Roots", inPlace := ["math.Float64frombits", "math.Float64bits", "math.archCeil", "math.archFloor", "math.archTrunc", "math.RoundToEven", "math.sqrt"], apart := false }
def F64RootsSaid : Prop := f64RootsRow.holds Try.pinned (OpenSpec.ofChange f64RootsSpec)

/-- ITS FALSE NEIGHBOUR: 'it returns false'. Refute it at one input. -/
def f64RootsWrong : ChangeSpec := { name := "f64Roots", fn := fun _ => fun
  | [d] => { results := [.lit (.bool false)], args := [d] }
  | _ => none }
def F64RootsWrongFalsely : Prop := f64RootsRow.holds Try.pinned (OpenSpec.ofChange f64RootsWrong)

/-- 'peloruslaw5.F64Zeros': WHATEVER THE INPUT: true; the input reads as it did. -/
def f64ZerosSpec : ChangeSpec := { name := "f64Zeros", fn := fun _ => fun
  | [d1, d2, d3] => { results := [.lit (.bool true)], args := [d1, d2, d3] }
  | _ => none }
def f64ZerosRow : OpenClaim := { program := "ytobhihggdoccoab", sum := "3e0666ebbcf5e938e34da9f1029e7993f8f2bbee627e132fb9d49f353836c389", func := "pelorus/peloruslaw5.F64Zeros", spec := "f64Zeros", inPlace := ["math.Float64frombits", "math.Float64bits", "math.archCeil", "math.archFloor", "math.archTrunc", "math.RoundToEven", "math.sqrt"], apart := false }
def F64ZerosSaid : Prop := f64ZerosRow.holds Try.pinned (OpenSpec.ofChange f64ZerosSpec)

/-- ITS FALSE NEIGHBOUR: 'it returns false'. Refute it at one input. -/
def f64ZerosWrong : ChangeSpec := { name := "f64Zeros", fn := fun _ => fun
  | [d1, d2, d3] => { results := [.lit (.bool false)], args := [d1, d2, d3] }
  | _ => none }
def F64ZerosWrongFalsely : Prop := f64ZerosRow.holds Try.pinned (OpenSpec.ofChange f64ZerosWrong)

/- THE SECOND FORM. 'bulk': how many values and letters a reading holds, each counted each time it is reached (what is shared counts as often as it is met; a slice's spare places count too). A statement '..UptoSaid' is the law's where the arguments, and the package variables that the reading takes, are together of bulk at most 1048576: NARROWER than '..Said'. Prove '..Said' where nothing that the law and all that it calls make is longer than what came in: it says more and counts as full. Else prove '..UptoSaid'. A law counts once. -/
mutual
def uptoBulk {H : Type} : DataW H → Nat
  | .lit (.string bytes) => bytes.length + 1
  | .lit _ => 1
  | .nil => 1
  | .ptr d => uptoBulk d + 1
  | .slice elems spare => uptoBulkAll elems + uptoBulkAll spare + 1
  | .agg parts => uptoBulkAll parts + 1
  | .iface _ d => uptoBulk d + 1
  | .map entries => uptoBulkEntries entries + 1
  | .held _ => 1
def uptoBulkAll {H : Type} : List (DataW H) → Nat
  | [] => 0
  | d :: r => uptoBulk d + uptoBulkAll r
def uptoBulkEntries {H : Type} : List (Lit × DataW H) → Nat
  | [] => 0
  | x :: r => uptoBulkEntry x + uptoBulkEntries r
def uptoBulkEntry {H : Type} : Lit × DataW H → Nat
  | (.string bytes, d) => bytes.length + uptoBulk d + 1
  | (_, d) => uptoBulk d + 1
 end
def uptoSmall : (H : Type) → List (DataW H) → Bool := fun _ ds => decide (uptoBulkAll ds ≤ 1048576)
def OpenSpec.upto (s : _root_.Go.ChangeSpec) : _root_.Go.OpenSpec := { _root_.Go.OpenSpec.ofChange s with cond := some uptoSmall }

/-- 'peloruslaw5.F64Order', WHERE WHAT IT READS IS OF BULK AT MOST 1048576: true; the input reads as it did. -/
def f64OrderUptoRow : OpenClaim := { program := "ytobhihggdoccoab", sum := "3e0666ebbcf5e938e34da9f1029e7993f8f2bbee627e132fb9d49f353836c389", func := "pelorus/peloruslaw5.F64Order", spec := "f64Order", inPlace := ["math.Float64frombits", "math.Float64bits", "math.archCeil", "math.archFloor", "math.archTrunc", "math.RoundToEven", "math.sqrt"], apart := false, narrowed := true }
def F64OrderUptoSaid : Prop := f64OrderUptoRow.holds Try.pinned (OpenSpec.upto f64OrderSpec)

/-- 'peloruslaw5.F64Signs', WHERE WHAT IT READS IS OF BULK AT MOST 1048576: true; the input reads as it did. -/
def f64SignsUptoRow : OpenClaim := { program := "ytobhihggdoccoab", sum := "3e0666ebbcf5e938e34da9f1029e7993f8f2bbee627e132fb9d49f353836c389", func := "pelorus/peloruslaw5.F64Signs", spec := "f64Signs", inPlace := ["math.Float64frombits", "math.Float64bits", "math.archCeil", "math.archFloor", "math.archTrunc", "math.RoundToEven", "math.sqrt"], apart := false, narrowed := true }
def F64SignsUptoSaid : Prop := f64SignsUptoRow.holds Try.pinned (OpenSpec.upto f64SignsSpec)

/-- 'peloruslaw5.F64Units', WHERE WHAT IT READS IS OF BULK AT MOST 1048576: true; the input reads as it did. -/
def f64UnitsUptoRow : OpenClaim := { program := "ytobhihggdoccoab", sum := "3e0666ebbcf5e938e34da9f1029e7993f8f2bbee627e132fb9d49f353836c389", func := "pelorus/peloruslaw5.F64Units", spec := "f64Units", inPlace := ["math.Float64frombits", "math.Float64bits", "math.archCeil", "math.archFloor", "math.archTrunc", "math.RoundToEven", "math.sqrt"], apart := false, narrowed := true }
def F64UnitsUptoSaid : Prop := f64UnitsUptoRow.holds Try.pinned (OpenSpec.upto f64UnitsSpec)

/-- 'peloruslaw5.F64Extremes', WHERE WHAT IT READS IS OF BULK AT MOST 1048576: true; the input reads as it did. -/
def f64ExtremesUptoRow : OpenClaim := { program := "ytobhihggdoccoab", sum := "3e0666ebbcf5e938e34da9f1029e7993f8f2bbee627e132fb9d49f353836c389", func := "pelorus/peloruslaw5.F64Extremes", spec := "f64Extremes", inPlace := ["math.Float64frombits", "math.Float64bits", "math.archCeil", "math.archFloor", "math.archTrunc", "math.RoundToEven", "math.sqrt"], apart := false, narrowed := true }
def F64ExtremesUptoSaid : Prop := f64ExtremesUptoRow.holds Try.pinned (OpenSpec.upto f64ExtremesSpec)

/-- 'peloruslaw5.F64Roots', WHERE WHAT IT READS IS OF BULK AT MOST 1048576: true; the input reads as it did. -/
def f64RootsUptoRow : OpenClaim := { program := "ytobhihggdoccoab", sum := "3e0666ebbcf5e938e34da9f1029e7993f8f2bbee627e132fb9d49f353836c389", func := "pelorus/peloruslaw5.F64Roots", spec := "f64Roots", inPlace := ["math.Float64frombits", "math.Float64bits", "math.archCeil", "math.archFloor", "math.archTrunc", "math.RoundToEven", "math.sqrt"], apart := false, narrowed := true }
def F64RootsUptoSaid : Prop := f64RootsUptoRow.holds Try.pinned (OpenSpec.upto f64RootsSpec)

/-- 'peloruslaw5.F64Zeros', WHERE WHAT IT READS IS OF BULK AT MOST 1048576: true; the input reads as it did. -/
def f64ZerosUptoRow : OpenClaim := { program := "ytobhihggdoccoab", sum := "3e0666ebbcf5e938e34da9f1029e7993f8f2bbee627e132fb9d49f353836c389", func := "pelorus/peloruslaw5.F64Zeros", spec := "f64Zeros", inPlace := ["math.Float64frombits", "math.Float64bits", "math.archCeil", "math.archFloor", "math.archTrunc", "math.RoundToEven", "math.sqrt"], apart := false, narrowed := true }
def F64ZerosUptoSaid : Prop := f64ZerosUptoRow.holds Try.pinned (OpenSpec.upto f64ZerosSpec)

end Rows
end Go.Proofs.Ytobhihggdoccoab
