/-
  No cell of these rows narrows 'for every input' (looked for: loops, veiled, ifaces, maps, wideKeys, modest, calm, conditions, laid).
  DERIVED. THE GIVEN ROWS OF THIS SEAT. 4 by the template 'for every input the law returns true; each argument reads behind the call as it read before'; 0 by the template 'total and deterministic' (their statements: YtpbccpdiiijinabTotals.lean).
  GIVEN WITH THE SEED: the statements are not yours to turn. If you find one false, say at which input.
  Laid BY PROGRAM, IN A SANDBOX (cutbox-rows.mjs): the forced cells as the released guide's own fill.sh prints them over the translation 790780077f884336… (all of the seat's roots in one cut). By AI agents, Wed Nov 11 2026. No macro, syntax, notation, axiom, sorry.
-/
import Derived.Test.YtpbccpdiiijinabChecked
import GoSem.Claim
import GoSem.ClaimJoined
import GoSem.ClaimMapViews
import Derived.JoinedTies
import Derived.KernelRfl
namespace Go.Proofs.Ytpbccpdiiijinab
/- THE CELL 'sum', in the pinned program and in every row, IS THE sha256 OF THE DUMP (.gsa) THAT YtpbccpdiiijinabProg.lean LOADS. Nothing in Lean hashes anything: it is a label: what it is worth is what the hold of that sum in a sandbox is worth. -/
noncomputable def Try.pinned : Pinned := { name := "ytpbccpdiiijinab", sum := "790780077f884336661ed47d3f43b5031b21730707d92bbe0ccd791a33b66d41", checked := Try.checked }
namespace Rows
def none {H : Type} : Left H := { results := [], args := [] }

/-- 'peloruslaw4.F32Units': WHATEVER THE INPUT: true; the input reads as it did. -/
def f32UnitsSpec : ChangeSpec := { name := "f32Units", fn := fun _ => fun
  | [d] => { results := [.lit (.bool true)], args := [d] }
  | _ => none }
def f32UnitsRow : OpenClaim := { program := "ytpbccpdiiijinab", sum := "790780077f884336661ed47d3f43b5031b21730707d92bbe0ccd791a33b66d41", func := "pelorus/peloruslaw4.F32Units", spec := "f32Units", inPlace := ["math.Float32frombits", "math.Float32bits", "math.archCeil", "math.archFloor", "math.Float64bits", "math.Float64frombits", "math.archTrunc", "math.RoundToEven", "math.sqrt"], apart := false }
def F32UnitsSaid : Prop := f32UnitsRow.holds Try.pinned (OpenSpec.ofChange f32UnitsSpec)

/-- ITS FALSE NEIGHBOUR: 'it returns false'. Refute it at one input. -/
def f32UnitsWrong : ChangeSpec := { name := "f32Units", fn := fun _ => fun
  | [d] => { results := [.lit (.bool false)], args := [d] }
  | _ => none }
def F32UnitsWrongFalsely : Prop := f32UnitsRow.holds Try.pinned (OpenSpec.ofChange f32UnitsWrong)

/-- 'peloruslaw4.F32Extremes': WHATEVER THE INPUT: true; the input reads as it did. -/
def f32ExtremesSpec : ChangeSpec := { name := "f32Extremes", fn := fun _ => fun
  | [d1, d2] => { results := [.lit (.bool true)], args := [d1, d2] }
  | _ => none }
def f32ExtremesRow : OpenClaim := { program := "ytpbccpdiiijinab", sum := "790780077f884336661ed47d3f43b5031b21730707d92bbe0ccd791a33b66d41", func := "pelorus/peloruslaw4.F32Extremes", spec := "f32Extremes", inPlace := ["math.Float32frombits", "math.Float32bits", "math.archCeil", "math.archFloor", "math.Float64bits", "math.Float64frombits", "math.archTrunc", "math.RoundToEven", "math.sqrt"], apart := false }
def F32ExtremesSaid : Prop := f32ExtremesRow.holds Try.pinned (OpenSpec.ofChange f32ExtremesSpec)

/-- ITS FALSE NEIGHBOUR: 'it returns false'. Refute it at one input. -/
def f32ExtremesWrong : ChangeSpec := { name := "f32Extremes", fn := fun _ => fun
  | [d1, d2] => { results := [.lit (.bool false)], args := [d1, d2] }
  | _ => none }
def F32ExtremesWrongFalsely : Prop := f32ExtremesRow.holds Try.pinned (OpenSpec.ofChange f32ExtremesWrong)

/-- 'peloruslaw4.F32Roots': WHATEVER THE INPUT: true; the input reads as it did. -/
def f32RootsSpec : ChangeSpec := { name := "f32Roots", fn := fun _ => fun
  | [d] => { results := [.lit (.bool true)], args := [d] }
  | _ => none }
def f32RootsRow : OpenClaim := { program := "ytpbccpdiiijinab", sum := "790780077f884336661ed47d3f43b5031b21730707d92bbe0ccd791a33b66d41", func := "pelorus/peloruslaw4.F32Roots", spec := "f32Roots", inPlace := ["math.Float32frombits", "math.Float32bits", "math.archCeil", "math.archFloor", "math.Float64bits", "math.Float64frombits", "math.archTrunc", "math.RoundToEven", "math.sqrt"], apart := false }
def F32RootsSaid : Prop := f32RootsRow.holds Try.pinned (OpenSpec.ofChange f32RootsSpec)

/-- ITS FALSE NEIGHBOUR: 'it returns false'. Refute it at one input. -/
def f32RootsWrong : ChangeSpec := { name := "f32Roots", fn := fun _ => fun
  | [d] => { results := [.lit (.bool false)], args := [d] }
  | _ => none }
def F32RootsWrongFalsely : Prop := f32RootsRow.holds Try.pinned (OpenSpec.ofChange f32RootsWrong)

/-- 'peloruslaw4.F32Zeros': WHATEVER THE INPUT: true; the input reads as it did. -/
def f32ZerosSpec : ChangeSpec := { name := "f32Zeros", fn := fun _ => fun
  | [d1, d2, d3] => { results := [.lit (.bool true)], args := [d1, d2, d3] }
  | _ => none }
def f32ZerosRow : OpenClaim := { program := "ytpbccpdiiijinab", sum := "790780077f884336661ed47d3f43b5031b21730707d92bbe0ccd791a33b66d41", func := "pelorus/peloruslaw4.F32Zeros", spec := "f32Zeros", inPlace := ["math.Float32frombits", "math.Float32bits", "math.archCeil", "math.archFloor", "math.Float64bits", "math.Float64frombits", "math.archTrunc", "math.RoundToEven", "math.sqrt"], apart := false }
def F32ZerosSaid : Prop := f32ZerosRow.holds Try.pinned (OpenSpec.ofChange f32ZerosSpec)

/-- ITS FALSE NEIGHBOUR: 'it returns false'. Refute it at one input. -/
def f32ZerosWrong : ChangeSpec := { name := "f32Zeros", fn := fun _ => fun
  | [d1, d2, d3] => { results := [.lit (.bool false)], args := [d1, d2, d3] }
  | _ => none }
def F32ZerosWrongFalsely : Prop := f32ZerosRow.holds Try.pinned (OpenSpec.ofChange f32ZerosWrong)

/- THE SECOND FORM. 'bulk': how many values and letters a reading holds, each counted each time it is reached (what is shared counts as often as it is met; a slice's spare places count too). A statement '..UptoSaid' is the law's where the arguments, and the package variables that the reading takes, are together of bulk at most 1048576: NARROWER than '..Said'. Prove '..Said' where nothing that the law and all that it calls make is longer than what came in: it says more and counts as full. Else prove '..UptoSaid'. A law counts once. -/
mutual
def uptoBulk {H : Type} : DataW H → Nat
  | .lit (.string bytes) => bytes.length + 1
  | .lit _ => 1
  | .nil => 1
  | .ptr d => uptoBulk d + 1
  | .slice elems spare => uptoBulkAll elems + uptoBulkAll spare + 1
  | .agg parts => uptoBulkAll parts + 1
  | .iface _ d => uptoBulk d + 1
  | .map entries => uptoBulkEntries entries + 1
  | .held _ => 1
def uptoBulkAll {H : Type} : List (DataW H) → Nat
  | [] => 0
  | d :: r => uptoBulk d + uptoBulkAll r
def uptoBulkEntries {H : Type} : List (Lit × DataW H) → Nat
  | [] => 0
  | x :: r => uptoBulkEntry x + uptoBulkEntries r
def uptoBulkEntry {H : Type} : Lit × DataW H → Nat
  | (.string bytes, d) => bytes.length + uptoBulk d + 1
  | (_, d) => uptoBulk d + 1
 end
def uptoSmall : (H : Type) → List (DataW H) → Bool := fun _ ds => decide (uptoBulkAll ds ≤ 1048576)
def OpenSpec.upto (s : _root_.Go.ChangeSpec) : _root_.Go.OpenSpec := { _root_.Go.OpenSpec.ofChange s with cond := some uptoSmall }

/-- 'peloruslaw4.F32Units', WHERE WHAT IT READS IS OF BULK AT MOST 1048576: true; the input reads as it did. -/
def f32UnitsUptoRow : OpenClaim := { program := "ytpbccpdiiijinab", sum := "790780077f884336661ed47d3f43b5031b21730707d92bbe0ccd791a33b66d41", func := "pelorus/peloruslaw4.F32Units", spec := "f32Units", inPlace := ["math.Float32frombits", "math.Float32bits", "math.archCeil", "math.archFloor", "math.Float64bits", "math.Float64frombits", "math.archTrunc", "math.RoundToEven", "math.sqrt"], apart := false, narrowed := true }
def F32UnitsUptoSaid : Prop := f32UnitsUptoRow.holds Try.pinned (OpenSpec.upto f32UnitsSpec)

/-- 'peloruslaw4.F32Extremes', WHERE WHAT IT READS IS OF BULK AT MOST 1048576: true; the input reads as it did. -/
def f32ExtremesUptoRow : OpenClaim := { program := "ytpbccpdiiijinab", sum := "790780077f884336661ed47d3f43b5031b21730707d92bbe0ccd791a33b66d41", func := "pelorus/peloruslaw4.F32Extremes", spec := "f32Extremes", inPlace := ["math.Float32frombits", "math.Float32bits", "math.archCeil", "math.archFloor", "math.Float64bits", "math.Float64frombits", "math.archTrunc", "math.RoundToEven", "math.sqrt"], apart := false, narrowed := true }
def F32ExtremesUptoSaid : Prop := f32ExtremesUptoRow.holds Try.pinned (OpenSpec.upto f32ExtremesSpec)

/-- 'peloruslaw4.F32Roots', WHERE WHAT IT READS IS OF BULK AT MOST 1048576: true; the input reads as it did. -/
def f32RootsUptoRow : OpenClaim := { program := "ytpbccpdiiijinab", sum := "790780077f884336661ed47d3f43b5031b21730707d92bbe0ccd791a33b66d41", func := "pelorus/peloruslaw4.F32Roots", spec := "f32Roots", inPlace := ["math.Float32frombits", "math.Float32bits", "math.archCeil", "math.archFloor", "math.Float64bits", "math.Float64frombits", "math.archTrunc", "math.RoundToEven", "math.sqrt"], apart := false, narrowed := true }
def F32RootsUptoSaid : Prop := f32RootsUptoRow.holds Try.pinned (OpenSpec.upto f32RootsSpec)

/-- 'peloruslaw4.F32Zeros', WHERE WHAT IT READS IS OF BULK AT MOST 1048576: true; the input reads as it did. -/
def f32ZerosUptoRow : OpenClaim := { program := "ytpbccpdiiijinab", sum := "790780077f884336661ed47d3f43b5031b21730707d92bbe0ccd791a33b66d41", func := "pelorus/peloruslaw4.F32Zeros", spec := "f32Zeros", inPlace := ["math.Float32frombits", "math.Float32bits", "math.archCeil", "math.archFloor", "math.Float64bits", "math.Float64frombits", "math.archTrunc", "math.RoundToEven", "math.sqrt"], apart := false, narrowed := true }
def F32ZerosUptoSaid : Prop := f32ZerosUptoRow.holds Try.pinned (OpenSpec.upto f32ZerosSpec)

end Rows
end Go.Proofs.Ytpbccpdiiijinab
