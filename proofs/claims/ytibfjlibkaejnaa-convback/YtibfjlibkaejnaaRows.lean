/-
  No cell of these rows narrows 'for every input' (looked for: loops, veiled, ifaces, maps, wideKeys, modest, calm, conditions, laid).
  DERIVED. THE GIVEN ROWS OF THIS SEAT. 6 by the template 'for every input the law returns true; each argument reads behind the call as it read before'; 0 by the template 'total and deterministic' (their statements: YtibfjlibkaejnaaTotals.lean).
  GIVEN WITH THE SEED: the statements are not yours to turn. If you find one false, say at which input.
  Laid BY PROGRAM, IN A SANDBOX (cutbox-rows.mjs): the forced cells as the released guide's own fill.sh prints them over the translation 43a257ee52ba77c0… (all of the seat's roots in one cut). By AI agents, Wed Nov 11 2026. No macro, syntax, notation, axiom, sorry.
-/
import Derived.Test.YtibfjlibkaejnaaChecked
import GoSem.Claim
import GoSem.ClaimJoined
import GoSem.ClaimMapViews
import Derived.JoinedTies
import Derived.KernelRfl
namespace Go.Proofs.Ytibfjlibkaejnaa
/- THE CELL 'sum', in the pinned program and in every row, IS THE sha256 OF THE DUMP (.gsa) THAT YtibfjlibkaejnaaProg.lean LOADS. Nothing in Lean hashes anything: it is a label: what it is worth is what the hold of that sum in a sandbox is worth. -/
noncomputable def Try.pinned : Pinned := { name := "ytibfjlibkaejnaa", sum := "43a257ee52ba77c0abba1ec03d623c093852d48f702b9a80891e74126fb38739", checked := Try.checked }
namespace Rows
def none {H : Type} : Left H := { results := [], args := [] }

/-- 'peloruslaw6.ConvAll': WHATEVER THE INPUT: true; the input reads as it did. -/
def convAllSpec : ChangeSpec := { name := "convAll", fn := fun _ => fun
  | [d1, d2] => { results := [.lit (.bool true)], args := [d1, d2] }
  | _ => none }
def convAllRow : OpenClaim := { program := "ytibfjlibkaejnaa", sum := "43a257ee52ba77c0abba1ec03d623c093852d48f702b9a80891e74126fb38739", func := "pelorus/peloruslaw6.ConvAll", spec := "convAll", inPlace := ["math.Float32frombits", "math.archTrunc", "math.Float64bits", "math.Float64frombits", "math.Float32bits"], apart := false }
def ConvAllSaid : Prop := convAllRow.holds Try.pinned (OpenSpec.ofChange convAllSpec)

/-- ITS FALSE NEIGHBOUR: 'it returns false'. Refute it at one input. -/
def convAllWrong : ChangeSpec := { name := "convAll", fn := fun _ => fun
  | [d1, d2] => { results := [.lit (.bool false)], args := [d1, d2] }
  | _ => none }
def ConvAllWrongFalsely : Prop := convAllRow.holds Try.pinned (OpenSpec.ofChange convAllWrong)

/-- 'peloruslaw6.ConvEach': WHATEVER THE INPUT: true; the input reads as it did. -/
def convEachSpec : ChangeSpec := { name := "convEach", fn := fun _ => fun
  | [d] => { results := [.lit (.bool true)], args := [d] }
  | _ => none }
def convEachRow : OpenClaim := { program := "ytibfjlibkaejnaa", sum := "43a257ee52ba77c0abba1ec03d623c093852d48f702b9a80891e74126fb38739", func := "pelorus/peloruslaw6.ConvEach", spec := "convEach", inPlace := ["math.Float32frombits", "math.archTrunc", "math.Float64bits", "math.Float64frombits", "math.Float32bits"], apart := false }
def ConvEachSaid : Prop := convEachRow.holds Try.pinned (OpenSpec.ofChange convEachSpec)

/-- ITS FALSE NEIGHBOUR: 'it returns false'. Refute it at one input. -/
def convEachWrong : ChangeSpec := { name := "convEach", fn := fun _ => fun
  | [d] => { results := [.lit (.bool false)], args := [d] }
  | _ => none }
def ConvEachWrongFalsely : Prop := convEachRow.holds Try.pinned (OpenSpec.ofChange convEachWrong)

/-- 'peloruslaw6.ConvBack': WHATEVER THE INPUT: true; the input reads as it did. -/
def convBackSpec : ChangeSpec := { name := "convBack", fn := fun _ => fun
  | [d1, d2] => { results := [.lit (.bool true)], args := [d1, d2] }
  | _ => none }
def convBackRow : OpenClaim := { program := "ytibfjlibkaejnaa", sum := "43a257ee52ba77c0abba1ec03d623c093852d48f702b9a80891e74126fb38739", func := "pelorus/peloruslaw6.ConvBack", spec := "convBack", inPlace := ["math.Float32frombits", "math.archTrunc", "math.Float64bits", "math.Float64frombits", "math.Float32bits"], apart := false }
def ConvBackSaid : Prop := convBackRow.holds Try.pinned (OpenSpec.ofChange convBackSpec)

/-- ITS FALSE NEIGHBOUR: 'it returns false'. Refute it at one input. -/
def convBackWrong : ChangeSpec := { name := "convBack", fn := fun _ => fun
  | [d1, d2] => { results := [.lit (.bool false)], args := [d1, d2] }
  | _ => none }
def ConvBackWrongFalsely : Prop := convBackRow.holds Try.pinned (OpenSpec.ofChange convBackWrong)

/-- 'peloruslaw6.ConvEnds': WHATEVER THE INPUT: true; the input reads as it did. -/
def convEndsSpec : ChangeSpec := { name := "convEnds", fn := fun _ => fun
  | [d1, d2] => { results := [.lit (.bool true)], args := [d1, d2] }
  | _ => none }
def convEndsRow : OpenClaim := { program := "ytibfjlibkaejnaa", sum := "43a257ee52ba77c0abba1ec03d623c093852d48f702b9a80891e74126fb38739", func := "pelorus/peloruslaw6.ConvEnds", spec := "convEnds", inPlace := ["math.Float32frombits", "math.archTrunc", "math.Float64bits", "math.Float64frombits", "math.Float32bits"], apart := false }
def ConvEndsSaid : Prop := convEndsRow.holds Try.pinned (OpenSpec.ofChange convEndsSpec)

/-- ITS FALSE NEIGHBOUR: 'it returns false'. Refute it at one input. -/
def convEndsWrong : ChangeSpec := { name := "convEnds", fn := fun _ => fun
  | [d1, d2] => { results := [.lit (.bool false)], args := [d1, d2] }
  | _ => none }
def ConvEndsWrongFalsely : Prop := convEndsRow.holds Try.pinned (OpenSpec.ofChange convEndsWrong)

/-- 'peloruslaw6.ConvWide': WHATEVER THE INPUT: true; the input reads as it did. -/
def convWideSpec : ChangeSpec := { name := "convWide", fn := fun _ => fun
  | [d] => { results := [.lit (.bool true)], args := [d] }
  | _ => none }
def convWideRow : OpenClaim := { program := "ytibfjlibkaejnaa", sum := "43a257ee52ba77c0abba1ec03d623c093852d48f702b9a80891e74126fb38739", func := "pelorus/peloruslaw6.ConvWide", spec := "convWide", inPlace := ["math.Float32frombits", "math.archTrunc", "math.Float64bits", "math.Float64frombits", "math.Float32bits"], apart := false }
def ConvWideSaid : Prop := convWideRow.holds Try.pinned (OpenSpec.ofChange convWideSpec)

/-- ITS FALSE NEIGHBOUR: 'it returns false'. Refute it at one input. -/
def convWideWrong : ChangeSpec := { name := "convWide", fn := fun _ => fun
  | [d] => { results := [.lit (.bool false)], args := [d] }
  | _ => none }
def ConvWideWrongFalsely : Prop := convWideRow.holds Try.pinned (OpenSpec.ofChange convWideWrong)

/-- 'peloruslaw6.ConvBits': WHATEVER THE INPUT: true; the input reads as it did. -/
def convBitsSpec : ChangeSpec := { name := "convBits", fn := fun _ => fun
  | [d] => { results := [.lit (.bool true)], args := [d] }
  | _ => none }
def convBitsRow : OpenClaim := { program := "ytibfjlibkaejnaa", sum := "43a257ee52ba77c0abba1ec03d623c093852d48f702b9a80891e74126fb38739", func := "pelorus/peloruslaw6.ConvBits", spec := "convBits", inPlace := ["math.Float32frombits", "math.archTrunc", "math.Float64bits", "math.Float64frombits", "math.Float32bits"], apart := false }
def ConvBitsSaid : Prop := convBitsRow.holds Try.pinned (OpenSpec.ofChange convBitsSpec)

/-- ITS FALSE NEIGHBOUR: 'it returns false'. Refute it at one input. -/
def convBitsWrong : ChangeSpec := { name := "convBits", fn := fun _ => fun
  | [d] => { results := [.lit (.bool false)], args := [d] }
  | _ => none }
def ConvBitsWrongFalsely : Prop := convBitsRow.holds Try.pinned (OpenSpec.ofChange convBitsWrong)

/- THE SECOND FORM. 'bulk': how many values and letters a reading holds, each counted each time it is reached (what is shared counts as often as it is met; a slice's spare places count too). A statement '..UptoSaid' is the law's where the arguments, and the package variables that the reading takes, are together of bulk at most 1048576: NARROWER than '..Said'. Prove '..Said' where nothing that the law and all that it calls make is longer than what came in: it says more and counts as full. Else prove '..UptoSaid'. A law counts once. -/
mutual
def uptoBulk {H : Type} : DataW H → Nat
  | .lit (.string bytes) => bytes.length + 1
  | .lit _ => 1
  | .nil => 1
  | .ptr d => uptoBulk d + 1
  | .slice elems spare => uptoBulkAll elems + uptoBulkAll spare + 1
  | .agg parts => uptoBulkAll parts + 1
  | .iface _ d => uptoBulk d + 1
  | .map entries => uptoBulkEntries entries + 1
  | .held _ => 1
def uptoBulkAll {H : Type} : List (DataW H) → Nat
  | [] => 0
  | d :: r => uptoBulk d + uptoBulkAll r
def uptoBulkEntries {H : Type} : List (Lit × DataW H) → Nat
  | [] => 0
  | x :: r => uptoBulkEntry x + uptoBulkEntries r
def uptoBulkEntry {H : Type} : Lit × DataW H → Nat
  | (.string bytes, d) => bytes.length + uptoBulk d + 1
  | (_, d) => uptoBulk d + 1
 end
def uptoSmall : (H : Type) → List (DataW H) → Bool := fun _ ds => decide (uptoBulkAll ds ≤ 1048576)
def OpenSpec.upto (s : _root_.Go.ChangeSpec) : _root_.Go.OpenSpec := { _root_.Go.OpenSpec.ofChange s with cond := some uptoSmall }

/-- 'peloruslaw6.ConvAll', WHERE WHAT IT READS IS OF BULK AT MOST 1048576: true; the input reads as it did. -/
def convAllUptoRow : OpenClaim := { program := "ytibfjlibkaejnaa", sum := "43a257ee52ba77c0abba1ec03d623c093852d48f702b9a80891e74126fb38739", func := "pelorus/peloruslaw6.ConvAll", spec := "convAll", inPlace := ["math.Float32frombits", "math.archTrunc", "math.Float64bits", "math.Float64frombits", "math.Float32bits"], apart := false, narrowed := true }
def ConvAllUptoSaid : Prop := convAllUptoRow.holds Try.pinned (OpenSpec.upto convAllSpec)

/-- 'peloruslaw6.ConvEach', WHERE WHAT IT READS IS OF BULK AT MOST 1048576: true; the input reads as it did. -/
def convEachUptoRow : OpenClaim := { program := "ytibfjlibkaejnaa", sum := "43a257ee52ba77c0abba1ec03d623c093852d48f702b9a80891e74126fb38739", func := "pelorus/peloruslaw6.ConvEach", spec := "convEach", inPlace := ["math.Float32frombits", "math.archTrunc", "math.Float64bits", "math.Float64frombits", "math.Float32bits"], apart := false, narrowed := true }
def ConvEachUptoSaid : Prop := convEachUptoRow.holds Try.pinned (OpenSpec.upto convEachSpec)

/-- 'peloruslaw6.ConvBack', WHERE WHAT IT READS IS OF BULK AT MOST 1048576: true; the input reads as it did. -/
def convBackUptoRow : OpenClaim := { program := "ytibfjlibkaejnaa", sum := "43a257ee52ba77c0abba1ec03d623c093852d48f702b9a80891e74126fb38739", func := "pelorus/peloruslaw6.ConvBack", spec := "convBack", inPlace := ["math.Float32frombits", "math.archTrunc", "math.Float64bits", "math.Float64frombits", "math.Float32bits"], apart := false, narrowed := true }
def ConvBackUptoSaid : Prop := convBackUptoRow.holds Try.pinned (OpenSpec.upto convBackSpec)

/-- 'peloruslaw6.ConvEnds', WHERE WHAT IT READS IS OF BULK AT MOST 1048576: true; the input reads as it did. -/
def convEndsUptoRow : OpenClaim := { program := "ytibfjlibkaejnaa", sum := "43a257ee52ba77c0abba1ec03d623c093852d48f702b9a80891e74126fb38739", func := "pelorus/peloruslaw6.ConvEnds", spec := "convEnds", inPlace := ["math.Float32frombits", "math.archTrunc", "math.Float64bits", "math.Float64frombits", "math.Float32bits"], apart := false, narrowed := true }
def ConvEndsUptoSaid : Prop := convEndsUptoRow.holds Try.pinned (OpenSpec.upto convEndsSpec)

/-- 'peloruslaw6.ConvWide', WHERE WHAT IT READS IS OF BULK AT MOST 1048576: true; the input reads as it did. -/
def convWideUptoRow : OpenClaim := { program := "ytibfjlibkaejnaa", sum := "43a257ee52ba77c0abba1ec03d623c093852d48f702b9a80891e74126fb38739", func := "pelorus/peloruslaw6.ConvWide", spec := "convWide", inPlace := ["math.Float32frombits", "math.archTrunc", "math.Float64bits", "math.Float64frombits", "math.Float32bits"], apart := false, narrowed := true }
def ConvWideUptoSaid : Prop := convWideUptoRow.holds Try.pinned (OpenSpec.upto convWideSpec)

/-- 'peloruslaw6.ConvBits', WHERE WHAT IT READS IS OF BULK AT MOST 1048576: true; the input reads as it did. -/
def convBitsUptoRow : OpenClaim := { program := "ytibfjlibkaejnaa", sum := "43a257ee52ba77c0abba1ec03d623c093852d48f702b9a80891e74126fb38739", func := "pelorus/peloruslaw6.ConvBits", spec := "convBits", inPlace := ["math.Float32frombits", "math.archTrunc", "math.Float64bits", "math.Float64frombits", "math.Float32bits"], apart := false, narrowed := true }
def ConvBitsUptoSaid : Prop := convBitsUptoRow.holds Try.pinned (OpenSpec.upto convBitsSpec)

end Rows
end Go.Proofs.Ytibfjlibkaejnaa
