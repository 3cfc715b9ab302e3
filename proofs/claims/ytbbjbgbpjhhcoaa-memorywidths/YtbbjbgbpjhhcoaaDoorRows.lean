/-
  NARROWER THAN 'FOR EVERY INPUT', by the rows' own cells (each row's printed sentence says how): MemoryActs: laid · MemoryBack: laid · MemoryEnds: laid · MemoryGrows: laid · MemoryWidths: laid · MemoryPuts: laid.
  DERIVED. THE GIVEN ROWS OF THIS SEAT. 6 by the template 'for every input the law returns true; each argument reads behind the call as it read before'; 0 by the template 'total and deterministic' (their statements: YtbbjbgbpjhhcoaaDoorTotals.lean).
  GIVEN WITH THE SEED: the statements are not yours to turn. If you find one false, say at which input.
  Laid BY PROGRAM, IN A SANDBOX (cutbox-rows.mjs): the forced cells as the released guide's own fill.sh prints them over the translation 32d2bfb83e745115… (all of the seat's roots in one cut). By AI agents, Wed Nov 11 2026. No macro, syntax, notation, axiom, sorry.
-/
import Derived.Test.YtbbjbgbpjhhcoaaDoorChecked
import GoSem.Claim
import GoSem.ClaimJoined
import GoSem.ClaimMapViews
import Derived.JoinedTies
import Derived.KernelRfl
namespace Go.Proofs.YtbbjbgbpjhhcoaaDoor
/- THE CELL 'sum', in the pinned program and in every row, IS THE sha256 OF THE DUMP (.gsa) THAT YtbbjbgbpjhhcoaaDoorProg.lean LOADS. Nothing in Lean hashes anything: it is a label: what it is worth is what the hold of that sum in a sandbox is worth. -/
noncomputable def Tryd.pinned : Pinned := { name := "ytbbjbgbpjhhcoaadoor", sum := "32d2bfb83e745115f2cd56c0b55fdf68bc7350dc3e1162cec6c6f6e66ab69265", checked := Tryd.checked }
namespace Rows
def none {H : Type} : Left H := { results := [], args := [] }

/- WHAT THE LISTED PACKAGE-LEVEL VARIABLES READ AS WHEN THE CALL BEGINS. Each datum BY PROGRAM (the guide's laid-datum.mjs) off the statement by which the dump's own 'gosem.cut.vars' lays the variable. In a bare row this is a premise. The card (YtbbjbgbpjhhcoaaDoorCards.lean) ties it to the program's text. -/
def laid_pelorus_access_all {H : Type} : DataW H := .agg [.agg [.lit (.int .i64 4), .lit (.int .i64 127), .lit (.bool false)], .agg [.lit (.int .i64 8), .lit (.int .i64 126), .lit (.bool false)], .agg [.lit (.int .i64 4), .lit (.int .i64 125), .lit (.bool false)], .agg [.lit (.int .i64 8), .lit (.int .i64 124), .lit (.bool false)], .agg [.lit (.int .i64 1), .lit (.int .i64 127), .lit (.bool true)], .agg [.lit (.int .i64 1), .lit (.int .i64 127), .lit (.bool false)], .agg [.lit (.int .i64 2), .lit (.int .i64 127), .lit (.bool true)], .agg [.lit (.int .i64 2), .lit (.int .i64 127), .lit (.bool false)], .agg [.lit (.int .i64 1), .lit (.int .i64 126), .lit (.bool true)], .agg [.lit (.int .i64 1), .lit (.int .i64 126), .lit (.bool false)], .agg [.lit (.int .i64 2), .lit (.int .i64 126), .lit (.bool true)], .agg [.lit (.int .i64 2), .lit (.int .i64 126), .lit (.bool false)], .agg [.lit (.int .i64 4), .lit (.int .i64 126), .lit (.bool true)], .agg [.lit (.int .i64 4), .lit (.int .i64 126), .lit (.bool false)], .agg [.lit (.int .i64 4), .lit (.int .i64 127), .lit (.bool false)], .agg [.lit (.int .i64 8), .lit (.int .i64 126), .lit (.bool false)], .agg [.lit (.int .i64 4), .lit (.int .i64 125), .lit (.bool false)], .agg [.lit (.int .i64 8), .lit (.int .i64 124), .lit (.bool false)], .agg [.lit (.int .i64 1), .lit (.int .i64 127), .lit (.bool false)], .agg [.lit (.int .i64 2), .lit (.int .i64 127), .lit (.bool false)], .agg [.lit (.int .i64 1), .lit (.int .i64 126), .lit (.bool false)], .agg [.lit (.int .i64 2), .lit (.int .i64 126), .lit (.bool false)], .agg [.lit (.int .i64 4), .lit (.int .i64 126), .lit (.bool false)]]

/-- 'peloruslaw8.MemoryActs': WHATEVER THE INPUT: true; the input reads as it did. -/
def memoryActsSpec : ChangeSpec := { name := "memoryActs", fn := fun _ => fun
  | [d1, d2, d3] => { results := [.lit (.bool true)], args := [d1, d2, d3] }
  | _ => none }
def memoryActsRow : OpenClaim := { program := "ytbbjbgbpjhhcoaadoor", sum := "32d2bfb83e745115f2cd56c0b55fdf68bc7350dc3e1162cec6c6f6e66ab69265", func := "pelorus/peloruslaw8.MemoryActs", spec := "memoryActs", named := ["pelorus/access.all"], apart := false, laid := [("pelorus/access.all", laid_pelorus_access_all)] }
def MemoryActsSaid : Prop := memoryActsRow.holds Tryd.pinned (OpenSpec.ofChange memoryActsSpec)

/-- ITS FALSE NEIGHBOUR: 'it returns false'. Refute it at one input. -/
def memoryActsWrong : ChangeSpec := { name := "memoryActs", fn := fun _ => fun
  | [d1, d2, d3] => { results := [.lit (.bool false)], args := [d1, d2, d3] }
  | _ => none }
def MemoryActsWrongFalsely : Prop := memoryActsRow.holds Tryd.pinned (OpenSpec.ofChange memoryActsWrong)

/-- 'peloruslaw8.MemoryBack': WHATEVER THE INPUT: true; the input reads as it did. -/
def memoryBackSpec : ChangeSpec := { name := "memoryBack", fn := fun _ => fun
  | [d1, d2, d3] => { results := [.lit (.bool true)], args := [d1, d2, d3] }
  | _ => none }
def memoryBackRow : OpenClaim := { program := "ytbbjbgbpjhhcoaadoor", sum := "32d2bfb83e745115f2cd56c0b55fdf68bc7350dc3e1162cec6c6f6e66ab69265", func := "pelorus/peloruslaw8.MemoryBack", spec := "memoryBack", named := ["pelorus/access.all"], apart := false, laid := [("pelorus/access.all", laid_pelorus_access_all)] }
def MemoryBackSaid : Prop := memoryBackRow.holds Tryd.pinned (OpenSpec.ofChange memoryBackSpec)

/-- ITS FALSE NEIGHBOUR: 'it returns false'. Refute it at one input. -/
def memoryBackWrong : ChangeSpec := { name := "memoryBack", fn := fun _ => fun
  | [d1, d2, d3] => { results := [.lit (.bool false)], args := [d1, d2, d3] }
  | _ => none }
def MemoryBackWrongFalsely : Prop := memoryBackRow.holds Tryd.pinned (OpenSpec.ofChange memoryBackWrong)

/-- 'peloruslaw8.MemoryEnds': WHATEVER THE INPUT: true; the input reads as it did. -/
def memoryEndsSpec : ChangeSpec := { name := "memoryEnds", fn := fun _ => fun
  | [d1, d2] => { results := [.lit (.bool true)], args := [d1, d2] }
  | _ => none }
def memoryEndsRow : OpenClaim := { program := "ytbbjbgbpjhhcoaadoor", sum := "32d2bfb83e745115f2cd56c0b55fdf68bc7350dc3e1162cec6c6f6e66ab69265", func := "pelorus/peloruslaw8.MemoryEnds", spec := "memoryEnds", named := ["pelorus/access.all"], apart := false, laid := [("pelorus/access.all", laid_pelorus_access_all)] }
def MemoryEndsSaid : Prop := memoryEndsRow.holds Tryd.pinned (OpenSpec.ofChange memoryEndsSpec)

/-- ITS FALSE NEIGHBOUR: 'it returns false'. Refute it at one input. -/
def memoryEndsWrong : ChangeSpec := { name := "memoryEnds", fn := fun _ => fun
  | [d1, d2] => { results := [.lit (.bool false)], args := [d1, d2] }
  | _ => none }
def MemoryEndsWrongFalsely : Prop := memoryEndsRow.holds Tryd.pinned (OpenSpec.ofChange memoryEndsWrong)

/-- 'peloruslaw8.MemoryGrows': WHATEVER THE INPUT: true; the input reads as it did. -/
def memoryGrowsSpec : ChangeSpec := { name := "memoryGrows", fn := fun _ => fun
  | [d1, d2, d3, d4] => { results := [.lit (.bool true)], args := [d1, d2, d3, d4] }
  | _ => none }
def memoryGrowsRow : OpenClaim := { program := "ytbbjbgbpjhhcoaadoor", sum := "32d2bfb83e745115f2cd56c0b55fdf68bc7350dc3e1162cec6c6f6e66ab69265", func := "pelorus/peloruslaw8.MemoryGrows", spec := "memoryGrows", named := ["pelorus/access.all"], apart := false, laid := [("pelorus/access.all", laid_pelorus_access_all)] }
def MemoryGrowsSaid : Prop := memoryGrowsRow.holds Tryd.pinned (OpenSpec.ofChange memoryGrowsSpec)

/-- ITS FALSE NEIGHBOUR: 'it returns false'. Refute it at one input. -/
def memoryGrowsWrong : ChangeSpec := { name := "memoryGrows", fn := fun _ => fun
  | [d1, d2, d3, d4] => { results := [.lit (.bool false)], args := [d1, d2, d3, d4] }
  | _ => none }
def MemoryGrowsWrongFalsely : Prop := memoryGrowsRow.holds Tryd.pinned (OpenSpec.ofChange memoryGrowsWrong)

/-- 'peloruslaw8.MemoryWidths': WHATEVER THE INPUT: true; the input reads as it did. -/
def memoryWidthsSpec : ChangeSpec := { name := "memoryWidths", fn := fun _ => fun
  | [d1, d2] => { results := [.lit (.bool true)], args := [d1, d2] }
  | _ => none }
def memoryWidthsRow : OpenClaim := { program := "ytbbjbgbpjhhcoaadoor", sum := "32d2bfb83e745115f2cd56c0b55fdf68bc7350dc3e1162cec6c6f6e66ab69265", func := "pelorus/peloruslaw8.MemoryWidths", spec := "memoryWidths", named := ["pelorus/access.all"], apart := false, laid := [("pelorus/access.all", laid_pelorus_access_all)] }
def MemoryWidthsSaid : Prop := memoryWidthsRow.holds Tryd.pinned (OpenSpec.ofChange memoryWidthsSpec)

/-- ITS FALSE NEIGHBOUR: 'it returns false'. Refute it at one input. -/
def memoryWidthsWrong : ChangeSpec := { name := "memoryWidths", fn := fun _ => fun
  | [d1, d2] => { results := [.lit (.bool false)], args := [d1, d2] }
  | _ => none }
def MemoryWidthsWrongFalsely : Prop := memoryWidthsRow.holds Tryd.pinned (OpenSpec.ofChange memoryWidthsWrong)

/-- 'peloruslaw8.MemoryPuts': WHATEVER THE INPUT: true; the input reads as it did. -/
def memoryPutsSpec : ChangeSpec := { name := "memoryPuts", fn := fun _ => fun
  | [d1, d2] => { results := [.lit (.bool true)], args := [d1, d2] }
  | _ => none }
def memoryPutsRow : OpenClaim := { program := "ytbbjbgbpjhhcoaadoor", sum := "32d2bfb83e745115f2cd56c0b55fdf68bc7350dc3e1162cec6c6f6e66ab69265", func := "pelorus/peloruslaw8.MemoryPuts", spec := "memoryPuts", named := ["pelorus/access.all"], apart := false, laid := [("pelorus/access.all", laid_pelorus_access_all)] }
def MemoryPutsSaid : Prop := memoryPutsRow.holds Tryd.pinned (OpenSpec.ofChange memoryPutsSpec)

/-- ITS FALSE NEIGHBOUR: 'it returns false'. Refute it at one input. -/
def memoryPutsWrong : ChangeSpec := { name := "memoryPuts", fn := fun _ => fun
  | [d1, d2] => { results := [.lit (.bool false)], args := [d1, d2] }
  | _ => none }
def MemoryPutsWrongFalsely : Prop := memoryPutsRow.holds Tryd.pinned (OpenSpec.ofChange memoryPutsWrong)

/- THE SECOND FORM. 'bulk': how many values and letters a reading holds, each counted each time it is reached (what is shared counts as often as it is met; a slice's spare places count too). A statement '..UptoSaid' is the law's where the arguments, and the package variables that the reading takes, are together of bulk at most 1048576: NARROWER than '..Said'. Prove '..Said' where nothing that the law and all that it calls make is longer than what came in: it says more and counts as full. Else prove '..UptoSaid'. A law counts once. -/
mutual
def uptoBulk {H : Type} : DataW H → Nat
  | .lit (.string bytes) => bytes.length + 1
  | .lit _ => 1
  | .nil => 1
  | .ptr d => uptoBulk d + 1
  | .slice elems spare => uptoBulkAll elems + uptoBulkAll spare + 1
  | .agg parts => uptoBulkAll parts + 1
  | .iface _ d => uptoBulk d + 1
  | .map entries => uptoBulkEntries entries + 1
  | .held _ => 1
def uptoBulkAll {H : Type} : List (DataW H) → Nat
  | [] => 0
  | d :: r => uptoBulk d + uptoBulkAll r
def uptoBulkEntries {H : Type} : List (Lit × DataW H) → Nat
  | [] => 0
  | x :: r => uptoBulkEntry x + uptoBulkEntries r
def uptoBulkEntry {H : Type} : Lit × DataW H → Nat
  | (.string bytes, d) => bytes.length + uptoBulk d + 1
  | (_, d) => uptoBulk d + 1
 end
def uptoSmall : (H : Type) → List (DataW H) → Bool := fun _ ds => decide (uptoBulkAll ds ≤ 1048576)
def OpenSpec.upto (s : _root_.Go.ChangeSpec) : _root_.Go.OpenSpec := { _root_.Go.OpenSpec.ofChange s with cond := some uptoSmall }

/-- 'peloruslaw8.MemoryActs', WHERE WHAT IT READS IS OF BULK AT MOST 1048576: true; the input reads as it did. -/
def memoryActsUptoRow : OpenClaim := { program := "ytbbjbgbpjhhcoaadoor", sum := "32d2bfb83e745115f2cd56c0b55fdf68bc7350dc3e1162cec6c6f6e66ab69265", func := "pelorus/peloruslaw8.MemoryActs", spec := "memoryActs", named := ["pelorus/access.all"], apart := false, laid := [("pelorus/access.all", laid_pelorus_access_all)], narrowed := true }
def MemoryActsUptoSaid : Prop := memoryActsUptoRow.holds Tryd.pinned (OpenSpec.upto memoryActsSpec)

/-- 'peloruslaw8.MemoryBack', WHERE WHAT IT READS IS OF BULK AT MOST 1048576: true; the input reads as it did. -/
def memoryBackUptoRow : OpenClaim := { program := "ytbbjbgbpjhhcoaadoor", sum := "32d2bfb83e745115f2cd56c0b55fdf68bc7350dc3e1162cec6c6f6e66ab69265", func := "pelorus/peloruslaw8.MemoryBack", spec := "memoryBack", named := ["pelorus/access.all"], apart := false, laid := [("pelorus/access.all", laid_pelorus_access_all)], narrowed := true }
def MemoryBackUptoSaid : Prop := memoryBackUptoRow.holds Tryd.pinned (OpenSpec.upto memoryBackSpec)

/-- 'peloruslaw8.MemoryEnds', WHERE WHAT IT READS IS OF BULK AT MOST 1048576: true; the input reads as it did. -/
def memoryEndsUptoRow : OpenClaim := { program := "ytbbjbgbpjhhcoaadoor", sum := "32d2bfb83e745115f2cd56c0b55fdf68bc7350dc3e1162cec6c6f6e66ab69265", func := "pelorus/peloruslaw8.MemoryEnds", spec := "memoryEnds", named := ["pelorus/access.all"], apart := false, laid := [("pelorus/access.all", laid_pelorus_access_all)], narrowed := true }
def MemoryEndsUptoSaid : Prop := memoryEndsUptoRow.holds Tryd.pinned (OpenSpec.upto memoryEndsSpec)

/-- 'peloruslaw8.MemoryGrows', WHERE WHAT IT READS IS OF BULK AT MOST 1048576: true; the input reads as it did. -/
def memoryGrowsUptoRow : OpenClaim := { program := "ytbbjbgbpjhhcoaadoor", sum := "32d2bfb83e745115f2cd56c0b55fdf68bc7350dc3e1162cec6c6f6e66ab69265", func := "pelorus/peloruslaw8.MemoryGrows", spec := "memoryGrows", named := ["pelorus/access.all"], apart := false, laid := [("pelorus/access.all", laid_pelorus_access_all)], narrowed := true }
def MemoryGrowsUptoSaid : Prop := memoryGrowsUptoRow.holds Tryd.pinned (OpenSpec.upto memoryGrowsSpec)

/-- 'peloruslaw8.MemoryWidths', WHERE WHAT IT READS IS OF BULK AT MOST 1048576: true; the input reads as it did. -/
def memoryWidthsUptoRow : OpenClaim := { program := "ytbbjbgbpjhhcoaadoor", sum := "32d2bfb83e745115f2cd56c0b55fdf68bc7350dc3e1162cec6c6f6e66ab69265", func := "pelorus/peloruslaw8.MemoryWidths", spec := "memoryWidths", named := ["pelorus/access.all"], apart := false, laid := [("pelorus/access.all", laid_pelorus_access_all)], narrowed := true }
def MemoryWidthsUptoSaid : Prop := memoryWidthsUptoRow.holds Tryd.pinned (OpenSpec.upto memoryWidthsSpec)

/-- 'peloruslaw8.MemoryPuts', WHERE WHAT IT READS IS OF BULK AT MOST 1048576: true; the input reads as it did. -/
def memoryPutsUptoRow : OpenClaim := { program := "ytbbjbgbpjhhcoaadoor", sum := "32d2bfb83e745115f2cd56c0b55fdf68bc7350dc3e1162cec6c6f6e66ab69265", func := "pelorus/peloruslaw8.MemoryPuts", spec := "memoryPuts", named := ["pelorus/access.all"], apart := false, laid := [("pelorus/access.all", laid_pelorus_access_all)], narrowed := true }
def MemoryPutsUptoSaid : Prop := memoryPutsUptoRow.holds Tryd.pinned (OpenSpec.upto memoryPutsSpec)

end Rows
end Go.Proofs.YtbbjbgbpjhhcoaaDoor
