/-
  NARROWER THAN 'FOR EVERY INPUT', by the rows' own cells (each row's printed sentence says how): I32All: laid · I32Each: laid · I32Rules: laid · I32Ring: laid · I32Order: laid · I32Logic: laid.
  DERIVED. THE GIVEN ROWS OF THIS SEAT. 6 by the template 'for every input the law returns true; each argument reads behind the call as it read before'; 0 by the template 'total and deterministic' (their statements: YtdcmiahgmkkdoaaDoorTotals.lean).
  GIVEN WITH THE SEED: the statements are not yours to turn. If you find one false, say at which input.
  Laid BY PROGRAM, IN A SANDBOX (cutbox-rows.mjs): the forced cells as the released guide's own fill.sh prints them over the translation a074aea56a2c89a9… (all of the seat's roots in one cut). By AI agents, Wed Nov 11 2026. No macro, syntax, notation, axiom, sorry.
-/
import Derived.Test.YtdcmiahgmkkdoaaDoorChecked
import GoSem.Claim
import GoSem.ClaimJoined
import GoSem.ClaimMapViews
import Derived.JoinedTies
import Derived.KernelRfl
namespace Go.Proofs.YtdcmiahgmkkdoaaDoor
/- THE CELL 'sum', in the pinned program and in every row, IS THE sha256 OF THE DUMP (.gsa) THAT YtdcmiahgmkkdoaaDoorProg.lean LOADS. Nothing in Lean hashes anything: it is a label: what it is worth is what the hold of that sum in a sandbox is worth. -/
noncomputable def Tryd.pinned : Pinned := { name := "ytdcmiahgmkkdoaadoor", sum := "a074aea56a2c89a9068fc3a691bad74ea4c6dcb0fdfd9cf7cd3995158f91edef", checked := Tryd.checked }
namespace Rows
def none {H : Type} : Left H := { results := [], args := [] }

/- WHAT THE LISTED PACKAGE-LEVEL VARIABLES READ AS WHEN THE CALL BEGINS. Each datum BY PROGRAM (the guide's laid-datum.mjs) off the statement by which the dump's own 'gosem.cut.vars' lays the variable. In a bare row this is a premise. The card (YtdcmiahgmkkdoaaDoorCards.lean) ties it to the program's text. -/
def laid_math_bits_deBruijn32tab {H : Type} : DataW H := .agg [.lit (.int .u8 0), .lit (.int .u8 1), .lit (.int .u8 28), .lit (.int .u8 2), .lit (.int .u8 29), .lit (.int .u8 14), .lit (.int .u8 24), .lit (.int .u8 3), .lit (.int .u8 30), .lit (.int .u8 22), .lit (.int .u8 20), .lit (.int .u8 15), .lit (.int .u8 25), .lit (.int .u8 17), .lit (.int .u8 4), .lit (.int .u8 8), .lit (.int .u8 31), .lit (.int .u8 27), .lit (.int .u8 13), .lit (.int .u8 23), .lit (.int .u8 21), .lit (.int .u8 19), .lit (.int .u8 16), .lit (.int .u8 7), .lit (.int .u8 26), .lit (.int .u8 12), .lit (.int .u8 18), .lit (.int .u8 6), .lit (.int .u8 11), .lit (.int .u8 5), .lit (.int .u8 10), .lit (.int .u8 9)]
def laid_math_bits_deBruijn64tab {H : Type} : DataW H := .agg [.lit (.int .u8 0), .lit (.int .u8 1), .lit (.int .u8 56), .lit (.int .u8 2), .lit (.int .u8 57), .lit (.int .u8 49), .lit (.int .u8 28), .lit (.int .u8 3), .lit (.int .u8 61), .lit (.int .u8 58), .lit (.int .u8 42), .lit (.int .u8 50), .lit (.int .u8 38), .lit (.int .u8 29), .lit (.int .u8 17), .lit (.int .u8 4), .lit (.int .u8 62), .lit (.int .u8 47), .lit (.int .u8 59), .lit (.int .u8 36), .lit (.int .u8 45), .lit (.int .u8 43), .lit (.int .u8 51), .lit (.int .u8 22), .lit (.int .u8 53), .lit (.int .u8 39), .lit (.int .u8 33), .lit (.int .u8 30), .lit (.int .u8 24), .lit (.int .u8 18), .lit (.int .u8 12), .lit (.int .u8 5), .lit (.int .u8 63), .lit (.int .u8 55), .lit (.int .u8 48), .lit (.int .u8 27), .lit (.int .u8 60), .lit (.int .u8 41), .lit (.int .u8 37), .lit (.int .u8 16), .lit (.int .u8 46), .lit (.int .u8 35), .lit (.int .u8 44), .lit (.int .u8 21), .lit (.int .u8 52), .lit (.int .u8 32), .lit (.int .u8 23), .lit (.int .u8 11), .lit (.int .u8 54), .lit (.int .u8 26), .lit (.int .u8 40), .lit (.int .u8 15), .lit (.int .u8 34), .lit (.int .u8 20), .lit (.int .u8 31), .lit (.int .u8 10), .lit (.int .u8 25), .lit (.int .u8 14), .lit (.int .u8 19), .lit (.int .u8 9), .lit (.int .u8 13), .lit (.int .u8 8), .lit (.int .u8 7), .lit (.int .u8 6)]

/-- 'peloruslaw2.I32All': WHATEVER THE INPUT: true; the input reads as it did. -/
def i32AllSpec : ChangeSpec := { name := "i32All", fn := fun _ => fun
  | [d1, d2, d3] => { results := [.lit (.bool true)], args := [d1, d2, d3] }
  | _ => none }
def i32AllRow : OpenClaim := { program := "ytdcmiahgmkkdoaadoor", sum := "a074aea56a2c89a9068fc3a691bad74ea4c6dcb0fdfd9cf7cd3995158f91edef", func := "pelorus/peloruslaw2.I32All", spec := "i32All", named := ["math/bits.deBruijn32tab", "math/bits.deBruijn64tab"], apart := false, laid := [("math/bits.deBruijn32tab", laid_math_bits_deBruijn32tab), ("math/bits.deBruijn64tab", laid_math_bits_deBruijn64tab)] }
def I32AllSaid : Prop := i32AllRow.holds Tryd.pinned (OpenSpec.ofChange i32AllSpec)

/-- ITS FALSE NEIGHBOUR: 'it returns false'. Refute it at one input. -/
def i32AllWrong : ChangeSpec := { name := "i32All", fn := fun _ => fun
  | [d1, d2, d3] => { results := [.lit (.bool false)], args := [d1, d2, d3] }
  | _ => none }
def I32AllWrongFalsely : Prop := i32AllRow.holds Tryd.pinned (OpenSpec.ofChange i32AllWrong)

/-- 'peloruslaw2.I32Each': WHATEVER THE INPUT: true; the input reads as it did. -/
def i32EachSpec : ChangeSpec := { name := "i32Each", fn := fun _ => fun
  | [d1, d2] => { results := [.lit (.bool true)], args := [d1, d2] }
  | _ => none }
def i32EachRow : OpenClaim := { program := "ytdcmiahgmkkdoaadoor", sum := "a074aea56a2c89a9068fc3a691bad74ea4c6dcb0fdfd9cf7cd3995158f91edef", func := "pelorus/peloruslaw2.I32Each", spec := "i32Each", named := ["math/bits.deBruijn32tab", "math/bits.deBruijn64tab"], apart := false, laid := [("math/bits.deBruijn32tab", laid_math_bits_deBruijn32tab), ("math/bits.deBruijn64tab", laid_math_bits_deBruijn64tab)] }
def I32EachSaid : Prop := i32EachRow.holds Tryd.pinned (OpenSpec.ofChange i32EachSpec)

/-- ITS FALSE NEIGHBOUR: 'it returns false'. Refute it at one input. -/
def i32EachWrong : ChangeSpec := { name := "i32Each", fn := fun _ => fun
  | [d1, d2] => { results := [.lit (.bool false)], args := [d1, d2] }
  | _ => none }
def I32EachWrongFalsely : Prop := i32EachRow.holds Tryd.pinned (OpenSpec.ofChange i32EachWrong)

/-- 'peloruslaw2.I32Rules': WHATEVER THE INPUT: true; the input reads as it did. -/
def i32RulesSpec : ChangeSpec := { name := "i32Rules", fn := fun _ => fun
  | [d1, d2] => { results := [.lit (.bool true)], args := [d1, d2] }
  | _ => none }
def i32RulesRow : OpenClaim := { program := "ytdcmiahgmkkdoaadoor", sum := "a074aea56a2c89a9068fc3a691bad74ea4c6dcb0fdfd9cf7cd3995158f91edef", func := "pelorus/peloruslaw2.I32Rules", spec := "i32Rules", named := ["math/bits.deBruijn32tab", "math/bits.deBruijn64tab"], apart := false, laid := [("math/bits.deBruijn32tab", laid_math_bits_deBruijn32tab), ("math/bits.deBruijn64tab", laid_math_bits_deBruijn64tab)] }
def I32RulesSaid : Prop := i32RulesRow.holds Tryd.pinned (OpenSpec.ofChange i32RulesSpec)

/-- ITS FALSE NEIGHBOUR: 'it returns false'. Refute it at one input. -/
def i32RulesWrong : ChangeSpec := { name := "i32Rules", fn := fun _ => fun
  | [d1, d2] => { results := [.lit (.bool false)], args := [d1, d2] }
  | _ => none }
def I32RulesWrongFalsely : Prop := i32RulesRow.holds Tryd.pinned (OpenSpec.ofChange i32RulesWrong)

/-- 'peloruslaw2.I32Ring': WHATEVER THE INPUT: true; the input reads as it did. -/
def i32RingSpec : ChangeSpec := { name := "i32Ring", fn := fun _ => fun
  | [d1, d2, d3] => { results := [.lit (.bool true)], args := [d1, d2, d3] }
  | _ => none }
def i32RingRow : OpenClaim := { program := "ytdcmiahgmkkdoaadoor", sum := "a074aea56a2c89a9068fc3a691bad74ea4c6dcb0fdfd9cf7cd3995158f91edef", func := "pelorus/peloruslaw2.I32Ring", spec := "i32Ring", named := ["math/bits.deBruijn32tab", "math/bits.deBruijn64tab"], apart := false, laid := [("math/bits.deBruijn32tab", laid_math_bits_deBruijn32tab), ("math/bits.deBruijn64tab", laid_math_bits_deBruijn64tab)] }
def I32RingSaid : Prop := i32RingRow.holds Tryd.pinned (OpenSpec.ofChange i32RingSpec)

/-- ITS FALSE NEIGHBOUR: 'it returns false'. Refute it at one input. -/
def i32RingWrong : ChangeSpec := { name := "i32Ring", fn := fun _ => fun
  | [d1, d2, d3] => { results := [.lit (.bool false)], args := [d1, d2, d3] }
  | _ => none }
def I32RingWrongFalsely : Prop := i32RingRow.holds Tryd.pinned (OpenSpec.ofChange i32RingWrong)

/-- 'peloruslaw2.I32Order': WHATEVER THE INPUT: true; the input reads as it did. -/
def i32OrderSpec : ChangeSpec := { name := "i32Order", fn := fun _ => fun
  | [d1, d2] => { results := [.lit (.bool true)], args := [d1, d2] }
  | _ => none }
def i32OrderRow : OpenClaim := { program := "ytdcmiahgmkkdoaadoor", sum := "a074aea56a2c89a9068fc3a691bad74ea4c6dcb0fdfd9cf7cd3995158f91edef", func := "pelorus/peloruslaw2.I32Order", spec := "i32Order", named := ["math/bits.deBruijn32tab", "math/bits.deBruijn64tab"], apart := false, laid := [("math/bits.deBruijn32tab", laid_math_bits_deBruijn32tab), ("math/bits.deBruijn64tab", laid_math_bits_deBruijn64tab)] }
def I32OrderSaid : Prop := i32OrderRow.holds Tryd.pinned (OpenSpec.ofChange i32OrderSpec)

/-- ITS FALSE NEIGHBOUR: 'it returns false'. Refute it at one input. -/
def i32OrderWrong : ChangeSpec := { name := "i32Order", fn := fun _ => fun
  | [d1, d2] => { results := [.lit (.bool false)], args := [d1, d2] }
  | _ => none }
def I32OrderWrongFalsely : Prop := i32OrderRow.holds Tryd.pinned (OpenSpec.ofChange i32OrderWrong)

/-- 'peloruslaw2.I32Logic': WHATEVER THE INPUT: true; the input reads as it did. -/
def i32LogicSpec : ChangeSpec := { name := "i32Logic", fn := fun _ => fun
  | [d1, d2] => { results := [.lit (.bool true)], args := [d1, d2] }
  | _ => none }
def i32LogicRow : OpenClaim := { program := "ytdcmiahgmkkdoaadoor", sum := "a074aea56a2c89a9068fc3a691bad74ea4c6dcb0fdfd9cf7cd3995158f91edef", func := "pelorus/peloruslaw2.I32Logic", spec := "i32Logic", named := ["math/bits.deBruijn32tab", "math/bits.deBruijn64tab"], apart := false, laid := [("math/bits.deBruijn32tab", laid_math_bits_deBruijn32tab), ("math/bits.deBruijn64tab", laid_math_bits_deBruijn64tab)] }
def I32LogicSaid : Prop := i32LogicRow.holds Tryd.pinned (OpenSpec.ofChange i32LogicSpec)

/-- ITS FALSE NEIGHBOUR: 'it returns false'. Refute it at one input. -/
def i32LogicWrong : ChangeSpec := { name := "i32Logic", fn := fun _ => fun
  | [d1, d2] => { results := [.lit (.bool false)], args := [d1, d2] }
  | _ => none }
def I32LogicWrongFalsely : Prop := i32LogicRow.holds Tryd.pinned (OpenSpec.ofChange i32LogicWrong)

/- THE SECOND FORM. 'bulk': how many values and letters a reading holds, each counted each time it is reached (what is shared counts as often as it is met; a slice's spare places count too). A statement '..UptoSaid' is the law's where the arguments, and the package variables that the reading takes, are together of bulk at most 1048576: NARROWER than '..Said'. Prove '..Said' where nothing that the law and all that it calls make is longer than what came in: it says more and counts as full. Else prove '..UptoSaid'. A law counts once. -/
mutual
def uptoBulk {H : Type} : DataW H → Nat
  | .lit (.string bytes) => bytes.length + 1
  | .lit _ => 1
  | .nil => 1
  | .ptr d => uptoBulk d + 1
  | .slice elems spare => uptoBulkAll elems + uptoBulkAll spare + 1
  | .agg parts => uptoBulkAll parts + 1
  | .iface _ d => uptoBulk d + 1
  | .map entries => uptoBulkEntries entries + 1
  | .held _ => 1
def uptoBulkAll {H : Type} : List (DataW H) → Nat
  | [] => 0
  | d :: r => uptoBulk d + uptoBulkAll r
def uptoBulkEntries {H : Type} : List (Lit × DataW H) → Nat
  | [] => 0
  | x :: r => uptoBulkEntry x + uptoBulkEntries r
def uptoBulkEntry {H : Type} : Lit × DataW H → Nat
  | (.string bytes, d) => bytes.length + uptoBulk d + 1
  | (_, d) => uptoBulk d + 1
 end
def uptoSmall : (H : Type) → List (DataW H) → Bool := fun _ ds => decide (uptoBulkAll ds ≤ 1048576)
def OpenSpec.upto (s : _root_.Go.ChangeSpec) : _root_.Go.OpenSpec := { _root_.Go.OpenSpec.ofChange s with cond := some uptoSmall }

/-- 'peloruslaw2.I32All', WHERE WHAT IT READS IS OF BULK AT MOST 1048576: true; the input reads as it did. -/
def i32AllUptoRow : OpenClaim := { program := "ytdcmiahgmkkdoaadoor", sum := "a074aea56a2c89a9068fc3a691bad74ea4c6dcb0fdfd9cf7cd3995158f91edef", func := "pelorus/peloruslaw2.I32All", spec := "i32All", named := ["math/bits.deBruijn32tab", "math/bits.deBruijn64tab"], apart := false, laid := [("math/bits.deBruijn32tab", laid_math_bits_deBruijn32tab), ("math/bits.deBruijn64tab", laid_math_bits_deBruijn64tab)], narrowed := true }
def I32AllUptoSaid : Prop := i32AllUptoRow.holds Tryd.pinned (OpenSpec.upto i32AllSpec)

/-- 'peloruslaw2.I32Each', WHERE WHAT IT READS IS OF BULK AT MOST 1048576: true; the input reads as it did. -/
def i32EachUptoRow : OpenClaim := { program := "ytdcmiahgmkkdoaadoor", sum := "a074aea56a2c89a9068fc3a691bad74ea4c6dcb0fdfd9cf7cd3995158f91edef", func := "pelorus/peloruslaw2.I32Each", spec := "i32Each", named := ["math/bits.deBruijn32tab", "math/bits.deBruijn64tab"], apart := false, laid := [("math/bits.deBruijn32tab", laid_math_bits_deBruijn32tab), ("math/bits.deBruijn64tab", laid_math_bits_deBruijn64tab)], narrowed := true }
def I32EachUptoSaid : Prop := i32EachUptoRow.holds Tryd.pinned (OpenSpec.upto i32EachSpec)

/-- 'peloruslaw2.I32Rules', WHERE WHAT IT READS IS OF BULK AT MOST 1048576: true; the input reads as it did. -/
def i32RulesUptoRow : OpenClaim := { program := "ytdcmiahgmkkdoaadoor", sum := "a074aea56a2c89a9068fc3a691bad74ea4c6dcb0fdfd9cf7cd3995158f91edef", func := "pelorus/peloruslaw2.I32Rules", spec := "i32Rules", named := ["math/bits.deBruijn32tab", "math/bits.deBruijn64tab"], apart := false, laid := [("math/bits.deBruijn32tab", laid_math_bits_deBruijn32tab), ("math/bits.deBruijn64tab", laid_math_bits_deBruijn64tab)], narrowed := true }
def I32RulesUptoSaid : Prop := i32RulesUptoRow.holds Tryd.pinned (OpenSpec.upto i32RulesSpec)

/-- 'peloruslaw2.I32Ring', WHERE WHAT IT READS IS OF BULK AT MOST 1048576: true; the input reads as it did. -/
def i32RingUptoRow : OpenClaim := { program := "ytdcmiahgmkkdoaadoor", sum := "a074aea56a2c89a9068fc3a691bad74ea4c6dcb0fdfd9cf7cd3995158f91edef", func := "pelorus/peloruslaw2.I32Ring", spec := "i32Ring", named := ["math/bits.deBruijn32tab", "math/bits.deBruijn64tab"], apart := false, laid := [("math/bits.deBruijn32tab", laid_math_bits_deBruijn32tab), ("math/bits.deBruijn64tab", laid_math_bits_deBruijn64tab)], narrowed := true }
def I32RingUptoSaid : Prop := i32RingUptoRow.holds Tryd.pinned (OpenSpec.upto i32RingSpec)

/-- 'peloruslaw2.I32Order', WHERE WHAT IT READS IS OF BULK AT MOST 1048576: true; the input reads as it did. -/
def i32OrderUptoRow : OpenClaim := { program := "ytdcmiahgmkkdoaadoor", sum := "a074aea56a2c89a9068fc3a691bad74ea4c6dcb0fdfd9cf7cd3995158f91edef", func := "pelorus/peloruslaw2.I32Order", spec := "i32Order", named := ["math/bits.deBruijn32tab", "math/bits.deBruijn64tab"], apart := false, laid := [("math/bits.deBruijn32tab", laid_math_bits_deBruijn32tab), ("math/bits.deBruijn64tab", laid_math_bits_deBruijn64tab)], narrowed := true }
def I32OrderUptoSaid : Prop := i32OrderUptoRow.holds Tryd.pinned (OpenSpec.upto i32OrderSpec)

/-- 'peloruslaw2.I32Logic', WHERE WHAT IT READS IS OF BULK AT MOST 1048576: true; the input reads as it did. -/
def i32LogicUptoRow : OpenClaim := { program := "ytdcmiahgmkkdoaadoor", sum := "a074aea56a2c89a9068fc3a691bad74ea4c6dcb0fdfd9cf7cd3995158f91edef", func := "pelorus/peloruslaw2.I32Logic", spec := "i32Logic", named := ["math/bits.deBruijn32tab", "math/bits.deBruijn64tab"], apart := false, laid := [("math/bits.deBruijn32tab", laid_math_bits_deBruijn32tab), ("math/bits.deBruijn64tab", laid_math_bits_deBruijn64tab)], narrowed := true }
def I32LogicUptoSaid : Prop := i32LogicUptoRow.holds Tryd.pinned (OpenSpec.upto i32LogicSpec)

end Rows
end Go.Proofs.YtdcmiahgmkkdoaaDoor
