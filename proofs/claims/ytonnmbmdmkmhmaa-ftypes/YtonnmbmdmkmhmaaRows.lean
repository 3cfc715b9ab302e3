/-
  NARROWER THAN 'FOR EVERY INPUT', by the rows' own cells (each row's printed sentence says how): Ftypes: loops.
  DERIVED. THE GIVEN ROWS OF THIS SEAT. 2 by the template 'for every input the law returns true; each argument reads behind the call as it read before'; 0 by the template 'total and deterministic' (their statements: YtonnmbmdmkmhmaaTotals.lean).
  GIVEN WITH THE SEED: the statements are not yours to turn. If you find one false, say at which input.
  Laid BY PROGRAM, IN A SANDBOX (cutbox-rows.mjs): the forced cells as the released guide's own fill.sh prints them over the translation c28217cfe4d77249… (all of the seat's roots in one cut). By AI agents, Wed Nov 11 2026. No macro, syntax, notation, axiom, sorry.
-/
import Derived.Test.YtonnmbmdmkmhmaaChecked
import GoSem.Claim
import GoSem.ClaimJoined
import GoSem.ClaimMapViews
import Derived.JoinedTies
import Derived.KernelRfl
namespace Go.Proofs.Ytonnmbmdmkmhmaa
/- THE CELL 'sum', in the pinned program and in every row, IS THE sha256 OF THE DUMP (.gsa) THAT YtonnmbmdmkmhmaaProg.lean LOADS. Nothing in Lean hashes anything: it is a label: what it is worth is what the hold of that sum in a sandbox is worth. -/
noncomputable def Try.pinned : Pinned := { name := "ytonnmbmdmkmhmaa", sum := "c28217cfe4d7724944ee81bdd8cbc3fd5e171d771a4c36775c8bacea50ff3f86", checked := Try.checked }
namespace Rows
def none {H : Type} : Left H := { results := [], args := [] }

/-- 'peloruslaw17.Ftypes': WHATEVER THE INPUT: true; the input reads as it did. -/
def ftypesSpec : ChangeSpec := { name := "ftypes", fn := fun _ => fun
  | [d1, d2, d3, d4] => { results := [.lit (.bool true)], args := [d1, d2, d3, d4] }
  | _ => none }
def ftypesRow : OpenClaim := { program := "ytonnmbmdmkmhmaa", sum := "c28217cfe4d7724944ee81bdd8cbc3fd5e171d771a4c36775c8bacea50ff3f86", func := "pelorus/peloruslaw17.Ftypes", spec := "ftypes", unfollowed := true, recurses := true, loops := true, apart := false }
def FtypesSaid : Prop := ftypesRow.holds Try.pinned (OpenSpec.ofChange ftypesSpec)

/-- ITS FALSE NEIGHBOUR: 'it returns false'. Refute it at one input. -/
def ftypesWrong : ChangeSpec := { name := "ftypes", fn := fun _ => fun
  | [d1, d2, d3, d4] => { results := [.lit (.bool false)], args := [d1, d2, d3, d4] }
  | _ => none }
def FtypesWrongFalsely : Prop := ftypesRow.holds Try.pinned (OpenSpec.ofChange ftypesWrong)

/-- 'peloruslaw17.FtypeImports': WHATEVER THE INPUT: true; the input reads as it did. -/
def ftypeImportsSpec : ChangeSpec := { name := "ftypeImports", fn := fun _ => fun
  | [d1, d2] => { results := [.lit (.bool true)], args := [d1, d2] }
  | _ => none }
def ftypeImportsRow : OpenClaim := { program := "ytonnmbmdmkmhmaa", sum := "c28217cfe4d7724944ee81bdd8cbc3fd5e171d771a4c36775c8bacea50ff3f86", func := "pelorus/peloruslaw17.FtypeImports", spec := "ftypeImports", unfollowed := true, recurses := true, apart := false }
def FtypeImportsSaid : Prop := ftypeImportsRow.holds Try.pinned (OpenSpec.ofChange ftypeImportsSpec)

/-- ITS FALSE NEIGHBOUR: 'it returns false'. Refute it at one input. -/
def ftypeImportsWrong : ChangeSpec := { name := "ftypeImports", fn := fun _ => fun
  | [d1, d2] => { results := [.lit (.bool false)], args := [d1, d2] }
  | _ => none }
def FtypeImportsWrongFalsely : Prop := ftypeImportsRow.holds Try.pinned (OpenSpec.ofChange ftypeImportsWrong)

/- THE SECOND FORM. 'bulk': how many values and letters a reading holds, each counted each time it is reached (what is shared counts as often as it is met; a slice's spare places count too). A statement '..UptoSaid' is the law's where the arguments, and the package variables that the reading takes, are together of bulk at most 1048576: NARROWER than '..Said'. Prove '..Said' where nothing that the law and all that it calls make is longer than what came in: it says more and counts as full. Else prove '..UptoSaid'. A law counts once. -/
mutual
def uptoBulk {H : Type} : DataW H → Nat
  | .lit (.string bytes) => bytes.length + 1
  | .lit _ => 1
  | .nil => 1
  | .ptr d => uptoBulk d + 1
  | .slice elems spare => uptoBulkAll elems + uptoBulkAll spare + 1
  | .agg parts => uptoBulkAll parts + 1
  | .iface _ d => uptoBulk d + 1
  | .map entries => uptoBulkEntries entries + 1
  | .held _ => 1
def uptoBulkAll {H : Type} : List (DataW H) → Nat
  | [] => 0
  | d :: r => uptoBulk d + uptoBulkAll r
def uptoBulkEntries {H : Type} : List (Lit × DataW H) → Nat
  | [] => 0
  | x :: r => uptoBulkEntry x + uptoBulkEntries r
def uptoBulkEntry {H : Type} : Lit × DataW H → Nat
  | (.string bytes, d) => bytes.length + uptoBulk d + 1
  | (_, d) => uptoBulk d + 1
 end
def uptoSmall : (H : Type) → List (DataW H) → Bool := fun _ ds => decide (uptoBulkAll ds ≤ 1048576)
def OpenSpec.upto (s : _root_.Go.ChangeSpec) : _root_.Go.OpenSpec := { _root_.Go.OpenSpec.ofChange s with cond := some uptoSmall }

/-- 'peloruslaw17.Ftypes', WHERE WHAT IT READS IS OF BULK AT MOST 1048576: true; the input reads as it did. -/
def ftypesUptoRow : OpenClaim := { program := "ytonnmbmdmkmhmaa", sum := "c28217cfe4d7724944ee81bdd8cbc3fd5e171d771a4c36775c8bacea50ff3f86", func := "pelorus/peloruslaw17.Ftypes", spec := "ftypes", unfollowed := true, recurses := true, loops := true, apart := false, narrowed := true }
def FtypesUptoSaid : Prop := ftypesUptoRow.holds Try.pinned (OpenSpec.upto ftypesSpec)

/-- 'peloruslaw17.FtypeImports', WHERE WHAT IT READS IS OF BULK AT MOST 1048576: true; the input reads as it did. -/
def ftypeImportsUptoRow : OpenClaim := { program := "ytonnmbmdmkmhmaa", sum := "c28217cfe4d7724944ee81bdd8cbc3fd5e171d771a4c36775c8bacea50ff3f86", func := "pelorus/peloruslaw17.FtypeImports", spec := "ftypeImports", unfollowed := true, recurses := true, apart := false, narrowed := true }
def FtypeImportsUptoSaid : Prop := ftypeImportsUptoRow.holds Try.pinned (OpenSpec.upto ftypeImportsSpec)

end Rows
end Go.Proofs.Ytonnmbmdmkmhmaa
