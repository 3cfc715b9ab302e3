/- Over this seat's translation: names by the document (pelorusref12: NameMay, Name, Unname). -/
import Derived.Test.YtngciahmoenkiacOA
import Derived.Test.YtngciahmoenkiacXC
set_option linter.unusedVariables false
set_option linter.unusedSimpArgs false
set_option maxRecDepth 100000
set_option maxHeartbeats 4000000
namespace Go.Proofs.Ytngciahmoenkiac
open Go.RowKit
def mayN (s : ByteArray) : Bool := decide (s.size ≤ 64) && utfR s
/-- Put: the bytes, an error -/
def nmR (s : ByteArray) : ByteArray × Int := if 64 < s.size then (⟨#[]⟩, 1301) else if utfR s = true then (strOfNums (lebL (s.size : Int)) ++ s, 0) else (⟨#[]⟩, 1300)
/-- Get: the name, the place behind, an error -/
def unR (s : ByteArray) (at_ : Int) : ByteArray × Int × Int :=
  if (ulR s at_ 32).2.2 = 0 ∧ (ulR s at_ 32).1 ≤ (s.size : Int) - (ulR s at_ 32).2.1 then
    if 64 < (ulR s at_ 32).1 then (⟨#[]⟩, 0, 1301)
    else if utfR (s.extract (ulR s at_ 32).2.1.toNat ((ulR s at_ 32).2.1.toNat + (ulR s at_ 32).1.toNat)) = true then (s.extract (ulR s at_ 32).2.1.toNat ((ulR s at_ 32).2.1.toNat + (ulR s at_ 32).1.toNat), (ulR s at_ 32).2.1 + (ulR s at_ 32).1, 0)
    else (⟨#[]⟩, 0, 1300)
  else (⟨#[]⟩, 0, 1300)
theorem sl_eq (u : ByteArray) (a n : Nat) (h : a + n ≤ u.size) (w : World) : (Instr.slice 9 (.string u) (some (.int .i64 (a : Int))) (some (.int .i64 ((a : Int) + (n : Int)))) none).run Try.prog w = .ok (.string (u.extract a (a + n))) w := by
  have ht := Try.underlying9
  have h1 : (a : Int) ≤ (a : Int) + (n : Int) := by omega
  have h2 : (a : Int) + (n : Int) ≤ (u.size : Int) := by omega
  have h3 : (0 : Int) ≤ (a : Int) + (n : Int) := by omega
  have h4 : ((a : Int) + (n : Int)).toNat = a + n := by omega
  simp [Instr.slice, run_underlying ht, Instr.sliceBounds, run_sliceBound, sliced, h1, h2, h3, h4]
end Go.Proofs.Ytngciahmoenkiac
