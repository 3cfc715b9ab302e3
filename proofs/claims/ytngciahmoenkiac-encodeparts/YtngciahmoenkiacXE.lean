/- XE: IE, IF, joined. -/
import Derived.Test.YtngciahmoenkiacXD
/- Over this seat's translation: the document's kinds of instructions. -/
set_option linter.unusedVariables false
set_option linter.unusedSimpArgs false
set_option maxRecDepth 100000
set_option maxHeartbeats 4000000
namespace Go.Proofs.Ytngciahmoenkiac
open Go.RowKit
/-- an Op's kind -/
def fo (op : Int) : Int :=
  if op = 0 ∨ op = 1 ∨ op = 15 ∨ op = 26 ∨ op = 27 ∨ (69 ≤ op ∧ op ≤ 191) then 0
  else if op = 2 ∨ op = 3 then 1
  else if op = 4 then 2
  else if op = 12 ∨ op = 13 ∨ op = 16 ∨ (32 ≤ op ∧ op ≤ 36) then 3
  else if op = 14 then 4
  else if op = 17 then 5
  else if 40 ≤ op ∧ op ≤ 62 then 6
  else if op = 63 ∨ op = 64 then 7
  else if 65 ≤ op ∧ op ≤ 68 then 8
  else 9
theorem beq_false {x y : Int} (h : ¬ x = y) : (x == y) = false := by simpa using h
theorem fo_rng (op : Int) : 0 ≤ fo op ∧ fo op ≤ 9 := by
  unfold fo
  repeat' split
  all_goals omega
end Go.Proofs.Ytngciahmoenkiac


/- Over this seat's translation: which instructions may be, by the document. -/
set_option linter.unusedVariables false
set_option linter.unusedSimpArgs false
set_option maxRecDepth 100000
set_option maxHeartbeats 40000000
namespace Go.Proofs.Ytngciahmoenkiac
open Go.RowKit
def Wd (x : Int) : Prop := 0 ≤ x ∧ x ≤ 4294967295
/-- may an instruction be, without its blocks? -/
def mayP (op a b bi ty : Int) (ls : List Int) (nb ne : Nat) : Prop :=
  if fo op = 0 ∨ fo op = 7 then a = 0 ∧ b = 0 ∧ bi = 0 ∧ ls.length = 0 ∧ ty = 0 ∧ nb = 0 ∧ ne = 0
  else if fo op = 1 then a = 0 ∧ b = 0 ∧ bi = 0 ∧ ls.length = 0 ∧ ne = 0 ∧ (ty = 64 ∨ (124 ≤ ty ∧ ty ≤ 127))
  else if fo op = 2 then a = 0 ∧ b = 0 ∧ bi = 0 ∧ ls.length = 0 ∧ (ty = 64 ∨ (124 ≤ ty ∧ ty ≤ 127))
  else if fo op = 3 ∨ fo op = 5 then (0 ≤ a ∧ a ≤ 4294967295) ∧ b = 0 ∧ bi = 0 ∧ ls.length = 0 ∧ ty = 0 ∧ nb = 0 ∧ ne = 0
  else if fo op = 4 then a = 0 ∧ b = 0 ∧ bi = 0 ∧ ty = 0 ∧ nb = 0 ∧ ne = 0 ∧ (∀ x ∈ ls, Wd x) ∧ 1 ≤ ls.length ∧ ls.length ≤ 1024
  else if fo op = 6 then (0 ≤ a ∧ a ≤ 4294967295) ∧ (0 ≤ b ∧ b ≤ 4294967295) ∧ bi = 0 ∧ ls.length = 0 ∧ ty = 0 ∧ nb = 0 ∧ ne = 0
  else if fo op = 8 then a = 0 ∧ b = 0 ∧ ls.length = 0 ∧ ty = 0 ∧ nb = 0 ∧ ne = 0 ∧ (op = 66 ∨ op = 68 ∨ (0 ≤ bi ∧ bi ≤ 4294967295))
  else False
end Go.Proofs.Ytngciahmoenkiac

