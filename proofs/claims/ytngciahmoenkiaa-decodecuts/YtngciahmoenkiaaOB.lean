/- Over this seat's translation: names by the document (pelorusref12: NameMay, Name, Unname). -/
import Derived.Test.YtngciahmoenkiaaOA
import Derived.Test.YtngciahmoenkiaaXC
set_option linter.unusedVariables false
set_option linter.unusedSimpArgs false
set_option maxRecDepth 100000
set_option maxHeartbeats 4000000
namespace Go.Proofs.Ytngciahmoenkiaa
open Go.RowKit
def mayN (s : ByteArray) : Bool := decide (s.size ≤ 64) && utfR s
/-- Put: the bytes, an error -/
def nmR (s : ByteArray) : ByteArray × Int := if 64 < s.size then (⟨#[]⟩, 1301) else if utfR s = true then (strOfNums (lebL (s.size : Int)) ++ s, 0) else (⟨#[]⟩, 1300)
/-- Get: the name, the place behind, an error -/
def unR (s : ByteArray) (at_ : Int) : ByteArray × Int × Int :=
  if (ulR s at_ 32).2.2 = 0 ∧ (ulR s at_ 32).1 ≤ (s.size : Int) - (ulR s at_ 32).2.1 then
    if 64 < (ulR s at_ 32).1 then (⟨#[]⟩, 0, 1301)
    else if utfR (s.extract (ulR s at_ 32).2.1.toNat ((ulR s at_ 32).2.1.toNat + (ulR s at_ 32).1.toNat)) = true then (s.extract (ulR s at_ 32).2.1.toNat ((ulR s at_ 32).2.1.toNat + (ulR s at_ 32).1.toNat), (ulR s at_ 32).2.1 + (ulR s at_ 32).1, 0)
    else (⟨#[]⟩, 0, 1300)
  else (⟨#[]⟩, 0, 1300)
theorem namemay_any (s : ByteArray) (hs : s.size < 9223372036854775000) (w : World) :
    Calls Try.prog 11 #[.string s] w fun e w' => e = .returned (.bool (mayN s)) ∧ w' = w := by
  have hu : Hid (∀ w : World, Calls Try.prog 20 #[.string s] w fun e w' => e = .returned (.bool (utfR s)) ∧ w' = w) := fun w => utf8_any s hs _ rfl w
  unfold mayN
  generalize utfR s = u at *
  by_cases h : s.size ≤ 64
  · have h1 : (s.size : Int) ≤ 64 := by omega
    rw [decide_eq_true h, Bool.true_and]
    go_enter Try.func11, Try.ntmps11
    go_wp2_with (go_at_call 20; refine (hu.out _).mono ?_; rintro e w' ⟨rfl, hw⟩; obtain rfl : w = w' := hw.symm)
    go_ret
    exact ⟨rfl, rfl⟩
  · have h1 : ¬ (s.size : Int) ≤ 64 := by omega
    rw [decide_eq_false h, Bool.false_and]
    go_enter Try.func11, Try.ntmps11
    go_wp2
    go_ret
    exact ⟨rfl, rfl⟩
theorem sl_eq (u : ByteArray) (a n : Nat) (h : a + n ≤ u.size) (w : World) : (Instr.slice 9 (.string u) (some (.int .i64 (a : Int))) (some (.int .i64 ((a : Int) + (n : Int)))) none).run Try.prog w = .ok (.string (u.extract a (a + n))) w := by
  have ht := Try.underlying9
  have h1 : (a : Int) ≤ (a : Int) + (n : Int) := by omega
  have h2 : (a : Int) + (n : Int) ≤ (u.size : Int) := by omega
  have h3 : (0 : Int) ≤ (a : Int) + (n : Int) := by omega
  have h4 : ((a : Int) + (n : Int)).toNat = a + n := by omega
  simp [Instr.slice, run_underlying ht, Instr.sliceBounds, run_sliceBound, sliced, h1, h2, h3, h4]
end Go.Proofs.Ytngciahmoenkiaa
