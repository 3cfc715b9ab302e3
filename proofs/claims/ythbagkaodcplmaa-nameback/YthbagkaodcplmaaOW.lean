/- 'awake' of package peloruslaw13, by the faces of package names. -/
import Derived.Test.YthbagkaodcplmaaOV
set_option linter.unusedVariables false
set_option linter.unusedSimpArgs false
set_option maxRecDepth 100000
set_option maxHeartbeats 4000000
namespace Go.Proofs.Ythbagkaodcplmaa
open Go.RowKit
theorem own : ownKnob Try.prog.godebug = none := by kernel_rfl
theorem wf_i64 {a : Int} (h : (Lit.int .i64 a).wf = true) : -9223372036854775808 ≤ a ∧ a ≤ 9223372036854775807 := by
  simp only [Lit.wf, IntKind.min, IntKind.max, IntKind.signed, IntKind.bits, Bool.and_eq_true, decide_eq_true_eq, if_true] at h
  omega
/-- the faces by what they answer -/
theorem may_is (s : ByteArray) (r : Bool) (h : mayN s = r) (hs : s.size < 9223372036854775000) (w : World) :
    Calls Try.prog 11 #[.string s] w fun e w' => e = .returned (.bool r) ∧ Later w w' := by
  subst h
  exact may_any s hs w
theorem nput_is (s t : ByteArray) (c : Int) (h : nmR s = (t, c)) (hs : s.size < 9223372036854775000) (w : World) :
    Calls Try.prog 7 #[.string s] w fun e w' => e = .returned (.tuple #[.string t, .int .i64 c]) ∧ Later w w' := by
  have := nput_any s hs w
  rwa [h] at this
theorem nget_is (s : ByteArray) (at_ : Int) (t : ByteArray) (b c : Int) (h : unR s at_ = (t, b, c)) (hs : s.size < 9223372036854775000) (ha : -9223372036854775808 ≤ at_ ∧ at_ ≤ 9223372036854775807) (w : World) :
    Calls Try.prog 9 #[.string s, .int .i64 at_] w fun e w' => e = .returned (.tuple #[.string t, .int .i64 b, .int .i64 c]) ∧ Later w w' := by
  have := nget_any s hs at_ ha w
  rwa [h] at this
theorem awake_any (w : World) :
    Calls Try.prog 14 #[] w fun e w' => e = .returned (.bool true) ∧ Later w w' := by
  go_enter Try.func14, Try.ntmps14
  go_wp2_with fail
  refine (nput_is _ ⟨#[3, 104, 195, 169]⟩ 0 (by kernel_rfl) (by decide) _).mono ?_
  rintro e w1 ⟨rfl, l1⟩
  go_wp2_with fail
  refine (nget_is _ 1 ⟨#[104, 195, 169]⟩ 5 0 (by kernel_rfl) (by decide) (by decide) _).mono ?_
  rintro e w2 ⟨rfl, l2⟩
  go_wp2_with fail
  refine (nput_is _ ⟨#[]⟩ 1300 (by kernel_rfl) (by decide) _).mono ?_
  rintro e w3 ⟨rfl, l3⟩
  go_wp2_with fail
  refine (nget_is _ 0 ⟨#[]⟩ 0 1300 (by kernel_rfl) (by decide) (by decide) _).mono ?_
  rintro e w4 ⟨rfl, l4⟩
  have L4 : Hid (Later w w4) := ((l1.trans l2).trans l3).trans l4
  clear l1 l2 l3 l4
  go_wp2_with (first | (go_at_call 13; refine (num_any _ _).mono ?_; rintro e w' ⟨rfl, hw⟩; obtain rfl : w4 = w' := hw.symm))
  refine (may_is _ true (by kernel_rfl) (by decide) _).mono ?_
  rintro e w5 ⟨rfl, l5⟩
  go_wp2_with fail
  refine (may_is _ false (by kernel_rfl) (by decide) _).mono ?_
  rintro e w6 ⟨rfl, l6⟩
  have L6 : Hid (Later w w6) := (L4.out.trans l5).trans l6
  clear l5 l6 L4
  go_wp2
  go_ret
  exact ⟨rfl, L6.out⟩
end Go.Proofs.Ythbagkaodcplmaa
