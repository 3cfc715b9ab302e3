/- 'awake' of package peloruslaw12, by the faces of package leb. -/
import Derived.Test.YtljogkiibpinaaaLV
set_option linter.unusedVariables false
set_option linter.unusedSimpArgs false
set_option maxRecDepth 100000
set_option maxHeartbeats 4000000
namespace Go.Proofs.Ytljogkiibpinaaa
open Go.RowKit
theorem own : ownKnob Try.prog.godebug = none := by kernel_rfl
theorem wf_i64 {a : Int} (h : (Lit.int .i64 a).wf = true) : -9223372036854775808 ≤ a ∧ a ≤ 9223372036854775807 := by
  simp only [Lit.wf, IntKind.min, IntKind.max, IntKind.signed, IntKind.bits, Bool.and_eq_true, decide_eq_true_eq, if_true] at h
  omega
/-- the faces by what they answer -/
theorem put_is (x : Int) (s : ByteArray) (h : strOfNums (lebL x) = s) (hx : -9223372036854775808 ≤ x ∧ x ≤ 9223372036854775807) (w : World) :
    Calls Try.prog 13 #[.int .i64 x] w fun e w' => e = .returned (.string s) ∧ Later w w' := by
  subst h
  exact put_any x hx w
theorem puts_is (x : Int) (s : ByteArray) (h : strOfNums (slebL x) = s) (hx : -9223372036854775808 ≤ x ∧ x ≤ 9223372036854775807) (w : World) :
    Calls Try.prog 15 #[.int .i64 x] w fun e w' => e = .returned (.string s) ∧ Later w w' := by
  subst h
  exact puts_any x hx w
theorem get_is (s : ByteArray) (at_ bits_ a b c : Int) (h : ulR s at_ bits_ = (a, b, c)) (hs : s.size < 9223372036854775000) (ha : -9223372036854775808 ≤ at_ ∧ at_ ≤ 9223372036854775807) (hb : -9223372036854775808 ≤ bits_ ∧ bits_ ≤ 9223372036854775807) (w : World) :
    Calls Try.prog 9 #[.string s, .int .i64 at_, .int .i64 bits_] w fun e w' => e = .returned (.tuple #[.int .i64 a, .int .i64 b, .int .i64 c]) ∧ Later w w' := by
  have := get_any s hs at_ bits_ ha hb w
  rwa [h] at this
theorem gets_is (s : ByteArray) (at_ bits_ a b c : Int) (h : usR s at_ bits_ = (a, b, c)) (hs : s.size < 9223372036854775000) (ha : -9223372036854775808 ≤ at_ ∧ at_ ≤ 9223372036854775807) (hb : -9223372036854775808 ≤ bits_ ∧ bits_ ≤ 9223372036854775807) (w : World) :
    Calls Try.prog 11 #[.string s, .int .i64 at_, .int .i64 bits_] w fun e w' => e = .returned (.tuple #[.int .i64 a, .int .i64 b, .int .i64 c]) ∧ Later w w' := by
  have := gets_any s hs at_ bits_ ha hb w
  rwa [h] at this
theorem awake_any (w : World) :
    Calls Try.prog 18 #[] w fun e w' => e = .returned (.bool true) ∧ Later w w' := by
  go_enter Try.func18, Try.ntmps18
  go_wp2_with fail
  refine (get_is _ 0 32 624485 3 0 (by kernel_rfl) (by decide) (by decide) (by decide) _).mono ?_
  rintro e w1 ⟨rfl, l1⟩
  go_wp2_with fail
  refine (gets_is _ 0 32 (-123456) 3 0 (by kernel_rfl) (by decide) (by decide) (by decide) _).mono ?_
  rintro e w2 ⟨rfl, l2⟩
  go_wp2_with fail
  refine (get_is _ 0 32 0 0 1201 (by kernel_rfl) (by decide) (by decide) (by decide) _).mono ?_
  rintro e w3 ⟨rfl, l3⟩
  go_wp2_with fail
  refine (get_is _ 0 32 0 0 1200 (by kernel_rfl) (by decide) (by decide) (by decide) _).mono ?_
  rintro e w4 ⟨rfl, l4⟩
  have L4 : Hid (Later w w4) := ((l1.trans l2).trans l3).trans l4
  clear l1 l2 l3 l4
  go_wp2_with fail
  refine (put_is 624485 ⟨#[229, 142, 38]⟩ (by kernel_rfl) (by decide) _).mono ?_
  rintro e w5 ⟨rfl, l5⟩
  go_wp2_with fail
  refine (puts_is (-123456) ⟨#[192, 187, 120]⟩ (by kernel_rfl) (by decide) _).mono ?_
  rintro e w6 ⟨rfl, l6⟩
  have L6 : Hid (Later w w6) := (L4.out.trans l5).trans l6
  clear l5 l6 L4
  go_wp2_with (go_at_call 17; refine (num_any _ _).mono ?_; rintro e w' ⟨rfl, hw⟩; obtain rfl : w6 = w' := hw.symm)
  go_ret
  exact ⟨rfl, L6.out⟩
end Go.Proofs.Ytljogkiibpinaaa
