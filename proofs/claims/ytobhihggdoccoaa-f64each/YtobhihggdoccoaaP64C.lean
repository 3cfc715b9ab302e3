/- Contracts of package f64n over this seat's translation: the lesser and the greater. -/
import Derived.Test.YtobhihggdoccoaaP64A
namespace Go.Proofs.Ytobhihggdoccoaa
open Go.RowKit
open Go.FM (isN fixn qn sw)
set_option linter.unusedVariables false

theorem least_any (a b : Int) (x y : Nat) (hx : Hid (a % 18446744073709551616 = (x : Int))) (hy : Hid (b % 18446744073709551616 = (y : Int))) (ha : Hid (sw x = a)) (hb : Hid (sw y = b)) (w : World) :
    Calls Try.prog 41 #[.int .i64 a, .int .i64 b] w fun e w' => e = .returned (.int .i64 (sw (FM.minW df x y))) ∧ w' = w := by
  have h0 : bits .or .i64 a b = sw (x ||| y) := FM.or_a a b x y hx.out hy.out
  have hr : ∀ o, FloatKind.f64.format.order x y = o → FM.minW df x y = if o = some .lt then x else if o = some .gt then y else if o = some .eq then x ||| y else qn df := by
    intro o ho; subst ho; rfl
  cases ho : FloatKind.f64.format.order x y with
  | none =>
    rw [hr _ ho]
    rw [if_neg (by decide), if_neg (by decide), if_neg (by decide), sw_qn]
    clear hr
    go_enter Try.func41, Try.ntmps41
    go_wp2_with (first | (go_at_call_of 36 a; refine (floatOf_eq a x hx _).mono ?_; rintro e w' ⟨rfl, rfl⟩) | (go_at_call_of 36 b; refine (floatOf_eq b y hy _).mono ?_; rintro e w' ⟨rfl, rfl⟩))
    go_ret
    exact ⟨rfl, rfl⟩
  | some o =>
    rw [hr _ ho]
    clear hr
    cases o
    · rw [if_pos rfl, ha.out]
      go_enter Try.func41, Try.ntmps41
      go_wp2_with (first | (go_at_call_of 36 a; refine (floatOf_eq a x hx _).mono ?_; rintro e w' ⟨rfl, rfl⟩) | (go_at_call_of 36 b; refine (floatOf_eq b y hy _).mono ?_; rintro e w' ⟨rfl, rfl⟩))
      go_ret
      exact ⟨rfl, rfl⟩
    · rw [if_neg (by decide), if_neg (by decide), if_pos rfl]
      go_enter Try.func41, Try.ntmps41
      go_wp2_with (first | (go_at_call_of 36 a; refine (floatOf_eq a x hx _).mono ?_; rintro e w' ⟨rfl, rfl⟩) | (go_at_call_of 36 b; refine (floatOf_eq b y hy _).mono ?_; rintro e w' ⟨rfl, rfl⟩))
      go_ret
      exact ⟨rfl, rfl⟩
    · rw [if_neg (by decide), if_pos rfl, hb.out]
      go_enter Try.func41, Try.ntmps41
      go_wp2_with (first | (go_at_call_of 36 a; refine (floatOf_eq a x hx _).mono ?_; rintro e w' ⟨rfl, rfl⟩) | (go_at_call_of 36 b; refine (floatOf_eq b y hy _).mono ?_; rintro e w' ⟨rfl, rfl⟩))
      go_ret
      exact ⟨rfl, rfl⟩
theorem most_any (a b : Int) (x y : Nat) (hx : Hid (a % 18446744073709551616 = (x : Int))) (hy : Hid (b % 18446744073709551616 = (y : Int))) (ha : Hid (sw x = a)) (hb : Hid (sw y = b)) (w : World) :
    Calls Try.prog 42 #[.int .i64 a, .int .i64 b] w fun e w' => e = .returned (.int .i64 (sw (FM.maxW df x y))) ∧ w' = w := by
  have h0 : bits .and .i64 a b = sw (x &&& y) := FM.and_a a b x y hx.out hy.out
  have hr : ∀ o, FloatKind.f64.format.order x y = o → FM.maxW df x y = if o = some .gt then x else if o = some .lt then y else if o = some .eq then x &&& y else qn df := by
    intro o ho; subst ho; rfl
  cases ho : FloatKind.f64.format.order x y with
  | none =>
    rw [hr _ ho]
    rw [if_neg (by decide), if_neg (by decide), if_neg (by decide), sw_qn]
    clear hr
    go_enter Try.func42, Try.ntmps42
    go_wp2_with (first | (go_at_call_of 36 a; refine (floatOf_eq a x hx _).mono ?_; rintro e w' ⟨rfl, rfl⟩) | (go_at_call_of 36 b; refine (floatOf_eq b y hy _).mono ?_; rintro e w' ⟨rfl, rfl⟩))
    go_ret
    exact ⟨rfl, rfl⟩
  | some o =>
    rw [hr _ ho]
    clear hr
    cases o
    · rw [if_neg (by decide), if_pos rfl, hb.out]
      go_enter Try.func42, Try.ntmps42
      go_wp2_with (first | (go_at_call_of 36 a; refine (floatOf_eq a x hx _).mono ?_; rintro e w' ⟨rfl, rfl⟩) | (go_at_call_of 36 b; refine (floatOf_eq b y hy _).mono ?_; rintro e w' ⟨rfl, rfl⟩))
      go_ret
      exact ⟨rfl, rfl⟩
    · rw [if_neg (by decide), if_neg (by decide), if_pos rfl]
      go_enter Try.func42, Try.ntmps42
      go_wp2_with (first | (go_at_call_of 36 a; refine (floatOf_eq a x hx _).mono ?_; rintro e w' ⟨rfl, rfl⟩) | (go_at_call_of 36 b; refine (floatOf_eq b y hy _).mono ?_; rintro e w' ⟨rfl, rfl⟩))
      go_ret
      exact ⟨rfl, rfl⟩
    · rw [if_pos rfl, ha.out]
      go_enter Try.func42, Try.ntmps42
      go_wp2_with (first | (go_at_call_of 36 a; refine (floatOf_eq a x hx _).mono ?_; rintro e w' ⟨rfl, rfl⟩) | (go_at_call_of 36 b; refine (floatOf_eq b y hy _).mono ?_; rintro e w' ⟨rfl, rfl⟩))
      go_ret
      exact ⟨rfl, rfl⟩
end Go.Proofs.Ytobhihggdoccoaa
