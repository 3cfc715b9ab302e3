/- Contracts of package f32n over this seat's translation: the lesser and the greater, whole numbers, roots. -/
import Derived.Test.YtobhihggdoccoaaP32B
import Derived.Test.YtobhihggdoccoaaFBits
namespace Go.Proofs.Ytobhihggdoccoaa
open Go.RowKit
open Go.FM (isN fixn qn)
set_option linter.unusedVariables false

theorem least_any (x y : Nat) (hx : Hid (x < 4294967296)) (hy : Hid (y < 4294967296)) (w : World) :
    Calls Try.prog 30 #[.int .i64 (x : Int), .int .i64 (y : Int)] w fun e w' => e = .returned (.int .i64 (FM.minW sf x y : Nat)) ∧ w' = w := by
  have h0 : bits .or .i64 (x : Int) (y : Int) = ((x ||| y : Nat) : Int) := by
    rw [FM.or_i x y hx.out hy.out]
  have hr : ∀ o, FloatKind.f32.format.order x y = o → FM.minW sf x y = if o = some .lt then x else if o = some .gt then y else if o = some .eq then x ||| y else qn sf := by
    intro o ho; subst ho; rfl
  cases ho : FloatKind.f32.format.order x y with
  | none =>
    rw [hr _ ho]
    go_enter Try.func30, Try.ntmps30
    go_wp2_with (first | (go_at_call_of 23 x; refine (floatOf_any x (Int.ofNat_lt.2 hx.out) _).mono ?_; rintro e w' ⟨rfl, rfl⟩) | (go_at_call_of 23 y; refine (floatOf_any y (Int.ofNat_lt.2 hy.out) _).mono ?_; rintro e w' ⟨rfl, rfl⟩))
    go_ret
    exact ⟨rfl, rfl⟩
  | some o =>
    rw [hr _ ho]
    cases o
    all_goals
      go_enter Try.func30, Try.ntmps30
      go_wp2_with (first | (go_at_call_of 23 x; refine (floatOf_any x (Int.ofNat_lt.2 hx.out) _).mono ?_; rintro e w' ⟨rfl, rfl⟩) | (go_at_call_of 23 y; refine (floatOf_any y (Int.ofNat_lt.2 hy.out) _).mono ?_; rintro e w' ⟨rfl, rfl⟩))
      go_ret
      exact ⟨rfl, rfl⟩
theorem most_any (x y : Nat) (hx : Hid (x < 4294967296)) (hy : Hid (y < 4294967296)) (w : World) :
    Calls Try.prog 31 #[.int .i64 (x : Int), .int .i64 (y : Int)] w fun e w' => e = .returned (.int .i64 (FM.maxW sf x y : Nat)) ∧ w' = w := by
  have h0 : bits .and .i64 (x : Int) (y : Int) = ((x &&& y : Nat) : Int) := by
    rw [FM.and_i x y hx.out hy.out]
  have hr : ∀ o, FloatKind.f32.format.order x y = o → FM.maxW sf x y = if o = some .gt then x else if o = some .lt then y else if o = some .eq then x &&& y else qn sf := by
    intro o ho; subst ho; rfl
  cases ho : FloatKind.f32.format.order x y with
  | none =>
    rw [hr _ ho]
    go_enter Try.func31, Try.ntmps31
    go_wp2_with (first | (go_at_call_of 23 x; refine (floatOf_any x (Int.ofNat_lt.2 hx.out) _).mono ?_; rintro e w' ⟨rfl, rfl⟩) | (go_at_call_of 23 y; refine (floatOf_any y (Int.ofNat_lt.2 hy.out) _).mono ?_; rintro e w' ⟨rfl, rfl⟩))
    go_ret
    exact ⟨rfl, rfl⟩
  | some o =>
    rw [hr _ ho]
    cases o
    all_goals
      go_enter Try.func31, Try.ntmps31
      go_wp2_with (first | (go_at_call_of 23 x; refine (floatOf_any x (Int.ofNat_lt.2 hx.out) _).mono ?_; rintro e w' ⟨rfl, rfl⟩) | (go_at_call_of 23 y; refine (floatOf_any y (Int.ofNat_lt.2 hy.out) _).mono ?_; rintro e w' ⟨rfl, rfl⟩))
      go_ret
      exact ⟨rfl, rfl⟩
end Go.Proofs.Ytobhihggdoccoaa
