/- Contracts of the document's floats (pelorusref4), over this seat's translation: operations on one float. -/
import Derived.Test.YtobhihggdoccoaaDOk3
import Derived.Test.YtobhihggdoccoaaFFar2
import Derived.WalkLawsBesides
import Derived.RegionCalls
import Derived.Deep.RegionWith
namespace Go.Proofs.Ytobhihggdoccoaa.D
open Go.RowKit
open Go.FM (W64 two bl lost isN qn)
set_option linter.unusedVariables false

set_option maxRecDepth 100000 in
set_option maxHeartbeats 4000000 in
theorem root_nan1 (s p : Bool) (m i : Int) (w : World) :
    Calls Try.prog 51 #[fm, fv s p true m i] w fun e w' => e = .returned (.int .u64 9221120237041090560) ∧ Later w w' := by
  go_enter Try.func51, Try.ntmps51
  go_wp2_with fail
  refine (nan_any _).mono ?_
  rintro e w' ⟨rfl, bs1, n1, rfl⟩
  go_wp2
  go_ret
  exact ⟨rfl, (by repeat (first | exact Later.refl _ | refine Later.alloc ?_ | refine Later.far ?_ | refine Later.drewN ?_ | refine Later.drew ?_))⟩
set_option maxRecDepth 100000 in
set_option maxHeartbeats 4000000 in
theorem root_nan2 (m i : Int) (w : World) :
    Calls Try.prog 51 #[fm, fv true true false m i] w fun e w' => e = .returned (.int .u64 9221120237041090560) ∧ Later w w' := by
  go_enter Try.func51, Try.ntmps51
  go_wp2_with fail
  refine (nan_any _).mono ?_
  rintro e w' ⟨rfl, bs2, n2, rfl⟩
  go_wp2
  go_ret
  exact ⟨rfl, (by repeat (first | exact Later.refl _ | refine Later.alloc ?_ | refine Later.far ?_ | refine Later.drewN ?_ | refine Later.drew ?_))⟩
set_option maxRecDepth 100000 in
set_option maxHeartbeats 4000000 in
theorem root_nan3 (m i : Int) (hm : (m == 0) = false) (hm2 : ¬ m = 0) (w : World) :
    Calls Try.prog 51 #[fm, fv true false false m i] w fun e w' => e = .returned (.int .u64 9221120237041090560) ∧ Later w w' := by
  go_enter Try.func51, Try.ntmps51
  go_wp2_with fail
  refine (nan_any _).mono ?_
  rintro e w' ⟨rfl, bs3, n3, rfl⟩
  go_wp2
  go_ret
  exact ⟨rfl, (by repeat (first | exact Later.refl _ | refine Later.alloc ?_ | refine Later.far ?_ | refine Later.drewN ?_ | refine Later.drew ?_))⟩
set_option maxRecDepth 100000 in
set_option maxHeartbeats 4000000 in
theorem root_inf0 (m i : Int) (w : World) :
    Calls Try.prog 51 #[fm, fv false true false m i] w fun e w' => e = .returned (.int .u64 (sgn false + 9218868437227405312)) ∧ Later w w' := by
  go_enter Try.func51, Try.ntmps51
  go_wp2_with fail
  refine (inf_any false _).mono ?_
  rintro e w' ⟨rfl, bs4, n4, rfl⟩
  go_wp2
  go_ret
  exact ⟨rfl, (by repeat (first | exact Later.refl _ | refine Later.alloc ?_ | refine Later.far ?_ | refine Later.drewN ?_ | refine Later.drew ?_))⟩
set_option maxRecDepth 100000 in
set_option maxHeartbeats 4000000 in
theorem root_nil_true (i : Int) (w : World) :
    Calls Try.prog 51 #[fm, fv true false false 0 i] w fun e w' => e = .returned (.int .u64 (sgn true)) ∧ Later w w' := by
  go_enter Try.func51, Try.ntmps51
  go_wp2_with fail
  refine (signed_any true _).mono ?_
  rintro e w' ⟨rfl, bs5, n5, rfl⟩
  go_wp2
  go_ret
  exact ⟨rfl, (by repeat (first | exact Later.refl _ | refine Later.alloc ?_ | refine Later.far ?_ | refine Later.drewN ?_ | refine Later.drew ?_))⟩
set_option maxRecDepth 100000 in
set_option maxHeartbeats 4000000 in
theorem root_nil_false (i : Int) (w : World) :
    Calls Try.prog 51 #[fm, fv false false false 0 i] w fun e w' => e = .returned (.int .u64 (sgn false)) ∧ Later w w' := by
  go_enter Try.func51, Try.ntmps51
  go_wp2_with fail
  refine (signed_any false _).mono ?_
  rintro e w' ⟨rfl, bs6, n6, rfl⟩
  go_wp2
  go_ret
  exact ⟨rfl, (by repeat (first | exact Later.refl _ | refine Later.alloc ?_ | refine Later.far ?_ | refine Later.drewN ?_ | refine Later.drew ?_))⟩
set_option maxRecDepth 100000 in
set_option maxHeartbeats 4000000 in
theorem un_abs (x y : Int) (h : bits .andNot .u64 x 9223372036854775808 = y) (w : World) :
    Calls Try.prog 25 #[fm, .int .i64 0, .int .u64 x] w fun e w' => e = .returned (.int .u64 y) ∧ Later w w' := by
  have es : sgn true = 9223372036854775808 := rfl
  go_enter Try.func25, Try.ntmps25
  go_wp2_with fail
  refine (signed_any true _).mono ?_
  rintro e w' ⟨rfl, bs7, n7, rfl⟩
  go_wp2
  go_ret
  exact ⟨rfl, (by repeat (first | exact Later.refl _ | refine Later.alloc ?_ | refine Later.far ?_ | refine Later.drewN ?_ | refine Later.drew ?_))⟩
set_option maxRecDepth 100000 in
set_option maxHeartbeats 4000000 in
theorem un_neg (x y : Int) (h : bits .xor .u64 x 9223372036854775808 = y) (w : World) :
    Calls Try.prog 25 #[fm, .int .i64 1, .int .u64 x] w fun e w' => e = .returned (.int .u64 y) ∧ Later w w' := by
  have es : sgn true = 9223372036854775808 := rfl
  go_enter Try.func25, Try.ntmps25
  go_wp2_with fail
  refine (signed_any true _).mono ?_
  rintro e w' ⟨rfl, bs8, n8, rfl⟩
  go_wp2
  go_ret
  exact ⟨rfl, (by repeat (first | exact Later.refl _ | refine Later.alloc ?_ | refine Later.far ?_ | refine Later.drewN ?_ | refine Later.drew ?_))⟩
set_option maxRecDepth 100000 in
set_option maxHeartbeats 4000000 in
theorem un_root (x : Int) (s i1 n1 : Bool) (m i : Int) (z : Int) (ha : Hid (∀ w : World, Calls Try.prog 52 #[fm, .int .u64 x] w fun e w' => e = .returned (fv s i1 n1 m i) ∧ Later w w')) (hr : Hid (∀ w : World, Calls Try.prog 51 #[fm, fv s i1 n1 m i] w fun e w' => e = .returned (.int .u64 z) ∧ Later w w')) (w : World) :
    Calls Try.prog 25 #[fm, .int .i64 6, .int .u64 x] w fun e w' => e = .returned (.int .u64 z) ∧ Later w w' := by
  go_enter Try.func25, Try.ntmps25
  go_wp2_with fail
  refine (signed_any true _).mono ?_
  rintro e w' ⟨rfl, bs10, n10, rfl⟩
  go_wp2_with fail
  refine wp_region_quiet_far2 (by kernel_rfl) (by kernel_rfl) ?_
  repeat (quiet_step (first | (go_at_call_of 52 x; exact Calls.far_of (ha.out _)) | (go_at_call 51; exact Calls.far_of (hr.out _))))
  refine wpQuiet_nil ?_
  rintro _ ⟨⟨bq9, nq9⟩, rfl⟩
  go_wp2
  go_ret
  exact ⟨rfl, (by repeat (first | exact Later.refl _ | refine Later.alloc ?_ | refine Later.far ?_ | refine Later.drewN ?_ | refine Later.drew ?_))⟩
set_option maxRecDepth 100000 in
set_option maxHeartbeats 4000000 in
theorem un_whole2 (x z : Int) (hw : Hid (∀ w : World, Calls Try.prog 53 #[fm, .int .i64 0, .int .u64 x] w fun e w' => e = .returned (.int .u64 z) ∧ Later w w')) (w : World) :
    Calls Try.prog 25 #[fm, .int .i64 2, .int .u64 x] w fun e w' => e = .returned (.int .u64 z) ∧ Later w w' := by
  go_enter Try.func25, Try.ntmps25
  go_wp2_with fail
  refine (signed_any true _).mono ?_
  rintro e w' ⟨rfl, bs12, n12, rfl⟩
  go_wp2_with fail
  refine (hw.out _).mono ?_
  rintro e w' ⟨rfl, bs11, n11, rfl⟩
  go_wp2
  go_ret
  exact ⟨rfl, (by repeat (first | exact Later.refl _ | refine Later.alloc ?_ | refine Later.far ?_ | refine Later.drewN ?_ | refine Later.drew ?_))⟩
set_option maxRecDepth 100000 in
set_option maxHeartbeats 4000000 in
theorem un_whole3 (x z : Int) (hw : Hid (∀ w : World, Calls Try.prog 53 #[fm, .int .i64 1, .int .u64 x] w fun e w' => e = .returned (.int .u64 z) ∧ Later w w')) (w : World) :
    Calls Try.prog 25 #[fm, .int .i64 3, .int .u64 x] w fun e w' => e = .returned (.int .u64 z) ∧ Later w w' := by
  go_enter Try.func25, Try.ntmps25
  go_wp2_with fail
  refine (signed_any true _).mono ?_
  rintro e w' ⟨rfl, bs14, n14, rfl⟩
  go_wp2_with fail
  refine (hw.out _).mono ?_
  rintro e w' ⟨rfl, bs13, n13, rfl⟩
  go_wp2
  go_ret
  exact ⟨rfl, (by repeat (first | exact Later.refl _ | refine Later.alloc ?_ | refine Later.far ?_ | refine Later.drewN ?_ | refine Later.drew ?_))⟩
set_option maxRecDepth 100000 in
set_option maxHeartbeats 4000000 in
theorem un_whole4 (x z : Int) (hw : Hid (∀ w : World, Calls Try.prog 53 #[fm, .int .i64 2, .int .u64 x] w fun e w' => e = .returned (.int .u64 z) ∧ Later w w')) (w : World) :
    Calls Try.prog 25 #[fm, .int .i64 4, .int .u64 x] w fun e w' => e = .returned (.int .u64 z) ∧ Later w w' := by
  go_enter Try.func25, Try.ntmps25
  go_wp2_with fail
  refine (signed_any true _).mono ?_
  rintro e w' ⟨rfl, bs16, n16, rfl⟩
  go_wp2_with fail
  refine (hw.out _).mono ?_
  rintro e w' ⟨rfl, bs15, n15, rfl⟩
  go_wp2
  go_ret
  exact ⟨rfl, (by repeat (first | exact Later.refl _ | refine Later.alloc ?_ | refine Later.far ?_ | refine Later.drewN ?_ | refine Later.drew ?_))⟩
set_option maxRecDepth 100000 in
set_option maxHeartbeats 4000000 in
theorem un_whole5 (x z : Int) (hw : Hid (∀ w : World, Calls Try.prog 53 #[fm, .int .i64 3, .int .u64 x] w fun e w' => e = .returned (.int .u64 z) ∧ Later w w')) (w : World) :
    Calls Try.prog 25 #[fm, .int .i64 5, .int .u64 x] w fun e w' => e = .returned (.int .u64 z) ∧ Later w w' := by
  go_enter Try.func25, Try.ntmps25
  go_wp2_with fail
  refine (signed_any true _).mono ?_
  rintro e w' ⟨rfl, bs18, n18, rfl⟩
  go_wp2_with fail
  refine (hw.out _).mono ?_
  rintro e w' ⟨rfl, bs17, n17, rfl⟩
  go_wp2
  go_ret
  exact ⟨rfl, (by repeat (first | exact Later.refl _ | refine Later.alloc ?_ | refine Later.far ?_ | refine Later.drewN ?_ | refine Later.drew ?_))⟩
end Go.Proofs.Ytobhihggdoccoaa.D
