/- Contracts of the document's floats (pelorusref4), over this seat's translation: sums, the walks. -/
import Derived.Test.YtobhihggdoccoaaDApart2
import Derived.Test.YtobhihggdoccoaaFFar2
import Derived.WalkLawsBesides
import Derived.RegionCalls
import Derived.Deep.RegionWith
namespace Go.Proofs.Ytobhihggdoccoaa.D
open Go.RowKit
open Go.FM (W64 two bl lost isN qn)
set_option linter.unusedVariables false

set_option maxRecDepth 100000 in
set_option maxHeartbeats 4000000 in
theorem add_no_bz_same (S : Bool) (m n i j by1 small hi lo ee x1 x2 x3 x4 x5 : Int) (z : Nat) (hm : (m == 0) = false) (hm2 : ¬ m = 0) (hb : IntKind.i64.wrap (i - j) = by1) (hee : IntKind.i64.wrap i = ee) (hU : Hid (∀ w : World, Calls Try.prog 72 #[.int .u64 m, .int .i64 0] w fun e w' => e = .returned (.tuple #[.int .u64 hi, .int .u64 lo]) ∧ Later w w')) (hA : Hid (∀ w : World, Calls Try.prog 89 #[.int .u64 lo, .int .u64 0, .int .u64 0] w fun e w' => e = .returned (.tuple #[.int .u64 x1, .int .u64 x2]) ∧ w' = w)) (hc : IntKind.u64.wrap (hi + x2) = x3) (hr : Hid (∀ w : World, Calls Try.prog 74 #[fm, .bool S, .int .u64 x3, .int .u64 x1, .int .i64 ee] w fun e w' => e = .returned (.int .u64 (z : Nat)) ∧ Later w w')) (w : World) :
    Calls Try.prog 78 #[fm, fv S false false m i, fv S false false 0 j] w fun e w' => e = .returned (.int .u64 (z : Nat)) ∧ Later w w' := by
  go_enter Try.func78, Try.ntmps78
  go_wp2_with fail
  refine (hU.out _).mono ?_
  rintro e w' ⟨rfl, bs1, n1, rfl⟩
  go_wp2_with fail
  refine (hA.out _).mono ?_
  rintro e w' ⟨rfl, rfl⟩
  go_wp2_with fail
  refine (hr.out _).mono ?_
  rintro e w' ⟨rfl, bs3, n3, rfl⟩
  go_wp2
  go_ret
  exact ⟨rfl, (by repeat (first | exact Later.refl _ | refine Later.alloc ?_ | refine Later.far ?_ | refine Later.drewN ?_ | refine Later.drew ?_))⟩
set_option maxRecDepth 100000 in
set_option maxHeartbeats 4000000 in
theorem add_no_bz_plain (S : Bool) (m n i j by1 small hi lo ee x1 x2 x3 x4 x5 : Int) (z : Nat) (hm : (m == 0) = false) (hm2 : ¬ m = 0) (hb : IntKind.i64.wrap (i - j) = by1) (hee : IntKind.i64.wrap i = ee) (hU : Hid (∀ w : World, Calls Try.prog 72 #[.int .u64 m, .int .i64 0] w fun e w' => e = .returned (.tuple #[.int .u64 hi, .int .u64 lo]) ∧ Later w w')) (hA : Hid (∀ w : World, Calls Try.prog 90 #[.int .u64 lo, .int .u64 0, .int .u64 0] w fun e w' => e = .returned (.tuple #[.int .u64 x1, .int .u64 x2]) ∧ w' = w)) (hB : Hid (∀ w : World, Calls Try.prog 90 #[.int .u64 hi, .int .u64 0, .int .u64 x2] w fun e w' => e = .returned (.tuple #[.int .u64 x3, .int .u64 0]) ∧ w' = w)) (hc : bits .or .u64 x3 x1 = x4) (hd : (x4 == 0) = false) (hd2 : ¬ x4 = 0) (hr : Hid (∀ w : World, Calls Try.prog 74 #[fm, .bool S, .int .u64 x3, .int .u64 x1, .int .i64 ee] w fun e w' => e = .returned (.int .u64 (z : Nat)) ∧ Later w w')) (w : World) :
    Calls Try.prog 78 #[fm, fv S false false m i, fv (!S) false false 0 j] w fun e w' => e = .returned (.int .u64 (z : Nat)) ∧ Later w w' := by
  go_enter Try.func78, Try.ntmps78
  go_wp2_with fail
  refine (hU.out _).mono ?_
  rintro e w' ⟨rfl, bs4, n4, rfl⟩
  go_wp2_with fail
  refine (hA.out _).mono ?_
  rintro e w' ⟨rfl, rfl⟩
  go_wp2_with fail
  refine (hB.out _).mono ?_
  rintro e w' ⟨rfl, rfl⟩
  go_wp2_with fail
  refine (hr.out _).mono ?_
  rintro e w' ⟨rfl, bs7, n7, rfl⟩
  go_wp2
  go_ret
  exact ⟨rfl, (by repeat (first | exact Later.refl _ | refine Later.alloc ?_ | refine Later.far ?_ | refine Later.drewN ?_ | refine Later.drew ?_))⟩
set_option maxRecDepth 100000 in
set_option maxHeartbeats 4000000 in
theorem add_no_near_same (S : Bool) (m n i j by1 small hi lo ee x1 x2 x3 x4 x5 : Int) (z : Nat) (hm : (m == 0) = false) (hm2 : ¬ m = 0) (hn : (n == 0) = false) (hn2 : ¬ n = 0) (hij : ¬ i < j) (hb : IntKind.i64.wrap (i - j) = by1) (h70 : ¬ 70 < by1) (hee : IntKind.i64.wrap (i - by1) = ee) (hU : Hid (∀ w : World, Calls Try.prog 72 #[.int .u64 m, .int .i64 by1] w fun e w' => e = .returned (.tuple #[.int .u64 hi, .int .u64 lo]) ∧ Later w w')) (hA : Hid (∀ w : World, Calls Try.prog 89 #[.int .u64 lo, .int .u64 n, .int .u64 0] w fun e w' => e = .returned (.tuple #[.int .u64 x1, .int .u64 x2]) ∧ w' = w)) (hc : IntKind.u64.wrap (hi + x2) = x3) (hr : Hid (∀ w : World, Calls Try.prog 74 #[fm, .bool S, .int .u64 x3, .int .u64 x1, .int .i64 ee] w fun e w' => e = .returned (.int .u64 (z : Nat)) ∧ Later w w')) (w : World) :
    Calls Try.prog 78 #[fm, fv S false false m i, fv S false false n j] w fun e w' => e = .returned (.int .u64 (z : Nat)) ∧ Later w w' := by
  go_enter Try.func78, Try.ntmps78
  go_wp2_with fail
  refine (hU.out _).mono ?_
  rintro e w' ⟨rfl, bs8, n8, rfl⟩
  go_wp2_with fail
  refine (hA.out _).mono ?_
  rintro e w' ⟨rfl, rfl⟩
  go_wp2_with fail
  refine (hr.out _).mono ?_
  rintro e w' ⟨rfl, bs10, n10, rfl⟩
  go_wp2
  go_ret
  exact ⟨rfl, (by repeat (first | exact Later.refl _ | refine Later.alloc ?_ | refine Later.far ?_ | refine Later.drewN ?_ | refine Later.drew ?_))⟩
set_option maxRecDepth 100000 in
set_option maxHeartbeats 4000000 in
theorem add_no_near_under (S : Bool) (m n i j by1 small hi lo ee x1 x2 x3 x4 x5 : Int) (z : Nat) (hm : (m == 0) = false) (hm2 : ¬ m = 0) (hn : (n == 0) = false) (hn2 : ¬ n = 0) (hij : ¬ i < j) (hb : IntKind.i64.wrap (i - j) = by1) (h70 : ¬ 70 < by1) (hee : IntKind.i64.wrap (i - by1) = ee) (hU : Hid (∀ w : World, Calls Try.prog 72 #[.int .u64 m, .int .i64 by1] w fun e w' => e = .returned (.tuple #[.int .u64 hi, .int .u64 lo]) ∧ Later w w')) (hA : Hid (∀ w : World, Calls Try.prog 90 #[.int .u64 lo, .int .u64 n, .int .u64 0] w fun e w' => e = .returned (.tuple #[.int .u64 x1, .int .u64 x2]) ∧ w' = w)) (hB : Hid (∀ w : World, Calls Try.prog 90 #[.int .u64 hi, .int .u64 0, .int .u64 x2] w fun e w' => e = .returned (.tuple #[.int .u64 x3, .int .u64 1]) ∧ w' = w)) (hc : IntKind.u64.wrap (n - lo) = x4) (hr : Hid (∀ w : World, Calls Try.prog 74 #[fm, .bool (!S), .int .u64 0, .int .u64 x4, .int .i64 ee] w fun e w' => e = .returned (.int .u64 (z : Nat)) ∧ Later w w')) (w : World) :
    Calls Try.prog 78 #[fm, fv S false false m i, fv (!S) false false n j] w fun e w' => e = .returned (.int .u64 (z : Nat)) ∧ Later w w' := by
  go_enter Try.func78, Try.ntmps78
  go_wp2_with fail
  refine (hU.out _).mono ?_
  rintro e w' ⟨rfl, bs11, n11, rfl⟩
  go_wp2_with fail
  refine (hA.out _).mono ?_
  rintro e w' ⟨rfl, rfl⟩
  go_wp2_with fail
  refine (hB.out _).mono ?_
  rintro e w' ⟨rfl, rfl⟩
  go_wp2_with fail
  refine (hr.out _).mono ?_
  rintro e w' ⟨rfl, bs14, n14, rfl⟩
  go_wp2
  go_ret
  exact ⟨rfl, (by repeat (first | exact Later.refl _ | refine Later.alloc ?_ | refine Later.far ?_ | refine Later.drewN ?_ | refine Later.drew ?_))⟩
set_option maxRecDepth 100000 in
set_option maxHeartbeats 4000000 in
theorem add_none (s t : Bool) (i j : Int) (w : World) :
    Calls Try.prog 78 #[fm, fv s false false 0 i, fv t false false 0 j] w fun e w' => e = .returned (.int .u64 (sgn (s && t))) ∧ Later w w' := by
  cases s <;> cases t
  all_goals
    go_enter Try.func78, Try.ntmps78
    go_wp2_with fail
    refine (signed_any _ _).mono ?_
    rintro e w' ⟨rfl, bs15, n15, rfl⟩
    go_wp2
    go_ret
    exact ⟨rfl, (by repeat (first | exact Later.refl _ | refine Later.alloc ?_ | refine Later.far ?_ | refine Later.drewN ?_ | refine Later.drew ?_))⟩
end Go.Proofs.Ytobhihggdoccoaa.D
namespace Go.Proofs.Ytobhihggdoccoaa.D
open Go.RowKit
open Go.FM (W64 two bl lost isN qn)
set_option linter.unusedVariables false

set_option maxRecDepth 100000 in
set_option maxHeartbeats 4000000 in
theorem add_no_near_zero (S : Bool) (m n i j by1 small hi lo ee x1 x2 x3 x4 x5 : Int) (z : Nat) (hm : (m == 0) = false) (hm2 : ¬ m = 0) (hn : (n == 0) = false) (hn2 : ¬ n = 0) (hij : ¬ i < j) (hb : IntKind.i64.wrap (i - j) = by1) (h70 : ¬ 70 < by1) (hee : IntKind.i64.wrap (i - by1) = ee) (hU : Hid (∀ w : World, Calls Try.prog 72 #[.int .u64 m, .int .i64 by1] w fun e w' => e = .returned (.tuple #[.int .u64 hi, .int .u64 lo]) ∧ Later w w')) (hA : Hid (∀ w : World, Calls Try.prog 90 #[.int .u64 lo, .int .u64 n, .int .u64 0] w fun e w' => e = .returned (.tuple #[.int .u64 x1, .int .u64 x2]) ∧ w' = w)) (hB : Hid (∀ w : World, Calls Try.prog 90 #[.int .u64 hi, .int .u64 0, .int .u64 x2] w fun e w' => e = .returned (.tuple #[.int .u64 x3, .int .u64 0]) ∧ w' = w)) (hc : bits .or .u64 x3 x1 = 0) (w : World) :
    Calls Try.prog 78 #[fm, fv S false false m i, fv (!S) false false n j] w fun e w' => e = .returned (.int .u64 (sgn false)) ∧ Later w w' := by
  go_enter Try.func78, Try.ntmps78
  go_wp2_with fail
  refine (hU.out _).mono ?_
  rintro e w' ⟨rfl, bs16, n16, rfl⟩
  go_wp2_with fail
  refine (hA.out _).mono ?_
  rintro e w' ⟨rfl, rfl⟩
  go_wp2_with fail
  refine (hB.out _).mono ?_
  rintro e w' ⟨rfl, rfl⟩
  go_wp2_with fail
  refine (signed_any false _).mono ?_
  rintro e w' ⟨rfl, bs19, n19, rfl⟩
  go_wp2
  go_ret
  exact ⟨rfl, (by repeat (first | exact Later.refl _ | refine Later.alloc ?_ | refine Later.far ?_ | refine Later.drewN ?_ | refine Later.drew ?_))⟩
set_option maxRecDepth 100000 in
set_option maxHeartbeats 4000000 in
theorem add_no_near_plain (S : Bool) (m n i j by1 small hi lo ee x1 x2 x3 x4 x5 : Int) (z : Nat) (hm : (m == 0) = false) (hm2 : ¬ m = 0) (hn : (n == 0) = false) (hn2 : ¬ n = 0) (hij : ¬ i < j) (hb : IntKind.i64.wrap (i - j) = by1) (h70 : ¬ 70 < by1) (hee : IntKind.i64.wrap (i - by1) = ee) (hU : Hid (∀ w : World, Calls Try.prog 72 #[.int .u64 m, .int .i64 by1] w fun e w' => e = .returned (.tuple #[.int .u64 hi, .int .u64 lo]) ∧ Later w w')) (hA : Hid (∀ w : World, Calls Try.prog 90 #[.int .u64 lo, .int .u64 n, .int .u64 0] w fun e w' => e = .returned (.tuple #[.int .u64 x1, .int .u64 x2]) ∧ w' = w)) (hB : Hid (∀ w : World, Calls Try.prog 90 #[.int .u64 hi, .int .u64 0, .int .u64 x2] w fun e w' => e = .returned (.tuple #[.int .u64 x3, .int .u64 0]) ∧ w' = w)) (hc : bits .or .u64 x3 x1 = x4) (hd : (x4 == 0) = false) (hd2 : ¬ x4 = 0) (hr : Hid (∀ w : World, Calls Try.prog 74 #[fm, .bool S, .int .u64 x3, .int .u64 x1, .int .i64 ee] w fun e w' => e = .returned (.int .u64 (z : Nat)) ∧ Later w w')) (w : World) :
    Calls Try.prog 78 #[fm, fv S false false m i, fv (!S) false false n j] w fun e w' => e = .returned (.int .u64 (z : Nat)) ∧ Later w w' := by
  go_enter Try.func78, Try.ntmps78
  go_wp2_with fail
  refine (hU.out _).mono ?_
  rintro e w' ⟨rfl, bs20, n20, rfl⟩
  go_wp2_with fail
  refine (hA.out _).mono ?_
  rintro e w' ⟨rfl, rfl⟩
  go_wp2_with fail
  refine (hB.out _).mono ?_
  rintro e w' ⟨rfl, rfl⟩
  go_wp2_with fail
  refine (hr.out _).mono ?_
  rintro e w' ⟨rfl, bs23, n23, rfl⟩
  go_wp2
  go_ret
  exact ⟨rfl, (by repeat (first | exact Later.refl _ | refine Later.alloc ?_ | refine Later.far ?_ | refine Later.drewN ?_ | refine Later.drew ?_))⟩
set_option maxRecDepth 100000 in
set_option maxHeartbeats 4000000 in
theorem add_no_far_same (S : Bool) (m n i j by1 small hi lo ee x1 x2 x3 x4 x5 : Int) (z : Nat) (hm : (m == 0) = false) (hm2 : ¬ m = 0) (hn : (n == 0) = false) (hn2 : ¬ n = 0) (hij : ¬ i < j) (hb : IntKind.i64.wrap (i - j) = by1) (h70 : 70 < by1) (hee : IntKind.i64.wrap (i - 70) = ee) (hU : Hid (∀ w : World, Calls Try.prog 72 #[.int .u64 m, .int .i64 70] w fun e w' => e = .returned (.tuple #[.int .u64 hi, .int .u64 lo]) ∧ Later w w')) (hA : Hid (∀ w : World, Calls Try.prog 89 #[.int .u64 lo, .int .u64 1, .int .u64 0] w fun e w' => e = .returned (.tuple #[.int .u64 x1, .int .u64 x2]) ∧ w' = w)) (hc : IntKind.u64.wrap (hi + x2) = x3) (hr : Hid (∀ w : World, Calls Try.prog 74 #[fm, .bool S, .int .u64 x3, .int .u64 x1, .int .i64 ee] w fun e w' => e = .returned (.int .u64 (z : Nat)) ∧ Later w w')) (w : World) :
    Calls Try.prog 78 #[fm, fv S false false m i, fv S false false n j] w fun e w' => e = .returned (.int .u64 (z : Nat)) ∧ Later w w' := by
  go_enter Try.func78, Try.ntmps78
  go_wp2_with fail
  refine (hU.out _).mono ?_
  rintro e w' ⟨rfl, bs24, n24, rfl⟩
  go_wp2_with fail
  refine (hA.out _).mono ?_
  rintro e w' ⟨rfl, rfl⟩
  go_wp2_with fail
  refine (hr.out _).mono ?_
  rintro e w' ⟨rfl, bs26, n26, rfl⟩
  go_wp2
  go_ret
  exact ⟨rfl, (by repeat (first | exact Later.refl _ | refine Later.alloc ?_ | refine Later.far ?_ | refine Later.drewN ?_ | refine Later.drew ?_))⟩
set_option maxRecDepth 100000 in
set_option maxHeartbeats 4000000 in
theorem add_no_far_plain (S : Bool) (m n i j by1 small hi lo ee x1 x2 x3 x4 x5 : Int) (z : Nat) (hm : (m == 0) = false) (hm2 : ¬ m = 0) (hn : (n == 0) = false) (hn2 : ¬ n = 0) (hij : ¬ i < j) (hb : IntKind.i64.wrap (i - j) = by1) (h70 : 70 < by1) (hee : IntKind.i64.wrap (i - 70) = ee) (hU : Hid (∀ w : World, Calls Try.prog 72 #[.int .u64 m, .int .i64 70] w fun e w' => e = .returned (.tuple #[.int .u64 hi, .int .u64 lo]) ∧ Later w w')) (hA : Hid (∀ w : World, Calls Try.prog 90 #[.int .u64 lo, .int .u64 1, .int .u64 0] w fun e w' => e = .returned (.tuple #[.int .u64 x1, .int .u64 x2]) ∧ w' = w)) (hB : Hid (∀ w : World, Calls Try.prog 90 #[.int .u64 hi, .int .u64 0, .int .u64 x2] w fun e w' => e = .returned (.tuple #[.int .u64 x3, .int .u64 0]) ∧ w' = w)) (hc : bits .or .u64 x3 x1 = x4) (hd : (x4 == 0) = false) (hd2 : ¬ x4 = 0) (hr : Hid (∀ w : World, Calls Try.prog 74 #[fm, .bool S, .int .u64 x3, .int .u64 x1, .int .i64 ee] w fun e w' => e = .returned (.int .u64 (z : Nat)) ∧ Later w w')) (w : World) :
    Calls Try.prog 78 #[fm, fv S false false m i, fv (!S) false false n j] w fun e w' => e = .returned (.int .u64 (z : Nat)) ∧ Later w w' := by
  go_enter Try.func78, Try.ntmps78
  go_wp2_with fail
  refine (hU.out _).mono ?_
  rintro e w' ⟨rfl, bs27, n27, rfl⟩
  go_wp2_with fail
  refine (hA.out _).mono ?_
  rintro e w' ⟨rfl, rfl⟩
  go_wp2_with fail
  refine (hB.out _).mono ?_
  rintro e w' ⟨rfl, rfl⟩
  go_wp2_with fail
  refine (hr.out _).mono ?_
  rintro e w' ⟨rfl, bs30, n30, rfl⟩
  go_wp2
  go_ret
  exact ⟨rfl, (by repeat (first | exact Later.refl _ | refine Later.alloc ?_ | refine Later.far ?_ | refine Later.drewN ?_ | refine Later.drew ?_))⟩
end Go.Proofs.Ytobhihggdoccoaa.D
namespace Go.Proofs.Ytobhihggdoccoaa.D
open Go.RowKit
open Go.FM (W64 two bl lost isN qn)
set_option linter.unusedVariables false

set_option maxRecDepth 100000 in
set_option maxHeartbeats 4000000 in
theorem add_yes_bz_same (S : Bool) (m n i j by1 small hi lo ee x1 x2 x3 x4 x5 : Int) (z : Nat) (hm : (m == 0) = false) (hm2 : ¬ m = 0) (hb : IntKind.i64.wrap (i - j) = by1) (hee : IntKind.i64.wrap i = ee) (hU : Hid (∀ w : World, Calls Try.prog 72 #[.int .u64 m, .int .i64 0] w fun e w' => e = .returned (.tuple #[.int .u64 hi, .int .u64 lo]) ∧ Later w w')) (hA : Hid (∀ w : World, Calls Try.prog 89 #[.int .u64 lo, .int .u64 0, .int .u64 0] w fun e w' => e = .returned (.tuple #[.int .u64 x1, .int .u64 x2]) ∧ w' = w)) (hc : IntKind.u64.wrap (hi + x2) = x3) (hr : Hid (∀ w : World, Calls Try.prog 74 #[fm, .bool S, .int .u64 x3, .int .u64 x1, .int .i64 ee] w fun e w' => e = .returned (.int .u64 (z : Nat)) ∧ Later w w')) (w : World) :
    Calls Try.prog 78 #[fm, fv S false false 0 j, fv S false false m i] w fun e w' => e = .returned (.int .u64 (z : Nat)) ∧ Later w w' := by
  go_enter Try.func78, Try.ntmps78
  go_wp2_with fail
  refine (hU.out _).mono ?_
  rintro e w' ⟨rfl, bs31, n31, rfl⟩
  go_wp2_with fail
  refine (hA.out _).mono ?_
  rintro e w' ⟨rfl, rfl⟩
  go_wp2_with fail
  refine (hr.out _).mono ?_
  rintro e w' ⟨rfl, bs33, n33, rfl⟩
  go_wp2
  go_ret
  exact ⟨rfl, (by repeat (first | exact Later.refl _ | refine Later.alloc ?_ | refine Later.far ?_ | refine Later.drewN ?_ | refine Later.drew ?_))⟩
set_option maxRecDepth 100000 in
set_option maxHeartbeats 4000000 in
theorem add_yes_bz_plain (S : Bool) (m n i j by1 small hi lo ee x1 x2 x3 x4 x5 : Int) (z : Nat) (hm : (m == 0) = false) (hm2 : ¬ m = 0) (hb : IntKind.i64.wrap (i - j) = by1) (hee : IntKind.i64.wrap i = ee) (hU : Hid (∀ w : World, Calls Try.prog 72 #[.int .u64 m, .int .i64 0] w fun e w' => e = .returned (.tuple #[.int .u64 hi, .int .u64 lo]) ∧ Later w w')) (hA : Hid (∀ w : World, Calls Try.prog 90 #[.int .u64 lo, .int .u64 0, .int .u64 0] w fun e w' => e = .returned (.tuple #[.int .u64 x1, .int .u64 x2]) ∧ w' = w)) (hB : Hid (∀ w : World, Calls Try.prog 90 #[.int .u64 hi, .int .u64 0, .int .u64 x2] w fun e w' => e = .returned (.tuple #[.int .u64 x3, .int .u64 0]) ∧ w' = w)) (hc : bits .or .u64 x3 x1 = x4) (hd : (x4 == 0) = false) (hd2 : ¬ x4 = 0) (hr : Hid (∀ w : World, Calls Try.prog 74 #[fm, .bool S, .int .u64 x3, .int .u64 x1, .int .i64 ee] w fun e w' => e = .returned (.int .u64 (z : Nat)) ∧ Later w w')) (w : World) :
    Calls Try.prog 78 #[fm, fv (!S) false false 0 j, fv S false false m i] w fun e w' => e = .returned (.int .u64 (z : Nat)) ∧ Later w w' := by
  go_enter Try.func78, Try.ntmps78
  go_wp2_with fail
  refine (hU.out _).mono ?_
  rintro e w' ⟨rfl, bs34, n34, rfl⟩
  go_wp2_with fail
  refine (hA.out _).mono ?_
  rintro e w' ⟨rfl, rfl⟩
  go_wp2_with fail
  refine (hB.out _).mono ?_
  rintro e w' ⟨rfl, rfl⟩
  go_wp2_with fail
  refine (hr.out _).mono ?_
  rintro e w' ⟨rfl, bs37, n37, rfl⟩
  go_wp2
  go_ret
  exact ⟨rfl, (by repeat (first | exact Later.refl _ | refine Later.alloc ?_ | refine Later.far ?_ | refine Later.drewN ?_ | refine Later.drew ?_))⟩
set_option maxRecDepth 100000 in
set_option maxHeartbeats 4000000 in
theorem add_yes_near_same (S : Bool) (m n i j by1 small hi lo ee x1 x2 x3 x4 x5 : Int) (z : Nat) (hm : (m == 0) = false) (hm2 : ¬ m = 0) (hn : (n == 0) = false) (hn2 : ¬ n = 0) (hij : j < i) (hb : IntKind.i64.wrap (i - j) = by1) (h70 : ¬ 70 < by1) (hee : IntKind.i64.wrap (i - by1) = ee) (hU : Hid (∀ w : World, Calls Try.prog 72 #[.int .u64 m, .int .i64 by1] w fun e w' => e = .returned (.tuple #[.int .u64 hi, .int .u64 lo]) ∧ Later w w')) (hA : Hid (∀ w : World, Calls Try.prog 89 #[.int .u64 lo, .int .u64 n, .int .u64 0] w fun e w' => e = .returned (.tuple #[.int .u64 x1, .int .u64 x2]) ∧ w' = w)) (hc : IntKind.u64.wrap (hi + x2) = x3) (hr : Hid (∀ w : World, Calls Try.prog 74 #[fm, .bool S, .int .u64 x3, .int .u64 x1, .int .i64 ee] w fun e w' => e = .returned (.int .u64 (z : Nat)) ∧ Later w w')) (w : World) :
    Calls Try.prog 78 #[fm, fv S false false n j, fv S false false m i] w fun e w' => e = .returned (.int .u64 (z : Nat)) ∧ Later w w' := by
  go_enter Try.func78, Try.ntmps78
  go_wp2_with fail
  refine (hU.out _).mono ?_
  rintro e w' ⟨rfl, bs38, n38, rfl⟩
  go_wp2_with fail
  refine (hA.out _).mono ?_
  rintro e w' ⟨rfl, rfl⟩
  go_wp2_with fail
  refine (hr.out _).mono ?_
  rintro e w' ⟨rfl, bs40, n40, rfl⟩
  go_wp2
  go_ret
  exact ⟨rfl, (by repeat (first | exact Later.refl _ | refine Later.alloc ?_ | refine Later.far ?_ | refine Later.drewN ?_ | refine Later.drew ?_))⟩
set_option maxRecDepth 100000 in
set_option maxHeartbeats 4000000 in
theorem add_yes_near_under (S : Bool) (m n i j by1 small hi lo ee x1 x2 x3 x4 x5 : Int) (z : Nat) (hm : (m == 0) = false) (hm2 : ¬ m = 0) (hn : (n == 0) = false) (hn2 : ¬ n = 0) (hij : j < i) (hb : IntKind.i64.wrap (i - j) = by1) (h70 : ¬ 70 < by1) (hee : IntKind.i64.wrap (i - by1) = ee) (hU : Hid (∀ w : World, Calls Try.prog 72 #[.int .u64 m, .int .i64 by1] w fun e w' => e = .returned (.tuple #[.int .u64 hi, .int .u64 lo]) ∧ Later w w')) (hA : Hid (∀ w : World, Calls Try.prog 90 #[.int .u64 lo, .int .u64 n, .int .u64 0] w fun e w' => e = .returned (.tuple #[.int .u64 x1, .int .u64 x2]) ∧ w' = w)) (hB : Hid (∀ w : World, Calls Try.prog 90 #[.int .u64 hi, .int .u64 0, .int .u64 x2] w fun e w' => e = .returned (.tuple #[.int .u64 x3, .int .u64 1]) ∧ w' = w)) (hc : IntKind.u64.wrap (n - lo) = x4) (hr : Hid (∀ w : World, Calls Try.prog 74 #[fm, .bool (!S), .int .u64 0, .int .u64 x4, .int .i64 ee] w fun e w' => e = .returned (.int .u64 (z : Nat)) ∧ Later w w')) (w : World) :
    Calls Try.prog 78 #[fm, fv (!S) false false n j, fv S false false m i] w fun e w' => e = .returned (.int .u64 (z : Nat)) ∧ Later w w' := by
  go_enter Try.func78, Try.ntmps78
  go_wp2_with fail
  refine (hU.out _).mono ?_
  rintro e w' ⟨rfl, bs41, n41, rfl⟩
  go_wp2_with fail
  refine (hA.out _).mono ?_
  rintro e w' ⟨rfl, rfl⟩
  go_wp2_with fail
  refine (hB.out _).mono ?_
  rintro e w' ⟨rfl, rfl⟩
  go_wp2_with fail
  refine (hr.out _).mono ?_
  rintro e w' ⟨rfl, bs44, n44, rfl⟩
  go_wp2
  go_ret
  exact ⟨rfl, (by repeat (first | exact Later.refl _ | refine Later.alloc ?_ | refine Later.far ?_ | refine Later.drewN ?_ | refine Later.drew ?_))⟩
end Go.Proofs.Ytobhihggdoccoaa.D
namespace Go.Proofs.Ytobhihggdoccoaa.D
open Go.RowKit
open Go.FM (W64 two bl lost isN qn)
set_option linter.unusedVariables false

set_option maxRecDepth 100000 in
set_option maxHeartbeats 4000000 in
theorem add_yes_near_zero (S : Bool) (m n i j by1 small hi lo ee x1 x2 x3 x4 x5 : Int) (z : Nat) (hm : (m == 0) = false) (hm2 : ¬ m = 0) (hn : (n == 0) = false) (hn2 : ¬ n = 0) (hij : j < i) (hb : IntKind.i64.wrap (i - j) = by1) (h70 : ¬ 70 < by1) (hee : IntKind.i64.wrap (i - by1) = ee) (hU : Hid (∀ w : World, Calls Try.prog 72 #[.int .u64 m, .int .i64 by1] w fun e w' => e = .returned (.tuple #[.int .u64 hi, .int .u64 lo]) ∧ Later w w')) (hA : Hid (∀ w : World, Calls Try.prog 90 #[.int .u64 lo, .int .u64 n, .int .u64 0] w fun e w' => e = .returned (.tuple #[.int .u64 x1, .int .u64 x2]) ∧ w' = w)) (hB : Hid (∀ w : World, Calls Try.prog 90 #[.int .u64 hi, .int .u64 0, .int .u64 x2] w fun e w' => e = .returned (.tuple #[.int .u64 x3, .int .u64 0]) ∧ w' = w)) (hc : bits .or .u64 x3 x1 = 0) (w : World) :
    Calls Try.prog 78 #[fm, fv (!S) false false n j, fv S false false m i] w fun e w' => e = .returned (.int .u64 (sgn false)) ∧ Later w w' := by
  go_enter Try.func78, Try.ntmps78
  go_wp2_with fail
  refine (hU.out _).mono ?_
  rintro e w' ⟨rfl, bs45, n45, rfl⟩
  go_wp2_with fail
  refine (hA.out _).mono ?_
  rintro e w' ⟨rfl, rfl⟩
  go_wp2_with fail
  refine (hB.out _).mono ?_
  rintro e w' ⟨rfl, rfl⟩
  go_wp2_with fail
  refine (signed_any false _).mono ?_
  rintro e w' ⟨rfl, bs48, n48, rfl⟩
  go_wp2
  go_ret
  exact ⟨rfl, (by repeat (first | exact Later.refl _ | refine Later.alloc ?_ | refine Later.far ?_ | refine Later.drewN ?_ | refine Later.drew ?_))⟩
set_option maxRecDepth 100000 in
set_option maxHeartbeats 4000000 in
theorem add_yes_near_plain (S : Bool) (m n i j by1 small hi lo ee x1 x2 x3 x4 x5 : Int) (z : Nat) (hm : (m == 0) = false) (hm2 : ¬ m = 0) (hn : (n == 0) = false) (hn2 : ¬ n = 0) (hij : j < i) (hb : IntKind.i64.wrap (i - j) = by1) (h70 : ¬ 70 < by1) (hee : IntKind.i64.wrap (i - by1) = ee) (hU : Hid (∀ w : World, Calls Try.prog 72 #[.int .u64 m, .int .i64 by1] w fun e w' => e = .returned (.tuple #[.int .u64 hi, .int .u64 lo]) ∧ Later w w')) (hA : Hid (∀ w : World, Calls Try.prog 90 #[.int .u64 lo, .int .u64 n, .int .u64 0] w fun e w' => e = .returned (.tuple #[.int .u64 x1, .int .u64 x2]) ∧ w' = w)) (hB : Hid (∀ w : World, Calls Try.prog 90 #[.int .u64 hi, .int .u64 0, .int .u64 x2] w fun e w' => e = .returned (.tuple #[.int .u64 x3, .int .u64 0]) ∧ w' = w)) (hc : bits .or .u64 x3 x1 = x4) (hd : (x4 == 0) = false) (hd2 : ¬ x4 = 0) (hr : Hid (∀ w : World, Calls Try.prog 74 #[fm, .bool S, .int .u64 x3, .int .u64 x1, .int .i64 ee] w fun e w' => e = .returned (.int .u64 (z : Nat)) ∧ Later w w')) (w : World) :
    Calls Try.prog 78 #[fm, fv (!S) false false n j, fv S false false m i] w fun e w' => e = .returned (.int .u64 (z : Nat)) ∧ Later w w' := by
  go_enter Try.func78, Try.ntmps78
  go_wp2_with fail
  refine (hU.out _).mono ?_
  rintro e w' ⟨rfl, bs49, n49, rfl⟩
  go_wp2_with fail
  refine (hA.out _).mono ?_
  rintro e w' ⟨rfl, rfl⟩
  go_wp2_with fail
  refine (hB.out _).mono ?_
  rintro e w' ⟨rfl, rfl⟩
  go_wp2_with fail
  refine (hr.out _).mono ?_
  rintro e w' ⟨rfl, bs52, n52, rfl⟩
  go_wp2
  go_ret
  exact ⟨rfl, (by repeat (first | exact Later.refl _ | refine Later.alloc ?_ | refine Later.far ?_ | refine Later.drewN ?_ | refine Later.drew ?_))⟩
set_option maxRecDepth 100000 in
set_option maxHeartbeats 4000000 in
theorem add_yes_far_same (S : Bool) (m n i j by1 small hi lo ee x1 x2 x3 x4 x5 : Int) (z : Nat) (hm : (m == 0) = false) (hm2 : ¬ m = 0) (hn : (n == 0) = false) (hn2 : ¬ n = 0) (hij : j < i) (hb : IntKind.i64.wrap (i - j) = by1) (h70 : 70 < by1) (hee : IntKind.i64.wrap (i - 70) = ee) (hU : Hid (∀ w : World, Calls Try.prog 72 #[.int .u64 m, .int .i64 70] w fun e w' => e = .returned (.tuple #[.int .u64 hi, .int .u64 lo]) ∧ Later w w')) (hA : Hid (∀ w : World, Calls Try.prog 89 #[.int .u64 lo, .int .u64 1, .int .u64 0] w fun e w' => e = .returned (.tuple #[.int .u64 x1, .int .u64 x2]) ∧ w' = w)) (hc : IntKind.u64.wrap (hi + x2) = x3) (hr : Hid (∀ w : World, Calls Try.prog 74 #[fm, .bool S, .int .u64 x3, .int .u64 x1, .int .i64 ee] w fun e w' => e = .returned (.int .u64 (z : Nat)) ∧ Later w w')) (w : World) :
    Calls Try.prog 78 #[fm, fv S false false n j, fv S false false m i] w fun e w' => e = .returned (.int .u64 (z : Nat)) ∧ Later w w' := by
  go_enter Try.func78, Try.ntmps78
  go_wp2_with fail
  refine (hU.out _).mono ?_
  rintro e w' ⟨rfl, bs53, n53, rfl⟩
  go_wp2_with fail
  refine (hA.out _).mono ?_
  rintro e w' ⟨rfl, rfl⟩
  go_wp2_with fail
  refine (hr.out _).mono ?_
  rintro e w' ⟨rfl, bs55, n55, rfl⟩
  go_wp2
  go_ret
  exact ⟨rfl, (by repeat (first | exact Later.refl _ | refine Later.alloc ?_ | refine Later.far ?_ | refine Later.drewN ?_ | refine Later.drew ?_))⟩
set_option maxRecDepth 100000 in
set_option maxHeartbeats 4000000 in
theorem add_yes_far_plain (S : Bool) (m n i j by1 small hi lo ee x1 x2 x3 x4 x5 : Int) (z : Nat) (hm : (m == 0) = false) (hm2 : ¬ m = 0) (hn : (n == 0) = false) (hn2 : ¬ n = 0) (hij : j < i) (hb : IntKind.i64.wrap (i - j) = by1) (h70 : 70 < by1) (hee : IntKind.i64.wrap (i - 70) = ee) (hU : Hid (∀ w : World, Calls Try.prog 72 #[.int .u64 m, .int .i64 70] w fun e w' => e = .returned (.tuple #[.int .u64 hi, .int .u64 lo]) ∧ Later w w')) (hA : Hid (∀ w : World, Calls Try.prog 90 #[.int .u64 lo, .int .u64 1, .int .u64 0] w fun e w' => e = .returned (.tuple #[.int .u64 x1, .int .u64 x2]) ∧ w' = w)) (hB : Hid (∀ w : World, Calls Try.prog 90 #[.int .u64 hi, .int .u64 0, .int .u64 x2] w fun e w' => e = .returned (.tuple #[.int .u64 x3, .int .u64 0]) ∧ w' = w)) (hc : bits .or .u64 x3 x1 = x4) (hd : (x4 == 0) = false) (hd2 : ¬ x4 = 0) (hr : Hid (∀ w : World, Calls Try.prog 74 #[fm, .bool S, .int .u64 x3, .int .u64 x1, .int .i64 ee] w fun e w' => e = .returned (.int .u64 (z : Nat)) ∧ Later w w')) (w : World) :
    Calls Try.prog 78 #[fm, fv (!S) false false n j, fv S false false m i] w fun e w' => e = .returned (.int .u64 (z : Nat)) ∧ Later w w' := by
  go_enter Try.func78, Try.ntmps78
  go_wp2_with fail
  refine (hU.out _).mono ?_
  rintro e w' ⟨rfl, bs56, n56, rfl⟩
  go_wp2_with fail
  refine (hA.out _).mono ?_
  rintro e w' ⟨rfl, rfl⟩
  go_wp2_with fail
  refine (hB.out _).mono ?_
  rintro e w' ⟨rfl, rfl⟩
  go_wp2_with fail
  refine (hr.out _).mono ?_
  rintro e w' ⟨rfl, bs59, n59, rfl⟩
  go_wp2
  go_ret
  exact ⟨rfl, (by repeat (first | exact Later.refl _ | refine Later.alloc ?_ | refine Later.far ?_ | refine Later.drewN ?_ | refine Later.drew ?_))⟩
end Go.Proofs.Ytobhihggdoccoaa.D
