/- 'F64Zeros' of package peloruslaw5 returns true at every int and every two signs: sums, products and quotients of zeros; a float and a zero. No condition. -/
import Derived.Test.YtobhihggdoccoabL64A
import Derived.OpenShut
namespace Go.Proofs.Ytobhihggdoccoab.f64Zeros
open Go.ChangeShapes Go.WideShapes Go.ChangeAt Go.RowKit
open Go.FM (isN fixn qn sw)
set_option linter.unusedVariables false

theorem own : ownKnob Try.prog.godebug = none := by kernel_rfl

set_option maxRecDepth 100000 in
set_option maxHeartbeats 2000000 in
theorem none_false_false (x : Int) (r1 : Hid (binI 160 0 0 = (0, 0))) (r2 : Hid (binI 162 0 0 = (0, 0))) (r3 : Hid (binI 163 0 0 = (9221120237041090560, 0))) (r4 : Hid (binI 97 x x = (0, 0))) (r5 : Hid (binI 160 x 0 = (9221120237041090560, 0))) (w : World) :
    Calls Try.prog 8 #[.int .i64 x, .bool false, .bool false] w fun e w' => e = .returned (.bool true) ∧ Grown w w' := by
  have e1 : bits .and .i64 0 0 = 0 := by decide +kernel
  have e2 : bits .xor .i64 0 0 = 0 := by decide +kernel
  go_enter Try.func8, Try.ntmps8
  go_wp2_with fail
  refine (awake_any _).mono ?_
  rintro e w' ⟨rfl, bs104, n104, rfl⟩
  go_wp2_with fail
  refine (bin_eq (Or.inl (by decide)) r1.out _).mono ?_
  rintro e w' ⟨rfl, bs105, n105, rfl⟩
  go_wp2_with fail
  refine (bin_eq (Or.inl (by decide)) r2.out _).mono ?_
  rintro e w' ⟨rfl, bs106, n106, rfl⟩
  go_wp2_with fail
  refine (bin_eq (Or.inl (by decide)) r3.out _).mono ?_
  rintro e w' ⟨rfl, bs107, n107, rfl⟩
  go_wp2_with fail
  refine (cmp_eq (by decide) r4.out _).mono ?_
  rintro e w' ⟨rfl, rfl⟩
  go_wp2_with fail
  refine (bin_eq (Or.inl (by decide)) r5.out _).mono ?_
  rintro e w' ⟨rfl, bs109, n109, rfl⟩
  go_wp2
  all_goals
    go_ret
    exact ⟨rfl, (later_grown (by repeat (first | exact Later.refl _ | refine Later.alloc ?_ | refine Later.far ?_ | refine Later.drewN ?_ | refine Later.drew ?_)))⟩
set_option maxRecDepth 100000 in
set_option maxHeartbeats 2000000 in
theorem same_false_false (x : Int) (r1 : Hid (binI 160 0 0 = (0, 0))) (r2 : Hid (binI 162 0 0 = (0, 0))) (r3 : Hid (binI 163 0 0 = (9221120237041090560, 0))) (r4 : Hid (binI 97 x x = (1, 0))) (r5 : Hid (binI 160 x 0 = (x, 0))) (z : Int) (t1 : bits .andNot .i64 x (-9223372036854775808) = z) (w : World) :
    Calls Try.prog 8 #[.int .i64 x, .bool false, .bool false] w fun e w' => e = .returned (.bool true) ∧ Grown w w' := by
  have e1 : bits .and .i64 0 0 = 0 := by decide +kernel
  have e2 : bits .xor .i64 0 0 = 0 := by decide +kernel
  go_enter Try.func8, Try.ntmps8
  go_wp2_with fail
  refine (awake_any _).mono ?_
  rintro e w' ⟨rfl, bs110, n110, rfl⟩
  go_wp2_with fail
  refine (bin_eq (Or.inl (by decide)) r1.out _).mono ?_
  rintro e w' ⟨rfl, bs111, n111, rfl⟩
  go_wp2_with fail
  refine (bin_eq (Or.inl (by decide)) r2.out _).mono ?_
  rintro e w' ⟨rfl, bs112, n112, rfl⟩
  go_wp2_with fail
  refine (bin_eq (Or.inl (by decide)) r3.out _).mono ?_
  rintro e w' ⟨rfl, bs113, n113, rfl⟩
  go_wp2_with fail
  refine (cmp_eq (by decide) r4.out _).mono ?_
  rintro e w' ⟨rfl, rfl⟩
  go_wp2_with fail
  refine (bin_eq (Or.inl (by decide)) r5.out _).mono ?_
  rintro e w' ⟨rfl, bs115, n115, rfl⟩
  go_wp2
  all_goals
    go_ret
    exact ⟨rfl, (later_grown (by repeat (first | exact Later.refl _ | refine Later.alloc ?_ | refine Later.far ?_ | refine Later.drewN ?_ | refine Later.drew ?_)))⟩
set_option maxRecDepth 100000 in
set_option maxHeartbeats 2000000 in
theorem zero_false_false (x t : Int) (r1 : Hid (binI 160 0 0 = (0, 0))) (r2 : Hid (binI 162 0 0 = (0, 0))) (r3 : Hid (binI 163 0 0 = (9221120237041090560, 0))) (r4 : Hid (binI 97 x x = (1, 0))) (r5 : Hid (binI 160 x 0 = (t, 0))) (t1 : bits .andNot .i64 x (-9223372036854775808) = 0) (t2 : bits .and .i64 x 0 = t) (w : World) :
    Calls Try.prog 8 #[.int .i64 x, .bool false, .bool false] w fun e w' => e = .returned (.bool true) ∧ Grown w w' := by
  have e1 : bits .and .i64 0 0 = 0 := by decide +kernel
  have e2 : bits .xor .i64 0 0 = 0 := by decide +kernel
  go_enter Try.func8, Try.ntmps8
  go_wp2_with fail
  refine (awake_any _).mono ?_
  rintro e w' ⟨rfl, bs116, n116, rfl⟩
  go_wp2_with fail
  refine (bin_eq (Or.inl (by decide)) r1.out _).mono ?_
  rintro e w' ⟨rfl, bs117, n117, rfl⟩
  go_wp2_with fail
  refine (bin_eq (Or.inl (by decide)) r2.out _).mono ?_
  rintro e w' ⟨rfl, bs118, n118, rfl⟩
  go_wp2_with fail
  refine (bin_eq (Or.inl (by decide)) r3.out _).mono ?_
  rintro e w' ⟨rfl, bs119, n119, rfl⟩
  go_wp2_with fail
  refine (cmp_eq (by decide) r4.out _).mono ?_
  rintro e w' ⟨rfl, rfl⟩
  go_wp2_with fail
  refine (bin_eq (Or.inl (by decide)) r5.out _).mono ?_
  rintro e w' ⟨rfl, bs121, n121, rfl⟩
  go_wp2
  all_goals
    go_ret
    exact ⟨rfl, (later_grown (by repeat (first | exact Later.refl _ | refine Later.alloc ?_ | refine Later.far ?_ | refine Later.drewN ?_ | refine Later.drew ?_)))⟩
set_option maxRecDepth 100000 in
set_option maxHeartbeats 2000000 in
theorem none_false_true (x : Int) (r1 : Hid (binI 160 0 (-9223372036854775808) = (0, 0))) (r2 : Hid (binI 162 0 (-9223372036854775808) = ((-9223372036854775808), 0))) (r3 : Hid (binI 163 0 (-9223372036854775808) = (9221120237041090560, 0))) (r4 : Hid (binI 97 x x = (0, 0))) (r5 : Hid (binI 160 x 0 = (9221120237041090560, 0))) (w : World) :
    Calls Try.prog 8 #[.int .i64 x, .bool false, .bool true] w fun e w' => e = .returned (.bool true) ∧ Grown w w' := by
  have e1 : bits .and .i64 0 (-9223372036854775808) = 0 := by decide +kernel
  have e2 : bits .xor .i64 0 (-9223372036854775808) = (-9223372036854775808) := by decide +kernel
  go_enter Try.func8, Try.ntmps8
  go_wp2_with fail
  refine (awake_any _).mono ?_
  rintro e w' ⟨rfl, bs122, n122, rfl⟩
  go_wp2_with fail
  refine (bin_eq (Or.inl (by decide)) r1.out _).mono ?_
  rintro e w' ⟨rfl, bs123, n123, rfl⟩
  go_wp2_with fail
  refine (bin_eq (Or.inl (by decide)) r2.out _).mono ?_
  rintro e w' ⟨rfl, bs124, n124, rfl⟩
  go_wp2_with fail
  refine (bin_eq (Or.inl (by decide)) r3.out _).mono ?_
  rintro e w' ⟨rfl, bs125, n125, rfl⟩
  go_wp2_with fail
  refine (cmp_eq (by decide) r4.out _).mono ?_
  rintro e w' ⟨rfl, rfl⟩
  go_wp2_with fail
  refine (bin_eq (Or.inl (by decide)) r5.out _).mono ?_
  rintro e w' ⟨rfl, bs127, n127, rfl⟩
  go_wp2
  all_goals
    go_ret
    exact ⟨rfl, (later_grown (by repeat (first | exact Later.refl _ | refine Later.alloc ?_ | refine Later.far ?_ | refine Later.drewN ?_ | refine Later.drew ?_)))⟩
set_option maxRecDepth 100000 in
set_option maxHeartbeats 2000000 in
theorem same_false_true (x : Int) (r1 : Hid (binI 160 0 (-9223372036854775808) = (0, 0))) (r2 : Hid (binI 162 0 (-9223372036854775808) = ((-9223372036854775808), 0))) (r3 : Hid (binI 163 0 (-9223372036854775808) = (9221120237041090560, 0))) (r4 : Hid (binI 97 x x = (1, 0))) (r5 : Hid (binI 160 x 0 = (x, 0))) (z : Int) (t1 : bits .andNot .i64 x (-9223372036854775808) = z) (w : World) :
    Calls Try.prog 8 #[.int .i64 x, .bool false, .bool true] w fun e w' => e = .returned (.bool true) ∧ Grown w w' := by
  have e1 : bits .and .i64 0 (-9223372036854775808) = 0 := by decide +kernel
  have e2 : bits .xor .i64 0 (-9223372036854775808) = (-9223372036854775808) := by decide +kernel
  go_enter Try.func8, Try.ntmps8
  go_wp2_with fail
  refine (awake_any _).mono ?_
  rintro e w' ⟨rfl, bs128, n128, rfl⟩
  go_wp2_with fail
  refine (bin_eq (Or.inl (by decide)) r1.out _).mono ?_
  rintro e w' ⟨rfl, bs129, n129, rfl⟩
  go_wp2_with fail
  refine (bin_eq (Or.inl (by decide)) r2.out _).mono ?_
  rintro e w' ⟨rfl, bs130, n130, rfl⟩
  go_wp2_with fail
  refine (bin_eq (Or.inl (by decide)) r3.out _).mono ?_
  rintro e w' ⟨rfl, bs131, n131, rfl⟩
  go_wp2_with fail
  refine (cmp_eq (by decide) r4.out _).mono ?_
  rintro e w' ⟨rfl, rfl⟩
  go_wp2_with fail
  refine (bin_eq (Or.inl (by decide)) r5.out _).mono ?_
  rintro e w' ⟨rfl, bs133, n133, rfl⟩
  go_wp2
  all_goals
    go_ret
    exact ⟨rfl, (later_grown (by repeat (first | exact Later.refl _ | refine Later.alloc ?_ | refine Later.far ?_ | refine Later.drewN ?_ | refine Later.drew ?_)))⟩
set_option maxRecDepth 100000 in
set_option maxHeartbeats 2000000 in
theorem zero_false_true (x t : Int) (r1 : Hid (binI 160 0 (-9223372036854775808) = (0, 0))) (r2 : Hid (binI 162 0 (-9223372036854775808) = ((-9223372036854775808), 0))) (r3 : Hid (binI 163 0 (-9223372036854775808) = (9221120237041090560, 0))) (r4 : Hid (binI 97 x x = (1, 0))) (r5 : Hid (binI 160 x 0 = (t, 0))) (t1 : bits .andNot .i64 x (-9223372036854775808) = 0) (t2 : bits .and .i64 x 0 = t) (w : World) :
    Calls Try.prog 8 #[.int .i64 x, .bool false, .bool true] w fun e w' => e = .returned (.bool true) ∧ Grown w w' := by
  have e1 : bits .and .i64 0 (-9223372036854775808) = 0 := by decide +kernel
  have e2 : bits .xor .i64 0 (-9223372036854775808) = (-9223372036854775808) := by decide +kernel
  go_enter Try.func8, Try.ntmps8
  go_wp2_with fail
  refine (awake_any _).mono ?_
  rintro e w' ⟨rfl, bs134, n134, rfl⟩
  go_wp2_with fail
  refine (bin_eq (Or.inl (by decide)) r1.out _).mono ?_
  rintro e w' ⟨rfl, bs135, n135, rfl⟩
  go_wp2_with fail
  refine (bin_eq (Or.inl (by decide)) r2.out _).mono ?_
  rintro e w' ⟨rfl, bs136, n136, rfl⟩
  go_wp2_with fail
  refine (bin_eq (Or.inl (by decide)) r3.out _).mono ?_
  rintro e w' ⟨rfl, bs137, n137, rfl⟩
  go_wp2_with fail
  refine (cmp_eq (by decide) r4.out _).mono ?_
  rintro e w' ⟨rfl, rfl⟩
  go_wp2_with fail
  refine (bin_eq (Or.inl (by decide)) r5.out _).mono ?_
  rintro e w' ⟨rfl, bs139, n139, rfl⟩
  go_wp2
  all_goals
    go_ret
    exact ⟨rfl, (later_grown (by repeat (first | exact Later.refl _ | refine Later.alloc ?_ | refine Later.far ?_ | refine Later.drewN ?_ | refine Later.drew ?_)))⟩
set_option maxRecDepth 100000 in
set_option maxHeartbeats 2000000 in
theorem none_true_false (x : Int) (r1 : Hid (binI 160 (-9223372036854775808) 0 = (0, 0))) (r2 : Hid (binI 162 (-9223372036854775808) 0 = ((-9223372036854775808), 0))) (r3 : Hid (binI 163 (-9223372036854775808) 0 = (9221120237041090560, 0))) (r4 : Hid (binI 97 x x = (0, 0))) (r5 : Hid (binI 160 x (-9223372036854775808) = (9221120237041090560, 0))) (w : World) :
    Calls Try.prog 8 #[.int .i64 x, .bool true, .bool false] w fun e w' => e = .returned (.bool true) ∧ Grown w w' := by
  have e1 : bits .and .i64 (-9223372036854775808) 0 = 0 := by decide +kernel
  have e2 : bits .xor .i64 (-9223372036854775808) 0 = (-9223372036854775808) := by decide +kernel
  go_enter Try.func8, Try.ntmps8
  go_wp2_with fail
  refine (awake_any _).mono ?_
  rintro e w' ⟨rfl, bs140, n140, rfl⟩
  go_wp2_with fail
  refine (bin_eq (Or.inl (by decide)) r1.out _).mono ?_
  rintro e w' ⟨rfl, bs141, n141, rfl⟩
  go_wp2_with fail
  refine (bin_eq (Or.inl (by decide)) r2.out _).mono ?_
  rintro e w' ⟨rfl, bs142, n142, rfl⟩
  go_wp2_with fail
  refine (bin_eq (Or.inl (by decide)) r3.out _).mono ?_
  rintro e w' ⟨rfl, bs143, n143, rfl⟩
  go_wp2_with fail
  refine (cmp_eq (by decide) r4.out _).mono ?_
  rintro e w' ⟨rfl, rfl⟩
  go_wp2_with fail
  refine (bin_eq (Or.inl (by decide)) r5.out _).mono ?_
  rintro e w' ⟨rfl, bs145, n145, rfl⟩
  go_wp2
  all_goals
    go_ret
    exact ⟨rfl, (later_grown (by repeat (first | exact Later.refl _ | refine Later.alloc ?_ | refine Later.far ?_ | refine Later.drewN ?_ | refine Later.drew ?_)))⟩
set_option maxRecDepth 100000 in
set_option maxHeartbeats 2000000 in
theorem same_true_false (x : Int) (r1 : Hid (binI 160 (-9223372036854775808) 0 = (0, 0))) (r2 : Hid (binI 162 (-9223372036854775808) 0 = ((-9223372036854775808), 0))) (r3 : Hid (binI 163 (-9223372036854775808) 0 = (9221120237041090560, 0))) (r4 : Hid (binI 97 x x = (1, 0))) (r5 : Hid (binI 160 x (-9223372036854775808) = (x, 0))) (z : Int) (t1 : bits .andNot .i64 x (-9223372036854775808) = z) (w : World) :
    Calls Try.prog 8 #[.int .i64 x, .bool true, .bool false] w fun e w' => e = .returned (.bool true) ∧ Grown w w' := by
  have e1 : bits .and .i64 (-9223372036854775808) 0 = 0 := by decide +kernel
  have e2 : bits .xor .i64 (-9223372036854775808) 0 = (-9223372036854775808) := by decide +kernel
  go_enter Try.func8, Try.ntmps8
  go_wp2_with fail
  refine (awake_any _).mono ?_
  rintro e w' ⟨rfl, bs146, n146, rfl⟩
  go_wp2_with fail
  refine (bin_eq (Or.inl (by decide)) r1.out _).mono ?_
  rintro e w' ⟨rfl, bs147, n147, rfl⟩
  go_wp2_with fail
  refine (bin_eq (Or.inl (by decide)) r2.out _).mono ?_
  rintro e w' ⟨rfl, bs148, n148, rfl⟩
  go_wp2_with fail
  refine (bin_eq (Or.inl (by decide)) r3.out _).mono ?_
  rintro e w' ⟨rfl, bs149, n149, rfl⟩
  go_wp2_with fail
  refine (cmp_eq (by decide) r4.out _).mono ?_
  rintro e w' ⟨rfl, rfl⟩
  go_wp2_with fail
  refine (bin_eq (Or.inl (by decide)) r5.out _).mono ?_
  rintro e w' ⟨rfl, bs151, n151, rfl⟩
  go_wp2
  all_goals
    go_ret
    exact ⟨rfl, (later_grown (by repeat (first | exact Later.refl _ | refine Later.alloc ?_ | refine Later.far ?_ | refine Later.drewN ?_ | refine Later.drew ?_)))⟩
set_option maxRecDepth 100000 in
set_option maxHeartbeats 2000000 in
theorem zero_true_false (x t : Int) (r1 : Hid (binI 160 (-9223372036854775808) 0 = (0, 0))) (r2 : Hid (binI 162 (-9223372036854775808) 0 = ((-9223372036854775808), 0))) (r3 : Hid (binI 163 (-9223372036854775808) 0 = (9221120237041090560, 0))) (r4 : Hid (binI 97 x x = (1, 0))) (r5 : Hid (binI 160 x (-9223372036854775808) = (t, 0))) (t1 : bits .andNot .i64 x (-9223372036854775808) = 0) (t2 : bits .and .i64 x (-9223372036854775808) = t) (w : World) :
    Calls Try.prog 8 #[.int .i64 x, .bool true, .bool false] w fun e w' => e = .returned (.bool true) ∧ Grown w w' := by
  have e1 : bits .and .i64 (-9223372036854775808) 0 = 0 := by decide +kernel
  have e2 : bits .xor .i64 (-9223372036854775808) 0 = (-9223372036854775808) := by decide +kernel
  go_enter Try.func8, Try.ntmps8
  go_wp2_with fail
  refine (awake_any _).mono ?_
  rintro e w' ⟨rfl, bs152, n152, rfl⟩
  go_wp2_with fail
  refine (bin_eq (Or.inl (by decide)) r1.out _).mono ?_
  rintro e w' ⟨rfl, bs153, n153, rfl⟩
  go_wp2_with fail
  refine (bin_eq (Or.inl (by decide)) r2.out _).mono ?_
  rintro e w' ⟨rfl, bs154, n154, rfl⟩
  go_wp2_with fail
  refine (bin_eq (Or.inl (by decide)) r3.out _).mono ?_
  rintro e w' ⟨rfl, bs155, n155, rfl⟩
  go_wp2_with fail
  refine (cmp_eq (by decide) r4.out _).mono ?_
  rintro e w' ⟨rfl, rfl⟩
  go_wp2_with fail
  refine (bin_eq (Or.inl (by decide)) r5.out _).mono ?_
  rintro e w' ⟨rfl, bs157, n157, rfl⟩
  go_wp2
  all_goals
    go_ret
    exact ⟨rfl, (later_grown (by repeat (first | exact Later.refl _ | refine Later.alloc ?_ | refine Later.far ?_ | refine Later.drewN ?_ | refine Later.drew ?_)))⟩
set_option maxRecDepth 100000 in
set_option maxHeartbeats 2000000 in
theorem none_true_true (x : Int) (r1 : Hid (binI 160 (-9223372036854775808) (-9223372036854775808) = ((-9223372036854775808), 0))) (r2 : Hid (binI 162 (-9223372036854775808) (-9223372036854775808) = (0, 0))) (r3 : Hid (binI 163 (-9223372036854775808) (-9223372036854775808) = (9221120237041090560, 0))) (r4 : Hid (binI 97 x x = (0, 0))) (r5 : Hid (binI 160 x (-9223372036854775808) = (9221120237041090560, 0))) (w : World) :
    Calls Try.prog 8 #[.int .i64 x, .bool true, .bool true] w fun e w' => e = .returned (.bool true) ∧ Grown w w' := by
  have e1 : bits .and .i64 (-9223372036854775808) (-9223372036854775808) = (-9223372036854775808) := by decide +kernel
  have e2 : bits .xor .i64 (-9223372036854775808) (-9223372036854775808) = 0 := by decide +kernel
  go_enter Try.func8, Try.ntmps8
  go_wp2_with fail
  refine (awake_any _).mono ?_
  rintro e w' ⟨rfl, bs158, n158, rfl⟩
  go_wp2_with fail
  refine (bin_eq (Or.inl (by decide)) r1.out _).mono ?_
  rintro e w' ⟨rfl, bs159, n159, rfl⟩
  go_wp2_with fail
  refine (bin_eq (Or.inl (by decide)) r2.out _).mono ?_
  rintro e w' ⟨rfl, bs160, n160, rfl⟩
  go_wp2_with fail
  refine (bin_eq (Or.inl (by decide)) r3.out _).mono ?_
  rintro e w' ⟨rfl, bs161, n161, rfl⟩
  go_wp2_with fail
  refine (cmp_eq (by decide) r4.out _).mono ?_
  rintro e w' ⟨rfl, rfl⟩
  go_wp2_with fail
  refine (bin_eq (Or.inl (by decide)) r5.out _).mono ?_
  rintro e w' ⟨rfl, bs163, n163, rfl⟩
  go_wp2
  all_goals
    go_ret
    exact ⟨rfl, (later_grown (by repeat (first | exact Later.refl _ | refine Later.alloc ?_ | refine Later.far ?_ | refine Later.drewN ?_ | refine Later.drew ?_)))⟩
set_option maxRecDepth 100000 in
set_option maxHeartbeats 2000000 in
theorem same_true_true (x : Int) (r1 : Hid (binI 160 (-9223372036854775808) (-9223372036854775808) = ((-9223372036854775808), 0))) (r2 : Hid (binI 162 (-9223372036854775808) (-9223372036854775808) = (0, 0))) (r3 : Hid (binI 163 (-9223372036854775808) (-9223372036854775808) = (9221120237041090560, 0))) (r4 : Hid (binI 97 x x = (1, 0))) (r5 : Hid (binI 160 x (-9223372036854775808) = (x, 0))) (z : Int) (t1 : bits .andNot .i64 x (-9223372036854775808) = z) (w : World) :
    Calls Try.prog 8 #[.int .i64 x, .bool true, .bool true] w fun e w' => e = .returned (.bool true) ∧ Grown w w' := by
  have e1 : bits .and .i64 (-9223372036854775808) (-9223372036854775808) = (-9223372036854775808) := by decide +kernel
  have e2 : bits .xor .i64 (-9223372036854775808) (-9223372036854775808) = 0 := by decide +kernel
  go_enter Try.func8, Try.ntmps8
  go_wp2_with fail
  refine (awake_any _).mono ?_
  rintro e w' ⟨rfl, bs164, n164, rfl⟩
  go_wp2_with fail
  refine (bin_eq (Or.inl (by decide)) r1.out _).mono ?_
  rintro e w' ⟨rfl, bs165, n165, rfl⟩
  go_wp2_with fail
  refine (bin_eq (Or.inl (by decide)) r2.out _).mono ?_
  rintro e w' ⟨rfl, bs166, n166, rfl⟩
  go_wp2_with fail
  refine (bin_eq (Or.inl (by decide)) r3.out _).mono ?_
  rintro e w' ⟨rfl, bs167, n167, rfl⟩
  go_wp2_with fail
  refine (cmp_eq (by decide) r4.out _).mono ?_
  rintro e w' ⟨rfl, rfl⟩
  go_wp2_with fail
  refine (bin_eq (Or.inl (by decide)) r5.out _).mono ?_
  rintro e w' ⟨rfl, bs169, n169, rfl⟩
  go_wp2
  all_goals
    go_ret
    exact ⟨rfl, (later_grown (by repeat (first | exact Later.refl _ | refine Later.alloc ?_ | refine Later.far ?_ | refine Later.drewN ?_ | refine Later.drew ?_)))⟩
set_option maxRecDepth 100000 in
set_option maxHeartbeats 2000000 in
theorem zero_true_true (x t : Int) (r1 : Hid (binI 160 (-9223372036854775808) (-9223372036854775808) = ((-9223372036854775808), 0))) (r2 : Hid (binI 162 (-9223372036854775808) (-9223372036854775808) = (0, 0))) (r3 : Hid (binI 163 (-9223372036854775808) (-9223372036854775808) = (9221120237041090560, 0))) (r4 : Hid (binI 97 x x = (1, 0))) (r5 : Hid (binI 160 x (-9223372036854775808) = (t, 0))) (t1 : bits .andNot .i64 x (-9223372036854775808) = 0) (t2 : bits .and .i64 x (-9223372036854775808) = t) (w : World) :
    Calls Try.prog 8 #[.int .i64 x, .bool true, .bool true] w fun e w' => e = .returned (.bool true) ∧ Grown w w' := by
  have e1 : bits .and .i64 (-9223372036854775808) (-9223372036854775808) = (-9223372036854775808) := by decide +kernel
  have e2 : bits .xor .i64 (-9223372036854775808) (-9223372036854775808) = 0 := by decide +kernel
  go_enter Try.func8, Try.ntmps8
  go_wp2_with fail
  refine (awake_any _).mono ?_
  rintro e w' ⟨rfl, bs170, n170, rfl⟩
  go_wp2_with fail
  refine (bin_eq (Or.inl (by decide)) r1.out _).mono ?_
  rintro e w' ⟨rfl, bs171, n171, rfl⟩
  go_wp2_with fail
  refine (bin_eq (Or.inl (by decide)) r2.out _).mono ?_
  rintro e w' ⟨rfl, bs172, n172, rfl⟩
  go_wp2_with fail
  refine (bin_eq (Or.inl (by decide)) r3.out _).mono ?_
  rintro e w' ⟨rfl, bs173, n173, rfl⟩
  go_wp2_with fail
  refine (cmp_eq (by decide) r4.out _).mono ?_
  rintro e w' ⟨rfl, rfl⟩
  go_wp2_with fail
  refine (bin_eq (Or.inl (by decide)) r5.out _).mono ?_
  rintro e w' ⟨rfl, bs175, n175, rfl⟩
  go_wp2
  all_goals
    go_ret
    exact ⟨rfl, (later_grown (by repeat (first | exact Later.refl _ | refine Later.alloc ?_ | refine Later.far ?_ | refine Later.drewN ?_ | refine Later.drew ?_)))⟩
theorem sumz (X : Nat) (hXl : X < 18446744073709551616) (t : Bool) (P : Nat) (hP : df.word t 0 = P) (hPl : P < 18446744073709551616) (hn : ¬ isN df X) :
    (binI 160 (sw X) (sw P) = (sw X, 0) ∨ (X % 9223372036854775808 = 0 ∧ binI 160 (sw X) (sw P) = (sw (X &&& P), 0))) := by
  have h := FM.add_zero df hdf t X (sw2 X hXl) hn
  rw [hP] at h
  rw [bI 160 X P hXl hPl (by decide), f_add, fix_some h]
  by_cases h0 : FM.rg df X = 0
  · right
    have h1 : X % 9223372036854775808 = 0 := by rw [← FM.rg64]; exact h0
    refine ⟨h1, ?_⟩
    rw [if_pos h0]
    obtain ⟨s, r, e, g1, g2, g3⟩ := FM.parts64 X hXl
    have hr : r = 0 := by rw [← g3]; exact h0
    rw [hr] at e
    have e2 : df.word (FM.sg df X && t) 0 = X &&& P := by
      rw [← hP, show FM.sg df X = s from g2, e]
      cases s <;> cases t <;> decide +kernel
    rw [e2]
  · left; rw [if_neg h0]
theorem sw_top : sw 9223372036854775808 = -9223372036854775808 := by decide +kernel
theorem walk (a0 : Int) (a1 : Bool) (a2 : Bool) (w0 : (Lit.int .i64 a0).wf = true) (w : World) :
    Calls Try.prog 8 #[.int .i64 a0, .bool a1, .bool a2] w fun e w' => e = .returned (.bool true) ∧ Grown w w' := by
  obtain ⟨X, rfl, hXl⟩ := word_of a0 (bounds_i64 w0)
  clear w0
  have hA := FM.andNot_a _ X (FM.sw_mod X hXl)
  cases a1 <;> cases a2
  · have c1 : Hid (binI 160 0 0 = (0, 0)) := by show _ = _; decide +kernel
    have c2 : Hid (binI 162 0 0 = (0, 0)) := by show _ = _; decide +kernel
    have c3 : Hid (binI 163 0 0 = (9221120237041090560, 0)) := by show _ = _; decide +kernel
    by_cases hn : isN df X
    · refine none_false_false (sw X) c1 c2 c3 (b_nan X hXl hn).1 ?_ w
      have h := bI 160 X 0 hXl (by decide) (by decide)
      rw [f_add, fix_none (FM.add_nan df hdf X _ hn), sw_q, sw_zero] at h
      exact h
    · rcases sumz X hXl false 0 (by decide +kernel) (by decide) hn with h | ⟨h0, h⟩
      · rw [sw_zero] at h
        exact same_false_false (sw X) c1 c2 c3 (b_num X hXl hn).1 h _ hA w
      · rw [sw_zero] at h
        exact zero_false_false (sw X) _ c1 c2 c3 (b_num X hXl hn).1 h (by rw [hA, h0, sw_zero]) (FM.and_a _ _ X 0 (FM.sw_mod X hXl) (by decide)) w
  · have c1 : Hid (binI 160 0 (-9223372036854775808) = (0, 0)) := by show _ = _; decide +kernel
    have c2 : Hid (binI 162 0 (-9223372036854775808) = ((-9223372036854775808), 0)) := by show _ = _; decide +kernel
    have c3 : Hid (binI 163 0 (-9223372036854775808) = (9221120237041090560, 0)) := by show _ = _; decide +kernel
    by_cases hn : isN df X
    · refine none_false_true (sw X) c1 c2 c3 (b_nan X hXl hn).1 ?_ w
      have h := bI 160 X 0 hXl (by decide) (by decide)
      rw [f_add, fix_none (FM.add_nan df hdf X _ hn), sw_q, sw_zero] at h
      exact h
    · rcases sumz X hXl false 0 (by decide +kernel) (by decide) hn with h | ⟨h0, h⟩
      · rw [sw_zero] at h
        exact same_false_true (sw X) c1 c2 c3 (b_num X hXl hn).1 h _ hA w
      · rw [sw_zero] at h
        exact zero_false_true (sw X) _ c1 c2 c3 (b_num X hXl hn).1 h (by rw [hA, h0, sw_zero]) (FM.and_a _ _ X 0 (FM.sw_mod X hXl) (by decide)) w
  · have c1 : Hid (binI 160 (-9223372036854775808) 0 = (0, 0)) := by show _ = _; decide +kernel
    have c2 : Hid (binI 162 (-9223372036854775808) 0 = ((-9223372036854775808), 0)) := by show _ = _; decide +kernel
    have c3 : Hid (binI 163 (-9223372036854775808) 0 = (9221120237041090560, 0)) := by show _ = _; decide +kernel
    by_cases hn : isN df X
    · refine none_true_false (sw X) c1 c2 c3 (b_nan X hXl hn).1 ?_ w
      have h := bI 160 X 9223372036854775808 hXl (by decide) (by decide)
      rw [f_add, fix_none (FM.add_nan df hdf X _ hn), sw_q, sw_top] at h
      exact h
    · rcases sumz X hXl true 9223372036854775808 (by decide +kernel) (by decide) hn with h | ⟨h0, h⟩
      · rw [sw_top] at h
        exact same_true_false (sw X) c1 c2 c3 (b_num X hXl hn).1 h _ hA w
      · rw [sw_top] at h
        exact zero_true_false (sw X) _ c1 c2 c3 (b_num X hXl hn).1 h (by rw [hA, h0, sw_zero]) (FM.and_a _ _ X 9223372036854775808 (FM.sw_mod X hXl) (by decide)) w
  · have c1 : Hid (binI 160 (-9223372036854775808) (-9223372036854775808) = ((-9223372036854775808), 0)) := by show _ = _; decide +kernel
    have c2 : Hid (binI 162 (-9223372036854775808) (-9223372036854775808) = (0, 0)) := by show _ = _; decide +kernel
    have c3 : Hid (binI 163 (-9223372036854775808) (-9223372036854775808) = (9221120237041090560, 0)) := by show _ = _; decide +kernel
    by_cases hn : isN df X
    · refine none_true_true (sw X) c1 c2 c3 (b_nan X hXl hn).1 ?_ w
      have h := bI 160 X 9223372036854775808 hXl (by decide) (by decide)
      rw [f_add, fix_none (FM.add_nan df hdf X _ hn), sw_q, sw_top] at h
      exact h
    · rcases sumz X hXl true 9223372036854775808 (by decide +kernel) (by decide) hn with h | ⟨h0, h⟩
      · rw [sw_top] at h
        exact same_true_true (sw X) c1 c2 c3 (b_num X hXl hn).1 h _ hA w
      · rw [sw_top] at h
        exact zero_true_true (sw X) _ c1 c2 c3 (b_num X hXl hn).1 h (by rw [hA, h0, sw_zero]) (FM.and_a _ _ X 9223372036854775808 (FM.sw_mod X hXl) (by decide)) w

/-! ### THE ROW's STEP: WRITTEN OUT: LEAVE IT -/
set_option maxRecDepth 100000 in
theorem lifted (os : Os) (started : os.Started) (H : Type) (enc : TypeId × Value → H) :
    ReturnsInHanded {} Try.checked os 8 .any (Rows.f64ZerosSpec.pre6 enc Try.prog Try.f8 Rows.f64ZerosRow.domain false) (Rows.f64ZerosSpec.post enc Try.prog Try.f8 false true false false) := by
  refine returnsInHanded_of_change (C := Try.checked) own started (by kernel_rfl) Try.func8
    (ChangeSpec.witness6 (enc := enc) (C := Try.checked) false ⟨#[], #[.int .i64 0, .bool false, .bool false], []⟩ 8 (by kernel_rfl) (by kernel_rfl) (by kernel_rfl) (by kernel_rfl)) ?_
  intro W base args ds gs before hval0 hW hcnd _
  have hval : ∀ (j : Nat) t v, Try.f8.params[j]? = some t → args[j]? = some v → Value.okWide Try.prog W .any base t v := hval0
  have hW' := hW
  obtain ⟨p, q, hA0, hV, rfl, hfz, hnd⟩ := hW
  have hA : DataW.TrodAll enc Try.prog W 0 (fun _ => true) true Try.f8.params.toList args.toList ds p := hA0
  rw [Try.params8] at hA hval
  obtain ⟨v0, vs0, d0, ds0, p0, q0, hargs, rfl, rfl, h0, r0⟩ := trodAll_cons hA
  obtain ⟨v1, vs1, d1, ds1, p1, q1, rfl, rfl, rfl, h1, r1⟩ := trodAll_cons r0
  obtain ⟨v2, vs2, d2, ds2, p2, q2, rfl, rfl, rfl, h2, r2⟩ := trodAll_cons r1
  obtain ⟨rfl, rfl, rfl⟩ := trodAll_nil r2
  obtain rfl : args = #[v0, v1, v2] := by cases args; simp_all
  obtain ⟨rfl, rfl⟩ := trodVars_none hV
  obtain ⟨a0, rfl, rfl, rfl, w0⟩ := open_int Try.underlying3 (hval 0 3 v0 rfl rfl) h0
  obtain ⟨a1, rfl, rfl, rfl⟩ := open_bool Try.underlying4 (hval 1 4 v1 rfl rfl) h1
  obtain ⟨a2, rfl, rfl, rfl⟩ := open_bool Try.underlying4 (hval 2 4 v2 rfl rfl) h2
  clear hA0 hval0
  simp only [List.append_nil] at hW'
  refine (walk a0 a1 a2 w0 W).mono fun e W' ⟨he, hg⟩ => ?_
  subst he
  exact ⟨_, rfl, post_of_same (pa := []) (pv := []) hW' (fun _ _ _ => (trodAll_cons_mk (shut_bool Try.underlying4 _) trodAll_mk0)) (fun sp _ => (trodAll_cons_mk (shut_int Try.underlying3 w0) (trodAll_cons_mk (shut_bool Try.underlying4 _) (trodAll_cons_mk (shut_bool Try.underlying4 _) trodAll_mk0)))) (fun _ _ => rfl) rfl
    (hg.frame _) hg.2.1 (ok_one (by kernel_rfl) rfl (okWide_bool_mk Try.underlying4 _))⟩

theorem over : Rows.f64ZerosRow.holds Try.pinned (OpenSpec.ofChange Rows.f64ZerosSpec) :=
  OpenClaim.holds_of_wide 8 Try.f8 rfl rfl rfl rfl rfl rfl rfl ⟨rfl, rfl, rfl, rfl, rfl⟩ rfl rfl rfl rfl rfl (by kernel_rfl) Try.func8 (by kernel_rfl)
    (of_decide_eq_true (by kernel_rfl)) (by unfold Func.isWrapper; first | (rw [if_pos (by decide +kernel)]; kernel_rfl) | (rw [if_neg (by decide +kernel)]; exact ⟨rfl, rfl⟩))
    (fun os started H enc _ => lifted os started H enc)

theorem proved : Rows.F64ZerosSaid := over
end Go.Proofs.Ytobhihggdoccoab.f64Zeros
namespace Go.Proofs.Ytobhihggdoccoab
theorem f64Zeros_holds : Rows.F64ZerosSaid := f64Zeros.proved
#print axioms f64Zeros_holds
end Go.Proofs.Ytobhihggdoccoab

