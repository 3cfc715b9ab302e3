/- 'F32Zeros' of package peloruslaw4 returns true at every int and every two signs: sums, products and quotients of zeros; a float and a zero. No condition. -/
import Derived.Test.YtpbccpdiiijinabL32A
import Derived.OpenShut
namespace Go.Proofs.Ytpbccpdiiijinab.f32Zeros
open Go.ChangeShapes Go.WideShapes Go.ChangeAt Go.RowKit
open Go.FM (isN fixn qn)
set_option linter.unusedVariables false

theorem own : ownKnob Try.prog.godebug = none := by kernel_rfl

set_option maxRecDepth 100000 in
set_option maxHeartbeats 2000000 in
theorem none_false_false (a x : Int) (hx : bits .and .i64 a 4294967295 = x) (r1 : Hid (binI 146 0 0 = (0, 0))) (r2 : Hid (binI 148 0 0 = (0, 0))) (r3 : Hid (binI 149 0 0 = (2143289344, 0))) (r4 : Hid (binI 91 x x = (0, 0))) (r5 : Hid (binI 146 x 0 = (2143289344, 0))) (w : World) :
    Calls Try.prog 6 #[.int .i64 a, .bool false, .bool false] w fun e w' => e = .returned (.bool true) ∧ Grown w w' := by
  have e1 : bits .and .i64 0 0 = 0 := by decide +kernel
  have e2 : bits .xor .i64 0 0 = 0 := by decide +kernel
  go_enter Try.func6, Try.ntmps6
  go_wp2_with fail
  refine (awake_any _).mono ?_
  rintro e w' ⟨rfl, bs79, n79, rfl⟩
  go_wp2_with fail
  refine (bin_eq r1.out _).mono ?_
  rintro e w' ⟨rfl, bs80, n80, rfl⟩
  go_wp2_with fail
  refine (bin_eq r2.out _).mono ?_
  rintro e w' ⟨rfl, bs81, n81, rfl⟩
  go_wp2_with fail
  refine (bin_eq r3.out _).mono ?_
  rintro e w' ⟨rfl, bs82, n82, rfl⟩
  go_wp2_with fail
  refine (cmp_eq (by decide) r4.out _).mono ?_
  rintro e w' ⟨rfl, rfl⟩
  go_wp2_with fail
  refine (bin_eq r5.out _).mono ?_
  rintro e w' ⟨rfl, bs83, n83, rfl⟩
  go_wp2
  all_goals
    go_ret
    exact ⟨rfl, (later_grown (by repeat (first | exact Later.refl _ | refine Later.alloc ?_ | refine Later.far ?_ | refine Later.drewN ?_ | refine Later.drew ?_)))⟩
set_option maxRecDepth 100000 in
set_option maxHeartbeats 2000000 in
theorem same_false_false (a x : Int) (hx : bits .and .i64 a 4294967295 = x) (r1 : Hid (binI 146 0 0 = (0, 0))) (r2 : Hid (binI 148 0 0 = (0, 0))) (r3 : Hid (binI 149 0 0 = (2143289344, 0))) (r4 : Hid (binI 91 x x = (1, 0))) (r5 : Hid (binI 146 x 0 = (x, 0))) (z : Int) (t1 : bits .andNot .i64 x 2147483648 = z) (w : World) :
    Calls Try.prog 6 #[.int .i64 a, .bool false, .bool false] w fun e w' => e = .returned (.bool true) ∧ Grown w w' := by
  have e1 : bits .and .i64 0 0 = 0 := by decide +kernel
  have e2 : bits .xor .i64 0 0 = 0 := by decide +kernel
  go_enter Try.func6, Try.ntmps6
  go_wp2_with fail
  refine (awake_any _).mono ?_
  rintro e w' ⟨rfl, bs84, n84, rfl⟩
  go_wp2_with fail
  refine (bin_eq r1.out _).mono ?_
  rintro e w' ⟨rfl, bs85, n85, rfl⟩
  go_wp2_with fail
  refine (bin_eq r2.out _).mono ?_
  rintro e w' ⟨rfl, bs86, n86, rfl⟩
  go_wp2_with fail
  refine (bin_eq r3.out _).mono ?_
  rintro e w' ⟨rfl, bs87, n87, rfl⟩
  go_wp2_with fail
  refine (cmp_eq (by decide) r4.out _).mono ?_
  rintro e w' ⟨rfl, rfl⟩
  go_wp2_with fail
  refine (bin_eq r5.out _).mono ?_
  rintro e w' ⟨rfl, bs88, n88, rfl⟩
  go_wp2
  all_goals
    go_ret
    exact ⟨rfl, (later_grown (by repeat (first | exact Later.refl _ | refine Later.alloc ?_ | refine Later.far ?_ | refine Later.drewN ?_ | refine Later.drew ?_)))⟩
set_option maxRecDepth 100000 in
set_option maxHeartbeats 2000000 in
theorem zero_false_false (a x t : Int) (hx : bits .and .i64 a 4294967295 = x) (r1 : Hid (binI 146 0 0 = (0, 0))) (r2 : Hid (binI 148 0 0 = (0, 0))) (r3 : Hid (binI 149 0 0 = (2143289344, 0))) (r4 : Hid (binI 91 x x = (1, 0))) (r5 : Hid (binI 146 x 0 = (t, 0))) (t1 : bits .andNot .i64 x 2147483648 = 0) (t2 : bits .and .i64 x 0 = t) (w : World) :
    Calls Try.prog 6 #[.int .i64 a, .bool false, .bool false] w fun e w' => e = .returned (.bool true) ∧ Grown w w' := by
  have e1 : bits .and .i64 0 0 = 0 := by decide +kernel
  have e2 : bits .xor .i64 0 0 = 0 := by decide +kernel
  go_enter Try.func6, Try.ntmps6
  go_wp2_with fail
  refine (awake_any _).mono ?_
  rintro e w' ⟨rfl, bs89, n89, rfl⟩
  go_wp2_with fail
  refine (bin_eq r1.out _).mono ?_
  rintro e w' ⟨rfl, bs90, n90, rfl⟩
  go_wp2_with fail
  refine (bin_eq r2.out _).mono ?_
  rintro e w' ⟨rfl, bs91, n91, rfl⟩
  go_wp2_with fail
  refine (bin_eq r3.out _).mono ?_
  rintro e w' ⟨rfl, bs92, n92, rfl⟩
  go_wp2_with fail
  refine (cmp_eq (by decide) r4.out _).mono ?_
  rintro e w' ⟨rfl, rfl⟩
  go_wp2_with fail
  refine (bin_eq r5.out _).mono ?_
  rintro e w' ⟨rfl, bs93, n93, rfl⟩
  go_wp2
  all_goals
    go_ret
    exact ⟨rfl, (later_grown (by repeat (first | exact Later.refl _ | refine Later.alloc ?_ | refine Later.far ?_ | refine Later.drewN ?_ | refine Later.drew ?_)))⟩
set_option maxRecDepth 100000 in
set_option maxHeartbeats 2000000 in
theorem none_false_true (a x : Int) (hx : bits .and .i64 a 4294967295 = x) (r1 : Hid (binI 146 0 2147483648 = (0, 0))) (r2 : Hid (binI 148 0 2147483648 = (2147483648, 0))) (r3 : Hid (binI 149 0 2147483648 = (2143289344, 0))) (r4 : Hid (binI 91 x x = (0, 0))) (r5 : Hid (binI 146 x 0 = (2143289344, 0))) (w : World) :
    Calls Try.prog 6 #[.int .i64 a, .bool false, .bool true] w fun e w' => e = .returned (.bool true) ∧ Grown w w' := by
  have e1 : bits .and .i64 0 2147483648 = 0 := by decide +kernel
  have e2 : bits .xor .i64 0 2147483648 = 2147483648 := by decide +kernel
  go_enter Try.func6, Try.ntmps6
  go_wp2_with fail
  refine (awake_any _).mono ?_
  rintro e w' ⟨rfl, bs94, n94, rfl⟩
  go_wp2_with fail
  refine (bin_eq r1.out _).mono ?_
  rintro e w' ⟨rfl, bs95, n95, rfl⟩
  go_wp2_with fail
  refine (bin_eq r2.out _).mono ?_
  rintro e w' ⟨rfl, bs96, n96, rfl⟩
  go_wp2_with fail
  refine (bin_eq r3.out _).mono ?_
  rintro e w' ⟨rfl, bs97, n97, rfl⟩
  go_wp2_with fail
  refine (cmp_eq (by decide) r4.out _).mono ?_
  rintro e w' ⟨rfl, rfl⟩
  go_wp2_with fail
  refine (bin_eq r5.out _).mono ?_
  rintro e w' ⟨rfl, bs98, n98, rfl⟩
  go_wp2
  all_goals
    go_ret
    exact ⟨rfl, (later_grown (by repeat (first | exact Later.refl _ | refine Later.alloc ?_ | refine Later.far ?_ | refine Later.drewN ?_ | refine Later.drew ?_)))⟩
set_option maxRecDepth 100000 in
set_option maxHeartbeats 2000000 in
theorem same_false_true (a x : Int) (hx : bits .and .i64 a 4294967295 = x) (r1 : Hid (binI 146 0 2147483648 = (0, 0))) (r2 : Hid (binI 148 0 2147483648 = (2147483648, 0))) (r3 : Hid (binI 149 0 2147483648 = (2143289344, 0))) (r4 : Hid (binI 91 x x = (1, 0))) (r5 : Hid (binI 146 x 0 = (x, 0))) (z : Int) (t1 : bits .andNot .i64 x 2147483648 = z) (w : World) :
    Calls Try.prog 6 #[.int .i64 a, .bool false, .bool true] w fun e w' => e = .returned (.bool true) ∧ Grown w w' := by
  have e1 : bits .and .i64 0 2147483648 = 0 := by decide +kernel
  have e2 : bits .xor .i64 0 2147483648 = 2147483648 := by decide +kernel
  go_enter Try.func6, Try.ntmps6
  go_wp2_with fail
  refine (awake_any _).mono ?_
  rintro e w' ⟨rfl, bs99, n99, rfl⟩
  go_wp2_with fail
  refine (bin_eq r1.out _).mono ?_
  rintro e w' ⟨rfl, bs100, n100, rfl⟩
  go_wp2_with fail
  refine (bin_eq r2.out _).mono ?_
  rintro e w' ⟨rfl, bs101, n101, rfl⟩
  go_wp2_with fail
  refine (bin_eq r3.out _).mono ?_
  rintro e w' ⟨rfl, bs102, n102, rfl⟩
  go_wp2_with fail
  refine (cmp_eq (by decide) r4.out _).mono ?_
  rintro e w' ⟨rfl, rfl⟩
  go_wp2_with fail
  refine (bin_eq r5.out _).mono ?_
  rintro e w' ⟨rfl, bs103, n103, rfl⟩
  go_wp2
  all_goals
    go_ret
    exact ⟨rfl, (later_grown (by repeat (first | exact Later.refl _ | refine Later.alloc ?_ | refine Later.far ?_ | refine Later.drewN ?_ | refine Later.drew ?_)))⟩
set_option maxRecDepth 100000 in
set_option maxHeartbeats 2000000 in
theorem zero_false_true (a x t : Int) (hx : bits .and .i64 a 4294967295 = x) (r1 : Hid (binI 146 0 2147483648 = (0, 0))) (r2 : Hid (binI 148 0 2147483648 = (2147483648, 0))) (r3 : Hid (binI 149 0 2147483648 = (2143289344, 0))) (r4 : Hid (binI 91 x x = (1, 0))) (r5 : Hid (binI 146 x 0 = (t, 0))) (t1 : bits .andNot .i64 x 2147483648 = 0) (t2 : bits .and .i64 x 0 = t) (w : World) :
    Calls Try.prog 6 #[.int .i64 a, .bool false, .bool true] w fun e w' => e = .returned (.bool true) ∧ Grown w w' := by
  have e1 : bits .and .i64 0 2147483648 = 0 := by decide +kernel
  have e2 : bits .xor .i64 0 2147483648 = 2147483648 := by decide +kernel
  go_enter Try.func6, Try.ntmps6
  go_wp2_with fail
  refine (awake_any _).mono ?_
  rintro e w' ⟨rfl, bs104, n104, rfl⟩
  go_wp2_with fail
  refine (bin_eq r1.out _).mono ?_
  rintro e w' ⟨rfl, bs105, n105, rfl⟩
  go_wp2_with fail
  refine (bin_eq r2.out _).mono ?_
  rintro e w' ⟨rfl, bs106, n106, rfl⟩
  go_wp2_with fail
  refine (bin_eq r3.out _).mono ?_
  rintro e w' ⟨rfl, bs107, n107, rfl⟩
  go_wp2_with fail
  refine (cmp_eq (by decide) r4.out _).mono ?_
  rintro e w' ⟨rfl, rfl⟩
  go_wp2_with fail
  refine (bin_eq r5.out _).mono ?_
  rintro e w' ⟨rfl, bs108, n108, rfl⟩
  go_wp2
  all_goals
    go_ret
    exact ⟨rfl, (later_grown (by repeat (first | exact Later.refl _ | refine Later.alloc ?_ | refine Later.far ?_ | refine Later.drewN ?_ | refine Later.drew ?_)))⟩
set_option maxRecDepth 100000 in
set_option maxHeartbeats 2000000 in
theorem none_true_false (a x : Int) (hx : bits .and .i64 a 4294967295 = x) (r1 : Hid (binI 146 2147483648 0 = (0, 0))) (r2 : Hid (binI 148 2147483648 0 = (2147483648, 0))) (r3 : Hid (binI 149 2147483648 0 = (2143289344, 0))) (r4 : Hid (binI 91 x x = (0, 0))) (r5 : Hid (binI 146 x 2147483648 = (2143289344, 0))) (w : World) :
    Calls Try.prog 6 #[.int .i64 a, .bool true, .bool false] w fun e w' => e = .returned (.bool true) ∧ Grown w w' := by
  have e1 : bits .and .i64 2147483648 0 = 0 := by decide +kernel
  have e2 : bits .xor .i64 2147483648 0 = 2147483648 := by decide +kernel
  go_enter Try.func6, Try.ntmps6
  go_wp2_with fail
  refine (awake_any _).mono ?_
  rintro e w' ⟨rfl, bs109, n109, rfl⟩
  go_wp2_with fail
  refine (bin_eq r1.out _).mono ?_
  rintro e w' ⟨rfl, bs110, n110, rfl⟩
  go_wp2_with fail
  refine (bin_eq r2.out _).mono ?_
  rintro e w' ⟨rfl, bs111, n111, rfl⟩
  go_wp2_with fail
  refine (bin_eq r3.out _).mono ?_
  rintro e w' ⟨rfl, bs112, n112, rfl⟩
  go_wp2_with fail
  refine (cmp_eq (by decide) r4.out _).mono ?_
  rintro e w' ⟨rfl, rfl⟩
  go_wp2_with fail
  refine (bin_eq r5.out _).mono ?_
  rintro e w' ⟨rfl, bs113, n113, rfl⟩
  go_wp2
  all_goals
    go_ret
    exact ⟨rfl, (later_grown (by repeat (first | exact Later.refl _ | refine Later.alloc ?_ | refine Later.far ?_ | refine Later.drewN ?_ | refine Later.drew ?_)))⟩
set_option maxRecDepth 100000 in
set_option maxHeartbeats 2000000 in
theorem same_true_false (a x : Int) (hx : bits .and .i64 a 4294967295 = x) (r1 : Hid (binI 146 2147483648 0 = (0, 0))) (r2 : Hid (binI 148 2147483648 0 = (2147483648, 0))) (r3 : Hid (binI 149 2147483648 0 = (2143289344, 0))) (r4 : Hid (binI 91 x x = (1, 0))) (r5 : Hid (binI 146 x 2147483648 = (x, 0))) (z : Int) (t1 : bits .andNot .i64 x 2147483648 = z) (w : World) :
    Calls Try.prog 6 #[.int .i64 a, .bool true, .bool false] w fun e w' => e = .returned (.bool true) ∧ Grown w w' := by
  have e1 : bits .and .i64 2147483648 0 = 0 := by decide +kernel
  have e2 : bits .xor .i64 2147483648 0 = 2147483648 := by decide +kernel
  go_enter Try.func6, Try.ntmps6
  go_wp2_with fail
  refine (awake_any _).mono ?_
  rintro e w' ⟨rfl, bs114, n114, rfl⟩
  go_wp2_with fail
  refine (bin_eq r1.out _).mono ?_
  rintro e w' ⟨rfl, bs115, n115, rfl⟩
  go_wp2_with fail
  refine (bin_eq r2.out _).mono ?_
  rintro e w' ⟨rfl, bs116, n116, rfl⟩
  go_wp2_with fail
  refine (bin_eq r3.out _).mono ?_
  rintro e w' ⟨rfl, bs117, n117, rfl⟩
  go_wp2_with fail
  refine (cmp_eq (by decide) r4.out _).mono ?_
  rintro e w' ⟨rfl, rfl⟩
  go_wp2_with fail
  refine (bin_eq r5.out _).mono ?_
  rintro e w' ⟨rfl, bs118, n118, rfl⟩
  go_wp2
  all_goals
    go_ret
    exact ⟨rfl, (later_grown (by repeat (first | exact Later.refl _ | refine Later.alloc ?_ | refine Later.far ?_ | refine Later.drewN ?_ | refine Later.drew ?_)))⟩
set_option maxRecDepth 100000 in
set_option maxHeartbeats 2000000 in
theorem zero_true_false (a x t : Int) (hx : bits .and .i64 a 4294967295 = x) (r1 : Hid (binI 146 2147483648 0 = (0, 0))) (r2 : Hid (binI 148 2147483648 0 = (2147483648, 0))) (r3 : Hid (binI 149 2147483648 0 = (2143289344, 0))) (r4 : Hid (binI 91 x x = (1, 0))) (r5 : Hid (binI 146 x 2147483648 = (t, 0))) (t1 : bits .andNot .i64 x 2147483648 = 0) (t2 : bits .and .i64 x 2147483648 = t) (w : World) :
    Calls Try.prog 6 #[.int .i64 a, .bool true, .bool false] w fun e w' => e = .returned (.bool true) ∧ Grown w w' := by
  have e1 : bits .and .i64 2147483648 0 = 0 := by decide +kernel
  have e2 : bits .xor .i64 2147483648 0 = 2147483648 := by decide +kernel
  go_enter Try.func6, Try.ntmps6
  go_wp2_with fail
  refine (awake_any _).mono ?_
  rintro e w' ⟨rfl, bs119, n119, rfl⟩
  go_wp2_with fail
  refine (bin_eq r1.out _).mono ?_
  rintro e w' ⟨rfl, bs120, n120, rfl⟩
  go_wp2_with fail
  refine (bin_eq r2.out _).mono ?_
  rintro e w' ⟨rfl, bs121, n121, rfl⟩
  go_wp2_with fail
  refine (bin_eq r3.out _).mono ?_
  rintro e w' ⟨rfl, bs122, n122, rfl⟩
  go_wp2_with fail
  refine (cmp_eq (by decide) r4.out _).mono ?_
  rintro e w' ⟨rfl, rfl⟩
  go_wp2_with fail
  refine (bin_eq r5.out _).mono ?_
  rintro e w' ⟨rfl, bs123, n123, rfl⟩
  go_wp2
  all_goals
    go_ret
    exact ⟨rfl, (later_grown (by repeat (first | exact Later.refl _ | refine Later.alloc ?_ | refine Later.far ?_ | refine Later.drewN ?_ | refine Later.drew ?_)))⟩
set_option maxRecDepth 100000 in
set_option maxHeartbeats 2000000 in
theorem none_true_true (a x : Int) (hx : bits .and .i64 a 4294967295 = x) (r1 : Hid (binI 146 2147483648 2147483648 = (2147483648, 0))) (r2 : Hid (binI 148 2147483648 2147483648 = (0, 0))) (r3 : Hid (binI 149 2147483648 2147483648 = (2143289344, 0))) (r4 : Hid (binI 91 x x = (0, 0))) (r5 : Hid (binI 146 x 2147483648 = (2143289344, 0))) (w : World) :
    Calls Try.prog 6 #[.int .i64 a, .bool true, .bool true] w fun e w' => e = .returned (.bool true) ∧ Grown w w' := by
  have e1 : bits .and .i64 2147483648 2147483648 = 2147483648 := by decide +kernel
  have e2 : bits .xor .i64 2147483648 2147483648 = 0 := by decide +kernel
  go_enter Try.func6, Try.ntmps6
  go_wp2_with fail
  refine (awake_any _).mono ?_
  rintro e w' ⟨rfl, bs124, n124, rfl⟩
  go_wp2_with fail
  refine (bin_eq r1.out _).mono ?_
  rintro e w' ⟨rfl, bs125, n125, rfl⟩
  go_wp2_with fail
  refine (bin_eq r2.out _).mono ?_
  rintro e w' ⟨rfl, bs126, n126, rfl⟩
  go_wp2_with fail
  refine (bin_eq r3.out _).mono ?_
  rintro e w' ⟨rfl, bs127, n127, rfl⟩
  go_wp2_with fail
  refine (cmp_eq (by decide) r4.out _).mono ?_
  rintro e w' ⟨rfl, rfl⟩
  go_wp2_with fail
  refine (bin_eq r5.out _).mono ?_
  rintro e w' ⟨rfl, bs128, n128, rfl⟩
  go_wp2
  all_goals
    go_ret
    exact ⟨rfl, (later_grown (by repeat (first | exact Later.refl _ | refine Later.alloc ?_ | refine Later.far ?_ | refine Later.drewN ?_ | refine Later.drew ?_)))⟩
set_option maxRecDepth 100000 in
set_option maxHeartbeats 2000000 in
theorem same_true_true (a x : Int) (hx : bits .and .i64 a 4294967295 = x) (r1 : Hid (binI 146 2147483648 2147483648 = (2147483648, 0))) (r2 : Hid (binI 148 2147483648 2147483648 = (0, 0))) (r3 : Hid (binI 149 2147483648 2147483648 = (2143289344, 0))) (r4 : Hid (binI 91 x x = (1, 0))) (r5 : Hid (binI 146 x 2147483648 = (x, 0))) (z : Int) (t1 : bits .andNot .i64 x 2147483648 = z) (w : World) :
    Calls Try.prog 6 #[.int .i64 a, .bool true, .bool true] w fun e w' => e = .returned (.bool true) ∧ Grown w w' := by
  have e1 : bits .and .i64 2147483648 2147483648 = 2147483648 := by decide +kernel
  have e2 : bits .xor .i64 2147483648 2147483648 = 0 := by decide +kernel
  go_enter Try.func6, Try.ntmps6
  go_wp2_with fail
  refine (awake_any _).mono ?_
  rintro e w' ⟨rfl, bs129, n129, rfl⟩
  go_wp2_with fail
  refine (bin_eq r1.out _).mono ?_
  rintro e w' ⟨rfl, bs130, n130, rfl⟩
  go_wp2_with fail
  refine (bin_eq r2.out _).mono ?_
  rintro e w' ⟨rfl, bs131, n131, rfl⟩
  go_wp2_with fail
  refine (bin_eq r3.out _).mono ?_
  rintro e w' ⟨rfl, bs132, n132, rfl⟩
  go_wp2_with fail
  refine (cmp_eq (by decide) r4.out _).mono ?_
  rintro e w' ⟨rfl, rfl⟩
  go_wp2_with fail
  refine (bin_eq r5.out _).mono ?_
  rintro e w' ⟨rfl, bs133, n133, rfl⟩
  go_wp2
  all_goals
    go_ret
    exact ⟨rfl, (later_grown (by repeat (first | exact Later.refl _ | refine Later.alloc ?_ | refine Later.far ?_ | refine Later.drewN ?_ | refine Later.drew ?_)))⟩
set_option maxRecDepth 100000 in
set_option maxHeartbeats 2000000 in
theorem zero_true_true (a x t : Int) (hx : bits .and .i64 a 4294967295 = x) (r1 : Hid (binI 146 2147483648 2147483648 = (2147483648, 0))) (r2 : Hid (binI 148 2147483648 2147483648 = (0, 0))) (r3 : Hid (binI 149 2147483648 2147483648 = (2143289344, 0))) (r4 : Hid (binI 91 x x = (1, 0))) (r5 : Hid (binI 146 x 2147483648 = (t, 0))) (t1 : bits .andNot .i64 x 2147483648 = 0) (t2 : bits .and .i64 x 2147483648 = t) (w : World) :
    Calls Try.prog 6 #[.int .i64 a, .bool true, .bool true] w fun e w' => e = .returned (.bool true) ∧ Grown w w' := by
  have e1 : bits .and .i64 2147483648 2147483648 = 2147483648 := by decide +kernel
  have e2 : bits .xor .i64 2147483648 2147483648 = 0 := by decide +kernel
  go_enter Try.func6, Try.ntmps6
  go_wp2_with fail
  refine (awake_any _).mono ?_
  rintro e w' ⟨rfl, bs134, n134, rfl⟩
  go_wp2_with fail
  refine (bin_eq r1.out _).mono ?_
  rintro e w' ⟨rfl, bs135, n135, rfl⟩
  go_wp2_with fail
  refine (bin_eq r2.out _).mono ?_
  rintro e w' ⟨rfl, bs136, n136, rfl⟩
  go_wp2_with fail
  refine (bin_eq r3.out _).mono ?_
  rintro e w' ⟨rfl, bs137, n137, rfl⟩
  go_wp2_with fail
  refine (cmp_eq (by decide) r4.out _).mono ?_
  rintro e w' ⟨rfl, rfl⟩
  go_wp2_with fail
  refine (bin_eq r5.out _).mono ?_
  rintro e w' ⟨rfl, bs138, n138, rfl⟩
  go_wp2
  all_goals
    go_ret
    exact ⟨rfl, (later_grown (by repeat (first | exact Later.refl _ | refine Later.alloc ?_ | refine Later.far ?_ | refine Later.drewN ?_ | refine Later.drew ?_)))⟩
theorem sumz (X : Nat) (hXl : X < 4294967296) (t : Bool) (P : Nat) (hP : sf.word t 0 = P) (hPl : P < 4294967296) (hn : ¬ isN sf X) :
    (binI 146 X P = ((X : Int), 0) ∨ (X % 2147483648 = 0 ∧ binI 146 X P = (((X &&& P : Nat) : Int), 0))) := by
  have h := FM.add_zero sf hsf t X (sw2 X hXl) hn
  rw [hP] at h
  rw [bI 146 X P hXl hPl (by decide), f_add, fix_some h]
  by_cases h0 : FM.rg sf X = 0
  · right
    have h1 : X % 2147483648 = 0 := by rw [← FM.rg32]; exact h0
    refine ⟨h1, ?_⟩
    rw [if_pos h0]
    obtain ⟨s, r, e, g1, g2, g3⟩ := FM.parts32 X hXl
    have hr : r = 0 := by rw [← g3]; exact h0
    rw [hr] at e
    have e2 : sf.word (FM.sg sf X && t) 0 = X &&& P := by
      rw [← hP, show FM.sg sf X = s from g2, e]
      cases s <;> cases t <;> decide +kernel
    rw [e2]
  · left; rw [if_neg h0]
theorem walk (a0 : Int) (a1 : Bool) (a2 : Bool) (w0 : (Lit.int .i64 a0).wf = true) (w : World) :
    Calls Try.prog 6 #[.int .i64 a0, .bool a1, .bool a2] w fun e w' => e = .returned (.bool true) ∧ Grown w w' := by
  obtain ⟨X, hX, hXl⟩ := low_word a0
  have hA := FM.andNot_top X hXl
  cases a1 <;> cases a2
  · have c1 : Hid (binI 146 0 0 = (0, 0)) := by show _ = _; decide +kernel
    have c2 : Hid (binI 148 0 0 = (0, 0)) := by show _ = _; decide +kernel
    have c3 : Hid (binI 149 0 0 = (2143289344, 0)) := by show _ = _; decide +kernel
    by_cases hn : isN sf X
    · refine none_false_false a0 X hX c1 c2 c3 (b_nan X hXl hn).1 ?_ w
      have h := bI 146 X 0 hXl (by decide) (by decide)
      rw [f_add, fix_none (FM.add_nan sf hsf X _ hn)] at h
      exact h
    · rcases sumz X hXl false 0 (by decide +kernel) (by decide) hn with h | ⟨h0, h⟩
      · exact same_false_false a0 X hX c1 c2 c3 (b_num X hXl hn).1 h _ hA w
      · refine zero_false_false a0 X _ hX c1 c2 c3 (b_num X hXl hn).1 h (by rw [hA, h0]; rfl) (FM.and_i X 0 hXl (by decide)) w
  · have c1 : Hid (binI 146 0 2147483648 = (0, 0)) := by show _ = _; decide +kernel
    have c2 : Hid (binI 148 0 2147483648 = (2147483648, 0)) := by show _ = _; decide +kernel
    have c3 : Hid (binI 149 0 2147483648 = (2143289344, 0)) := by show _ = _; decide +kernel
    by_cases hn : isN sf X
    · refine none_false_true a0 X hX c1 c2 c3 (b_nan X hXl hn).1 ?_ w
      have h := bI 146 X 0 hXl (by decide) (by decide)
      rw [f_add, fix_none (FM.add_nan sf hsf X _ hn)] at h
      exact h
    · rcases sumz X hXl false 0 (by decide +kernel) (by decide) hn with h | ⟨h0, h⟩
      · exact same_false_true a0 X hX c1 c2 c3 (b_num X hXl hn).1 h _ hA w
      · refine zero_false_true a0 X _ hX c1 c2 c3 (b_num X hXl hn).1 h (by rw [hA, h0]; rfl) (FM.and_i X 0 hXl (by decide)) w
  · have c1 : Hid (binI 146 2147483648 0 = (0, 0)) := by show _ = _; decide +kernel
    have c2 : Hid (binI 148 2147483648 0 = (2147483648, 0)) := by show _ = _; decide +kernel
    have c3 : Hid (binI 149 2147483648 0 = (2143289344, 0)) := by show _ = _; decide +kernel
    by_cases hn : isN sf X
    · refine none_true_false a0 X hX c1 c2 c3 (b_nan X hXl hn).1 ?_ w
      have h := bI 146 X 2147483648 hXl (by decide) (by decide)
      rw [f_add, fix_none (FM.add_nan sf hsf X _ hn)] at h
      exact h
    · rcases sumz X hXl true 2147483648 (by decide +kernel) (by decide) hn with h | ⟨h0, h⟩
      · exact same_true_false a0 X hX c1 c2 c3 (b_num X hXl hn).1 h _ hA w
      · refine zero_true_false a0 X _ hX c1 c2 c3 (b_num X hXl hn).1 h (by rw [hA, h0]; rfl) (FM.and_i X 2147483648 hXl (by decide)) w
  · have c1 : Hid (binI 146 2147483648 2147483648 = (2147483648, 0)) := by show _ = _; decide +kernel
    have c2 : Hid (binI 148 2147483648 2147483648 = (0, 0)) := by show _ = _; decide +kernel
    have c3 : Hid (binI 149 2147483648 2147483648 = (2143289344, 0)) := by show _ = _; decide +kernel
    by_cases hn : isN sf X
    · refine none_true_true a0 X hX c1 c2 c3 (b_nan X hXl hn).1 ?_ w
      have h := bI 146 X 2147483648 hXl (by decide) (by decide)
      rw [f_add, fix_none (FM.add_nan sf hsf X _ hn)] at h
      exact h
    · rcases sumz X hXl true 2147483648 (by decide +kernel) (by decide) hn with h | ⟨h0, h⟩
      · exact same_true_true a0 X hX c1 c2 c3 (b_num X hXl hn).1 h _ hA w
      · refine zero_true_true a0 X _ hX c1 c2 c3 (b_num X hXl hn).1 h (by rw [hA, h0]; rfl) (FM.and_i X 2147483648 hXl (by decide)) w

/-! ### THE ROW's STEP: WRITTEN OUT: LEAVE IT -/
set_option maxRecDepth 100000 in
theorem lifted (os : Os) (started : os.Started) (H : Type) (enc : TypeId × Value → H) :
    ReturnsInHanded {} Try.checked os 6 .any (Rows.f32ZerosSpec.pre6 enc Try.prog Try.f6 Rows.f32ZerosRow.domain false) (Rows.f32ZerosSpec.post enc Try.prog Try.f6 false true false false) := by
  refine returnsInHanded_of_change (C := Try.checked) own started (by kernel_rfl) Try.func6
    (ChangeSpec.witness6 (enc := enc) (C := Try.checked) false ⟨#[], #[.int .i64 0, .bool false, .bool false], []⟩ 8 (by kernel_rfl) (by kernel_rfl) (by kernel_rfl) (by kernel_rfl)) ?_
  intro W base args ds gs before hval0 hW hcnd _
  have hval : ∀ (j : Nat) t v, Try.f6.params[j]? = some t → args[j]? = some v → Value.okWide Try.prog W .any base t v := hval0
  have hW' := hW
  obtain ⟨p, q, hA0, hV, rfl, hfz, hnd⟩ := hW
  have hA : DataW.TrodAll enc Try.prog W 0 (fun _ => true) true Try.f6.params.toList args.toList ds p := hA0
  rw [Try.params6] at hA hval
  obtain ⟨v0, vs0, d0, ds0, p0, q0, hargs, rfl, rfl, h0, r0⟩ := trodAll_cons hA
  obtain ⟨v1, vs1, d1, ds1, p1, q1, rfl, rfl, rfl, h1, r1⟩ := trodAll_cons r0
  obtain ⟨v2, vs2, d2, ds2, p2, q2, rfl, rfl, rfl, h2, r2⟩ := trodAll_cons r1
  obtain ⟨rfl, rfl, rfl⟩ := trodAll_nil r2
  obtain rfl : args = #[v0, v1, v2] := by cases args; simp_all
  obtain ⟨rfl, rfl⟩ := trodVars_none hV
  obtain ⟨a0, rfl, rfl, rfl, w0⟩ := open_int Try.underlying3 (hval 0 3 v0 rfl rfl) h0
  obtain ⟨a1, rfl, rfl, rfl⟩ := open_bool Try.underlying4 (hval 1 4 v1 rfl rfl) h1
  obtain ⟨a2, rfl, rfl, rfl⟩ := open_bool Try.underlying4 (hval 2 4 v2 rfl rfl) h2
  clear hA0 hval0
  simp only [List.append_nil] at hW'
  refine (walk a0 a1 a2 w0 W).mono fun e W' ⟨he, hg⟩ => ?_
  subst he
  exact ⟨_, rfl, post_of_same (pa := []) (pv := []) hW' (fun _ _ _ => (trodAll_cons_mk (shut_bool Try.underlying4 _) trodAll_mk0)) (fun sp _ => (trodAll_cons_mk (shut_int Try.underlying3 w0) (trodAll_cons_mk (shut_bool Try.underlying4 _) (trodAll_cons_mk (shut_bool Try.underlying4 _) trodAll_mk0)))) (fun _ _ => rfl) rfl
    (hg.frame _) hg.2.1 (ok_one (by kernel_rfl) rfl (okWide_bool_mk Try.underlying4 _))⟩

theorem over : Rows.f32ZerosRow.holds Try.pinned (OpenSpec.ofChange Rows.f32ZerosSpec) :=
  OpenClaim.holds_of_wide 6 Try.f6 rfl rfl rfl rfl rfl rfl rfl ⟨rfl, rfl, rfl, rfl, rfl⟩ rfl rfl rfl rfl rfl (by kernel_rfl) Try.func6 (by kernel_rfl)
    (of_decide_eq_true (by kernel_rfl)) (by unfold Func.isWrapper; first | (rw [if_pos (by decide +kernel)]; kernel_rfl) | (rw [if_neg (by decide +kernel)]; exact ⟨rfl, rfl⟩))
    (fun os started H enc _ => lifted os started H enc)

theorem proved : Rows.F32ZerosSaid := over
end Go.Proofs.Ytpbccpdiiijinab.f32Zeros
namespace Go.Proofs.Ytpbccpdiiijinab
theorem f32Zeros_holds : Rows.F32ZerosSaid := f32Zeros.proved
#print axioms f32Zeros_holds
end Go.Proofs.Ytpbccpdiiijinab

