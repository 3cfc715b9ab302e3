/- Contracts of the document's floats (pelorusref4), over this seat's translation: sums, the walks. -/
import Derived.Test.YtdfgcagbpndabaaGreatDoorZDC
import Derived.Test.YtdfgcagbpndabaaGreatDoorZA
import Derived.WalkLawsBesides
import Derived.RegionCalls
import Derived.Deep.RegionWith
set_option linter.unusedVariables false
set_option maxHeartbeats 4000000
set_option maxRecDepth 100000
namespace Go.Proofs.YtdfgcagbpndabaaGreatDoor.D
open Go.RowKit
open Go.FM (W64 two bl lost isN qn)
theorem add_no_bz_same (S : Bool) (m n i j by1 small hi lo ee x1 x2 x3 x4 x5 : Int) (z : Nat) (hm : (m == 0) = false) (hm2 : ¬ m = 0) (hb : IntKind.i64.wrap (i - j) = by1) (hee : IntKind.i64.wrap i = ee) (hU : RL Tryz.prog 155 #[.int .u64 m, .int .i64 0] (.tuple #[.int .u64 hi, .int .u64 lo])) (hA : Hid (∀ w : World, Calls Tryz.prog 171 #[.int .u64 lo, .int .u64 0, .int .u64 0] w fun e w' => e = .returned (.tuple #[.int .u64 x1, .int .u64 x2]) ∧ w' = w)) (hc : IntKind.u64.wrap (hi + x2) = x3) (hr : RL Tryz.prog 122 #[fm, .bool S, .int .u64 x3, .int .u64 x1, .int .i64 ee] (.int .u64 (z : Nat))) (w : World) :
    RW Tryz.prog 157 #[fm, fv S false false m i, fv S false false 0 j] w (.int .u64 (z : Nat)) := by
  go_enter Tryz.func157, Tryz.ntmps157
  go_wp2_with fail
  refine (hU.out _).mono ?_
  rintro e w' ⟨rfl, bs1, n1, rfl⟩
  go_wp2_with fail
  refine (hA.out _).mono ?_
  rintro e w' ⟨rfl, rfl⟩
  go_wp2_with fail
  refine (hr.out _).mono ?_
  rintro e w' ⟨rfl, bs3, n3, rfl⟩
  go_wp2
  go_ret
  exact ⟨rfl, (by repeat first | exact Lz _ | apply La | apply Lv | apply Ln | apply Ld)⟩
theorem add_no_bz_plain (S : Bool) (m n i j by1 small hi lo ee x1 x2 x3 x4 x5 : Int) (z : Nat) (hm : (m == 0) = false) (hm2 : ¬ m = 0) (hb : IntKind.i64.wrap (i - j) = by1) (hee : IntKind.i64.wrap i = ee) (hU : RL Tryz.prog 155 #[.int .u64 m, .int .i64 0] (.tuple #[.int .u64 hi, .int .u64 lo])) (hA : Hid (∀ w : World, Calls Tryz.prog 172 #[.int .u64 lo, .int .u64 0, .int .u64 0] w fun e w' => e = .returned (.tuple #[.int .u64 x1, .int .u64 x2]) ∧ w' = w)) (hB : Hid (∀ w : World, Calls Tryz.prog 172 #[.int .u64 hi, .int .u64 0, .int .u64 x2] w fun e w' => e = .returned (.tuple #[.int .u64 x3, .int .u64 0]) ∧ w' = w)) (hc : bits .or .u64 x3 x1 = x4) (hd : (x4 == 0) = false) (hd2 : ¬ x4 = 0) (hr : RL Tryz.prog 122 #[fm, .bool S, .int .u64 x3, .int .u64 x1, .int .i64 ee] (.int .u64 (z : Nat))) (w : World) :
    RW Tryz.prog 157 #[fm, fv S false false m i, fv (!S) false false 0 j] w (.int .u64 (z : Nat)) := by
  go_enter Tryz.func157, Tryz.ntmps157
  go_wp2_with fail
  refine (hU.out _).mono ?_
  rintro e w' ⟨rfl, bs4, n4, rfl⟩
  go_wp2_with fail
  refine (hA.out _).mono ?_
  rintro e w' ⟨rfl, rfl⟩
  go_wp2_with fail
  refine (hB.out _).mono ?_
  rintro e w' ⟨rfl, rfl⟩
  go_wp2_with fail
  refine (hr.out _).mono ?_
  rintro e w' ⟨rfl, bs7, n7, rfl⟩
  go_wp2
  go_ret
  exact ⟨rfl, (by repeat first | exact Lz _ | apply La | apply Lv | apply Ln | apply Ld)⟩
theorem add_no_near_same (S : Bool) (m n i j by1 small hi lo ee x1 x2 x3 x4 x5 : Int) (z : Nat) (hm : (m == 0) = false) (hm2 : ¬ m = 0) (hn : (n == 0) = false) (hn2 : ¬ n = 0) (hij : ¬ i < j) (hb : IntKind.i64.wrap (i - j) = by1) (h70 : ¬ 70 < by1) (hee : IntKind.i64.wrap (i - by1) = ee) (hU : RL Tryz.prog 155 #[.int .u64 m, .int .i64 by1] (.tuple #[.int .u64 hi, .int .u64 lo])) (hA : Hid (∀ w : World, Calls Tryz.prog 171 #[.int .u64 lo, .int .u64 n, .int .u64 0] w fun e w' => e = .returned (.tuple #[.int .u64 x1, .int .u64 x2]) ∧ w' = w)) (hc : IntKind.u64.wrap (hi + x2) = x3) (hr : RL Tryz.prog 122 #[fm, .bool S, .int .u64 x3, .int .u64 x1, .int .i64 ee] (.int .u64 (z : Nat))) (w : World) :
    RW Tryz.prog 157 #[fm, fv S false false m i, fv S false false n j] w (.int .u64 (z : Nat)) := by
  go_enter Tryz.func157, Tryz.ntmps157
  go_wp2_with fail
  refine (hU.out _).mono ?_
  rintro e w' ⟨rfl, bs8, n8, rfl⟩
  go_wp2_with fail
  refine (hA.out _).mono ?_
  rintro e w' ⟨rfl, rfl⟩
  go_wp2_with fail
  refine (hr.out _).mono ?_
  rintro e w' ⟨rfl, bs10, n10, rfl⟩
  go_wp2
  go_ret
  exact ⟨rfl, (by repeat first | exact Lz _ | apply La | apply Lv | apply Ln | apply Ld)⟩
theorem add_no_near_under (S : Bool) (m n i j by1 small hi lo ee x1 x2 x3 x4 x5 : Int) (z : Nat) (hm : (m == 0) = false) (hm2 : ¬ m = 0) (hn : (n == 0) = false) (hn2 : ¬ n = 0) (hij : ¬ i < j) (hb : IntKind.i64.wrap (i - j) = by1) (h70 : ¬ 70 < by1) (hee : IntKind.i64.wrap (i - by1) = ee) (hU : RL Tryz.prog 155 #[.int .u64 m, .int .i64 by1] (.tuple #[.int .u64 hi, .int .u64 lo])) (hA : Hid (∀ w : World, Calls Tryz.prog 172 #[.int .u64 lo, .int .u64 n, .int .u64 0] w fun e w' => e = .returned (.tuple #[.int .u64 x1, .int .u64 x2]) ∧ w' = w)) (hB : Hid (∀ w : World, Calls Tryz.prog 172 #[.int .u64 hi, .int .u64 0, .int .u64 x2] w fun e w' => e = .returned (.tuple #[.int .u64 x3, .int .u64 1]) ∧ w' = w)) (hc : IntKind.u64.wrap (n - lo) = x4) (hr : RL Tryz.prog 122 #[fm, .bool (!S), .int .u64 0, .int .u64 x4, .int .i64 ee] (.int .u64 (z : Nat))) (w : World) :
    RW Tryz.prog 157 #[fm, fv S false false m i, fv (!S) false false n j] w (.int .u64 (z : Nat)) := by
  go_enter Tryz.func157, Tryz.ntmps157
  go_wp2_with fail
  refine (hU.out _).mono ?_
  rintro e w' ⟨rfl, bs11, n11, rfl⟩
  go_wp2_with fail
  refine (hA.out _).mono ?_
  rintro e w' ⟨rfl, rfl⟩
  go_wp2_with fail
  refine (hB.out _).mono ?_
  rintro e w' ⟨rfl, rfl⟩
  go_wp2_with fail
  refine (hr.out _).mono ?_
  rintro e w' ⟨rfl, bs14, n14, rfl⟩
  go_wp2
  go_ret
  exact ⟨rfl, (by repeat first | exact Lz _ | apply La | apply Lv | apply Ln | apply Ld)⟩
theorem add_none (s t : Bool) (i j : Int) (w : World) :
    RW Tryz.prog 157 #[fm, fv s false false 0 i, fv t false false 0 j] w (.int .u64 (sgn (s && t))) := by
  cases s <;> cases t
  all_goals
    go_enter Tryz.func157, Tryz.ntmps157
    go_wp2_with fail
    refine (signed_any _ _).mono ?_
    rintro e w' ⟨rfl, bs15, n15, rfl⟩
    go_wp2
    go_ret
    exact ⟨rfl, (by repeat first | exact Lz _ | apply La | apply Lv | apply Ln | apply Ld)⟩
end Go.Proofs.YtdfgcagbpndabaaGreatDoor.D
namespace Go.Proofs.YtdfgcagbpndabaaGreatDoor.D
open Go.RowKit
open Go.FM (W64 two bl lost isN qn)
theorem add_no_near_zero (S : Bool) (m n i j by1 small hi lo ee x1 x2 x3 x4 x5 : Int) (z : Nat) (hm : (m == 0) = false) (hm2 : ¬ m = 0) (hn : (n == 0) = false) (hn2 : ¬ n = 0) (hij : ¬ i < j) (hb : IntKind.i64.wrap (i - j) = by1) (h70 : ¬ 70 < by1) (hee : IntKind.i64.wrap (i - by1) = ee) (hU : RL Tryz.prog 155 #[.int .u64 m, .int .i64 by1] (.tuple #[.int .u64 hi, .int .u64 lo])) (hA : Hid (∀ w : World, Calls Tryz.prog 172 #[.int .u64 lo, .int .u64 n, .int .u64 0] w fun e w' => e = .returned (.tuple #[.int .u64 x1, .int .u64 x2]) ∧ w' = w)) (hB : Hid (∀ w : World, Calls Tryz.prog 172 #[.int .u64 hi, .int .u64 0, .int .u64 x2] w fun e w' => e = .returned (.tuple #[.int .u64 x3, .int .u64 0]) ∧ w' = w)) (hc : bits .or .u64 x3 x1 = 0) (w : World) :
    RW Tryz.prog 157 #[fm, fv S false false m i, fv (!S) false false n j] w (.int .u64 (sgn false)) := by
  go_enter Tryz.func157, Tryz.ntmps157
  go_wp2_with fail
  refine (hU.out _).mono ?_
  rintro e w' ⟨rfl, bs16, n16, rfl⟩
  go_wp2_with fail
  refine (hA.out _).mono ?_
  rintro e w' ⟨rfl, rfl⟩
  go_wp2_with fail
  refine (hB.out _).mono ?_
  rintro e w' ⟨rfl, rfl⟩
  go_wp2_with fail
  refine (signed_any false _).mono ?_
  rintro e w' ⟨rfl, bs19, n19, rfl⟩
  go_wp2
  go_ret
  exact ⟨rfl, (by repeat first | exact Lz _ | apply La | apply Lv | apply Ln | apply Ld)⟩
theorem add_no_near_plain (S : Bool) (m n i j by1 small hi lo ee x1 x2 x3 x4 x5 : Int) (z : Nat) (hm : (m == 0) = false) (hm2 : ¬ m = 0) (hn : (n == 0) = false) (hn2 : ¬ n = 0) (hij : ¬ i < j) (hb : IntKind.i64.wrap (i - j) = by1) (h70 : ¬ 70 < by1) (hee : IntKind.i64.wrap (i - by1) = ee) (hU : RL Tryz.prog 155 #[.int .u64 m, .int .i64 by1] (.tuple #[.int .u64 hi, .int .u64 lo])) (hA : Hid (∀ w : World, Calls Tryz.prog 172 #[.int .u64 lo, .int .u64 n, .int .u64 0] w fun e w' => e = .returned (.tuple #[.int .u64 x1, .int .u64 x2]) ∧ w' = w)) (hB : Hid (∀ w : World, Calls Tryz.prog 172 #[.int .u64 hi, .int .u64 0, .int .u64 x2] w fun e w' => e = .returned (.tuple #[.int .u64 x3, .int .u64 0]) ∧ w' = w)) (hc : bits .or .u64 x3 x1 = x4) (hd : (x4 == 0) = false) (hd2 : ¬ x4 = 0) (hr : RL Tryz.prog 122 #[fm, .bool S, .int .u64 x3, .int .u64 x1, .int .i64 ee] (.int .u64 (z : Nat))) (w : World) :
    RW Tryz.prog 157 #[fm, fv S false false m i, fv (!S) false false n j] w (.int .u64 (z : Nat)) := by
  go_enter Tryz.func157, Tryz.ntmps157
  go_wp2_with fail
  refine (hU.out _).mono ?_
  rintro e w' ⟨rfl, bs20, n20, rfl⟩
  go_wp2_with fail
  refine (hA.out _).mono ?_
  rintro e w' ⟨rfl, rfl⟩
  go_wp2_with fail
  refine (hB.out _).mono ?_
  rintro e w' ⟨rfl, rfl⟩
  go_wp2_with fail
  refine (hr.out _).mono ?_
  rintro e w' ⟨rfl, bs23, n23, rfl⟩
  go_wp2
  go_ret
  exact ⟨rfl, (by repeat first | exact Lz _ | apply La | apply Lv | apply Ln | apply Ld)⟩
theorem add_no_far_same (S : Bool) (m n i j by1 small hi lo ee x1 x2 x3 x4 x5 : Int) (z : Nat) (hm : (m == 0) = false) (hm2 : ¬ m = 0) (hn : (n == 0) = false) (hn2 : ¬ n = 0) (hij : ¬ i < j) (hb : IntKind.i64.wrap (i - j) = by1) (h70 : 70 < by1) (hee : IntKind.i64.wrap (i - 70) = ee) (hU : RL Tryz.prog 155 #[.int .u64 m, .int .i64 70] (.tuple #[.int .u64 hi, .int .u64 lo])) (hA : Hid (∀ w : World, Calls Tryz.prog 171 #[.int .u64 lo, .int .u64 1, .int .u64 0] w fun e w' => e = .returned (.tuple #[.int .u64 x1, .int .u64 x2]) ∧ w' = w)) (hc : IntKind.u64.wrap (hi + x2) = x3) (hr : RL Tryz.prog 122 #[fm, .bool S, .int .u64 x3, .int .u64 x1, .int .i64 ee] (.int .u64 (z : Nat))) (w : World) :
    RW Tryz.prog 157 #[fm, fv S false false m i, fv S false false n j] w (.int .u64 (z : Nat)) := by
  go_enter Tryz.func157, Tryz.ntmps157
  go_wp2_with fail
  refine (hU.out _).mono ?_
  rintro e w' ⟨rfl, bs24, n24, rfl⟩
  go_wp2_with fail
  refine (hA.out _).mono ?_
  rintro e w' ⟨rfl, rfl⟩
  go_wp2_with fail
  refine (hr.out _).mono ?_
  rintro e w' ⟨rfl, bs26, n26, rfl⟩
  go_wp2
  go_ret
  exact ⟨rfl, (by repeat first | exact Lz _ | apply La | apply Lv | apply Ln | apply Ld)⟩
theorem add_no_far_plain (S : Bool) (m n i j by1 small hi lo ee x1 x2 x3 x4 x5 : Int) (z : Nat) (hm : (m == 0) = false) (hm2 : ¬ m = 0) (hn : (n == 0) = false) (hn2 : ¬ n = 0) (hij : ¬ i < j) (hb : IntKind.i64.wrap (i - j) = by1) (h70 : 70 < by1) (hee : IntKind.i64.wrap (i - 70) = ee) (hU : RL Tryz.prog 155 #[.int .u64 m, .int .i64 70] (.tuple #[.int .u64 hi, .int .u64 lo])) (hA : Hid (∀ w : World, Calls Tryz.prog 172 #[.int .u64 lo, .int .u64 1, .int .u64 0] w fun e w' => e = .returned (.tuple #[.int .u64 x1, .int .u64 x2]) ∧ w' = w)) (hB : Hid (∀ w : World, Calls Tryz.prog 172 #[.int .u64 hi, .int .u64 0, .int .u64 x2] w fun e w' => e = .returned (.tuple #[.int .u64 x3, .int .u64 0]) ∧ w' = w)) (hc : bits .or .u64 x3 x1 = x4) (hd : (x4 == 0) = false) (hd2 : ¬ x4 = 0) (hr : RL Tryz.prog 122 #[fm, .bool S, .int .u64 x3, .int .u64 x1, .int .i64 ee] (.int .u64 (z : Nat))) (w : World) :
    RW Tryz.prog 157 #[fm, fv S false false m i, fv (!S) false false n j] w (.int .u64 (z : Nat)) := by
  go_enter Tryz.func157, Tryz.ntmps157
  go_wp2_with fail
  refine (hU.out _).mono ?_
  rintro e w' ⟨rfl, bs27, n27, rfl⟩
  go_wp2_with fail
  refine (hA.out _).mono ?_
  rintro e w' ⟨rfl, rfl⟩
  go_wp2_with fail
  refine (hB.out _).mono ?_
  rintro e w' ⟨rfl, rfl⟩
  go_wp2_with fail
  refine (hr.out _).mono ?_
  rintro e w' ⟨rfl, bs30, n30, rfl⟩
  go_wp2
  go_ret
  exact ⟨rfl, (by repeat first | exact Lz _ | apply La | apply Lv | apply Ln | apply Ld)⟩
end Go.Proofs.YtdfgcagbpndabaaGreatDoor.D
namespace Go.Proofs.YtdfgcagbpndabaaGreatDoor.D
open Go.RowKit
open Go.FM (W64 two bl lost isN qn)
theorem add_yes_bz_same (S : Bool) (m n i j by1 small hi lo ee x1 x2 x3 x4 x5 : Int) (z : Nat) (hm : (m == 0) = false) (hm2 : ¬ m = 0) (hb : IntKind.i64.wrap (i - j) = by1) (hee : IntKind.i64.wrap i = ee) (hU : RL Tryz.prog 155 #[.int .u64 m, .int .i64 0] (.tuple #[.int .u64 hi, .int .u64 lo])) (hA : Hid (∀ w : World, Calls Tryz.prog 171 #[.int .u64 lo, .int .u64 0, .int .u64 0] w fun e w' => e = .returned (.tuple #[.int .u64 x1, .int .u64 x2]) ∧ w' = w)) (hc : IntKind.u64.wrap (hi + x2) = x3) (hr : RL Tryz.prog 122 #[fm, .bool S, .int .u64 x3, .int .u64 x1, .int .i64 ee] (.int .u64 (z : Nat))) (w : World) :
    RW Tryz.prog 157 #[fm, fv S false false 0 j, fv S false false m i] w (.int .u64 (z : Nat)) := by
  go_enter Tryz.func157, Tryz.ntmps157
  go_wp2_with fail
  refine (hU.out _).mono ?_
  rintro e w' ⟨rfl, bs31, n31, rfl⟩
  go_wp2_with fail
  refine (hA.out _).mono ?_
  rintro e w' ⟨rfl, rfl⟩
  go_wp2_with fail
  refine (hr.out _).mono ?_
  rintro e w' ⟨rfl, bs33, n33, rfl⟩
  go_wp2
  go_ret
  exact ⟨rfl, (by repeat first | exact Lz _ | apply La | apply Lv | apply Ln | apply Ld)⟩
theorem add_yes_bz_plain (S : Bool) (m n i j by1 small hi lo ee x1 x2 x3 x4 x5 : Int) (z : Nat) (hm : (m == 0) = false) (hm2 : ¬ m = 0) (hb : IntKind.i64.wrap (i - j) = by1) (hee : IntKind.i64.wrap i = ee) (hU : RL Tryz.prog 155 #[.int .u64 m, .int .i64 0] (.tuple #[.int .u64 hi, .int .u64 lo])) (hA : Hid (∀ w : World, Calls Tryz.prog 172 #[.int .u64 lo, .int .u64 0, .int .u64 0] w fun e w' => e = .returned (.tuple #[.int .u64 x1, .int .u64 x2]) ∧ w' = w)) (hB : Hid (∀ w : World, Calls Tryz.prog 172 #[.int .u64 hi, .int .u64 0, .int .u64 x2] w fun e w' => e = .returned (.tuple #[.int .u64 x3, .int .u64 0]) ∧ w' = w)) (hc : bits .or .u64 x3 x1 = x4) (hd : (x4 == 0) = false) (hd2 : ¬ x4 = 0) (hr : RL Tryz.prog 122 #[fm, .bool S, .int .u64 x3, .int .u64 x1, .int .i64 ee] (.int .u64 (z : Nat))) (w : World) :
    RW Tryz.prog 157 #[fm, fv (!S) false false 0 j, fv S false false m i] w (.int .u64 (z : Nat)) := by
  go_enter Tryz.func157, Tryz.ntmps157
  go_wp2_with fail
  refine (hU.out _).mono ?_
  rintro e w' ⟨rfl, bs34, n34, rfl⟩
  go_wp2_with fail
  refine (hA.out _).mono ?_
  rintro e w' ⟨rfl, rfl⟩
  go_wp2_with fail
  refine (hB.out _).mono ?_
  rintro e w' ⟨rfl, rfl⟩
  go_wp2_with fail
  refine (hr.out _).mono ?_
  rintro e w' ⟨rfl, bs37, n37, rfl⟩
  go_wp2
  go_ret
  exact ⟨rfl, (by repeat first | exact Lz _ | apply La | apply Lv | apply Ln | apply Ld)⟩
theorem add_yes_near_same (S : Bool) (m n i j by1 small hi lo ee x1 x2 x3 x4 x5 : Int) (z : Nat) (hm : (m == 0) = false) (hm2 : ¬ m = 0) (hn : (n == 0) = false) (hn2 : ¬ n = 0) (hij : j < i) (hb : IntKind.i64.wrap (i - j) = by1) (h70 : ¬ 70 < by1) (hee : IntKind.i64.wrap (i - by1) = ee) (hU : RL Tryz.prog 155 #[.int .u64 m, .int .i64 by1] (.tuple #[.int .u64 hi, .int .u64 lo])) (hA : Hid (∀ w : World, Calls Tryz.prog 171 #[.int .u64 lo, .int .u64 n, .int .u64 0] w fun e w' => e = .returned (.tuple #[.int .u64 x1, .int .u64 x2]) ∧ w' = w)) (hc : IntKind.u64.wrap (hi + x2) = x3) (hr : RL Tryz.prog 122 #[fm, .bool S, .int .u64 x3, .int .u64 x1, .int .i64 ee] (.int .u64 (z : Nat))) (w : World) :
    RW Tryz.prog 157 #[fm, fv S false false n j, fv S false false m i] w (.int .u64 (z : Nat)) := by
  go_enter Tryz.func157, Tryz.ntmps157
  go_wp2_with fail
  refine (hU.out _).mono ?_
  rintro e w' ⟨rfl, bs38, n38, rfl⟩
  go_wp2_with fail
  refine (hA.out _).mono ?_
  rintro e w' ⟨rfl, rfl⟩
  go_wp2_with fail
  refine (hr.out _).mono ?_
  rintro e w' ⟨rfl, bs40, n40, rfl⟩
  go_wp2
  go_ret
  exact ⟨rfl, (by repeat first | exact Lz _ | apply La | apply Lv | apply Ln | apply Ld)⟩
theorem add_yes_near_under (S : Bool) (m n i j by1 small hi lo ee x1 x2 x3 x4 x5 : Int) (z : Nat) (hm : (m == 0) = false) (hm2 : ¬ m = 0) (hn : (n == 0) = false) (hn2 : ¬ n = 0) (hij : j < i) (hb : IntKind.i64.wrap (i - j) = by1) (h70 : ¬ 70 < by1) (hee : IntKind.i64.wrap (i - by1) = ee) (hU : RL Tryz.prog 155 #[.int .u64 m, .int .i64 by1] (.tuple #[.int .u64 hi, .int .u64 lo])) (hA : Hid (∀ w : World, Calls Tryz.prog 172 #[.int .u64 lo, .int .u64 n, .int .u64 0] w fun e w' => e = .returned (.tuple #[.int .u64 x1, .int .u64 x2]) ∧ w' = w)) (hB : Hid (∀ w : World, Calls Tryz.prog 172 #[.int .u64 hi, .int .u64 0, .int .u64 x2] w fun e w' => e = .returned (.tuple #[.int .u64 x3, .int .u64 1]) ∧ w' = w)) (hc : IntKind.u64.wrap (n - lo) = x4) (hr : RL Tryz.prog 122 #[fm, .bool (!S), .int .u64 0, .int .u64 x4, .int .i64 ee] (.int .u64 (z : Nat))) (w : World) :
    RW Tryz.prog 157 #[fm, fv (!S) false false n j, fv S false false m i] w (.int .u64 (z : Nat)) := by
  go_enter Tryz.func157, Tryz.ntmps157
  go_wp2_with fail
  refine (hU.out _).mono ?_
  rintro e w' ⟨rfl, bs41, n41, rfl⟩
  go_wp2_with fail
  refine (hA.out _).mono ?_
  rintro e w' ⟨rfl, rfl⟩
  go_wp2_with fail
  refine (hB.out _).mono ?_
  rintro e w' ⟨rfl, rfl⟩
  go_wp2_with fail
  refine (hr.out _).mono ?_
  rintro e w' ⟨rfl, bs44, n44, rfl⟩
  go_wp2
  go_ret
  exact ⟨rfl, (by repeat first | exact Lz _ | apply La | apply Lv | apply Ln | apply Ld)⟩
end Go.Proofs.YtdfgcagbpndabaaGreatDoor.D
namespace Go.Proofs.YtdfgcagbpndabaaGreatDoor.D
open Go.RowKit
open Go.FM (W64 two bl lost isN qn)
theorem add_yes_near_zero (S : Bool) (m n i j by1 small hi lo ee x1 x2 x3 x4 x5 : Int) (z : Nat) (hm : (m == 0) = false) (hm2 : ¬ m = 0) (hn : (n == 0) = false) (hn2 : ¬ n = 0) (hij : j < i) (hb : IntKind.i64.wrap (i - j) = by1) (h70 : ¬ 70 < by1) (hee : IntKind.i64.wrap (i - by1) = ee) (hU : RL Tryz.prog 155 #[.int .u64 m, .int .i64 by1] (.tuple #[.int .u64 hi, .int .u64 lo])) (hA : Hid (∀ w : World, Calls Tryz.prog 172 #[.int .u64 lo, .int .u64 n, .int .u64 0] w fun e w' => e = .returned (.tuple #[.int .u64 x1, .int .u64 x2]) ∧ w' = w)) (hB : Hid (∀ w : World, Calls Tryz.prog 172 #[.int .u64 hi, .int .u64 0, .int .u64 x2] w fun e w' => e = .returned (.tuple #[.int .u64 x3, .int .u64 0]) ∧ w' = w)) (hc : bits .or .u64 x3 x1 = 0) (w : World) :
    RW Tryz.prog 157 #[fm, fv (!S) false false n j, fv S false false m i] w (.int .u64 (sgn false)) := by
  go_enter Tryz.func157, Tryz.ntmps157
  go_wp2_with fail
  refine (hU.out _).mono ?_
  rintro e w' ⟨rfl, bs45, n45, rfl⟩
  go_wp2_with fail
  refine (hA.out _).mono ?_
  rintro e w' ⟨rfl, rfl⟩
  go_wp2_with fail
  refine (hB.out _).mono ?_
  rintro e w' ⟨rfl, rfl⟩
  go_wp2_with fail
  refine (signed_any false _).mono ?_
  rintro e w' ⟨rfl, bs48, n48, rfl⟩
  go_wp2
  go_ret
  exact ⟨rfl, (by repeat first | exact Lz _ | apply La | apply Lv | apply Ln | apply Ld)⟩
theorem add_yes_near_plain (S : Bool) (m n i j by1 small hi lo ee x1 x2 x3 x4 x5 : Int) (z : Nat) (hm : (m == 0) = false) (hm2 : ¬ m = 0) (hn : (n == 0) = false) (hn2 : ¬ n = 0) (hij : j < i) (hb : IntKind.i64.wrap (i - j) = by1) (h70 : ¬ 70 < by1) (hee : IntKind.i64.wrap (i - by1) = ee) (hU : RL Tryz.prog 155 #[.int .u64 m, .int .i64 by1] (.tuple #[.int .u64 hi, .int .u64 lo])) (hA : Hid (∀ w : World, Calls Tryz.prog 172 #[.int .u64 lo, .int .u64 n, .int .u64 0] w fun e w' => e = .returned (.tuple #[.int .u64 x1, .int .u64 x2]) ∧ w' = w)) (hB : Hid (∀ w : World, Calls Tryz.prog 172 #[.int .u64 hi, .int .u64 0, .int .u64 x2] w fun e w' => e = .returned (.tuple #[.int .u64 x3, .int .u64 0]) ∧ w' = w)) (hc : bits .or .u64 x3 x1 = x4) (hd : (x4 == 0) = false) (hd2 : ¬ x4 = 0) (hr : RL Tryz.prog 122 #[fm, .bool S, .int .u64 x3, .int .u64 x1, .int .i64 ee] (.int .u64 (z : Nat))) (w : World) :
    RW Tryz.prog 157 #[fm, fv (!S) false false n j, fv S false false m i] w (.int .u64 (z : Nat)) := by
  go_enter Tryz.func157, Tryz.ntmps157
  go_wp2_with fail
  refine (hU.out _).mono ?_
  rintro e w' ⟨rfl, bs49, n49, rfl⟩
  go_wp2_with fail
  refine (hA.out _).mono ?_
  rintro e w' ⟨rfl, rfl⟩
  go_wp2_with fail
  refine (hB.out _).mono ?_
  rintro e w' ⟨rfl, rfl⟩
  go_wp2_with fail
  refine (hr.out _).mono ?_
  rintro e w' ⟨rfl, bs52, n52, rfl⟩
  go_wp2
  go_ret
  exact ⟨rfl, (by repeat first | exact Lz _ | apply La | apply Lv | apply Ln | apply Ld)⟩
theorem add_yes_far_same (S : Bool) (m n i j by1 small hi lo ee x1 x2 x3 x4 x5 : Int) (z : Nat) (hm : (m == 0) = false) (hm2 : ¬ m = 0) (hn : (n == 0) = false) (hn2 : ¬ n = 0) (hij : j < i) (hb : IntKind.i64.wrap (i - j) = by1) (h70 : 70 < by1) (hee : IntKind.i64.wrap (i - 70) = ee) (hU : RL Tryz.prog 155 #[.int .u64 m, .int .i64 70] (.tuple #[.int .u64 hi, .int .u64 lo])) (hA : Hid (∀ w : World, Calls Tryz.prog 171 #[.int .u64 lo, .int .u64 1, .int .u64 0] w fun e w' => e = .returned (.tuple #[.int .u64 x1, .int .u64 x2]) ∧ w' = w)) (hc : IntKind.u64.wrap (hi + x2) = x3) (hr : RL Tryz.prog 122 #[fm, .bool S, .int .u64 x3, .int .u64 x1, .int .i64 ee] (.int .u64 (z : Nat))) (w : World) :
    RW Tryz.prog 157 #[fm, fv S false false n j, fv S false false m i] w (.int .u64 (z : Nat)) := by
  go_enter Tryz.func157, Tryz.ntmps157
  go_wp2_with fail
  refine (hU.out _).mono ?_
  rintro e w' ⟨rfl, bs53, n53, rfl⟩
  go_wp2_with fail
  refine (hA.out _).mono ?_
  rintro e w' ⟨rfl, rfl⟩
  go_wp2_with fail
  refine (hr.out _).mono ?_
  rintro e w' ⟨rfl, bs55, n55, rfl⟩
  go_wp2
  go_ret
  exact ⟨rfl, (by repeat first | exact Lz _ | apply La | apply Lv | apply Ln | apply Ld)⟩
theorem add_yes_far_plain (S : Bool) (m n i j by1 small hi lo ee x1 x2 x3 x4 x5 : Int) (z : Nat) (hm : (m == 0) = false) (hm2 : ¬ m = 0) (hn : (n == 0) = false) (hn2 : ¬ n = 0) (hij : j < i) (hb : IntKind.i64.wrap (i - j) = by1) (h70 : 70 < by1) (hee : IntKind.i64.wrap (i - 70) = ee) (hU : RL Tryz.prog 155 #[.int .u64 m, .int .i64 70] (.tuple #[.int .u64 hi, .int .u64 lo])) (hA : Hid (∀ w : World, Calls Tryz.prog 172 #[.int .u64 lo, .int .u64 1, .int .u64 0] w fun e w' => e = .returned (.tuple #[.int .u64 x1, .int .u64 x2]) ∧ w' = w)) (hB : Hid (∀ w : World, Calls Tryz.prog 172 #[.int .u64 hi, .int .u64 0, .int .u64 x2] w fun e w' => e = .returned (.tuple #[.int .u64 x3, .int .u64 0]) ∧ w' = w)) (hc : bits .or .u64 x3 x1 = x4) (hd : (x4 == 0) = false) (hd2 : ¬ x4 = 0) (hr : RL Tryz.prog 122 #[fm, .bool S, .int .u64 x3, .int .u64 x1, .int .i64 ee] (.int .u64 (z : Nat))) (w : World) :
    RW Tryz.prog 157 #[fm, fv (!S) false false n j, fv S false false m i] w (.int .u64 (z : Nat)) := by
  go_enter Tryz.func157, Tryz.ntmps157
  go_wp2_with fail
  refine (hU.out _).mono ?_
  rintro e w' ⟨rfl, bs56, n56, rfl⟩
  go_wp2_with fail
  refine (hA.out _).mono ?_
  rintro e w' ⟨rfl, rfl⟩
  go_wp2_with fail
  refine (hB.out _).mono ?_
  rintro e w' ⟨rfl, rfl⟩
  go_wp2_with fail
  refine (hr.out _).mono ?_
  rintro e w' ⟨rfl, bs59, n59, rfl⟩
  go_wp2
  go_ret
  exact ⟨rfl, (by repeat first | exact Lz _ | apply La | apply Lv | apply Ln | apply Ld)⟩
end Go.Proofs.YtdfgcagbpndabaaGreatDoor.D
namespace Go.Proofs.YtdfgcagbpndabaaGreatDoor.D
open Go.RowKit
open Go.FM (W64 two bl lost isN qn)
theorem product_fin0 (s t v : Bool) (m n hi lo z : Nat) (i j ee : Int) (hs : (!(s == t)) = v) (hij : IntKind.i64.wrap (i + j) = ee) (hm : Hid (∀ w : World, Calls Tryz.prog 156 #[.int .u64 (m : Nat), .int .u64 (n : Nat)] w fun e w' => e = .returned (.tuple #[.int .u64 (hi : Nat), .int .u64 (lo : Nat)]) ∧ w' = w)) (hr : RL Tryz.prog 122 #[fm, .bool v, .int .u64 (hi : Nat), .int .u64 (lo : Nat), .int .i64 ee] (.int .u64 (z : Nat))) (w : World) :
    RW Tryz.prog 132 #[fm, fv s false false (m : Nat) i, fv t false false (n : Nat) j] w (.int .u64 (z : Nat)) := by
  go_enter Tryz.func132, Tryz.ntmps132
  go_wp2_with fail
  refine (hm.out _).mono ?_
  rintro e w' ⟨rfl, rfl⟩
  go_wp2_with fail
  refine (hr.out _).mono ?_
  rintro e w' ⟨rfl, bs2, n2, rfl⟩
  go_wp2
  go_ret
  exact ⟨rfl, (by repeat first | exact Lz _ | apply La | apply Lv | apply Ln | apply Ld)⟩
theorem product_nan1 (s t p q r : Bool) (m n i j : Int) (w : World) :
    RW Tryz.prog 132 #[fm, fv s p true m i, fv t q r n j] w (.int .u64 9221120237041090560) := by
  go_enter Tryz.func132, Tryz.ntmps132
  go_wp2_with fail
  refine (nan_any _).mono ?_
  rintro e w' ⟨rfl, bs3, n3, rfl⟩
  go_wp2
  go_ret
  exact ⟨rfl, (by repeat first | exact Lz _ | apply La | apply Lv | apply Ln | apply Ld)⟩
theorem product_nan2 (s t p : Bool) (m n i j : Int) (w : World) :
    RW Tryz.prog 132 #[fm, fv s p false m i, fv t false true n j] w (.int .u64 9221120237041090560) := by
  go_enter Tryz.func132, Tryz.ntmps132
  go_wp2_with fail
  refine (nan_any _).mono ?_
  rintro e w' ⟨rfl, bs4, n4, rfl⟩
  go_wp2
  go_ret
  exact ⟨rfl, (by repeat first | exact Lz _ | apply La | apply Lv | apply Ln | apply Ld)⟩
theorem product_nan3 (s t : Bool) (m i j : Int) (w : World) :
    RW Tryz.prog 132 #[fm, fv s true false m i, fv t false false 0 j] w (.int .u64 9221120237041090560) := by
  go_enter Tryz.func132, Tryz.ntmps132
  go_wp2_with fail
  refine (nan_any _).mono ?_
  rintro e w' ⟨rfl, bs5, n5, rfl⟩
  go_wp2
  go_ret
  exact ⟨rfl, (by repeat first | exact Lz _ | apply La | apply Lv | apply Ln | apply Ld)⟩
theorem product_nan4 (s t : Bool) (n i j : Int) (w : World) :
    RW Tryz.prog 132 #[fm, fv s false false 0 i, fv t true false n j] w (.int .u64 9221120237041090560) := by
  go_enter Tryz.func132, Tryz.ntmps132
  go_wp2_with fail
  refine (nan_any _).mono ?_
  rintro e w' ⟨rfl, bs6, n6, rfl⟩
  go_wp2
  go_ret
  exact ⟨rfl, (by repeat first | exact Lz _ | apply La | apply Lv | apply Ln | apply Ld)⟩
theorem product_inf1 (s t : Bool) (m n i j : Int) (v : Bool) (hs : (!(s == t)) = v) (w : World) :
    RW Tryz.prog 132 #[fm, fv s true false m i, fv t true false n j] w (.int .u64 (sgn v + 9218868437227405312)) := by
  go_enter Tryz.func132, Tryz.ntmps132
  go_wp2_with fail
  refine (inf_any v _).mono ?_
  rintro e w' ⟨rfl, bs7, n7, rfl⟩
  go_wp2
  go_ret
  exact ⟨rfl, (by repeat first | exact Lz _ | apply La | apply Lv | apply Ln | apply Ld)⟩
theorem product_inf2 (s t : Bool) (m n i j : Int) (v : Bool) (hs : (!(s == t)) = v) (hn : (n == 0) = false) (w : World) :
    RW Tryz.prog 132 #[fm, fv s true false m i, fv t false false n j] w (.int .u64 (sgn v + 9218868437227405312)) := by
  go_enter Tryz.func132, Tryz.ntmps132
  go_wp2_with fail
  refine (inf_any v _).mono ?_
  rintro e w' ⟨rfl, bs8, n8, rfl⟩
  go_wp2
  go_ret
  exact ⟨rfl, (by repeat first | exact Lz _ | apply La | apply Lv | apply Ln | apply Ld)⟩
theorem product_inf3 (s t : Bool) (m n i j : Int) (v : Bool) (hs : (!(s == t)) = v) (hm : (m == 0) = false) (w : World) :
    RW Tryz.prog 132 #[fm, fv s false false m i, fv t true false n j] w (.int .u64 (sgn v + 9218868437227405312)) := by
  go_enter Tryz.func132, Tryz.ntmps132
  go_wp2_with fail
  refine (inf_any v _).mono ?_
  rintro e w' ⟨rfl, bs9, n9, rfl⟩
  go_wp2
  go_ret
  exact ⟨rfl, (by repeat first | exact Lz _ | apply La | apply Lv | apply Ln | apply Ld)⟩
end Go.Proofs.YtdfgcagbpndabaaGreatDoor.D
namespace Go.Proofs.YtdfgcagbpndabaaGreatDoor.D
open Go.RowKit
open Go.FM (W64 two bl lost isN qn)
theorem sum_nan1 (s t p q r : Bool) (m n i j : Int) (w : World) :
    RW Tryz.prog 131 #[fm, fv s p true m i, fv t q r n j] w (.int .u64 9221120237041090560) := by
  go_enter Tryz.func131, Tryz.ntmps131
  go_wp2_with fail
  refine (nan_any _).mono ?_
  rintro e w' ⟨rfl, bs10, n10, rfl⟩
  go_wp2
  go_ret
  exact ⟨rfl, (by repeat first | exact Lz _ | apply La | apply Lv | apply Ln | apply Ld)⟩
theorem sum_nan2 (s t p q : Bool) (m n i j : Int) (w : World) :
    RW Tryz.prog 131 #[fm, fv s p false m i, fv t q true n j] w (.int .u64 9221120237041090560) := by
  go_enter Tryz.func131, Tryz.ntmps131
  go_wp2_with fail
  refine (nan_any _).mono ?_
  rintro e w' ⟨rfl, bs11, n11, rfl⟩
  go_wp2
  go_ret
  exact ⟨rfl, (by repeat first | exact Lz _ | apply La | apply Lv | apply Ln | apply Ld)⟩
theorem sum_nan3 (s : Bool) (m n i j : Int) (w : World) :
    RW Tryz.prog 131 #[fm, fv s true false m i, fv (!s) true false n j] w (.int .u64 9221120237041090560) := by
  go_enter Tryz.func131, Tryz.ntmps131
  go_wp2_with fail
  refine (nan_any _).mono ?_
  rintro e w' ⟨rfl, bs12, n12, rfl⟩
  go_wp2
  go_ret
  exact ⟨rfl, (by repeat first | exact Lz _ | apply La | apply Lv | apply Ln | apply Ld)⟩
theorem sum_inf1 (s : Bool) (m n i j : Int) (w : World) :
    RW Tryz.prog 131 #[fm, fv s true false m i, fv s true false n j] w (.int .u64 (sgn s + 9218868437227405312)) := by
  go_enter Tryz.func131, Tryz.ntmps131
  go_wp2_with fail
  refine (inf_any s _).mono ?_
  rintro e w' ⟨rfl, bs13, n13, rfl⟩
  go_wp2
  go_ret
  exact ⟨rfl, (by repeat first | exact Lz _ | apply La | apply Lv | apply Ln | apply Ld)⟩
theorem sum_inf2 (s t : Bool) (m n i j : Int) (w : World) :
    RW Tryz.prog 131 #[fm, fv s true false m i, fv t false false n j] w (.int .u64 (sgn s + 9218868437227405312)) := by
  go_enter Tryz.func131, Tryz.ntmps131
  go_wp2_with fail
  refine (inf_any s _).mono ?_
  rintro e w' ⟨rfl, bs14, n14, rfl⟩
  go_wp2
  go_ret
  exact ⟨rfl, (by repeat first | exact Lz _ | apply La | apply Lv | apply Ln | apply Ld)⟩
theorem sum_inf3 (s t : Bool) (m n i j : Int) (w : World) :
    RW Tryz.prog 131 #[fm, fv t false false m i, fv s true false n j] w (.int .u64 (sgn s + 9218868437227405312)) := by
  go_enter Tryz.func131, Tryz.ntmps131
  go_wp2_with fail
  refine (inf_any s _).mono ?_
  rintro e w' ⟨rfl, bs15, n15, rfl⟩
  go_wp2
  go_ret
  exact ⟨rfl, (by repeat first | exact Lz _ | apply La | apply Lv | apply Ln | apply Ld)⟩
theorem sum_fin0 (s t : Bool) (m n i j : Int) (z : Nat) (ha : RL Tryz.prog 157 #[fm, fv s false false m i, fv t false false n j] (.int .u64 (z : Nat))) (w : World) :
    RW Tryz.prog 131 #[fm, fv s false false m i, fv t false false n j] w (.int .u64 (z : Nat)) := by
  go_enter Tryz.func131, Tryz.ntmps131
  go_wp2_with fail
  refine (ha.out _).mono ?_
  rintro e w' ⟨rfl, bs16, n16, rfl⟩
  go_wp2
  go_ret
  exact ⟨rfl, (by repeat first | exact Lz _ | apply La | apply Lv | apply Ln | apply Ld)⟩
end Go.Proofs.YtdfgcagbpndabaaGreatDoor.D
namespace Go.Proofs.YtdfgcagbpndabaaGreatDoor.D
open Go.RowKit
open Go.FM (W64 two bl lost isN qn)
theorem quo_fin0 (s t v : Bool) (m n : Int) (p q : Nat) (i j X Y x1 x2 k hi lo lo2 e1 e2 e3 e4 ee : Int) (z : Nat) (hs : (!(s == t)) = v) (hm : (m == 0) = false) (hm2 : ¬ m = 0) (hn : (n == 0) = false) (hn2 : ¬ n = 0) (hpb : p ≤ 64) (hqb : q ≤ 64) (hp : Hid (∀ w : World, Calls Tryz.prog 154 #[.int .u64 m] w fun e w' => e = .returned (.int .i64 (p : Nat)) ∧ w' = w)) (hq : Hid (∀ w : World, Calls Tryz.prog 154 #[.int .u64 n] w fun e w' => e = .returned (.int .i64 (q : Nat)) ∧ w' = w)) (hX : IntKind.u64.wrap (m * 2 ^ p) = X) (hY : IntKind.u64.wrap (n * 2 ^ q) = Y) (he1 : IntKind.i64.wrap (i - p) = e1) (he2 : IntKind.i64.wrap (j - q) = e2) (he3 : IntKind.i64.wrap (e1 - e2) = e3) (he4 : IntKind.i64.wrap (e3 - 63) = e4) (hee : IntKind.i64.wrap (e4 - 1) = ee) (hx1 : X / 2 = x1) (hx2 : IntKind.u64.wrap (X * 9223372036854775808) = x2) (hd : Hid (∀ w : World, Calls Tryz.prog 158 #[.int .u64 x1, .int .u64 x2, .int .u64 Y] w fun e w' => e = .returned (.tuple #[.int .u64 k, .int .u64 0]) ∧ w' = w)) (hU : RL Tryz.prog 155 #[.int .u64 k, .int .i64 1] (.tuple #[.int .u64 hi, .int .u64 lo])) (hr : RL Tryz.prog 122 #[fm, .bool v, .int .u64 hi, .int .u64 lo, .int .i64 ee] (.int .u64 (z : Nat))) (w : World) :
    RW Tryz.prog 133 #[fm, fv s false false m i, fv t false false n j] w (.int .u64 (z : Nat)) := by
  go_enter Tryz.func133, Tryz.ntmps133
  go_wp2_with fail
  refine wp_region_quiet_far (by kernel_rfl) (by kernel_rfl) ?_
  repeat (quiet_step (first | (go_at_call 154; exact Calls.far_of_same (hp.out _)) | (go_at_call 154; exact Calls.far_of_same (hq.out _))))
  refine wpQuiet_nil ?_
  rintro _ ⟨⟨bq1, nq1⟩, rfl⟩
  go_wp2_with fail
  refine wp_region_quiet_far2 (by kernel_rfl) (by kernel_rfl) ?_
  repeat (quiet_step (first | fail))
  refine wpQuiet_nil ?_
  rintro _ ⟨⟨bq2, nq2⟩, rfl⟩
  go_wp2_with fail
  refine (hd.out _).mono ?_
  rintro e w' ⟨rfl, rfl⟩
  go_wp2_with fail
  refine (hU.out _).mono ?_
  rintro e w' ⟨rfl, bs4, n4, rfl⟩
  go_wp2_with fail
  refine (hr.out _).mono ?_
  rintro e w' ⟨rfl, bs5, n5, rfl⟩
  go_wp2
  go_ret
  exact ⟨rfl, (by repeat first | exact Lz _ | apply La | apply Lv | apply Ln | apply Ld)⟩
theorem quo_fin1 (s t v : Bool) (m n r : Int) (p q : Nat) (i j X Y x1 x2 k hi lo lo2 e1 e2 e3 e4 ee : Int) (z : Nat) (hs : (!(s == t)) = v) (hm : (m == 0) = false) (hm2 : ¬ m = 0) (hn : (n == 0) = false) (hn2 : ¬ n = 0) (hpb : p ≤ 64) (hqb : q ≤ 64) (hp : Hid (∀ w : World, Calls Tryz.prog 154 #[.int .u64 m] w fun e w' => e = .returned (.int .i64 (p : Nat)) ∧ w' = w)) (hq : Hid (∀ w : World, Calls Tryz.prog 154 #[.int .u64 n] w fun e w' => e = .returned (.int .i64 (q : Nat)) ∧ w' = w)) (hX : IntKind.u64.wrap (m * 2 ^ p) = X) (hY : IntKind.u64.wrap (n * 2 ^ q) = Y) (he1 : IntKind.i64.wrap (i - p) = e1) (he2 : IntKind.i64.wrap (j - q) = e2) (he3 : IntKind.i64.wrap (e1 - e2) = e3) (he4 : IntKind.i64.wrap (e3 - 63) = e4) (hee : IntKind.i64.wrap (e4 - 1) = ee) (hx1 : X / 2 = x1) (hx2 : IntKind.u64.wrap (X * 9223372036854775808) = x2) (hd : Hid (∀ w : World, Calls Tryz.prog 158 #[.int .u64 x1, .int .u64 x2, .int .u64 Y] w fun e w' => e = .returned (.tuple #[.int .u64 k, .int .u64 r]) ∧ w' = w)) (hU : RL Tryz.prog 155 #[.int .u64 k, .int .i64 1] (.tuple #[.int .u64 hi, .int .u64 lo])) (hr0 : ¬ r = 0) (hr1 : (r == 0) = false) (hl : bits .or .u64 lo 1 = lo2) (hr : RL Tryz.prog 122 #[fm, .bool v, .int .u64 hi, .int .u64 lo2, .int .i64 ee] (.int .u64 (z : Nat))) (w : World) :
    RW Tryz.prog 133 #[fm, fv s false false m i, fv t false false n j] w (.int .u64 (z : Nat)) := by
  go_enter Tryz.func133, Tryz.ntmps133
  go_wp2_with fail
  refine wp_region_quiet_far (by kernel_rfl) (by kernel_rfl) ?_
  repeat (quiet_step (first | (go_at_call 154; exact Calls.far_of_same (hp.out _)) | (go_at_call 154; exact Calls.far_of_same (hq.out _))))
  refine wpQuiet_nil ?_
  rintro _ ⟨⟨bq6, nq6⟩, rfl⟩
  go_wp2_with fail
  refine wp_region_quiet_far2 (by kernel_rfl) (by kernel_rfl) ?_
  repeat (quiet_step (first | fail))
  refine wpQuiet_nil ?_
  rintro _ ⟨⟨bq7, nq7⟩, rfl⟩
  go_wp2_with fail
  refine (hd.out _).mono ?_
  rintro e w' ⟨rfl, rfl⟩
  go_wp2_with fail
  refine (hU.out _).mono ?_
  rintro e w' ⟨rfl, bs9, n9, rfl⟩
  go_wp2_with fail
  refine (hr.out _).mono ?_
  rintro e w' ⟨rfl, bs10, n10, rfl⟩
  go_wp2
  go_ret
  exact ⟨rfl, (by repeat first | exact Lz _ | apply La | apply Lv | apply Ln | apply Ld)⟩
theorem quo_nan1 (s t p q r : Bool) (m n i j : Int) (w : World) :
    RW Tryz.prog 133 #[fm, fv s p true m i, fv t q r n j] w (.int .u64 9221120237041090560) := by
  go_enter Tryz.func133, Tryz.ntmps133
  go_wp2_with fail
  refine (nan_any _).mono ?_
  rintro e w' ⟨rfl, bs11, n11, rfl⟩
  go_wp2
  go_ret
  exact ⟨rfl, (by repeat first | exact Lz _ | apply La | apply Lv | apply Ln | apply Ld)⟩
theorem quo_nan2 (s t p : Bool) (m n i j : Int) (w : World) :
    RW Tryz.prog 133 #[fm, fv s p false m i, fv t false true n j] w (.int .u64 9221120237041090560) := by
  go_enter Tryz.func133, Tryz.ntmps133
  go_wp2_with fail
  refine (nan_any _).mono ?_
  rintro e w' ⟨rfl, bs12, n12, rfl⟩
  go_wp2
  go_ret
  exact ⟨rfl, (by repeat first | exact Lz _ | apply La | apply Lv | apply Ln | apply Ld)⟩
theorem quo_nan3 (s t : Bool) (m n i j : Int) (w : World) :
    RW Tryz.prog 133 #[fm, fv s true false m i, fv t true false n j] w (.int .u64 9221120237041090560) := by
  go_enter Tryz.func133, Tryz.ntmps133
  go_wp2_with fail
  refine (nan_any _).mono ?_
  rintro e w' ⟨rfl, bs13, n13, rfl⟩
  go_wp2
  go_ret
  exact ⟨rfl, (by repeat first | exact Lz _ | apply La | apply Lv | apply Ln | apply Ld)⟩
theorem quo_nan4 (s t : Bool) (i j : Int) (w : World) :
    RW Tryz.prog 133 #[fm, fv s false false 0 i, fv t false false 0 j] w (.int .u64 9221120237041090560) := by
  go_enter Tryz.func133, Tryz.ntmps133
  go_wp2_with fail
  refine (nan_any _).mono ?_
  rintro e w' ⟨rfl, bs14, n14, rfl⟩
  go_wp2
  go_ret
  exact ⟨rfl, (by repeat first | exact Lz _ | apply La | apply Lv | apply Ln | apply Ld)⟩
theorem quo_inf1 (s t : Bool) (m n i j : Int) (v : Bool) (hs : (!(s == t)) = v) (w : World) :
    RW Tryz.prog 133 #[fm, fv s true false m i, fv t false false n j] w (.int .u64 (sgn v + 9218868437227405312)) := by
  go_enter Tryz.func133, Tryz.ntmps133
  go_wp2_with fail
  refine (inf_any v _).mono ?_
  rintro e w' ⟨rfl, bs15, n15, rfl⟩
  go_wp2
  go_ret
  exact ⟨rfl, (by repeat first | exact Lz _ | apply La | apply Lv | apply Ln | apply Ld)⟩
theorem quo_inf2 (s t : Bool) (m i j : Int) (v : Bool) (hs : (!(s == t)) = v) (hm : (m == 0) = false) (hm2 : ¬ m = 0) (w : World) :
    RW Tryz.prog 133 #[fm, fv s false false m i, fv t false false 0 j] w (.int .u64 (sgn v + 9218868437227405312)) := by
  go_enter Tryz.func133, Tryz.ntmps133
  go_wp2_with fail
  refine (inf_any v _).mono ?_
  rintro e w' ⟨rfl, bs16, n16, rfl⟩
  go_wp2
  go_ret
  exact ⟨rfl, (by repeat first | exact Lz _ | apply La | apply Lv | apply Ln | apply Ld)⟩
theorem quo_zero1 (s t : Bool) (m n i j : Int) (v : Bool) (hs : (!(s == t)) = v) (w : World) :
    RW Tryz.prog 133 #[fm, fv s false false m i, fv t true false n j] w (.int .u64 (sgn v)) := by
  go_enter Tryz.func133, Tryz.ntmps133
  go_wp2_with fail
  refine (signed_any v _).mono ?_
  rintro e w' ⟨rfl, bs17, n17, rfl⟩
  go_wp2
  go_ret
  exact ⟨rfl, (by repeat first | exact Lz _ | apply La | apply Lv | apply Ln | apply Ld)⟩
theorem quo_zero2 (s t : Bool) (n i j : Int) (v : Bool) (hs : (!(s == t)) = v) (hn : (n == 0) = false) (hn2 : ¬ n = 0) (w : World) :
    RW Tryz.prog 133 #[fm, fv s false false 0 i, fv t false false n j] w (.int .u64 (sgn v)) := by
  go_enter Tryz.func133, Tryz.ntmps133
  go_wp2_with fail
  refine (signed_any v _).mono ?_
  rintro e w' ⟨rfl, bs18, n18, rfl⟩
  go_wp2
  go_ret
  exact ⟨rfl, (by repeat first | exact Lz _ | apply La | apply Lv | apply Ln | apply Ld)⟩
end Go.Proofs.YtdfgcagbpndabaaGreatDoor.D
