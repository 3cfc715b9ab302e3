/- Contracts of the document's floats (pelorusref4), over this seat's translation: whole numbers, the walks. -/
import Derived.Test.YtdfgcagbpndabaaGreatDoorZDC
import Derived.Test.YtdfgcagbpndabaaGreatDoorZA
import Derived.WalkLawsBesides
import Derived.RegionCalls
import Derived.Deep.RegionWith
set_option linter.unusedVariables false
set_option maxHeartbeats 4000000
set_option maxRecDepth 100000
namespace Go.Proofs.YtdfgcagbpndabaaGreatDoor.D
open Go.RowKit
open Go.FM (W64 two bl lost isN qn)
theorem whole_u1 (x m i A M M2 nb : Int) (z : Nat) (c : Int) (hm : (m == 0) = false) (hm2 : ¬ m = 0) (hi : ¬ 0 ≤ i) (hnb : IntKind.i64.wrap (-i) = nb) (ha : RL Tryz.prog 119 #[fm, .int .u64 x] (fv false false false m i)) (hd : RL Tryz.prog 121 #[.int .u64 0, .int .u64 m, .int .i64 nb] (.tuple #[.int .u64 A, .int .u64 M, .int .i64 c])) (hM : IntKind.u64.wrap (M + 1) = M2) (hc : (c == 2) = false) (hc2 : ¬ c = 2) (hr : RL Tryz.prog 122 #[fm, .bool false, .int .u64 0, .int .u64 M2, .int .i64 0] (.int .u64 (z : Nat))) (w : World) :
    RW Tryz.prog 129 #[fm, .int .i64 0, .int .u64 x] w (.int .u64 (z : Nat)) := by
  go_enter Tryz.func129, Tryz.ntmps129
  go_wp2_with fail
  refine (ha.out _).mono ?_
  rintro e w' ⟨rfl, bs1, n1, rfl⟩
  go_wp2_with fail
  refine (hd.out _).mono ?_
  rintro e w' ⟨rfl, bs2, n2, rfl⟩
  go_wp2_with fail
  refine (hr.out _).mono ?_
  rintro e w' ⟨rfl, bs3, n3, rfl⟩
  go_wp2
  go_ret
  exact ⟨rfl, (by repeat first | exact Lz _ | apply La | apply Lv | apply Ln | apply Ld)⟩
theorem whole_u2 (x m i A M M2 nb : Int) (z : Nat) (hm : (m == 0) = false) (hm2 : ¬ m = 0) (hi : ¬ 0 ≤ i) (hnb : IntKind.i64.wrap (-i) = nb) (ha : RL Tryz.prog 119 #[fm, .int .u64 x] (fv false false false m i)) (hd : RL Tryz.prog 121 #[.int .u64 0, .int .u64 m, .int .i64 nb] (.tuple #[.int .u64 A, .int .u64 M, .int .i64 2])) (hM : M = M2) (hr : RL Tryz.prog 122 #[fm, .bool false, .int .u64 0, .int .u64 M2, .int .i64 0] (.int .u64 (z : Nat))) (w : World) :
    RW Tryz.prog 129 #[fm, .int .i64 0, .int .u64 x] w (.int .u64 (z : Nat)) := by
  subst hM
  go_enter Tryz.func129, Tryz.ntmps129
  go_wp2_with fail
  refine (ha.out _).mono ?_
  rintro e w' ⟨rfl, bs4, n4, rfl⟩
  go_wp2_with fail
  refine (hd.out _).mono ?_
  rintro e w' ⟨rfl, bs5, n5, rfl⟩
  go_wp2_with fail
  refine (hr.out _).mono ?_
  rintro e w' ⟨rfl, bs6, n6, rfl⟩
  go_wp2
  go_ret
  exact ⟨rfl, (by repeat first | exact Lz _ | apply La | apply Lv | apply Ln | apply Ld)⟩
theorem whole_u3 (x m i A M M2 nb : Int) (z : Nat) (c : Int) (hm : (m == 0) = false) (hm2 : ¬ m = 0) (hi : ¬ 0 ≤ i) (hnb : IntKind.i64.wrap (-i) = nb) (ha : RL Tryz.prog 119 #[fm, .int .u64 x] (fv true false false m i)) (hd : RL Tryz.prog 121 #[.int .u64 0, .int .u64 m, .int .i64 nb] (.tuple #[.int .u64 A, .int .u64 M, .int .i64 c])) (hM : M = M2) (hr : RL Tryz.prog 122 #[fm, .bool true, .int .u64 0, .int .u64 M2, .int .i64 0] (.int .u64 (z : Nat))) (w : World) :
    RW Tryz.prog 129 #[fm, .int .i64 0, .int .u64 x] w (.int .u64 (z : Nat)) := by
  subst hM
  go_enter Tryz.func129, Tryz.ntmps129
  go_wp2_with fail
  refine (ha.out _).mono ?_
  rintro e w' ⟨rfl, bs7, n7, rfl⟩
  go_wp2_with fail
  refine (hd.out _).mono ?_
  rintro e w' ⟨rfl, bs8, n8, rfl⟩
  go_wp2_with fail
  refine (hr.out _).mono ?_
  rintro e w' ⟨rfl, bs9, n9, rfl⟩
  go_wp2
  go_ret
  exact ⟨rfl, (by repeat first | exact Lz _ | apply La | apply Lv | apply Ln | apply Ld)⟩
theorem whole_d1 (x m i A M M2 nb : Int) (z : Nat) (c : Int) (hm : (m == 0) = false) (hm2 : ¬ m = 0) (hi : ¬ 0 ≤ i) (hnb : IntKind.i64.wrap (-i) = nb) (ha : RL Tryz.prog 119 #[fm, .int .u64 x] (fv true false false m i)) (hd : RL Tryz.prog 121 #[.int .u64 0, .int .u64 m, .int .i64 nb] (.tuple #[.int .u64 A, .int .u64 M, .int .i64 c])) (hM : IntKind.u64.wrap (M + 1) = M2) (hc : (c == 2) = false) (hc2 : ¬ c = 2) (hr : RL Tryz.prog 122 #[fm, .bool true, .int .u64 0, .int .u64 M2, .int .i64 0] (.int .u64 (z : Nat))) (w : World) :
    RW Tryz.prog 129 #[fm, .int .i64 1, .int .u64 x] w (.int .u64 (z : Nat)) := by
  go_enter Tryz.func129, Tryz.ntmps129
  go_wp2_with fail
  refine (ha.out _).mono ?_
  rintro e w' ⟨rfl, bs10, n10, rfl⟩
  go_wp2_with fail
  refine (hd.out _).mono ?_
  rintro e w' ⟨rfl, bs11, n11, rfl⟩
  go_wp2_with fail
  refine (hr.out _).mono ?_
  rintro e w' ⟨rfl, bs12, n12, rfl⟩
  go_wp2
  go_ret
  exact ⟨rfl, (by repeat first | exact Lz _ | apply La | apply Lv | apply Ln | apply Ld)⟩
theorem whole_d2 (x m i A M M2 nb : Int) (z : Nat) (hm : (m == 0) = false) (hm2 : ¬ m = 0) (hi : ¬ 0 ≤ i) (hnb : IntKind.i64.wrap (-i) = nb) (ha : RL Tryz.prog 119 #[fm, .int .u64 x] (fv true false false m i)) (hd : RL Tryz.prog 121 #[.int .u64 0, .int .u64 m, .int .i64 nb] (.tuple #[.int .u64 A, .int .u64 M, .int .i64 2])) (hM : M = M2) (hr : RL Tryz.prog 122 #[fm, .bool true, .int .u64 0, .int .u64 M2, .int .i64 0] (.int .u64 (z : Nat))) (w : World) :
    RW Tryz.prog 129 #[fm, .int .i64 1, .int .u64 x] w (.int .u64 (z : Nat)) := by
  subst hM
  go_enter Tryz.func129, Tryz.ntmps129
  go_wp2_with fail
  refine (ha.out _).mono ?_
  rintro e w' ⟨rfl, bs13, n13, rfl⟩
  go_wp2_with fail
  refine (hd.out _).mono ?_
  rintro e w' ⟨rfl, bs14, n14, rfl⟩
  go_wp2_with fail
  refine (hr.out _).mono ?_
  rintro e w' ⟨rfl, bs15, n15, rfl⟩
  go_wp2
  go_ret
  exact ⟨rfl, (by repeat first | exact Lz _ | apply La | apply Lv | apply Ln | apply Ld)⟩
theorem whole_d3 (x m i A M M2 nb : Int) (z : Nat) (c : Int) (hm : (m == 0) = false) (hm2 : ¬ m = 0) (hi : ¬ 0 ≤ i) (hnb : IntKind.i64.wrap (-i) = nb) (ha : RL Tryz.prog 119 #[fm, .int .u64 x] (fv false false false m i)) (hd : RL Tryz.prog 121 #[.int .u64 0, .int .u64 m, .int .i64 nb] (.tuple #[.int .u64 A, .int .u64 M, .int .i64 c])) (hM : M = M2) (hr : RL Tryz.prog 122 #[fm, .bool false, .int .u64 0, .int .u64 M2, .int .i64 0] (.int .u64 (z : Nat))) (w : World) :
    RW Tryz.prog 129 #[fm, .int .i64 1, .int .u64 x] w (.int .u64 (z : Nat)) := by
  subst hM
  go_enter Tryz.func129, Tryz.ntmps129
  go_wp2_with fail
  refine (ha.out _).mono ?_
  rintro e w' ⟨rfl, bs16, n16, rfl⟩
  go_wp2_with fail
  refine (hd.out _).mono ?_
  rintro e w' ⟨rfl, bs17, n17, rfl⟩
  go_wp2_with fail
  refine (hr.out _).mono ?_
  rintro e w' ⟨rfl, bs18, n18, rfl⟩
  go_wp2
  go_ret
  exact ⟨rfl, (by repeat first | exact Lz _ | apply La | apply Lv | apply Ln | apply Ld)⟩
theorem whole_z (x m i A M M2 nb : Int) (z : Nat) (s : Bool) (c : Int) (hm : (m == 0) = false) (hm2 : ¬ m = 0) (hi : ¬ 0 ≤ i) (hnb : IntKind.i64.wrap (-i) = nb) (ha : RL Tryz.prog 119 #[fm, .int .u64 x] (fv s false false m i)) (hd : RL Tryz.prog 121 #[.int .u64 0, .int .u64 m, .int .i64 nb] (.tuple #[.int .u64 A, .int .u64 M, .int .i64 c])) (hM : M = M2) (hr : RL Tryz.prog 122 #[fm, .bool s, .int .u64 0, .int .u64 M2, .int .i64 0] (.int .u64 (z : Nat))) (w : World) :
    RW Tryz.prog 129 #[fm, .int .i64 2, .int .u64 x] w (.int .u64 (z : Nat)) := by
  subst hM
  go_enter Tryz.func129, Tryz.ntmps129
  go_wp2_with fail
  refine (ha.out _).mono ?_
  rintro e w' ⟨rfl, bs19, n19, rfl⟩
  go_wp2_with fail
  refine (hd.out _).mono ?_
  rintro e w' ⟨rfl, bs20, n20, rfl⟩
  go_wp2_with fail
  refine (hr.out _).mono ?_
  rintro e w' ⟨rfl, bs21, n21, rfl⟩
  go_wp2
  go_ret
  exact ⟨rfl, (by repeat first | exact Lz _ | apply La | apply Lv | apply Ln | apply Ld)⟩
theorem whole_n1 (x m i A M M2 nb : Int) (z : Nat) (s : Bool) (hm : (m == 0) = false) (hm2 : ¬ m = 0) (hi : ¬ 0 ≤ i) (hnb : IntKind.i64.wrap (-i) = nb) (ha : RL Tryz.prog 119 #[fm, .int .u64 x] (fv s false false m i)) (hd : RL Tryz.prog 121 #[.int .u64 0, .int .u64 m, .int .i64 nb] (.tuple #[.int .u64 A, .int .u64 M, .int .i64 1])) (hM : IntKind.u64.wrap (M + 1) = M2) (hr : RL Tryz.prog 122 #[fm, .bool s, .int .u64 0, .int .u64 M2, .int .i64 0] (.int .u64 (z : Nat))) (w : World) :
    RW Tryz.prog 129 #[fm, .int .i64 3, .int .u64 x] w (.int .u64 (z : Nat)) := by
  go_enter Tryz.func129, Tryz.ntmps129
  go_wp2_with fail
  refine (ha.out _).mono ?_
  rintro e w' ⟨rfl, bs22, n22, rfl⟩
  go_wp2_with fail
  refine (hd.out _).mono ?_
  rintro e w' ⟨rfl, bs23, n23, rfl⟩
  go_wp2_with fail
  refine (hr.out _).mono ?_
  rintro e w' ⟨rfl, bs24, n24, rfl⟩
  go_wp2
  go_ret
  exact ⟨rfl, (by repeat first | exact Lz _ | apply La | apply Lv | apply Ln | apply Ld)⟩
theorem whole_n2 (x m i A M M2 nb : Int) (z : Nat) (s : Bool) (hm : (m == 0) = false) (hm2 : ¬ m = 0) (hi : ¬ 0 ≤ i) (hnb : IntKind.i64.wrap (-i) = nb) (ha : RL Tryz.prog 119 #[fm, .int .u64 x] (fv s false false m i)) (hd : RL Tryz.prog 121 #[.int .u64 0, .int .u64 m, .int .i64 nb] (.tuple #[.int .u64 A, .int .u64 M, .int .i64 0])) (hM : IntKind.u64.wrap (M + 1) = M2) (ho : bits .and .u64 M 1 = 1) (hr : RL Tryz.prog 122 #[fm, .bool s, .int .u64 0, .int .u64 M2, .int .i64 0] (.int .u64 (z : Nat))) (w : World) :
    RW Tryz.prog 129 #[fm, .int .i64 3, .int .u64 x] w (.int .u64 (z : Nat)) := by
  go_enter Tryz.func129, Tryz.ntmps129
  go_wp2_with fail
  refine (ha.out _).mono ?_
  rintro e w' ⟨rfl, bs25, n25, rfl⟩
  go_wp2_with fail
  refine (hd.out _).mono ?_
  rintro e w' ⟨rfl, bs26, n26, rfl⟩
  go_wp2_with fail
  refine (hr.out _).mono ?_
  rintro e w' ⟨rfl, bs27, n27, rfl⟩
  go_wp2
  go_ret
  exact ⟨rfl, (by repeat first | exact Lz _ | apply La | apply Lv | apply Ln | apply Ld)⟩
theorem whole_n3 (x m i A M M2 nb : Int) (z : Nat) (s : Bool) (hm : (m == 0) = false) (hm2 : ¬ m = 0) (hi : ¬ 0 ≤ i) (hnb : IntKind.i64.wrap (-i) = nb) (ha : RL Tryz.prog 119 #[fm, .int .u64 x] (fv s false false m i)) (hd : RL Tryz.prog 121 #[.int .u64 0, .int .u64 m, .int .i64 nb] (.tuple #[.int .u64 A, .int .u64 M, .int .i64 0])) (hM : M = M2) (ho : bits .and .u64 M 1 = 0) (hr : RL Tryz.prog 122 #[fm, .bool s, .int .u64 0, .int .u64 M2, .int .i64 0] (.int .u64 (z : Nat))) (w : World) :
    RW Tryz.prog 129 #[fm, .int .i64 3, .int .u64 x] w (.int .u64 (z : Nat)) := by
  subst hM
  go_enter Tryz.func129, Tryz.ntmps129
  go_wp2_with fail
  refine (ha.out _).mono ?_
  rintro e w' ⟨rfl, bs28, n28, rfl⟩
  go_wp2_with fail
  refine (hd.out _).mono ?_
  rintro e w' ⟨rfl, bs29, n29, rfl⟩
  go_wp2_with fail
  refine (hr.out _).mono ?_
  rintro e w' ⟨rfl, bs30, n30, rfl⟩
  go_wp2
  go_ret
  exact ⟨rfl, (by repeat first | exact Lz _ | apply La | apply Lv | apply Ln | apply Ld)⟩
theorem whole_n4 (x m i A M M2 nb : Int) (z : Nat) (s : Bool) (hm : (m == 0) = false) (hm2 : ¬ m = 0) (hi : ¬ 0 ≤ i) (hnb : IntKind.i64.wrap (-i) = nb) (ha : RL Tryz.prog 119 #[fm, .int .u64 x] (fv s false false m i)) (hd : RL Tryz.prog 121 #[.int .u64 0, .int .u64 m, .int .i64 nb] (.tuple #[.int .u64 A, .int .u64 M, .int .i64 (-1)])) (hM : M = M2) (hr : RL Tryz.prog 122 #[fm, .bool s, .int .u64 0, .int .u64 M2, .int .i64 0] (.int .u64 (z : Nat))) (w : World) :
    RW Tryz.prog 129 #[fm, .int .i64 3, .int .u64 x] w (.int .u64 (z : Nat)) := by
  subst hM
  go_enter Tryz.func129, Tryz.ntmps129
  go_wp2_with fail
  refine (ha.out _).mono ?_
  rintro e w' ⟨rfl, bs31, n31, rfl⟩
  go_wp2_with fail
  refine (hd.out _).mono ?_
  rintro e w' ⟨rfl, bs32, n32, rfl⟩
  go_wp2_with fail
  refine (hr.out _).mono ?_
  rintro e w' ⟨rfl, bs33, n33, rfl⟩
  go_wp2
  go_ret
  exact ⟨rfl, (by repeat first | exact Lz _ | apply La | apply Lv | apply Ln | apply Ld)⟩
theorem whole_n5 (x m i A M M2 nb : Int) (z : Nat) (s : Bool) (hm : (m == 0) = false) (hm2 : ¬ m = 0) (hi : ¬ 0 ≤ i) (hnb : IntKind.i64.wrap (-i) = nb) (ha : RL Tryz.prog 119 #[fm, .int .u64 x] (fv s false false m i)) (hd : RL Tryz.prog 121 #[.int .u64 0, .int .u64 m, .int .i64 nb] (.tuple #[.int .u64 A, .int .u64 M, .int .i64 2])) (hM : M = M2) (hr : RL Tryz.prog 122 #[fm, .bool s, .int .u64 0, .int .u64 M2, .int .i64 0] (.int .u64 (z : Nat))) (w : World) :
    RW Tryz.prog 129 #[fm, .int .i64 3, .int .u64 x] w (.int .u64 (z : Nat)) := by
  subst hM
  go_enter Tryz.func129, Tryz.ntmps129
  go_wp2_with fail
  refine (ha.out _).mono ?_
  rintro e w' ⟨rfl, bs34, n34, rfl⟩
  go_wp2_with fail
  refine (hd.out _).mono ?_
  rintro e w' ⟨rfl, bs35, n35, rfl⟩
  go_wp2_with fail
  refine (hr.out _).mono ?_
  rintro e w' ⟨rfl, bs36, n36, rfl⟩
  go_wp2
  go_ret
  exact ⟨rfl, (by repeat first | exact Lz _ | apply La | apply Lv | apply Ln | apply Ld)⟩
theorem whole_nan0 (k x : Int) (s p : Bool) (m i : Int) (ha : RL Tryz.prog 119 #[fm, .int .u64 x] (fv s p true m i)) (w : World) :
    RW Tryz.prog 129 #[fm, .int .i64 k, .int .u64 x] w (.int .u64 9221120237041090560) := by
  go_enter Tryz.func129, Tryz.ntmps129
  go_wp2_with fail
  refine (ha.out _).mono ?_
  rintro e w' ⟨rfl, bs38, n38, rfl⟩
  go_wp2_with fail
  refine (nan_any _).mono ?_
  rintro e w' ⟨rfl, bs37, n37, rfl⟩
  go_wp2
  go_ret
  exact ⟨rfl, (by repeat first | exact Lz _ | apply La | apply Lv | apply Ln | apply Ld)⟩
theorem whole_inf0 (k x : Int) (s : Bool) (m i : Int) (ha : RL Tryz.prog 119 #[fm, .int .u64 x] (fv s true false m i)) (w : World) :
    RW Tryz.prog 129 #[fm, .int .i64 k, .int .u64 x] w (.int .u64 x) := by
  go_enter Tryz.func129, Tryz.ntmps129
  go_wp2_with fail
  refine (ha.out _).mono ?_
  rintro e w' ⟨rfl, bs39, n39, rfl⟩
  go_wp2
  go_ret
  exact ⟨rfl, (by repeat first | exact Lz _ | apply La | apply Lv | apply Ln | apply Ld)⟩
theorem whole_nil (k x : Int) (s : Bool) (i : Int) (ha : RL Tryz.prog 119 #[fm, .int .u64 x] (fv s false false 0 i)) (w : World) :
    RW Tryz.prog 129 #[fm, .int .i64 k, .int .u64 x] w (.int .u64 x) := by
  go_enter Tryz.func129, Tryz.ntmps129
  go_wp2_with fail
  refine (ha.out _).mono ?_
  rintro e w' ⟨rfl, bs40, n40, rfl⟩
  go_wp2
  go_ret
  exact ⟨rfl, (by repeat first | exact Lz _ | apply La | apply Lv | apply Ln | apply Ld)⟩
theorem whole_int (k x : Int) (s : Bool) (m i : Int) (ha : RL Tryz.prog 119 #[fm, .int .u64 x] (fv s false false m i)) (hm : (m == 0) = false) (hm2 : ¬ m = 0) (hi : 0 ≤ i) (w : World) :
    RW Tryz.prog 129 #[fm, .int .i64 k, .int .u64 x] w (.int .u64 x) := by
  go_enter Tryz.func129, Tryz.ntmps129
  go_wp2_with fail
  refine (ha.out _).mono ?_
  rintro e w' ⟨rfl, bs41, n41, rfl⟩
  go_wp2
  go_ret
  exact ⟨rfl, (by repeat first | exact Lz _ | apply La | apply Lv | apply Ln | apply Ld)⟩
end Go.Proofs.YtdfgcagbpndabaaGreatDoor.D
