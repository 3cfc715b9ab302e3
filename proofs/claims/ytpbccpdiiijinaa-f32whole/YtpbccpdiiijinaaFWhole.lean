/- 'F32Whole' of package peloruslaw4 returns true at every int: what was rounded to a whole number is it; down is not above, up not below; the others are one of the two. No condition. -/
import Derived.Test.YtpbccpdiiijinaaL32A
import Derived.OpenShut
import Derived.LoopN
import Derived.RowKit3
namespace Go.Proofs.Ytpbccpdiiijinaa.f32Whole
open Go.ChangeShapes Go.WideShapes Go.ChangeAt Go.RowKit
open Go.FM (isN fixn qn)
set_option linter.unusedVariables false

theorem own : ownKnob Try.prog.godebug = none := by kernel_rfl

theorem awake_grown (w : World) :
    Calls Try.prog 14 #[] w fun e w' => e = .returned (.bool true) ∧ Hid (Grown w w') :=
  (awake_any w).mono (fun e w' h => ⟨h.1, h.2.grown⟩)
set_option maxRecDepth 100000 in
set_option maxHeartbeats 2000000 in
theorem nanC (a x : Int) (hx : bits .and .i64 a 4294967295 = x) (r1 : Hid (unI 141 x = (2143289344, 0))) (r2 : Hid (unI 142 x = (2143289344, 0))) (r3 : Hid (unI 143 x = (2143289344, 0))) (r4 : Hid (unI 144 x = (2143289344, 0))) (r5 : Hid (binI 91 x x = (0, 0))) (s10 : Hid (unI 141 2143289344 = (2143289344, 0))) (s11 : Hid (unI 142 2143289344 = (2143289344, 0))) (s12 : Hid (unI 143 2143289344 = (2143289344, 0))) (s13 : Hid (unI 144 2143289344 = (2143289344, 0))) (w : World) :
    Calls Try.prog 6 #[.int .i64 a] w fun e w' => e = .returned (.bool true) ∧ Grown w w' := by
  go_enter Try.func6, Try.ntmps6
  go_wp2_with fail
  refine (awake_any _).mono ?_
  rintro e w' ⟨rfl, bs1, n1, rfl⟩
  go_wp2_with fail
  refine (un_eq r1.out _).mono ?_
  rintro e w' ⟨rfl, bs2, n2, rfl⟩
  go_wp2_with fail
  refine (un_eq r2.out _).mono ?_
  rintro e w' ⟨rfl, bs3, n3, rfl⟩
  go_wp2_with fail
  refine (un_eq r3.out _).mono ?_
  rintro e w' ⟨rfl, bs4, n4, rfl⟩
  go_wp2_with fail
  refine (un_eq r4.out _).mono ?_
  rintro e w' ⟨rfl, bs5, n5, rfl⟩
  go_wp2_with fail
  refine (cmp_eq (by decide) r5.out _).mono ?_
  rintro e w' ⟨rfl, rfl⟩
  go_wp2
  refine wp_loop_rounds 5 ?_
  rw [rounds_succ]
  go_wp2
  refine wp_loop_rounds 5 ?_
  rw [rounds_succ]
  go_wp2_with fail
  refine (un_eq s10.out _).mono ?_
  rintro e w' ⟨rfl, bs6, n6, rfl⟩
  go_wp2
  rw [rounds_succ]
  go_wp2_with fail
  refine (un_eq s11.out _).mono ?_
  rintro e w' ⟨rfl, bs7, n7, rfl⟩
  go_wp2
  rw [rounds_succ]
  go_wp2_with fail
  refine (un_eq s12.out _).mono ?_
  rintro e w' ⟨rfl, bs8, n8, rfl⟩
  go_wp2
  rw [rounds_succ]
  go_wp2_with fail
  refine (un_eq s13.out _).mono ?_
  rintro e w' ⟨rfl, bs9, n9, rfl⟩
  go_wp2
  rw [rounds_succ]
  go_wp2
  rw [rounds_succ]
  go_wp2
  refine wp_loop_rounds 5 ?_
  rw [rounds_succ]
  go_wp2_with fail
  refine (un_eq s10.out _).mono ?_
  rintro e w' ⟨rfl, bs10, n10, rfl⟩
  go_wp2
  rw [rounds_succ]
  go_wp2_with fail
  refine (un_eq s11.out _).mono ?_
  rintro e w' ⟨rfl, bs11, n11, rfl⟩
  go_wp2
  rw [rounds_succ]
  go_wp2_with fail
  refine (un_eq s12.out _).mono ?_
  rintro e w' ⟨rfl, bs12, n12, rfl⟩
  go_wp2
  rw [rounds_succ]
  go_wp2_with fail
  refine (un_eq s13.out _).mono ?_
  rintro e w' ⟨rfl, bs13, n13, rfl⟩
  go_wp2
  rw [rounds_succ]
  go_wp2
  rw [rounds_succ]
  go_wp2
  refine wp_loop_rounds 5 ?_
  rw [rounds_succ]
  go_wp2_with fail
  refine (un_eq s10.out _).mono ?_
  rintro e w' ⟨rfl, bs14, n14, rfl⟩
  go_wp2
  rw [rounds_succ]
  go_wp2_with fail
  refine (un_eq s11.out _).mono ?_
  rintro e w' ⟨rfl, bs15, n15, rfl⟩
  go_wp2
  rw [rounds_succ]
  go_wp2_with fail
  refine (un_eq s12.out _).mono ?_
  rintro e w' ⟨rfl, bs16, n16, rfl⟩
  go_wp2
  rw [rounds_succ]
  go_wp2_with fail
  refine (un_eq s13.out _).mono ?_
  rintro e w' ⟨rfl, bs17, n17, rfl⟩
  go_wp2
  rw [rounds_succ]
  go_wp2
  rw [rounds_succ]
  go_wp2
  refine wp_loop_rounds 5 ?_
  rw [rounds_succ]
  go_wp2_with fail
  refine (un_eq s10.out _).mono ?_
  rintro e w' ⟨rfl, bs18, n18, rfl⟩
  go_wp2
  rw [rounds_succ]
  go_wp2_with fail
  refine (un_eq s11.out _).mono ?_
  rintro e w' ⟨rfl, bs19, n19, rfl⟩
  go_wp2
  rw [rounds_succ]
  go_wp2_with fail
  refine (un_eq s12.out _).mono ?_
  rintro e w' ⟨rfl, bs20, n20, rfl⟩
  go_wp2
  rw [rounds_succ]
  go_wp2_with fail
  refine (un_eq s13.out _).mono ?_
  rintro e w' ⟨rfl, bs21, n21, rfl⟩
  go_wp2
  rw [rounds_succ]
  go_wp2
  rw [rounds_succ]
  go_wp2
  all_goals
    go_ret
    exact ⟨rfl, (later_grown (by repeat (first | exact Later.refl _ | refine Later.alloc ?_ | refine Later.far ?_ | refine Later.drewN ?_ | refine Later.drew ?_)))⟩
set_option maxRecDepth 100000 in
set_option maxHeartbeats 2000000 in
theorem c_up_up (a x up dn : Int) (hx : bits .and .i64 a 4294967295 = x) (r1 : Hid (unI 141 x = (up, 0))) (r2 : Hid (unI 142 x = (dn, 0))) (r3 : Hid (unI 143 x = (up, 0))) (r4 : Hid (unI 144 x = (up, 0))) (r5 : Hid (binI 91 x x = (1, 0))) (s10 : Hid (unI 141 up = (up, 0))) (s11 : Hid (unI 142 up = (up, 0))) (s12 : Hid (unI 143 up = (up, 0))) (s13 : Hid (unI 144 up = (up, 0))) (s20 : Hid (unI 141 dn = (dn, 0))) (s21 : Hid (unI 142 dn = (dn, 0))) (s22 : Hid (unI 143 dn = (dn, 0))) (s23 : Hid (unI 144 dn = (dn, 0))) (r6 : Hid (binI 95 dn x = (1, 0))) (r7 : Hid (binI 96 up x = (1, 0))) (w : World) :
    Calls Try.prog 6 #[.int .i64 a] w fun e w' => e = .returned (.bool true) ∧ Grown w w' := by
  go_enter Try.func6, Try.ntmps6
  go_wp2_with fail
  refine (awake_any _).mono ?_
  rintro e w' ⟨rfl, bs22, n22, rfl⟩
  go_wp2_with fail
  refine (un_eq r1.out _).mono ?_
  rintro e w' ⟨rfl, bs23, n23, rfl⟩
  go_wp2_with fail
  refine (un_eq r2.out _).mono ?_
  rintro e w' ⟨rfl, bs24, n24, rfl⟩
  go_wp2_with fail
  refine (un_eq r3.out _).mono ?_
  rintro e w' ⟨rfl, bs25, n25, rfl⟩
  go_wp2_with fail
  refine (un_eq r4.out _).mono ?_
  rintro e w' ⟨rfl, bs26, n26, rfl⟩
  go_wp2_with fail
  refine (cmp_eq (by decide) r5.out _).mono ?_
  rintro e w' ⟨rfl, rfl⟩
  go_wp2
  refine wp_loop_rounds 5 ?_
  rw [rounds_succ]
  go_wp2
  refine wp_loop_rounds 5 ?_
  rw [rounds_succ]
  go_wp2_with fail
  refine (un_eq s10.out _).mono ?_
  rintro e w' ⟨rfl, bs27, n27, rfl⟩
  go_wp2
  rw [rounds_succ]
  go_wp2_with fail
  refine (un_eq s11.out _).mono ?_
  rintro e w' ⟨rfl, bs28, n28, rfl⟩
  go_wp2
  rw [rounds_succ]
  go_wp2_with fail
  refine (un_eq s12.out _).mono ?_
  rintro e w' ⟨rfl, bs29, n29, rfl⟩
  go_wp2
  rw [rounds_succ]
  go_wp2_with fail
  refine (un_eq s13.out _).mono ?_
  rintro e w' ⟨rfl, bs30, n30, rfl⟩
  go_wp2
  rw [rounds_succ]
  go_wp2
  rw [rounds_succ]
  go_wp2
  refine wp_loop_rounds 5 ?_
  rw [rounds_succ]
  go_wp2_with fail
  refine (un_eq s20.out _).mono ?_
  rintro e w' ⟨rfl, bs31, n31, rfl⟩
  go_wp2
  rw [rounds_succ]
  go_wp2_with fail
  refine (un_eq s21.out _).mono ?_
  rintro e w' ⟨rfl, bs32, n32, rfl⟩
  go_wp2
  rw [rounds_succ]
  go_wp2_with fail
  refine (un_eq s22.out _).mono ?_
  rintro e w' ⟨rfl, bs33, n33, rfl⟩
  go_wp2
  rw [rounds_succ]
  go_wp2_with fail
  refine (un_eq s23.out _).mono ?_
  rintro e w' ⟨rfl, bs34, n34, rfl⟩
  go_wp2
  rw [rounds_succ]
  go_wp2
  rw [rounds_succ]
  go_wp2
  refine wp_loop_rounds 5 ?_
  rw [rounds_succ]
  go_wp2_with fail
  refine (un_eq s10.out _).mono ?_
  rintro e w' ⟨rfl, bs35, n35, rfl⟩
  go_wp2
  rw [rounds_succ]
  go_wp2_with fail
  refine (un_eq s11.out _).mono ?_
  rintro e w' ⟨rfl, bs36, n36, rfl⟩
  go_wp2
  rw [rounds_succ]
  go_wp2_with fail
  refine (un_eq s12.out _).mono ?_
  rintro e w' ⟨rfl, bs37, n37, rfl⟩
  go_wp2
  rw [rounds_succ]
  go_wp2_with fail
  refine (un_eq s13.out _).mono ?_
  rintro e w' ⟨rfl, bs38, n38, rfl⟩
  go_wp2
  rw [rounds_succ]
  go_wp2
  rw [rounds_succ]
  go_wp2
  refine wp_loop_rounds 5 ?_
  rw [rounds_succ]
  go_wp2_with fail
  refine (un_eq s10.out _).mono ?_
  rintro e w' ⟨rfl, bs39, n39, rfl⟩
  go_wp2
  rw [rounds_succ]
  go_wp2_with fail
  refine (un_eq s11.out _).mono ?_
  rintro e w' ⟨rfl, bs40, n40, rfl⟩
  go_wp2
  rw [rounds_succ]
  go_wp2_with fail
  refine (un_eq s12.out _).mono ?_
  rintro e w' ⟨rfl, bs41, n41, rfl⟩
  go_wp2
  rw [rounds_succ]
  go_wp2_with fail
  refine (un_eq s13.out _).mono ?_
  rintro e w' ⟨rfl, bs42, n42, rfl⟩
  go_wp2
  rw [rounds_succ]
  go_wp2
  rw [rounds_succ]
  go_wp2_with fail
  refine (cmp_eq (by decide) r6.out _).mono ?_
  rintro e w' ⟨rfl, rfl⟩
  go_wp2_with fail
  refine (cmp_eq (by decide) r7.out _).mono ?_
  rintro e w' ⟨rfl, rfl⟩
  go_wp2
  all_goals
    go_ret
    exact ⟨rfl, (later_grown (by repeat (first | exact Later.refl _ | refine Later.alloc ?_ | refine Later.far ?_ | refine Later.drewN ?_ | refine Later.drew ?_)))⟩
set_option maxRecDepth 100000 in
set_option maxHeartbeats 2000000 in
theorem c_up_dn (a x up dn : Int) (hx : bits .and .i64 a 4294967295 = x) (r1 : Hid (unI 141 x = (up, 0))) (r2 : Hid (unI 142 x = (dn, 0))) (r3 : Hid (unI 143 x = (up, 0))) (r4 : Hid (unI 144 x = (dn, 0))) (r5 : Hid (binI 91 x x = (1, 0))) (s10 : Hid (unI 141 up = (up, 0))) (s11 : Hid (unI 142 up = (up, 0))) (s12 : Hid (unI 143 up = (up, 0))) (s13 : Hid (unI 144 up = (up, 0))) (s20 : Hid (unI 141 dn = (dn, 0))) (s21 : Hid (unI 142 dn = (dn, 0))) (s22 : Hid (unI 143 dn = (dn, 0))) (s23 : Hid (unI 144 dn = (dn, 0))) (r6 : Hid (binI 95 dn x = (1, 0))) (r7 : Hid (binI 96 up x = (1, 0))) (w : World) :
    Calls Try.prog 6 #[.int .i64 a] w fun e w' => e = .returned (.bool true) ∧ Grown w w' := by
  go_enter Try.func6, Try.ntmps6
  go_wp2_with fail
  refine (awake_any _).mono ?_
  rintro e w' ⟨rfl, bs43, n43, rfl⟩
  go_wp2_with fail
  refine (un_eq r1.out _).mono ?_
  rintro e w' ⟨rfl, bs44, n44, rfl⟩
  go_wp2_with fail
  refine (un_eq r2.out _).mono ?_
  rintro e w' ⟨rfl, bs45, n45, rfl⟩
  go_wp2_with fail
  refine (un_eq r3.out _).mono ?_
  rintro e w' ⟨rfl, bs46, n46, rfl⟩
  go_wp2_with fail
  refine (un_eq r4.out _).mono ?_
  rintro e w' ⟨rfl, bs47, n47, rfl⟩
  go_wp2_with fail
  refine (cmp_eq (by decide) r5.out _).mono ?_
  rintro e w' ⟨rfl, rfl⟩
  go_wp2
  refine wp_loop_rounds 5 ?_
  rw [rounds_succ]
  go_wp2
  refine wp_loop_rounds 5 ?_
  rw [rounds_succ]
  go_wp2_with fail
  refine (un_eq s10.out _).mono ?_
  rintro e w' ⟨rfl, bs48, n48, rfl⟩
  go_wp2
  rw [rounds_succ]
  go_wp2_with fail
  refine (un_eq s11.out _).mono ?_
  rintro e w' ⟨rfl, bs49, n49, rfl⟩
  go_wp2
  rw [rounds_succ]
  go_wp2_with fail
  refine (un_eq s12.out _).mono ?_
  rintro e w' ⟨rfl, bs50, n50, rfl⟩
  go_wp2
  rw [rounds_succ]
  go_wp2_with fail
  refine (un_eq s13.out _).mono ?_
  rintro e w' ⟨rfl, bs51, n51, rfl⟩
  go_wp2
  rw [rounds_succ]
  go_wp2
  rw [rounds_succ]
  go_wp2
  refine wp_loop_rounds 5 ?_
  rw [rounds_succ]
  go_wp2_with fail
  refine (un_eq s20.out _).mono ?_
  rintro e w' ⟨rfl, bs52, n52, rfl⟩
  go_wp2
  rw [rounds_succ]
  go_wp2_with fail
  refine (un_eq s21.out _).mono ?_
  rintro e w' ⟨rfl, bs53, n53, rfl⟩
  go_wp2
  rw [rounds_succ]
  go_wp2_with fail
  refine (un_eq s22.out _).mono ?_
  rintro e w' ⟨rfl, bs54, n54, rfl⟩
  go_wp2
  rw [rounds_succ]
  go_wp2_with fail
  refine (un_eq s23.out _).mono ?_
  rintro e w' ⟨rfl, bs55, n55, rfl⟩
  go_wp2
  rw [rounds_succ]
  go_wp2
  rw [rounds_succ]
  go_wp2
  refine wp_loop_rounds 5 ?_
  rw [rounds_succ]
  go_wp2_with fail
  refine (un_eq s10.out _).mono ?_
  rintro e w' ⟨rfl, bs56, n56, rfl⟩
  go_wp2
  rw [rounds_succ]
  go_wp2_with fail
  refine (un_eq s11.out _).mono ?_
  rintro e w' ⟨rfl, bs57, n57, rfl⟩
  go_wp2
  rw [rounds_succ]
  go_wp2_with fail
  refine (un_eq s12.out _).mono ?_
  rintro e w' ⟨rfl, bs58, n58, rfl⟩
  go_wp2
  rw [rounds_succ]
  go_wp2_with fail
  refine (un_eq s13.out _).mono ?_
  rintro e w' ⟨rfl, bs59, n59, rfl⟩
  go_wp2
  rw [rounds_succ]
  go_wp2
  rw [rounds_succ]
  go_wp2
  refine wp_loop_rounds 5 ?_
  rw [rounds_succ]
  go_wp2_with fail
  refine (un_eq s20.out _).mono ?_
  rintro e w' ⟨rfl, bs60, n60, rfl⟩
  go_wp2
  rw [rounds_succ]
  go_wp2_with fail
  refine (un_eq s21.out _).mono ?_
  rintro e w' ⟨rfl, bs61, n61, rfl⟩
  go_wp2
  rw [rounds_succ]
  go_wp2_with fail
  refine (un_eq s22.out _).mono ?_
  rintro e w' ⟨rfl, bs62, n62, rfl⟩
  go_wp2
  rw [rounds_succ]
  go_wp2_with fail
  refine (un_eq s23.out _).mono ?_
  rintro e w' ⟨rfl, bs63, n63, rfl⟩
  go_wp2
  rw [rounds_succ]
  go_wp2
  rw [rounds_succ]
  go_wp2_with fail
  refine (cmp_eq (by decide) r6.out _).mono ?_
  rintro e w' ⟨rfl, rfl⟩
  go_wp2_with fail
  refine (cmp_eq (by decide) r7.out _).mono ?_
  rintro e w' ⟨rfl, rfl⟩
  go_wp2
  all_goals
    go_ret
    exact ⟨rfl, (later_grown (by repeat (first | exact Later.refl _ | refine Later.alloc ?_ | refine Later.far ?_ | refine Later.drewN ?_ | refine Later.drew ?_)))⟩
set_option maxRecDepth 100000 in
set_option maxHeartbeats 2000000 in
theorem c_dn_up (a x up dn : Int) (hx : bits .and .i64 a 4294967295 = x) (r1 : Hid (unI 141 x = (up, 0))) (r2 : Hid (unI 142 x = (dn, 0))) (r3 : Hid (unI 143 x = (dn, 0))) (r4 : Hid (unI 144 x = (up, 0))) (r5 : Hid (binI 91 x x = (1, 0))) (s10 : Hid (unI 141 up = (up, 0))) (s11 : Hid (unI 142 up = (up, 0))) (s12 : Hid (unI 143 up = (up, 0))) (s13 : Hid (unI 144 up = (up, 0))) (s20 : Hid (unI 141 dn = (dn, 0))) (s21 : Hid (unI 142 dn = (dn, 0))) (s22 : Hid (unI 143 dn = (dn, 0))) (s23 : Hid (unI 144 dn = (dn, 0))) (r6 : Hid (binI 95 dn x = (1, 0))) (r7 : Hid (binI 96 up x = (1, 0))) (w : World) :
    Calls Try.prog 6 #[.int .i64 a] w fun e w' => e = .returned (.bool true) ∧ Grown w w' := by
  go_enter Try.func6, Try.ntmps6
  go_wp2_with fail
  refine (awake_any _).mono ?_
  rintro e w' ⟨rfl, bs64, n64, rfl⟩
  go_wp2_with fail
  refine (un_eq r1.out _).mono ?_
  rintro e w' ⟨rfl, bs65, n65, rfl⟩
  go_wp2_with fail
  refine (un_eq r2.out _).mono ?_
  rintro e w' ⟨rfl, bs66, n66, rfl⟩
  go_wp2_with fail
  refine (un_eq r3.out _).mono ?_
  rintro e w' ⟨rfl, bs67, n67, rfl⟩
  go_wp2_with fail
  refine (un_eq r4.out _).mono ?_
  rintro e w' ⟨rfl, bs68, n68, rfl⟩
  go_wp2_with fail
  refine (cmp_eq (by decide) r5.out _).mono ?_
  rintro e w' ⟨rfl, rfl⟩
  go_wp2
  refine wp_loop_rounds 5 ?_
  rw [rounds_succ]
  go_wp2
  refine wp_loop_rounds 5 ?_
  rw [rounds_succ]
  go_wp2_with fail
  refine (un_eq s10.out _).mono ?_
  rintro e w' ⟨rfl, bs69, n69, rfl⟩
  go_wp2
  rw [rounds_succ]
  go_wp2_with fail
  refine (un_eq s11.out _).mono ?_
  rintro e w' ⟨rfl, bs70, n70, rfl⟩
  go_wp2
  rw [rounds_succ]
  go_wp2_with fail
  refine (un_eq s12.out _).mono ?_
  rintro e w' ⟨rfl, bs71, n71, rfl⟩
  go_wp2
  rw [rounds_succ]
  go_wp2_with fail
  refine (un_eq s13.out _).mono ?_
  rintro e w' ⟨rfl, bs72, n72, rfl⟩
  go_wp2
  rw [rounds_succ]
  go_wp2
  rw [rounds_succ]
  go_wp2
  refine wp_loop_rounds 5 ?_
  rw [rounds_succ]
  go_wp2_with fail
  refine (un_eq s20.out _).mono ?_
  rintro e w' ⟨rfl, bs73, n73, rfl⟩
  go_wp2
  rw [rounds_succ]
  go_wp2_with fail
  refine (un_eq s21.out _).mono ?_
  rintro e w' ⟨rfl, bs74, n74, rfl⟩
  go_wp2
  rw [rounds_succ]
  go_wp2_with fail
  refine (un_eq s22.out _).mono ?_
  rintro e w' ⟨rfl, bs75, n75, rfl⟩
  go_wp2
  rw [rounds_succ]
  go_wp2_with fail
  refine (un_eq s23.out _).mono ?_
  rintro e w' ⟨rfl, bs76, n76, rfl⟩
  go_wp2
  rw [rounds_succ]
  go_wp2
  rw [rounds_succ]
  go_wp2
  refine wp_loop_rounds 5 ?_
  rw [rounds_succ]
  go_wp2_with fail
  refine (un_eq s20.out _).mono ?_
  rintro e w' ⟨rfl, bs77, n77, rfl⟩
  go_wp2
  rw [rounds_succ]
  go_wp2_with fail
  refine (un_eq s21.out _).mono ?_
  rintro e w' ⟨rfl, bs78, n78, rfl⟩
  go_wp2
  rw [rounds_succ]
  go_wp2_with fail
  refine (un_eq s22.out _).mono ?_
  rintro e w' ⟨rfl, bs79, n79, rfl⟩
  go_wp2
  rw [rounds_succ]
  go_wp2_with fail
  refine (un_eq s23.out _).mono ?_
  rintro e w' ⟨rfl, bs80, n80, rfl⟩
  go_wp2
  rw [rounds_succ]
  go_wp2
  rw [rounds_succ]
  go_wp2
  refine wp_loop_rounds 5 ?_
  rw [rounds_succ]
  go_wp2_with fail
  refine (un_eq s10.out _).mono ?_
  rintro e w' ⟨rfl, bs81, n81, rfl⟩
  go_wp2
  rw [rounds_succ]
  go_wp2_with fail
  refine (un_eq s11.out _).mono ?_
  rintro e w' ⟨rfl, bs82, n82, rfl⟩
  go_wp2
  rw [rounds_succ]
  go_wp2_with fail
  refine (un_eq s12.out _).mono ?_
  rintro e w' ⟨rfl, bs83, n83, rfl⟩
  go_wp2
  rw [rounds_succ]
  go_wp2_with fail
  refine (un_eq s13.out _).mono ?_
  rintro e w' ⟨rfl, bs84, n84, rfl⟩
  go_wp2
  rw [rounds_succ]
  go_wp2
  rw [rounds_succ]
  go_wp2_with fail
  refine (cmp_eq (by decide) r6.out _).mono ?_
  rintro e w' ⟨rfl, rfl⟩
  go_wp2_with fail
  refine (cmp_eq (by decide) r7.out _).mono ?_
  rintro e w' ⟨rfl, rfl⟩
  go_wp2
  all_goals
    go_ret
    exact ⟨rfl, (later_grown (by repeat (first | exact Later.refl _ | refine Later.alloc ?_ | refine Later.far ?_ | refine Later.drewN ?_ | refine Later.drew ?_)))⟩
set_option maxRecDepth 100000 in
set_option maxHeartbeats 2000000 in
theorem c_dn_dn (a x up dn : Int) (hx : bits .and .i64 a 4294967295 = x) (r1 : Hid (unI 141 x = (up, 0))) (r2 : Hid (unI 142 x = (dn, 0))) (r3 : Hid (unI 143 x = (dn, 0))) (r4 : Hid (unI 144 x = (dn, 0))) (r5 : Hid (binI 91 x x = (1, 0))) (s10 : Hid (unI 141 up = (up, 0))) (s11 : Hid (unI 142 up = (up, 0))) (s12 : Hid (unI 143 up = (up, 0))) (s13 : Hid (unI 144 up = (up, 0))) (s20 : Hid (unI 141 dn = (dn, 0))) (s21 : Hid (unI 142 dn = (dn, 0))) (s22 : Hid (unI 143 dn = (dn, 0))) (s23 : Hid (unI 144 dn = (dn, 0))) (r6 : Hid (binI 95 dn x = (1, 0))) (r7 : Hid (binI 96 up x = (1, 0))) (w : World) :
    Calls Try.prog 6 #[.int .i64 a] w fun e w' => e = .returned (.bool true) ∧ Grown w w' := by
  go_enter Try.func6, Try.ntmps6
  go_wp2_with fail
  refine (awake_any _).mono ?_
  rintro e w' ⟨rfl, bs85, n85, rfl⟩
  go_wp2_with fail
  refine (un_eq r1.out _).mono ?_
  rintro e w' ⟨rfl, bs86, n86, rfl⟩
  go_wp2_with fail
  refine (un_eq r2.out _).mono ?_
  rintro e w' ⟨rfl, bs87, n87, rfl⟩
  go_wp2_with fail
  refine (un_eq r3.out _).mono ?_
  rintro e w' ⟨rfl, bs88, n88, rfl⟩
  go_wp2_with fail
  refine (un_eq r4.out _).mono ?_
  rintro e w' ⟨rfl, bs89, n89, rfl⟩
  go_wp2_with fail
  refine (cmp_eq (by decide) r5.out _).mono ?_
  rintro e w' ⟨rfl, rfl⟩
  go_wp2
  refine wp_loop_rounds 5 ?_
  rw [rounds_succ]
  go_wp2
  refine wp_loop_rounds 5 ?_
  rw [rounds_succ]
  go_wp2_with fail
  refine (un_eq s10.out _).mono ?_
  rintro e w' ⟨rfl, bs90, n90, rfl⟩
  go_wp2
  rw [rounds_succ]
  go_wp2_with fail
  refine (un_eq s11.out _).mono ?_
  rintro e w' ⟨rfl, bs91, n91, rfl⟩
  go_wp2
  rw [rounds_succ]
  go_wp2_with fail
  refine (un_eq s12.out _).mono ?_
  rintro e w' ⟨rfl, bs92, n92, rfl⟩
  go_wp2
  rw [rounds_succ]
  go_wp2_with fail
  refine (un_eq s13.out _).mono ?_
  rintro e w' ⟨rfl, bs93, n93, rfl⟩
  go_wp2
  rw [rounds_succ]
  go_wp2
  rw [rounds_succ]
  go_wp2
  refine wp_loop_rounds 5 ?_
  rw [rounds_succ]
  go_wp2_with fail
  refine (un_eq s20.out _).mono ?_
  rintro e w' ⟨rfl, bs94, n94, rfl⟩
  go_wp2
  rw [rounds_succ]
  go_wp2_with fail
  refine (un_eq s21.out _).mono ?_
  rintro e w' ⟨rfl, bs95, n95, rfl⟩
  go_wp2
  rw [rounds_succ]
  go_wp2_with fail
  refine (un_eq s22.out _).mono ?_
  rintro e w' ⟨rfl, bs96, n96, rfl⟩
  go_wp2
  rw [rounds_succ]
  go_wp2_with fail
  refine (un_eq s23.out _).mono ?_
  rintro e w' ⟨rfl, bs97, n97, rfl⟩
  go_wp2
  rw [rounds_succ]
  go_wp2
  rw [rounds_succ]
  go_wp2
  refine wp_loop_rounds 5 ?_
  rw [rounds_succ]
  go_wp2_with fail
  refine (un_eq s20.out _).mono ?_
  rintro e w' ⟨rfl, bs98, n98, rfl⟩
  go_wp2
  rw [rounds_succ]
  go_wp2_with fail
  refine (un_eq s21.out _).mono ?_
  rintro e w' ⟨rfl, bs99, n99, rfl⟩
  go_wp2
  rw [rounds_succ]
  go_wp2_with fail
  refine (un_eq s22.out _).mono ?_
  rintro e w' ⟨rfl, bs100, n100, rfl⟩
  go_wp2
  rw [rounds_succ]
  go_wp2_with fail
  refine (un_eq s23.out _).mono ?_
  rintro e w' ⟨rfl, bs101, n101, rfl⟩
  go_wp2
  rw [rounds_succ]
  go_wp2
  rw [rounds_succ]
  go_wp2
  refine wp_loop_rounds 5 ?_
  rw [rounds_succ]
  go_wp2_with fail
  refine (un_eq s20.out _).mono ?_
  rintro e w' ⟨rfl, bs102, n102, rfl⟩
  go_wp2
  rw [rounds_succ]
  go_wp2_with fail
  refine (un_eq s21.out _).mono ?_
  rintro e w' ⟨rfl, bs103, n103, rfl⟩
  go_wp2
  rw [rounds_succ]
  go_wp2_with fail
  refine (un_eq s22.out _).mono ?_
  rintro e w' ⟨rfl, bs104, n104, rfl⟩
  go_wp2
  rw [rounds_succ]
  go_wp2_with fail
  refine (un_eq s23.out _).mono ?_
  rintro e w' ⟨rfl, bs105, n105, rfl⟩
  go_wp2
  rw [rounds_succ]
  go_wp2
  rw [rounds_succ]
  go_wp2_with fail
  refine (cmp_eq (by decide) r6.out _).mono ?_
  rintro e w' ⟨rfl, rfl⟩
  go_wp2_with fail
  refine (cmp_eq (by decide) r7.out _).mono ?_
  rintro e w' ⟨rfl, rfl⟩
  go_wp2
  all_goals
    go_ret
    exact ⟨rfl, (later_grown (by repeat (first | exact Later.refl _ | refine Later.alloc ?_ | refine Later.far ?_ | refine Later.drewN ?_ | refine Later.drew ?_)))⟩
theorem hbig : 2 * sf.binade * 2 ^ (-sf.leastPlace).toNat ≤ FM.val sf sf.infRung := by
  obtain ⟨N, hN, hv⟩ := FM.val_inf_single
  have hl : sf.leastPlace = -149 := FM.least_single
  have hv' : FM.val sf sf.infRung = 2 ^ N := hv
  rw [hv', hl, show 2 * sf.binade = 2 ^ 24 from by decide +kernel, ← Nat.pow_add]
  exact Nat.pow_le_pow_right (by decide) (by rw [hN]; decide)
theorem hleast : sf.leastPlace ≤ 0 := by decide +kernel
theorem whole_inf_word (way : Ieee.Toward) (X : Nat) (h : X = 2139095040 ∨ X = 4286578688) : FM.wholeW sf way X = X := by
  rcases h with rfl | rfl <;> cases way <;> decide +kernel
/-- what there is to know of the four whole numbers -/
theorem facts (X : Nat) (hXl : X < 4294967296) (hn : ¬ isN sf X) :
    (∀ way way', FM.wholeW sf way' (FM.wholeW sf way X) = FM.wholeW sf way X) ∧ (sf.order (FM.wholeW sf .down X) X = some .lt ∨ sf.order (FM.wholeW sf .down X) X = some .eq) ∧
    (sf.order (FM.wholeW sf .up X) X = some .gt ∨ sf.order (FM.wholeW sf .up X) X = some .eq) ∧ (FM.wholeW sf .zero X = FM.wholeW sf .up X ∨ FM.wholeW sf .zero X = FM.wholeW sf .down X) ∧
    (FM.wholeW sf .even X = FM.wholeW sf .up X ∨ FM.wholeW sf .even X = FM.wholeW sf .down X) := by
  rcases FM.fin_or_inf sf X hn with hf | hf
  · have hw := FM.word_parts sf X (sw2 X hXl)
    generalize hs : FM.sg sf X = s at hw
    generalize hr : FM.rg sf X = r at hw hf
    have hsw : sf.infRung < sf.signWeight := FM.sw_single
    obtain ⟨a1, a2, a3, a4⟩ := FM.whole_about sf s r hf hleast
    have e : ∀ way, FM.wholeW sf way X = sf.word s (FM.near sf (FM.cutv sf way s r) 0) := by
      intro way; rw [← hw]; exact FM.whole_word sf way s r hf
    have ho : ∀ R, R ≤ sf.infRung → sf.order (sf.word s R) X = some (compare (FM.key s R) (FM.key s r)) := by
      intro R hR
      have h1 := FM.rg_word sf s R (by omega)
      have h2 := FM.sg_word sf s R (by omega)
      rw [FM.order_key sf hsf _ X (by rw [h1]; exact hR) (by omega), h1, h2, hs, hr]
    refine ⟨?_, ?_, ?_, ?_, ?_⟩
    · intro way way'
      rw [← hw]
      exact FM.whole_again sf way way' s r hf hleast (by decide) hbig
    · rw [e, ho _ (FM.near_inf sf _ _)]
      rcases Int.lt_or_eq_of_le a1 with h | h
      · exact Or.inl (by rw [FM.cmp_lt h])
      · exact Or.inr (by rw [FM.cmp_eq h])
    · rw [e, ho _ (FM.near_inf sf _ _)]
      rcases Int.lt_or_eq_of_le a2 with h | h
      · exact Or.inl (by rw [FM.cmp_gt h])
      · exact Or.inr (by rw [FM.cmp_eq h.symm])
    · rw [e, e, e]
      rcases a3 with h | h
      · exact Or.inl (by rw [h])
      · exact Or.inr (by rw [h])
    · rw [e, e, e]
      rcases a4 with h | h
      · exact Or.inl (by rw [h])
      · exact Or.inr (by rw [h])
  · have hi := inf_cases X hXl hf
    have e : ∀ way, FM.wholeW sf way X = X := fun way => whole_inf_word way X hi
    refine ⟨fun way way' => by rw [e, e], ?_, ?_, ?_, ?_⟩
    · rw [e]; exact Or.inr (FM.order_self sf hsf X hn)
    · rw [e]; exact Or.inr (FM.order_self sf hsf X hn)
    · rw [e, e]; exact Or.inl rfl
    · rw [e, e]; exact Or.inl rfl
theorem four (V : Nat) (hV : V < 4294967296) (h : ∀ way', FM.wholeW sf way' V = V) : unI 141 V = ((V : Int), 0) ∧ unI 142 V = ((V : Int), 0) ∧ unI 143 V = ((V : Int), 0) ∧ unI 144 V = ((V : Int), 0) := by
  refine ⟨?_, ?_, ?_, ?_⟩
  · rw [uI 141 V hV (by decide), unW_141, h]
  · rw [uI 142 V hV (by decide), unW_142, h]
  · rw [uI 143 V hV (by decide), unW_143, h]
  · rw [uI 144 V hV (by decide), unW_144, h]
theorem nan4 : unI 141 2143289344 = (2143289344, 0) ∧ unI 142 2143289344 = (2143289344, 0) ∧ unI 143 2143289344 = (2143289344, 0) ∧ unI 144 2143289344 = (2143289344, 0) := by decide +kernel
theorem walk (a0 : Int) (w0 : (Lit.int .i64 a0).wf = true) (w : World) :
    Calls Try.prog 6 #[.int .i64 a0] w fun e w' => e = .returned (.bool true) ∧ Grown w w' := by
  obtain ⟨X, hX, hXl⟩ := low_word a0
  have q1 := uI 141 X hXl (by decide)
  have q2 := uI 142 X hXl (by decide)
  have q3 := uI 143 X hXl (by decide)
  have q4 := uI 144 X hXl (by decide)
  rw [unW_141] at q1
  rw [unW_142] at q2
  rw [unW_143] at q3
  rw [unW_144] at q4
  by_cases hn : isN sf X
  · rw [whole_nan _ X hn, qn32] at q1 q2 q3 q4
    obtain ⟨n1, n2, n3, n4⟩ := nan4
    exact nanC a0 X hX q1 q2 q3 q4 (b_nan X hXl hn).1 n1 n2 n3 n4 w
  obtain ⟨f1, f2, f3, f4, f5⟩ := facts X hXl hn
  have lU := (whole_ok .up X hn).2
  have lD := (whole_ok .down X hn).2
  have gU := four _ lU (f1 .up)
  have gD := four _ lD (f1 .down)
  have q5 := (b_num X hXl hn).1
  have q6 := bI 95 _ X lD hXl (by decide)
  have q7 := bI 96 _ X lU hXl (by decide)
  rw [f_le, if_pos f2] at q6
  rw [f_ge, if_pos f3] at q7
  clear f1 f2 f3
  generalize FM.wholeW sf .up X = U at *
  generalize FM.wholeW sf .down X = D at *
  obtain ⟨u1, u2, u3, u4⟩ := gU
  obtain ⟨d1, d2, d3, d4⟩ := gD
  rcases f4 with e4 | e4 <;> rcases f5 with e5 | e5 <;> rw [e4] at q3 <;> rw [e5] at q4
  · exact c_up_up a0 X U D hX q1 q2 q3 q4 q5 u1 u2 u3 u4 d1 d2 d3 d4 q6 q7 w
  · exact c_up_dn a0 X U D hX q1 q2 q3 q4 q5 u1 u2 u3 u4 d1 d2 d3 d4 q6 q7 w
  · exact c_dn_up a0 X U D hX q1 q2 q3 q4 q5 u1 u2 u3 u4 d1 d2 d3 d4 q6 q7 w
  · exact c_dn_dn a0 X U D hX q1 q2 q3 q4 q5 u1 u2 u3 u4 d1 d2 d3 d4 q6 q7 w

/-! ### THE ROW's STEP: WRITTEN OUT: LEAVE IT -/
set_option maxRecDepth 100000 in
theorem lifted (os : Os) (started : os.Started) (H : Type) (enc : TypeId × Value → H) :
    ReturnsInHanded {} Try.checked os 6 .any (Rows.f32WholeSpec.pre6 enc Try.prog Try.f6 Rows.f32WholeRow.domain false) (Rows.f32WholeSpec.post enc Try.prog Try.f6 false true false false) := by
  refine returnsInHanded_of_change (C := Try.checked) own started (by kernel_rfl) Try.func6
    (ChangeSpec.witness6 (enc := enc) (C := Try.checked) false ⟨#[], #[.int .i64 0], []⟩ 8 (by kernel_rfl) (by kernel_rfl) (by kernel_rfl) (by kernel_rfl)) ?_
  intro W base args ds gs before hval0 hW hcnd _
  have hval : ∀ (j : Nat) t v, Try.f6.params[j]? = some t → args[j]? = some v → Value.okWide Try.prog W .any base t v := hval0
  have hW' := hW
  obtain ⟨p, q, hA0, hV, rfl, hfz, hnd⟩ := hW
  have hA : DataW.TrodAll enc Try.prog W 0 (fun _ => true) true Try.f6.params.toList args.toList ds p := hA0
  rw [Try.params6] at hA hval
  obtain ⟨v0, vs0, d0, ds0, p0, q0, hargs, rfl, rfl, h0, r0⟩ := trodAll_cons hA
  obtain ⟨rfl, rfl, rfl⟩ := trodAll_nil r0
  obtain rfl : args = #[v0] := by cases args; simp_all
  obtain ⟨rfl, rfl⟩ := trodVars_none hV
  obtain ⟨a0, rfl, rfl, rfl, w0⟩ := open_int Try.underlying3 (hval 0 3 v0 rfl rfl) h0
  clear hA0 hval0
  simp only [List.append_nil] at hW'
  refine (walk a0 w0 W).mono fun e W' ⟨he, hg⟩ => ?_
  subst he
  exact ⟨_, rfl, post_of_same (pa := []) (pv := []) hW' (fun _ _ _ => (trodAll_cons_mk (shut_bool Try.underlying4 _) trodAll_mk0)) (fun sp _ => (trodAll_cons_mk (shut_int Try.underlying3 w0) trodAll_mk0)) (fun _ _ => rfl) rfl
    (hg.frame _) hg.2.1 (ok_one (by kernel_rfl) rfl (okWide_bool_mk Try.underlying4 _))⟩

theorem over : Rows.f32WholeRow.holds Try.pinned (OpenSpec.ofChange Rows.f32WholeSpec) :=
  OpenClaim.holds_of_wide 6 Try.f6 rfl rfl rfl rfl rfl rfl rfl ⟨rfl, rfl, rfl, rfl, rfl⟩ rfl rfl rfl rfl rfl (by kernel_rfl) Try.func6 (by kernel_rfl)
    (of_decide_eq_true (by kernel_rfl)) (by unfold Func.isWrapper; first | (rw [if_pos (by decide +kernel)]; kernel_rfl) | (rw [if_neg (by decide +kernel)]; exact ⟨rfl, rfl⟩))
    (fun os started H enc _ => lifted os started H enc)

theorem proved : Rows.F32WholeSaid := over
end Go.Proofs.Ytpbccpdiiijinaa.f32Whole
namespace Go.Proofs.Ytpbccpdiiijinaa
theorem f32Whole_holds : Rows.F32WholeSaid := f32Whole.proved
#print axioms f32Whole_holds
end Go.Proofs.Ytpbccpdiiijinaa

