/- 'F64Whole' of package peloruslaw5 returns true at every int: what was rounded to a whole number is it; down is not above, up not below; the others are one of the two. No condition. -/
import Derived.Test.YtobhihggdoccoaaL64A
import Derived.OpenShut
import Derived.LoopN
import Derived.RowKit3
namespace Go.Proofs.Ytobhihggdoccoaa.f64Whole
open Go.ChangeShapes Go.WideShapes Go.ChangeAt Go.RowKit
open Go.FM (isN fixn qn sw)
set_option linter.unusedVariables false

theorem own : ownKnob Try.prog.godebug = none := by kernel_rfl

set_option maxRecDepth 100000 in
set_option maxHeartbeats 2000000 in
theorem nanC (x : Int) (r1 : Hid (unI 155 x = (9221120237041090560, 0))) (r2 : Hid (unI 156 x = (9221120237041090560, 0))) (r3 : Hid (unI 157 x = (9221120237041090560, 0))) (r4 : Hid (unI 158 x = (9221120237041090560, 0))) (r5 : Hid (binI 97 x x = (0, 0))) (s10 : Hid (unI 155 9221120237041090560 = (9221120237041090560, 0))) (s11 : Hid (unI 156 9221120237041090560 = (9221120237041090560, 0))) (s12 : Hid (unI 157 9221120237041090560 = (9221120237041090560, 0))) (s13 : Hid (unI 158 9221120237041090560 = (9221120237041090560, 0))) (w : World) :
    Calls Try.prog 8 #[.int .i64 x] w fun e w' => e = .returned (.bool true) ∧ Grown w w' := by
  go_enter Try.func8, Try.ntmps8
  go_wp2_with fail
  refine (awake_any _).mono ?_
  rintro e w' ⟨rfl, bs224, n224, rfl⟩
  go_wp2_with fail
  refine (un_eq r1.out _).mono ?_
  rintro e w' ⟨rfl, bs225, n225, rfl⟩
  go_wp2_with fail
  refine (un_eq r2.out _).mono ?_
  rintro e w' ⟨rfl, bs226, n226, rfl⟩
  go_wp2_with fail
  refine (un_eq r3.out _).mono ?_
  rintro e w' ⟨rfl, bs227, n227, rfl⟩
  go_wp2_with fail
  refine (un_eq r4.out _).mono ?_
  rintro e w' ⟨rfl, bs228, n228, rfl⟩
  go_wp2_with fail
  refine (cmp_eq (by decide) r5.out _).mono ?_
  rintro e w' ⟨rfl, rfl⟩
  go_wp2
  refine wp_loop_rounds 5 ?_
  rw [rounds_succ]
  go_wp2
  refine wp_loop_rounds 5 ?_
  rw [rounds_succ]
  go_wp2_with fail
  refine (un_eq s10.out _).mono ?_
  rintro e w' ⟨rfl, bs230, n230, rfl⟩
  go_wp2
  rw [rounds_succ]
  go_wp2_with fail
  refine (un_eq s11.out _).mono ?_
  rintro e w' ⟨rfl, bs231, n231, rfl⟩
  go_wp2
  rw [rounds_succ]
  go_wp2_with fail
  refine (un_eq s12.out _).mono ?_
  rintro e w' ⟨rfl, bs232, n232, rfl⟩
  go_wp2
  rw [rounds_succ]
  go_wp2_with fail
  refine (un_eq s13.out _).mono ?_
  rintro e w' ⟨rfl, bs233, n233, rfl⟩
  go_wp2
  rw [rounds_succ]
  go_wp2
  rw [rounds_succ]
  go_wp2
  refine wp_loop_rounds 5 ?_
  rw [rounds_succ]
  go_wp2_with fail
  refine (un_eq s10.out _).mono ?_
  rintro e w' ⟨rfl, bs234, n234, rfl⟩
  go_wp2
  rw [rounds_succ]
  go_wp2_with fail
  refine (un_eq s11.out _).mono ?_
  rintro e w' ⟨rfl, bs235, n235, rfl⟩
  go_wp2
  rw [rounds_succ]
  go_wp2_with fail
  refine (un_eq s12.out _).mono ?_
  rintro e w' ⟨rfl, bs236, n236, rfl⟩
  go_wp2
  rw [rounds_succ]
  go_wp2_with fail
  refine (un_eq s13.out _).mono ?_
  rintro e w' ⟨rfl, bs237, n237, rfl⟩
  go_wp2
  rw [rounds_succ]
  go_wp2
  rw [rounds_succ]
  go_wp2
  refine wp_loop_rounds 5 ?_
  rw [rounds_succ]
  go_wp2_with fail
  refine (un_eq s10.out _).mono ?_
  rintro e w' ⟨rfl, bs238, n238, rfl⟩
  go_wp2
  rw [rounds_succ]
  go_wp2_with fail
  refine (un_eq s11.out _).mono ?_
  rintro e w' ⟨rfl, bs239, n239, rfl⟩
  go_wp2
  rw [rounds_succ]
  go_wp2_with fail
  refine (un_eq s12.out _).mono ?_
  rintro e w' ⟨rfl, bs240, n240, rfl⟩
  go_wp2
  rw [rounds_succ]
  go_wp2_with fail
  refine (un_eq s13.out _).mono ?_
  rintro e w' ⟨rfl, bs241, n241, rfl⟩
  go_wp2
  rw [rounds_succ]
  go_wp2
  rw [rounds_succ]
  go_wp2
  refine wp_loop_rounds 5 ?_
  rw [rounds_succ]
  go_wp2_with fail
  refine (un_eq s10.out _).mono ?_
  rintro e w' ⟨rfl, bs242, n242, rfl⟩
  go_wp2
  rw [rounds_succ]
  go_wp2_with fail
  refine (un_eq s11.out _).mono ?_
  rintro e w' ⟨rfl, bs243, n243, rfl⟩
  go_wp2
  rw [rounds_succ]
  go_wp2_with fail
  refine (un_eq s12.out _).mono ?_
  rintro e w' ⟨rfl, bs244, n244, rfl⟩
  go_wp2
  rw [rounds_succ]
  go_wp2_with fail
  refine (un_eq s13.out _).mono ?_
  rintro e w' ⟨rfl, bs245, n245, rfl⟩
  go_wp2
  rw [rounds_succ]
  go_wp2
  rw [rounds_succ]
  go_wp2
  all_goals
    go_ret
    exact ⟨rfl, (later_grown (by repeat (first | exact Later.refl _ | refine Later.alloc ?_ | refine Later.far ?_ | refine Later.drewN ?_ | refine Later.drew ?_)))⟩
set_option maxRecDepth 100000 in
set_option maxHeartbeats 2000000 in
theorem c_up_up (x up dn : Int) (r1 : Hid (unI 155 x = (up, 0))) (r2 : Hid (unI 156 x = (dn, 0))) (r3 : Hid (unI 157 x = (up, 0))) (r4 : Hid (unI 158 x = (up, 0))) (r5 : Hid (binI 97 x x = (1, 0))) (s10 : Hid (unI 155 up = (up, 0))) (s11 : Hid (unI 156 up = (up, 0))) (s12 : Hid (unI 157 up = (up, 0))) (s13 : Hid (unI 158 up = (up, 0))) (s20 : Hid (unI 155 dn = (dn, 0))) (s21 : Hid (unI 156 dn = (dn, 0))) (s22 : Hid (unI 157 dn = (dn, 0))) (s23 : Hid (unI 158 dn = (dn, 0))) (r6 : Hid (binI 101 dn x = (1, 0))) (r7 : Hid (binI 102 up x = (1, 0))) (w : World) :
    Calls Try.prog 8 #[.int .i64 x] w fun e w' => e = .returned (.bool true) ∧ Grown w w' := by
  go_enter Try.func8, Try.ntmps8
  go_wp2_with fail
  refine (awake_any _).mono ?_
  rintro e w' ⟨rfl, bs246, n246, rfl⟩
  go_wp2_with fail
  refine (un_eq r1.out _).mono ?_
  rintro e w' ⟨rfl, bs247, n247, rfl⟩
  go_wp2_with fail
  refine (un_eq r2.out _).mono ?_
  rintro e w' ⟨rfl, bs248, n248, rfl⟩
  go_wp2_with fail
  refine (un_eq r3.out _).mono ?_
  rintro e w' ⟨rfl, bs249, n249, rfl⟩
  go_wp2_with fail
  refine (un_eq r4.out _).mono ?_
  rintro e w' ⟨rfl, bs250, n250, rfl⟩
  go_wp2_with fail
  refine (cmp_eq (by decide) r5.out _).mono ?_
  rintro e w' ⟨rfl, rfl⟩
  go_wp2
  refine wp_loop_rounds 5 ?_
  rw [rounds_succ]
  go_wp2
  refine wp_loop_rounds 5 ?_
  rw [rounds_succ]
  go_wp2_with fail
  refine (un_eq s10.out _).mono ?_
  rintro e w' ⟨rfl, bs252, n252, rfl⟩
  go_wp2
  rw [rounds_succ]
  go_wp2_with fail
  refine (un_eq s11.out _).mono ?_
  rintro e w' ⟨rfl, bs253, n253, rfl⟩
  go_wp2
  rw [rounds_succ]
  go_wp2_with fail
  refine (un_eq s12.out _).mono ?_
  rintro e w' ⟨rfl, bs254, n254, rfl⟩
  go_wp2
  rw [rounds_succ]
  go_wp2_with fail
  refine (un_eq s13.out _).mono ?_
  rintro e w' ⟨rfl, bs255, n255, rfl⟩
  go_wp2
  rw [rounds_succ]
  go_wp2
  rw [rounds_succ]
  go_wp2
  refine wp_loop_rounds 5 ?_
  rw [rounds_succ]
  go_wp2_with fail
  refine (un_eq s20.out _).mono ?_
  rintro e w' ⟨rfl, bs256, n256, rfl⟩
  go_wp2
  rw [rounds_succ]
  go_wp2_with fail
  refine (un_eq s21.out _).mono ?_
  rintro e w' ⟨rfl, bs257, n257, rfl⟩
  go_wp2
  rw [rounds_succ]
  go_wp2_with fail
  refine (un_eq s22.out _).mono ?_
  rintro e w' ⟨rfl, bs258, n258, rfl⟩
  go_wp2
  rw [rounds_succ]
  go_wp2_with fail
  refine (un_eq s23.out _).mono ?_
  rintro e w' ⟨rfl, bs259, n259, rfl⟩
  go_wp2
  rw [rounds_succ]
  go_wp2
  rw [rounds_succ]
  go_wp2
  refine wp_loop_rounds 5 ?_
  rw [rounds_succ]
  go_wp2_with fail
  refine (un_eq s10.out _).mono ?_
  rintro e w' ⟨rfl, bs260, n260, rfl⟩
  go_wp2
  rw [rounds_succ]
  go_wp2_with fail
  refine (un_eq s11.out _).mono ?_
  rintro e w' ⟨rfl, bs261, n261, rfl⟩
  go_wp2
  rw [rounds_succ]
  go_wp2_with fail
  refine (un_eq s12.out _).mono ?_
  rintro e w' ⟨rfl, bs262, n262, rfl⟩
  go_wp2
  rw [rounds_succ]
  go_wp2_with fail
  refine (un_eq s13.out _).mono ?_
  rintro e w' ⟨rfl, bs263, n263, rfl⟩
  go_wp2
  rw [rounds_succ]
  go_wp2
  rw [rounds_succ]
  go_wp2
  refine wp_loop_rounds 5 ?_
  rw [rounds_succ]
  go_wp2_with fail
  refine (un_eq s10.out _).mono ?_
  rintro e w' ⟨rfl, bs264, n264, rfl⟩
  go_wp2
  rw [rounds_succ]
  go_wp2_with fail
  refine (un_eq s11.out _).mono ?_
  rintro e w' ⟨rfl, bs265, n265, rfl⟩
  go_wp2
  rw [rounds_succ]
  go_wp2_with fail
  refine (un_eq s12.out _).mono ?_
  rintro e w' ⟨rfl, bs266, n266, rfl⟩
  go_wp2
  rw [rounds_succ]
  go_wp2_with fail
  refine (un_eq s13.out _).mono ?_
  rintro e w' ⟨rfl, bs267, n267, rfl⟩
  go_wp2
  rw [rounds_succ]
  go_wp2
  rw [rounds_succ]
  go_wp2_with fail
  refine (cmp_eq (by decide) r6.out _).mono ?_
  rintro e w' ⟨rfl, rfl⟩
  go_wp2_with fail
  refine (cmp_eq (by decide) r7.out _).mono ?_
  rintro e w' ⟨rfl, rfl⟩
  go_wp2
  all_goals
    go_ret
    exact ⟨rfl, (later_grown (by repeat (first | exact Later.refl _ | refine Later.alloc ?_ | refine Later.far ?_ | refine Later.drewN ?_ | refine Later.drew ?_)))⟩
set_option maxRecDepth 100000 in
set_option maxHeartbeats 2000000 in
theorem c_up_dn (x up dn : Int) (r1 : Hid (unI 155 x = (up, 0))) (r2 : Hid (unI 156 x = (dn, 0))) (r3 : Hid (unI 157 x = (up, 0))) (r4 : Hid (unI 158 x = (dn, 0))) (r5 : Hid (binI 97 x x = (1, 0))) (s10 : Hid (unI 155 up = (up, 0))) (s11 : Hid (unI 156 up = (up, 0))) (s12 : Hid (unI 157 up = (up, 0))) (s13 : Hid (unI 158 up = (up, 0))) (s20 : Hid (unI 155 dn = (dn, 0))) (s21 : Hid (unI 156 dn = (dn, 0))) (s22 : Hid (unI 157 dn = (dn, 0))) (s23 : Hid (unI 158 dn = (dn, 0))) (r6 : Hid (binI 101 dn x = (1, 0))) (r7 : Hid (binI 102 up x = (1, 0))) (w : World) :
    Calls Try.prog 8 #[.int .i64 x] w fun e w' => e = .returned (.bool true) ∧ Grown w w' := by
  go_enter Try.func8, Try.ntmps8
  go_wp2_with fail
  refine (awake_any _).mono ?_
  rintro e w' ⟨rfl, bs270, n270, rfl⟩
  go_wp2_with fail
  refine (un_eq r1.out _).mono ?_
  rintro e w' ⟨rfl, bs271, n271, rfl⟩
  go_wp2_with fail
  refine (un_eq r2.out _).mono ?_
  rintro e w' ⟨rfl, bs272, n272, rfl⟩
  go_wp2_with fail
  refine (un_eq r3.out _).mono ?_
  rintro e w' ⟨rfl, bs273, n273, rfl⟩
  go_wp2_with fail
  refine (un_eq r4.out _).mono ?_
  rintro e w' ⟨rfl, bs274, n274, rfl⟩
  go_wp2_with fail
  refine (cmp_eq (by decide) r5.out _).mono ?_
  rintro e w' ⟨rfl, rfl⟩
  go_wp2
  refine wp_loop_rounds 5 ?_
  rw [rounds_succ]
  go_wp2
  refine wp_loop_rounds 5 ?_
  rw [rounds_succ]
  go_wp2_with fail
  refine (un_eq s10.out _).mono ?_
  rintro e w' ⟨rfl, bs276, n276, rfl⟩
  go_wp2
  rw [rounds_succ]
  go_wp2_with fail
  refine (un_eq s11.out _).mono ?_
  rintro e w' ⟨rfl, bs277, n277, rfl⟩
  go_wp2
  rw [rounds_succ]
  go_wp2_with fail
  refine (un_eq s12.out _).mono ?_
  rintro e w' ⟨rfl, bs278, n278, rfl⟩
  go_wp2
  rw [rounds_succ]
  go_wp2_with fail
  refine (un_eq s13.out _).mono ?_
  rintro e w' ⟨rfl, bs279, n279, rfl⟩
  go_wp2
  rw [rounds_succ]
  go_wp2
  rw [rounds_succ]
  go_wp2
  refine wp_loop_rounds 5 ?_
  rw [rounds_succ]
  go_wp2_with fail
  refine (un_eq s20.out _).mono ?_
  rintro e w' ⟨rfl, bs280, n280, rfl⟩
  go_wp2
  rw [rounds_succ]
  go_wp2_with fail
  refine (un_eq s21.out _).mono ?_
  rintro e w' ⟨rfl, bs281, n281, rfl⟩
  go_wp2
  rw [rounds_succ]
  go_wp2_with fail
  refine (un_eq s22.out _).mono ?_
  rintro e w' ⟨rfl, bs282, n282, rfl⟩
  go_wp2
  rw [rounds_succ]
  go_wp2_with fail
  refine (un_eq s23.out _).mono ?_
  rintro e w' ⟨rfl, bs283, n283, rfl⟩
  go_wp2
  rw [rounds_succ]
  go_wp2
  rw [rounds_succ]
  go_wp2
  refine wp_loop_rounds 5 ?_
  rw [rounds_succ]
  go_wp2_with fail
  refine (un_eq s10.out _).mono ?_
  rintro e w' ⟨rfl, bs284, n284, rfl⟩
  go_wp2
  rw [rounds_succ]
  go_wp2_with fail
  refine (un_eq s11.out _).mono ?_
  rintro e w' ⟨rfl, bs285, n285, rfl⟩
  go_wp2
  rw [rounds_succ]
  go_wp2_with fail
  refine (un_eq s12.out _).mono ?_
  rintro e w' ⟨rfl, bs286, n286, rfl⟩
  go_wp2
  rw [rounds_succ]
  go_wp2_with fail
  refine (un_eq s13.out _).mono ?_
  rintro e w' ⟨rfl, bs287, n287, rfl⟩
  go_wp2
  rw [rounds_succ]
  go_wp2
  rw [rounds_succ]
  go_wp2
  refine wp_loop_rounds 5 ?_
  rw [rounds_succ]
  go_wp2_with fail
  refine (un_eq s20.out _).mono ?_
  rintro e w' ⟨rfl, bs288, n288, rfl⟩
  go_wp2
  rw [rounds_succ]
  go_wp2_with fail
  refine (un_eq s21.out _).mono ?_
  rintro e w' ⟨rfl, bs289, n289, rfl⟩
  go_wp2
  rw [rounds_succ]
  go_wp2_with fail
  refine (un_eq s22.out _).mono ?_
  rintro e w' ⟨rfl, bs290, n290, rfl⟩
  go_wp2
  rw [rounds_succ]
  go_wp2_with fail
  refine (un_eq s23.out _).mono ?_
  rintro e w' ⟨rfl, bs291, n291, rfl⟩
  go_wp2
  rw [rounds_succ]
  go_wp2
  rw [rounds_succ]
  go_wp2_with fail
  refine (cmp_eq (by decide) r6.out _).mono ?_
  rintro e w' ⟨rfl, rfl⟩
  go_wp2_with fail
  refine (cmp_eq (by decide) r7.out _).mono ?_
  rintro e w' ⟨rfl, rfl⟩
  go_wp2
  all_goals
    go_ret
    exact ⟨rfl, (later_grown (by repeat (first | exact Later.refl _ | refine Later.alloc ?_ | refine Later.far ?_ | refine Later.drewN ?_ | refine Later.drew ?_)))⟩
set_option maxRecDepth 100000 in
set_option maxHeartbeats 2000000 in
theorem c_dn_up (x up dn : Int) (r1 : Hid (unI 155 x = (up, 0))) (r2 : Hid (unI 156 x = (dn, 0))) (r3 : Hid (unI 157 x = (dn, 0))) (r4 : Hid (unI 158 x = (up, 0))) (r5 : Hid (binI 97 x x = (1, 0))) (s10 : Hid (unI 155 up = (up, 0))) (s11 : Hid (unI 156 up = (up, 0))) (s12 : Hid (unI 157 up = (up, 0))) (s13 : Hid (unI 158 up = (up, 0))) (s20 : Hid (unI 155 dn = (dn, 0))) (s21 : Hid (unI 156 dn = (dn, 0))) (s22 : Hid (unI 157 dn = (dn, 0))) (s23 : Hid (unI 158 dn = (dn, 0))) (r6 : Hid (binI 101 dn x = (1, 0))) (r7 : Hid (binI 102 up x = (1, 0))) (w : World) :
    Calls Try.prog 8 #[.int .i64 x] w fun e w' => e = .returned (.bool true) ∧ Grown w w' := by
  go_enter Try.func8, Try.ntmps8
  go_wp2_with fail
  refine (awake_any _).mono ?_
  rintro e w' ⟨rfl, bs294, n294, rfl⟩
  go_wp2_with fail
  refine (un_eq r1.out _).mono ?_
  rintro e w' ⟨rfl, bs295, n295, rfl⟩
  go_wp2_with fail
  refine (un_eq r2.out _).mono ?_
  rintro e w' ⟨rfl, bs296, n296, rfl⟩
  go_wp2_with fail
  refine (un_eq r3.out _).mono ?_
  rintro e w' ⟨rfl, bs297, n297, rfl⟩
  go_wp2_with fail
  refine (un_eq r4.out _).mono ?_
  rintro e w' ⟨rfl, bs298, n298, rfl⟩
  go_wp2_with fail
  refine (cmp_eq (by decide) r5.out _).mono ?_
  rintro e w' ⟨rfl, rfl⟩
  go_wp2
  refine wp_loop_rounds 5 ?_
  rw [rounds_succ]
  go_wp2
  refine wp_loop_rounds 5 ?_
  rw [rounds_succ]
  go_wp2_with fail
  refine (un_eq s10.out _).mono ?_
  rintro e w' ⟨rfl, bs300, n300, rfl⟩
  go_wp2
  rw [rounds_succ]
  go_wp2_with fail
  refine (un_eq s11.out _).mono ?_
  rintro e w' ⟨rfl, bs301, n301, rfl⟩
  go_wp2
  rw [rounds_succ]
  go_wp2_with fail
  refine (un_eq s12.out _).mono ?_
  rintro e w' ⟨rfl, bs302, n302, rfl⟩
  go_wp2
  rw [rounds_succ]
  go_wp2_with fail
  refine (un_eq s13.out _).mono ?_
  rintro e w' ⟨rfl, bs303, n303, rfl⟩
  go_wp2
  rw [rounds_succ]
  go_wp2
  rw [rounds_succ]
  go_wp2
  refine wp_loop_rounds 5 ?_
  rw [rounds_succ]
  go_wp2_with fail
  refine (un_eq s20.out _).mono ?_
  rintro e w' ⟨rfl, bs304, n304, rfl⟩
  go_wp2
  rw [rounds_succ]
  go_wp2_with fail
  refine (un_eq s21.out _).mono ?_
  rintro e w' ⟨rfl, bs305, n305, rfl⟩
  go_wp2
  rw [rounds_succ]
  go_wp2_with fail
  refine (un_eq s22.out _).mono ?_
  rintro e w' ⟨rfl, bs306, n306, rfl⟩
  go_wp2
  rw [rounds_succ]
  go_wp2_with fail
  refine (un_eq s23.out _).mono ?_
  rintro e w' ⟨rfl, bs307, n307, rfl⟩
  go_wp2
  rw [rounds_succ]
  go_wp2
  rw [rounds_succ]
  go_wp2
  refine wp_loop_rounds 5 ?_
  rw [rounds_succ]
  go_wp2_with fail
  refine (un_eq s20.out _).mono ?_
  rintro e w' ⟨rfl, bs308, n308, rfl⟩
  go_wp2
  rw [rounds_succ]
  go_wp2_with fail
  refine (un_eq s21.out _).mono ?_
  rintro e w' ⟨rfl, bs309, n309, rfl⟩
  go_wp2
  rw [rounds_succ]
  go_wp2_with fail
  refine (un_eq s22.out _).mono ?_
  rintro e w' ⟨rfl, bs310, n310, rfl⟩
  go_wp2
  rw [rounds_succ]
  go_wp2_with fail
  refine (un_eq s23.out _).mono ?_
  rintro e w' ⟨rfl, bs311, n311, rfl⟩
  go_wp2
  rw [rounds_succ]
  go_wp2
  rw [rounds_succ]
  go_wp2
  refine wp_loop_rounds 5 ?_
  rw [rounds_succ]
  go_wp2_with fail
  refine (un_eq s10.out _).mono ?_
  rintro e w' ⟨rfl, bs312, n312, rfl⟩
  go_wp2
  rw [rounds_succ]
  go_wp2_with fail
  refine (un_eq s11.out _).mono ?_
  rintro e w' ⟨rfl, bs313, n313, rfl⟩
  go_wp2
  rw [rounds_succ]
  go_wp2_with fail
  refine (un_eq s12.out _).mono ?_
  rintro e w' ⟨rfl, bs314, n314, rfl⟩
  go_wp2
  rw [rounds_succ]
  go_wp2_with fail
  refine (un_eq s13.out _).mono ?_
  rintro e w' ⟨rfl, bs315, n315, rfl⟩
  go_wp2
  rw [rounds_succ]
  go_wp2
  rw [rounds_succ]
  go_wp2_with fail
  refine (cmp_eq (by decide) r6.out _).mono ?_
  rintro e w' ⟨rfl, rfl⟩
  go_wp2_with fail
  refine (cmp_eq (by decide) r7.out _).mono ?_
  rintro e w' ⟨rfl, rfl⟩
  go_wp2
  all_goals
    go_ret
    exact ⟨rfl, (later_grown (by repeat (first | exact Later.refl _ | refine Later.alloc ?_ | refine Later.far ?_ | refine Later.drewN ?_ | refine Later.drew ?_)))⟩
set_option maxRecDepth 100000 in
set_option maxHeartbeats 2000000 in
theorem c_dn_dn (x up dn : Int) (r1 : Hid (unI 155 x = (up, 0))) (r2 : Hid (unI 156 x = (dn, 0))) (r3 : Hid (unI 157 x = (dn, 0))) (r4 : Hid (unI 158 x = (dn, 0))) (r5 : Hid (binI 97 x x = (1, 0))) (s10 : Hid (unI 155 up = (up, 0))) (s11 : Hid (unI 156 up = (up, 0))) (s12 : Hid (unI 157 up = (up, 0))) (s13 : Hid (unI 158 up = (up, 0))) (s20 : Hid (unI 155 dn = (dn, 0))) (s21 : Hid (unI 156 dn = (dn, 0))) (s22 : Hid (unI 157 dn = (dn, 0))) (s23 : Hid (unI 158 dn = (dn, 0))) (r6 : Hid (binI 101 dn x = (1, 0))) (r7 : Hid (binI 102 up x = (1, 0))) (w : World) :
    Calls Try.prog 8 #[.int .i64 x] w fun e w' => e = .returned (.bool true) ∧ Grown w w' := by
  go_enter Try.func8, Try.ntmps8
  go_wp2_with fail
  refine (awake_any _).mono ?_
  rintro e w' ⟨rfl, bs318, n318, rfl⟩
  go_wp2_with fail
  refine (un_eq r1.out _).mono ?_
  rintro e w' ⟨rfl, bs319, n319, rfl⟩
  go_wp2_with fail
  refine (un_eq r2.out _).mono ?_
  rintro e w' ⟨rfl, bs320, n320, rfl⟩
  go_wp2_with fail
  refine (un_eq r3.out _).mono ?_
  rintro e w' ⟨rfl, bs321, n321, rfl⟩
  go_wp2_with fail
  refine (un_eq r4.out _).mono ?_
  rintro e w' ⟨rfl, bs322, n322, rfl⟩
  go_wp2_with fail
  refine (cmp_eq (by decide) r5.out _).mono ?_
  rintro e w' ⟨rfl, rfl⟩
  go_wp2
  refine wp_loop_rounds 5 ?_
  rw [rounds_succ]
  go_wp2
  refine wp_loop_rounds 5 ?_
  rw [rounds_succ]
  go_wp2_with fail
  refine (un_eq s10.out _).mono ?_
  rintro e w' ⟨rfl, bs324, n324, rfl⟩
  go_wp2
  rw [rounds_succ]
  go_wp2_with fail
  refine (un_eq s11.out _).mono ?_
  rintro e w' ⟨rfl, bs325, n325, rfl⟩
  go_wp2
  rw [rounds_succ]
  go_wp2_with fail
  refine (un_eq s12.out _).mono ?_
  rintro e w' ⟨rfl, bs326, n326, rfl⟩
  go_wp2
  rw [rounds_succ]
  go_wp2_with fail
  refine (un_eq s13.out _).mono ?_
  rintro e w' ⟨rfl, bs327, n327, rfl⟩
  go_wp2
  rw [rounds_succ]
  go_wp2
  rw [rounds_succ]
  go_wp2
  refine wp_loop_rounds 5 ?_
  rw [rounds_succ]
  go_wp2_with fail
  refine (un_eq s20.out _).mono ?_
  rintro e w' ⟨rfl, bs328, n328, rfl⟩
  go_wp2
  rw [rounds_succ]
  go_wp2_with fail
  refine (un_eq s21.out _).mono ?_
  rintro e w' ⟨rfl, bs329, n329, rfl⟩
  go_wp2
  rw [rounds_succ]
  go_wp2_with fail
  refine (un_eq s22.out _).mono ?_
  rintro e w' ⟨rfl, bs330, n330, rfl⟩
  go_wp2
  rw [rounds_succ]
  go_wp2_with fail
  refine (un_eq s23.out _).mono ?_
  rintro e w' ⟨rfl, bs331, n331, rfl⟩
  go_wp2
  rw [rounds_succ]
  go_wp2
  rw [rounds_succ]
  go_wp2
  refine wp_loop_rounds 5 ?_
  rw [rounds_succ]
  go_wp2_with fail
  refine (un_eq s20.out _).mono ?_
  rintro e w' ⟨rfl, bs332, n332, rfl⟩
  go_wp2
  rw [rounds_succ]
  go_wp2_with fail
  refine (un_eq s21.out _).mono ?_
  rintro e w' ⟨rfl, bs333, n333, rfl⟩
  go_wp2
  rw [rounds_succ]
  go_wp2_with fail
  refine (un_eq s22.out _).mono ?_
  rintro e w' ⟨rfl, bs334, n334, rfl⟩
  go_wp2
  rw [rounds_succ]
  go_wp2_with fail
  refine (un_eq s23.out _).mono ?_
  rintro e w' ⟨rfl, bs335, n335, rfl⟩
  go_wp2
  rw [rounds_succ]
  go_wp2
  rw [rounds_succ]
  go_wp2
  refine wp_loop_rounds 5 ?_
  rw [rounds_succ]
  go_wp2_with fail
  refine (un_eq s20.out _).mono ?_
  rintro e w' ⟨rfl, bs336, n336, rfl⟩
  go_wp2
  rw [rounds_succ]
  go_wp2_with fail
  refine (un_eq s21.out _).mono ?_
  rintro e w' ⟨rfl, bs337, n337, rfl⟩
  go_wp2
  rw [rounds_succ]
  go_wp2_with fail
  refine (un_eq s22.out _).mono ?_
  rintro e w' ⟨rfl, bs338, n338, rfl⟩
  go_wp2
  rw [rounds_succ]
  go_wp2_with fail
  refine (un_eq s23.out _).mono ?_
  rintro e w' ⟨rfl, bs339, n339, rfl⟩
  go_wp2
  rw [rounds_succ]
  go_wp2
  rw [rounds_succ]
  go_wp2_with fail
  refine (cmp_eq (by decide) r6.out _).mono ?_
  rintro e w' ⟨rfl, rfl⟩
  go_wp2_with fail
  refine (cmp_eq (by decide) r7.out _).mono ?_
  rintro e w' ⟨rfl, rfl⟩
  go_wp2
  all_goals
    go_ret
    exact ⟨rfl, (later_grown (by repeat (first | exact Later.refl _ | refine Later.alloc ?_ | refine Later.far ?_ | refine Later.drewN ?_ | refine Later.drew ?_)))⟩
theorem hbig : 2 * df.binade * 2 ^ (-df.leastPlace).toNat ≤ FM.val df df.infRung := by
  obtain ⟨N, hN, hv⟩ := FM.val_inf_double
  have hl : df.leastPlace = -1074 := FM.least_double
  have hv' : FM.val df df.infRung = 2 ^ N := hv
  rw [hv', hl, show 2 * df.binade = 2 ^ 53 from by decide +kernel, ← Nat.pow_add]
  exact Nat.pow_le_pow_right (by decide) (by rw [hN]; decide)
theorem hleast : df.leastPlace ≤ 0 := by decide +kernel
theorem whole_inf_word (way : Ieee.Toward) (X : Nat) (h : X = 9218868437227405312 ∨ X = 18442240474082181120) : FM.wholeW df way X = X := by
  rcases h with rfl | rfl <;> cases way <;> decide +kernel
/-- what there is to know of the four whole numbers -/
theorem facts (X : Nat) (hXl : X < 18446744073709551616) (hn : ¬ isN df X) :
    (∀ way way', FM.wholeW df way' (FM.wholeW df way X) = FM.wholeW df way X) ∧ (df.order (FM.wholeW df .down X) X = some .lt ∨ df.order (FM.wholeW df .down X) X = some .eq) ∧
    (df.order (FM.wholeW df .up X) X = some .gt ∨ df.order (FM.wholeW df .up X) X = some .eq) ∧ (FM.wholeW df .zero X = FM.wholeW df .up X ∨ FM.wholeW df .zero X = FM.wholeW df .down X) ∧
    (FM.wholeW df .even X = FM.wholeW df .up X ∨ FM.wholeW df .even X = FM.wholeW df .down X) := by
  rcases FM.fin_or_inf df X hn with hf | hf
  · have hw := FM.word_parts df X (sw2 X hXl)
    generalize hs : FM.sg df X = s at hw
    generalize hr : FM.rg df X = r at hw hf
    have hsw : df.infRung < df.signWeight := FM.sw_double
    obtain ⟨a1, a2, a3, a4⟩ := FM.whole_about df s r hf hleast
    have e : ∀ way, FM.wholeW df way X = df.word s (FM.near df (FM.cutv df way s r) 0) := by
      intro way; rw [← hw]; exact FM.whole_word df way s r hf
    have ho : ∀ R, R ≤ df.infRung → df.order (df.word s R) X = some (compare (FM.key s R) (FM.key s r)) := by
      intro R hR
      have h1 := FM.rg_word df s R (by omega)
      have h2 := FM.sg_word df s R (by omega)
      rw [FM.order_key df hdf _ X (by rw [h1]; exact hR) (by omega), h1, h2, hs, hr]
    refine ⟨?_, ?_, ?_, ?_, ?_⟩
    · intro way way'
      rw [← hw]
      exact FM.whole_again df way way' s r hf hleast (by decide) hbig
    · rw [e, ho _ (FM.near_inf df _ _)]
      rcases Int.lt_or_eq_of_le a1 with h | h
      · exact Or.inl (by rw [FM.cmp_lt h])
      · exact Or.inr (by rw [FM.cmp_eq h])
    · rw [e, ho _ (FM.near_inf df _ _)]
      rcases Int.lt_or_eq_of_le a2 with h | h
      · exact Or.inl (by rw [FM.cmp_gt h])
      · exact Or.inr (by rw [FM.cmp_eq h.symm])
    · rw [e, e, e]
      rcases a3 with h | h
      · exact Or.inl (by rw [h])
      · exact Or.inr (by rw [h])
    · rw [e, e, e]
      rcases a4 with h | h
      · exact Or.inl (by rw [h])
      · exact Or.inr (by rw [h])
  · have hi := inf_cases X hXl hf
    have e : ∀ way, FM.wholeW df way X = X := fun way => whole_inf_word way X hi
    refine ⟨fun way way' => by rw [e, e], ?_, ?_, ?_, ?_⟩
    · rw [e]; exact Or.inr (FM.order_self df hdf X hn)
    · rw [e]; exact Or.inr (FM.order_self df hdf X hn)
    · rw [e, e]; exact Or.inl rfl
    · rw [e, e]; exact Or.inl rfl
theorem four (V : Nat) (hV : V < 18446744073709551616) (h : ∀ way', FM.wholeW df way' V = V) : unI 155 (sw V) = (sw V, 0) ∧ unI 156 (sw V) = (sw V, 0) ∧ unI 157 (sw V) = (sw V, 0) ∧ unI 158 (sw V) = (sw V, 0) := by
  refine ⟨?_, ?_, ?_, ?_⟩
  · rw [uI 155 V hV (by decide), unW_155, h]
  · rw [uI 156 V hV (by decide), unW_156, h]
  · rw [uI 157 V hV (by decide), unW_157, h]
  · rw [uI 158 V hV (by decide), unW_158, h]
theorem nan4 : unI 155 9221120237041090560 = (9221120237041090560, 0) ∧ unI 156 9221120237041090560 = (9221120237041090560, 0) ∧ unI 157 9221120237041090560 = (9221120237041090560, 0) ∧ unI 158 9221120237041090560 = (9221120237041090560, 0) := by decide +kernel
theorem whole_lt (way : Ieee.Toward) (X : Nat) (h : ¬ isN df X) : FM.wholeW df way X < 18446744073709551616 := by
  rw [← (whole_ok way X h).2.2]; exact Ieee.Format.write_lt df _
theorem walk (a0 : Int) (w0 : (Lit.int .i64 a0).wf = true) (w : World) :
    Calls Try.prog 8 #[.int .i64 a0] w fun e w' => e = .returned (.bool true) ∧ Grown w w' := by
  obtain ⟨X, rfl, hXl⟩ := word_of a0 (bounds_i64 w0)
  clear w0
  have q1 := uI 155 X hXl (by decide)
  have q2 := uI 156 X hXl (by decide)
  have q3 := uI 157 X hXl (by decide)
  have q4 := uI 158 X hXl (by decide)
  rw [unW_155] at q1
  rw [unW_156] at q2
  rw [unW_157] at q3
  rw [unW_158] at q4
  by_cases hn : isN df X
  · rw [whole_nan _ X hn, sw_qn] at q1 q2 q3 q4
    obtain ⟨n1, n2, n3, n4⟩ := nan4
    exact nanC (sw X) q1 q2 q3 q4 (b_nan X hXl hn).1 n1 n2 n3 n4 w
  obtain ⟨f1, f2, f3, f4, f5⟩ := facts X hXl hn
  have lU := whole_lt .up X hn
  have lD := whole_lt .down X hn
  have gU := four _ lU (f1 .up)
  have gD := four _ lD (f1 .down)
  have q5 := (b_num X hXl hn).1
  have q6 := bI 101 _ X lD hXl (by decide)
  have q7 := bI 102 _ X lU hXl (by decide)
  rw [f_le, if_pos f2, sw_one] at q6
  rw [f_ge, if_pos f3, sw_one] at q7
  clear f1 f2 f3
  generalize FM.wholeW df .up X = U at *
  generalize FM.wholeW df .down X = D at *
  obtain ⟨u1, u2, u3, u4⟩ := gU
  obtain ⟨d1, d2, d3, d4⟩ := gD
  rcases f4 with e4 | e4 <;> rcases f5 with e5 | e5 <;> rw [e4] at q3 <;> rw [e5] at q4
  · exact c_up_up (sw X) (sw U) (sw D) q1 q2 q3 q4 q5 u1 u2 u3 u4 d1 d2 d3 d4 q6 q7 w
  · exact c_up_dn (sw X) (sw U) (sw D) q1 q2 q3 q4 q5 u1 u2 u3 u4 d1 d2 d3 d4 q6 q7 w
  · exact c_dn_up (sw X) (sw U) (sw D) q1 q2 q3 q4 q5 u1 u2 u3 u4 d1 d2 d3 d4 q6 q7 w
  · exact c_dn_dn (sw X) (sw U) (sw D) q1 q2 q3 q4 q5 u1 u2 u3 u4 d1 d2 d3 d4 q6 q7 w

/-! ### THE ROW's STEP: WRITTEN OUT: LEAVE IT -/
set_option maxRecDepth 100000 in
theorem lifted (os : Os) (started : os.Started) (H : Type) (enc : TypeId × Value → H) :
    ReturnsInHanded {} Try.checked os 8 .any (Rows.f64WholeSpec.pre6 enc Try.prog Try.f8 Rows.f64WholeRow.domain false) (Rows.f64WholeSpec.post enc Try.prog Try.f8 false true false false) := by
  refine returnsInHanded_of_change (C := Try.checked) own started (by kernel_rfl) Try.func8
    (ChangeSpec.witness6 (enc := enc) (C := Try.checked) false ⟨#[], #[.int .i64 0], []⟩ 8 (by kernel_rfl) (by kernel_rfl) (by kernel_rfl) (by kernel_rfl)) ?_
  intro W base args ds gs before hval0 hW hcnd _
  have hval : ∀ (j : Nat) t v, Try.f8.params[j]? = some t → args[j]? = some v → Value.okWide Try.prog W .any base t v := hval0
  have hW' := hW
  obtain ⟨p, q, hA0, hV, rfl, hfz, hnd⟩ := hW
  have hA : DataW.TrodAll enc Try.prog W 0 (fun _ => true) true Try.f8.params.toList args.toList ds p := hA0
  rw [Try.params8] at hA hval
  obtain ⟨v0, vs0, d0, ds0, p0, q0, hargs, rfl, rfl, h0, r0⟩ := trodAll_cons hA
  obtain ⟨rfl, rfl, rfl⟩ := trodAll_nil r0
  obtain rfl : args = #[v0] := by cases args; simp_all
  obtain ⟨rfl, rfl⟩ := trodVars_none hV
  obtain ⟨a0, rfl, rfl, rfl, w0⟩ := open_int Try.underlying3 (hval 0 3 v0 rfl rfl) h0
  clear hA0 hval0
  simp only [List.append_nil] at hW'
  refine (walk a0 w0 W).mono fun e W' ⟨he, hg⟩ => ?_
  subst he
  exact ⟨_, rfl, post_of_same (pa := []) (pv := []) hW' (fun _ _ _ => (trodAll_cons_mk (shut_bool Try.underlying4 _) trodAll_mk0)) (fun sp _ => (trodAll_cons_mk (shut_int Try.underlying3 w0) trodAll_mk0)) (fun _ _ => rfl) rfl
    (hg.frame _) hg.2.1 (ok_one (by kernel_rfl) rfl (okWide_bool_mk Try.underlying4 _))⟩

theorem over : Rows.f64WholeRow.holds Try.pinned (OpenSpec.ofChange Rows.f64WholeSpec) :=
  OpenClaim.holds_of_wide 8 Try.f8 rfl rfl rfl rfl rfl rfl rfl ⟨rfl, rfl, rfl, rfl, rfl⟩ rfl rfl rfl rfl rfl (by kernel_rfl) Try.func8 (by kernel_rfl)
    (of_decide_eq_true (by kernel_rfl)) (by unfold Func.isWrapper; first | (rw [if_pos (by decide +kernel)]; kernel_rfl) | (rw [if_neg (by decide +kernel)]; exact ⟨rfl, rfl⟩))
    (fun os started H enc _ => lifted os started H enc)

theorem proved : Rows.F64WholeSaid := over
end Go.Proofs.Ytobhihggdoccoaa.f64Whole
namespace Go.Proofs.Ytobhihggdoccoaa
theorem f64Whole_holds : Rows.F64WholeSaid := f64Whole.proved
#print axioms f64Whole_holds
end Go.Proofs.Ytobhihggdoccoaa

