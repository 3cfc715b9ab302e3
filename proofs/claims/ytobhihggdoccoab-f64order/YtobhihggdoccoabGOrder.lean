/- 'F64Order' of package peloruslaw5 returns true at every two ints: of two floats just one of less, equal, greater is; beside no number none is, and unlike holds. No condition. -/
import Derived.Test.YtobhihggdoccoabL64A
import Derived.OpenShut
import Derived.LoopN
import Derived.RowKit3
namespace Go.Proofs.Ytobhihggdoccoab.f64Order
open Go.ChangeShapes Go.WideShapes Go.ChangeAt Go.RowKit
open Go.FM (isN fixn qn sw)
set_option linter.unusedVariables false

theorem own : ownKnob Try.prog.godebug = none := by kernel_rfl

theorem awake_grown (w : World) :
    Calls Try.prog 9 #[] w fun e w' => e = .returned (.bool true) ∧ Hid (Grown w w') :=
  (awake_any w).mono (fun e w' h => ⟨h.1, h.2.grown⟩)
set_option maxRecDepth 100000 in
set_option maxHeartbeats 2000000 in
theorem none00 (x y : Int) (r0 : Hid (binI 97 x y = (0, 0))) (r1 : Hid (binI 98 x y = (1, 0))) (r2 : Hid (binI 99 x y = (0, 0))) (r3 : Hid (binI 100 x y = (0, 0))) (r4 : Hid (binI 101 x y = (0, 0))) (r5 : Hid (binI 102 x y = (0, 0))) (r6 : Hid (binI 97 x x = (0, 0))) (r7 : Hid (binI 97 y y = (0, 0))) (w : World) :
    Calls Try.prog 3 #[.int .i64 x, .int .i64 y] w fun e w' => e = .returned (.bool true) ∧ Grown w w' := by
  go_enter Try.func3, Try.ntmps3
  go_wp2_with fail
  refine (awake_grown _).mono ?_
  rintro e v ⟨rfl, G⟩
  go_wp2
  refine wp_loop_rounds 7 ?_
  rw [rounds_succ]
  go_wp2_with fail
  refine (cmp_eq (by decide) r0.out _).mono ?_
  rintro e w' ⟨rfl, rfl⟩
  go_wp2_with (go_at_call 11; refine (num_any _ _).mono ?_; rintro e w' ⟨rfl, rfl⟩)
  rw [rounds_succ]
  go_wp2_with fail
  refine (cmp_eq (by decide) r1.out _).mono ?_
  rintro e w' ⟨rfl, rfl⟩
  go_wp2_with (go_at_call 11; refine (num_any _ _).mono ?_; rintro e w' ⟨rfl, rfl⟩)
  rw [rounds_succ]
  go_wp2_with fail
  refine (cmp_eq (by decide) r2.out _).mono ?_
  rintro e w' ⟨rfl, rfl⟩
  go_wp2_with (go_at_call 11; refine (num_any _ _).mono ?_; rintro e w' ⟨rfl, rfl⟩)
  rw [rounds_succ]
  go_wp2_with fail
  refine (cmp_eq (by decide) r3.out _).mono ?_
  rintro e w' ⟨rfl, rfl⟩
  go_wp2_with (go_at_call 11; refine (num_any _ _).mono ?_; rintro e w' ⟨rfl, rfl⟩)
  rw [rounds_succ]
  go_wp2_with fail
  refine (cmp_eq (by decide) r4.out _).mono ?_
  rintro e w' ⟨rfl, rfl⟩
  go_wp2_with (go_at_call 11; refine (num_any _ _).mono ?_; rintro e w' ⟨rfl, rfl⟩)
  rw [rounds_succ]
  go_wp2_with fail
  refine (cmp_eq (by decide) r5.out _).mono ?_
  rintro e w' ⟨rfl, rfl⟩
  go_wp2_with (go_at_call 11; refine (num_any _ _).mono ?_; rintro e w' ⟨rfl, rfl⟩)
  rw [rounds_succ]
  go_wp2_with fail
  refine (cmp_eq (by decide) r6.out _).mono ?_
  rintro e w' ⟨rfl, rfl⟩
  go_wp2_with fail
  refine (cmp_eq (by decide) r7.out _).mono ?_
  rintro e w' ⟨rfl, rfl⟩
  go_wp2
  first
    | (go_ret; exact ⟨rfl, (G.out.alloc _ _ : Grown _ _)⟩)
    | (go_quiet (fail)
       go_wp2
       go_ret
       exact ⟨rfl, (G.out.alloc _ _ : Grown _ _)⟩)
set_option maxRecDepth 100000 in
set_option maxHeartbeats 2000000 in
theorem none01 (x y : Int) (r0 : Hid (binI 97 x y = (0, 0))) (r1 : Hid (binI 98 x y = (1, 0))) (r2 : Hid (binI 99 x y = (0, 0))) (r3 : Hid (binI 100 x y = (0, 0))) (r4 : Hid (binI 101 x y = (0, 0))) (r5 : Hid (binI 102 x y = (0, 0))) (r6 : Hid (binI 97 x x = (0, 0))) (r7 : Hid (binI 97 y y = (1, 0))) (w : World) :
    Calls Try.prog 3 #[.int .i64 x, .int .i64 y] w fun e w' => e = .returned (.bool true) ∧ Grown w w' := by
  go_enter Try.func3, Try.ntmps3
  go_wp2_with fail
  refine (awake_grown _).mono ?_
  rintro e v ⟨rfl, G⟩
  go_wp2
  refine wp_loop_rounds 7 ?_
  rw [rounds_succ]
  go_wp2_with fail
  refine (cmp_eq (by decide) r0.out _).mono ?_
  rintro e w' ⟨rfl, rfl⟩
  go_wp2_with (go_at_call 11; refine (num_any _ _).mono ?_; rintro e w' ⟨rfl, rfl⟩)
  rw [rounds_succ]
  go_wp2_with fail
  refine (cmp_eq (by decide) r1.out _).mono ?_
  rintro e w' ⟨rfl, rfl⟩
  go_wp2_with (go_at_call 11; refine (num_any _ _).mono ?_; rintro e w' ⟨rfl, rfl⟩)
  rw [rounds_succ]
  go_wp2_with fail
  refine (cmp_eq (by decide) r2.out _).mono ?_
  rintro e w' ⟨rfl, rfl⟩
  go_wp2_with (go_at_call 11; refine (num_any _ _).mono ?_; rintro e w' ⟨rfl, rfl⟩)
  rw [rounds_succ]
  go_wp2_with fail
  refine (cmp_eq (by decide) r3.out _).mono ?_
  rintro e w' ⟨rfl, rfl⟩
  go_wp2_with (go_at_call 11; refine (num_any _ _).mono ?_; rintro e w' ⟨rfl, rfl⟩)
  rw [rounds_succ]
  go_wp2_with fail
  refine (cmp_eq (by decide) r4.out _).mono ?_
  rintro e w' ⟨rfl, rfl⟩
  go_wp2_with (go_at_call 11; refine (num_any _ _).mono ?_; rintro e w' ⟨rfl, rfl⟩)
  rw [rounds_succ]
  go_wp2_with fail
  refine (cmp_eq (by decide) r5.out _).mono ?_
  rintro e w' ⟨rfl, rfl⟩
  go_wp2_with (go_at_call 11; refine (num_any _ _).mono ?_; rintro e w' ⟨rfl, rfl⟩)
  rw [rounds_succ]
  go_wp2_with fail
  refine (cmp_eq (by decide) r6.out _).mono ?_
  rintro e w' ⟨rfl, rfl⟩
  go_wp2_with fail
  refine (cmp_eq (by decide) r7.out _).mono ?_
  rintro e w' ⟨rfl, rfl⟩
  go_wp2
  first
    | (go_ret; exact ⟨rfl, (G.out.alloc _ _ : Grown _ _)⟩)
    | (go_quiet (fail)
       go_wp2
       go_ret
       exact ⟨rfl, (G.out.alloc _ _ : Grown _ _)⟩)
set_option maxRecDepth 100000 in
set_option maxHeartbeats 2000000 in
theorem none10 (x y : Int) (r0 : Hid (binI 97 x y = (0, 0))) (r1 : Hid (binI 98 x y = (1, 0))) (r2 : Hid (binI 99 x y = (0, 0))) (r3 : Hid (binI 100 x y = (0, 0))) (r4 : Hid (binI 101 x y = (0, 0))) (r5 : Hid (binI 102 x y = (0, 0))) (r6 : Hid (binI 97 x x = (1, 0))) (r7 : Hid (binI 97 y y = (0, 0))) (w : World) :
    Calls Try.prog 3 #[.int .i64 x, .int .i64 y] w fun e w' => e = .returned (.bool true) ∧ Grown w w' := by
  go_enter Try.func3, Try.ntmps3
  go_wp2_with fail
  refine (awake_grown _).mono ?_
  rintro e v ⟨rfl, G⟩
  go_wp2
  refine wp_loop_rounds 7 ?_
  rw [rounds_succ]
  go_wp2_with fail
  refine (cmp_eq (by decide) r0.out _).mono ?_
  rintro e w' ⟨rfl, rfl⟩
  go_wp2_with (go_at_call 11; refine (num_any _ _).mono ?_; rintro e w' ⟨rfl, rfl⟩)
  rw [rounds_succ]
  go_wp2_with fail
  refine (cmp_eq (by decide) r1.out _).mono ?_
  rintro e w' ⟨rfl, rfl⟩
  go_wp2_with (go_at_call 11; refine (num_any _ _).mono ?_; rintro e w' ⟨rfl, rfl⟩)
  rw [rounds_succ]
  go_wp2_with fail
  refine (cmp_eq (by decide) r2.out _).mono ?_
  rintro e w' ⟨rfl, rfl⟩
  go_wp2_with (go_at_call 11; refine (num_any _ _).mono ?_; rintro e w' ⟨rfl, rfl⟩)
  rw [rounds_succ]
  go_wp2_with fail
  refine (cmp_eq (by decide) r3.out _).mono ?_
  rintro e w' ⟨rfl, rfl⟩
  go_wp2_with (go_at_call 11; refine (num_any _ _).mono ?_; rintro e w' ⟨rfl, rfl⟩)
  rw [rounds_succ]
  go_wp2_with fail
  refine (cmp_eq (by decide) r4.out _).mono ?_
  rintro e w' ⟨rfl, rfl⟩
  go_wp2_with (go_at_call 11; refine (num_any _ _).mono ?_; rintro e w' ⟨rfl, rfl⟩)
  rw [rounds_succ]
  go_wp2_with fail
  refine (cmp_eq (by decide) r5.out _).mono ?_
  rintro e w' ⟨rfl, rfl⟩
  go_wp2_with (go_at_call 11; refine (num_any _ _).mono ?_; rintro e w' ⟨rfl, rfl⟩)
  rw [rounds_succ]
  go_wp2_with fail
  refine (cmp_eq (by decide) r6.out _).mono ?_
  rintro e w' ⟨rfl, rfl⟩
  go_wp2_with fail
  refine (cmp_eq (by decide) r7.out _).mono ?_
  rintro e w' ⟨rfl, rfl⟩
  go_wp2
  first
    | (go_ret; exact ⟨rfl, (G.out.alloc _ _ : Grown _ _)⟩)
    | (go_quiet (fail)
       go_wp2
       go_ret
       exact ⟨rfl, (G.out.alloc _ _ : Grown _ _)⟩)
set_option maxRecDepth 100000 in
set_option maxHeartbeats 2000000 in
theorem less (x y : Int) (r0 : Hid (binI 97 x y = (0, 0))) (r1 : Hid (binI 98 x y = (1, 0))) (r2 : Hid (binI 99 x y = (1, 0))) (r3 : Hid (binI 100 x y = (0, 0))) (r4 : Hid (binI 101 x y = (1, 0))) (r5 : Hid (binI 102 x y = (0, 0))) (r6 : Hid (binI 97 x x = (1, 0))) (r7 : Hid (binI 97 y y = (1, 0))) (w : World) :
    Calls Try.prog 3 #[.int .i64 x, .int .i64 y] w fun e w' => e = .returned (.bool true) ∧ Grown w w' := by
  go_enter Try.func3, Try.ntmps3
  go_wp2_with fail
  refine (awake_grown _).mono ?_
  rintro e v ⟨rfl, G⟩
  go_wp2
  refine wp_loop_rounds 7 ?_
  rw [rounds_succ]
  go_wp2_with fail
  refine (cmp_eq (by decide) r0.out _).mono ?_
  rintro e w' ⟨rfl, rfl⟩
  go_wp2_with (go_at_call 11; refine (num_any _ _).mono ?_; rintro e w' ⟨rfl, rfl⟩)
  rw [rounds_succ]
  go_wp2_with fail
  refine (cmp_eq (by decide) r1.out _).mono ?_
  rintro e w' ⟨rfl, rfl⟩
  go_wp2_with (go_at_call 11; refine (num_any _ _).mono ?_; rintro e w' ⟨rfl, rfl⟩)
  rw [rounds_succ]
  go_wp2_with fail
  refine (cmp_eq (by decide) r2.out _).mono ?_
  rintro e w' ⟨rfl, rfl⟩
  go_wp2_with (go_at_call 11; refine (num_any _ _).mono ?_; rintro e w' ⟨rfl, rfl⟩)
  rw [rounds_succ]
  go_wp2_with fail
  refine (cmp_eq (by decide) r3.out _).mono ?_
  rintro e w' ⟨rfl, rfl⟩
  go_wp2_with (go_at_call 11; refine (num_any _ _).mono ?_; rintro e w' ⟨rfl, rfl⟩)
  rw [rounds_succ]
  go_wp2_with fail
  refine (cmp_eq (by decide) r4.out _).mono ?_
  rintro e w' ⟨rfl, rfl⟩
  go_wp2_with (go_at_call 11; refine (num_any _ _).mono ?_; rintro e w' ⟨rfl, rfl⟩)
  rw [rounds_succ]
  go_wp2_with fail
  refine (cmp_eq (by decide) r5.out _).mono ?_
  rintro e w' ⟨rfl, rfl⟩
  go_wp2_with (go_at_call 11; refine (num_any _ _).mono ?_; rintro e w' ⟨rfl, rfl⟩)
  rw [rounds_succ]
  go_wp2_with fail
  refine (cmp_eq (by decide) r6.out _).mono ?_
  rintro e w' ⟨rfl, rfl⟩
  go_wp2_with fail
  refine (cmp_eq (by decide) r7.out _).mono ?_
  rintro e w' ⟨rfl, rfl⟩
  go_wp2
  first
    | (go_ret; exact ⟨rfl, (G.out.alloc _ _ : Grown _ _)⟩)
    | (go_quiet (fail)
       go_wp2
       go_ret
       exact ⟨rfl, (G.out.alloc _ _ : Grown _ _)⟩)
set_option maxRecDepth 100000 in
set_option maxHeartbeats 2000000 in
theorem same (x y : Int) (r0 : Hid (binI 97 x y = (1, 0))) (r1 : Hid (binI 98 x y = (0, 0))) (r2 : Hid (binI 99 x y = (0, 0))) (r3 : Hid (binI 100 x y = (0, 0))) (r4 : Hid (binI 101 x y = (1, 0))) (r5 : Hid (binI 102 x y = (1, 0))) (r6 : Hid (binI 97 x x = (1, 0))) (r7 : Hid (binI 97 y y = (1, 0))) (w : World) :
    Calls Try.prog 3 #[.int .i64 x, .int .i64 y] w fun e w' => e = .returned (.bool true) ∧ Grown w w' := by
  go_enter Try.func3, Try.ntmps3
  go_wp2_with fail
  refine (awake_grown _).mono ?_
  rintro e v ⟨rfl, G⟩
  go_wp2
  refine wp_loop_rounds 7 ?_
  rw [rounds_succ]
  go_wp2_with fail
  refine (cmp_eq (by decide) r0.out _).mono ?_
  rintro e w' ⟨rfl, rfl⟩
  go_wp2_with (go_at_call 11; refine (num_any _ _).mono ?_; rintro e w' ⟨rfl, rfl⟩)
  rw [rounds_succ]
  go_wp2_with fail
  refine (cmp_eq (by decide) r1.out _).mono ?_
  rintro e w' ⟨rfl, rfl⟩
  go_wp2_with (go_at_call 11; refine (num_any _ _).mono ?_; rintro e w' ⟨rfl, rfl⟩)
  rw [rounds_succ]
  go_wp2_with fail
  refine (cmp_eq (by decide) r2.out _).mono ?_
  rintro e w' ⟨rfl, rfl⟩
  go_wp2_with (go_at_call 11; refine (num_any _ _).mono ?_; rintro e w' ⟨rfl, rfl⟩)
  rw [rounds_succ]
  go_wp2_with fail
  refine (cmp_eq (by decide) r3.out _).mono ?_
  rintro e w' ⟨rfl, rfl⟩
  go_wp2_with (go_at_call 11; refine (num_any _ _).mono ?_; rintro e w' ⟨rfl, rfl⟩)
  rw [rounds_succ]
  go_wp2_with fail
  refine (cmp_eq (by decide) r4.out _).mono ?_
  rintro e w' ⟨rfl, rfl⟩
  go_wp2_with (go_at_call 11; refine (num_any _ _).mono ?_; rintro e w' ⟨rfl, rfl⟩)
  rw [rounds_succ]
  go_wp2_with fail
  refine (cmp_eq (by decide) r5.out _).mono ?_
  rintro e w' ⟨rfl, rfl⟩
  go_wp2_with (go_at_call 11; refine (num_any _ _).mono ?_; rintro e w' ⟨rfl, rfl⟩)
  rw [rounds_succ]
  go_wp2_with fail
  refine (cmp_eq (by decide) r6.out _).mono ?_
  rintro e w' ⟨rfl, rfl⟩
  go_wp2_with fail
  refine (cmp_eq (by decide) r7.out _).mono ?_
  rintro e w' ⟨rfl, rfl⟩
  go_wp2
  first
    | (go_ret; exact ⟨rfl, (G.out.alloc _ _ : Grown _ _)⟩)
    | (go_quiet (fail)
       go_wp2
       go_ret
       exact ⟨rfl, (G.out.alloc _ _ : Grown _ _)⟩)
set_option maxRecDepth 100000 in
set_option maxHeartbeats 2000000 in
theorem more (x y : Int) (r0 : Hid (binI 97 x y = (0, 0))) (r1 : Hid (binI 98 x y = (1, 0))) (r2 : Hid (binI 99 x y = (0, 0))) (r3 : Hid (binI 100 x y = (1, 0))) (r4 : Hid (binI 101 x y = (0, 0))) (r5 : Hid (binI 102 x y = (1, 0))) (r6 : Hid (binI 97 x x = (1, 0))) (r7 : Hid (binI 97 y y = (1, 0))) (w : World) :
    Calls Try.prog 3 #[.int .i64 x, .int .i64 y] w fun e w' => e = .returned (.bool true) ∧ Grown w w' := by
  go_enter Try.func3, Try.ntmps3
  go_wp2_with fail
  refine (awake_grown _).mono ?_
  rintro e v ⟨rfl, G⟩
  go_wp2
  refine wp_loop_rounds 7 ?_
  rw [rounds_succ]
  go_wp2_with fail
  refine (cmp_eq (by decide) r0.out _).mono ?_
  rintro e w' ⟨rfl, rfl⟩
  go_wp2_with (go_at_call 11; refine (num_any _ _).mono ?_; rintro e w' ⟨rfl, rfl⟩)
  rw [rounds_succ]
  go_wp2_with fail
  refine (cmp_eq (by decide) r1.out _).mono ?_
  rintro e w' ⟨rfl, rfl⟩
  go_wp2_with (go_at_call 11; refine (num_any _ _).mono ?_; rintro e w' ⟨rfl, rfl⟩)
  rw [rounds_succ]
  go_wp2_with fail
  refine (cmp_eq (by decide) r2.out _).mono ?_
  rintro e w' ⟨rfl, rfl⟩
  go_wp2_with (go_at_call 11; refine (num_any _ _).mono ?_; rintro e w' ⟨rfl, rfl⟩)
  rw [rounds_succ]
  go_wp2_with fail
  refine (cmp_eq (by decide) r3.out _).mono ?_
  rintro e w' ⟨rfl, rfl⟩
  go_wp2_with (go_at_call 11; refine (num_any _ _).mono ?_; rintro e w' ⟨rfl, rfl⟩)
  rw [rounds_succ]
  go_wp2_with fail
  refine (cmp_eq (by decide) r4.out _).mono ?_
  rintro e w' ⟨rfl, rfl⟩
  go_wp2_with (go_at_call 11; refine (num_any _ _).mono ?_; rintro e w' ⟨rfl, rfl⟩)
  rw [rounds_succ]
  go_wp2_with fail
  refine (cmp_eq (by decide) r5.out _).mono ?_
  rintro e w' ⟨rfl, rfl⟩
  go_wp2_with (go_at_call 11; refine (num_any _ _).mono ?_; rintro e w' ⟨rfl, rfl⟩)
  rw [rounds_succ]
  go_wp2_with fail
  refine (cmp_eq (by decide) r6.out _).mono ?_
  rintro e w' ⟨rfl, rfl⟩
  go_wp2_with fail
  refine (cmp_eq (by decide) r7.out _).mono ?_
  rintro e w' ⟨rfl, rfl⟩
  go_wp2
  first
    | (go_ret; exact ⟨rfl, (G.out.alloc _ _ : Grown _ _)⟩)
    | (go_quiet (fail)
       go_wp2
       go_ret
       exact ⟨rfl, (G.out.alloc _ _ : Grown _ _)⟩)
theorem six (X Y : Nat) (hXl : X < 18446744073709551616) (hYl : Y < 18446744073709551616) : ∀ o, df.order X Y = o →
    binI 97 (sw X) (sw Y) = ((if o = some .eq then 1 else 0), 0) ∧ binI 98 (sw X) (sw Y) = ((if o = some .eq then 0 else 1), 0) ∧ binI 99 (sw X) (sw Y) = ((if o = some .lt then 1 else 0), 0) ∧ binI 100 (sw X) (sw Y) = ((if o = some .gt then 1 else 0), 0) ∧
    binI 101 (sw X) (sw Y) = ((if o = some .lt ∨ o = some .eq then 1 else 0), 0) ∧ binI 102 (sw X) (sw Y) = ((if o = some .gt ∨ o = some .eq then 1 else 0), 0) := by
  intro o ho
  rw [bI 97 X Y hXl hYl (by decide), bI 98 X Y hXl hYl (by decide), bI 99 X Y hXl hYl (by decide), bI 100 X Y hXl hYl (by decide), bI 101 X Y hXl hYl (by decide), bI 102 X Y hXl hYl (by decide), f_eq, f_ne, f_lt, f_gt, f_le, f_ge, ho]
  cases o with
  | none => simp [sw_one, sw_zero]
  | some o => cases o <;> simp [sw_one, sw_zero]
theorem walk (a0 : Int) (a1 : Int) (w0 : (Lit.int .i64 a0).wf = true) (w1 : (Lit.int .i64 a1).wf = true) (w : World) :
    Calls Try.prog 3 #[.int .i64 a0, .int .i64 a1] w fun e w' => e = .returned (.bool true) ∧ Grown w w' := by
  obtain ⟨X, rfl, hXl⟩ := word_of a0 (bounds_i64 w0)
  clear w0
  obtain ⟨Y, rfl, hYl⟩ := word_of a1 (bounds_i64 w1)
  clear w1
  have H := six X Y hXl hYl
  by_cases hx : isN df X
  · obtain ⟨t0, t1, t2, t3, t4, t5⟩ := H _ (FM.order_nan_l df hdf X Y hx)
    by_cases hy : isN df Y
    · exact none00 (sw X) (sw Y) t0 t1 t2 t3 t4 t5 (b_nan X hXl hx).1 (b_nan Y hYl hy).1 w
    · exact none01 (sw X) (sw Y) t0 t1 t2 t3 t4 t5 (b_nan X hXl hx).1 (b_num Y hYl hy).1 w
  by_cases hy : isN df Y
  · obtain ⟨t0, t1, t2, t3, t4, t5⟩ := H _ (FM.order_nan_r df hdf X Y hy)
    exact none10 (sw X) (sw Y) t0 t1 t2 t3 t4 t5 (b_num X hXl hx).1 (b_nan Y hYl hy).1 w
  have ho : df.order X Y = some (compare (FM.key (FM.sg df X) (FM.rg df X)) (FM.key (FM.sg df Y) (FM.rg df Y))) := FM.order_key df hdf X Y (by unfold isN at hx; omega) (by unfold isN at hy; omega)
  have q1 := (b_num X hXl hx).1
  have q2 := (b_num Y hYl hy).1
  obtain ⟨o, hc⟩ : ∃ o, compare (FM.key (FM.sg df X) (FM.rg df X)) (FM.key (FM.sg df Y) (FM.rg df Y)) = o := ⟨_, rfl⟩
  rw [hc] at ho
  cases o
  · obtain ⟨t0, t1, t2, t3, t4, t5⟩ := H _ ho
    exact less (sw X) (sw Y) t0 t1 t2 t3 t4 t5 q1 q2 w
  · obtain ⟨t0, t1, t2, t3, t4, t5⟩ := H _ ho
    exact same (sw X) (sw Y) t0 t1 t2 t3 t4 t5 q1 q2 w
  · obtain ⟨t0, t1, t2, t3, t4, t5⟩ := H _ ho
    exact more (sw X) (sw Y) t0 t1 t2 t3 t4 t5 q1 q2 w

/-! ### THE ROW's STEP: WRITTEN OUT: LEAVE IT -/
set_option maxRecDepth 100000 in
theorem lifted (os : Os) (started : os.Started) (H : Type) (enc : TypeId × Value → H) :
    ReturnsInHanded {} Try.checked os 3 .any (Rows.f64OrderSpec.pre6 enc Try.prog Try.f3 Rows.f64OrderRow.domain false) (Rows.f64OrderSpec.post enc Try.prog Try.f3 false true false false) := by
  refine returnsInHanded_of_change (C := Try.checked) own started (by kernel_rfl) Try.func3
    (ChangeSpec.witness6 (enc := enc) (C := Try.checked) false ⟨#[], #[.int .i64 0, .int .i64 0], []⟩ 8 (by kernel_rfl) (by kernel_rfl) (by kernel_rfl) (by kernel_rfl)) ?_
  intro W base args ds gs before hval0 hW hcnd _
  have hval : ∀ (j : Nat) t v, Try.f3.params[j]? = some t → args[j]? = some v → Value.okWide Try.prog W .any base t v := hval0
  have hW' := hW
  obtain ⟨p, q, hA0, hV, rfl, hfz, hnd⟩ := hW
  have hA : DataW.TrodAll enc Try.prog W 0 (fun _ => true) true Try.f3.params.toList args.toList ds p := hA0
  rw [Try.params3] at hA hval
  obtain ⟨v0, vs0, d0, ds0, p0, q0, hargs, rfl, rfl, h0, r0⟩ := trodAll_cons hA
  obtain ⟨v1, vs1, d1, ds1, p1, q1, rfl, rfl, rfl, h1, r1⟩ := trodAll_cons r0
  obtain ⟨rfl, rfl, rfl⟩ := trodAll_nil r1
  obtain rfl : args = #[v0, v1] := by cases args; simp_all
  obtain ⟨rfl, rfl⟩ := trodVars_none hV
  obtain ⟨a0, rfl, rfl, rfl, w0⟩ := open_int Try.underlying3 (hval 0 3 v0 rfl rfl) h0
  obtain ⟨a1, rfl, rfl, rfl, w1⟩ := open_int Try.underlying3 (hval 1 3 v1 rfl rfl) h1
  clear hA0 hval0
  simp only [List.append_nil] at hW'
  refine (walk a0 a1 w0 w1 W).mono fun e W' ⟨he, hg⟩ => ?_
  subst he
  exact ⟨_, rfl, post_of_same (pa := []) (pv := []) hW' (fun _ _ _ => (trodAll_cons_mk (shut_bool Try.underlying4 _) trodAll_mk0)) (fun sp _ => (trodAll_cons_mk (shut_int Try.underlying3 w0) (trodAll_cons_mk (shut_int Try.underlying3 w1) trodAll_mk0))) (fun _ _ => rfl) rfl
    (hg.frame _) hg.2.1 (ok_one (by kernel_rfl) rfl (okWide_bool_mk Try.underlying4 _))⟩

theorem over : Rows.f64OrderRow.holds Try.pinned (OpenSpec.ofChange Rows.f64OrderSpec) :=
  OpenClaim.holds_of_wide 3 Try.f3 rfl rfl rfl rfl rfl rfl rfl ⟨rfl, rfl, rfl, rfl, rfl⟩ rfl rfl rfl rfl rfl (by kernel_rfl) Try.func3 (by kernel_rfl)
    (of_decide_eq_true (by kernel_rfl)) (by unfold Func.isWrapper; first | (rw [if_pos (by decide +kernel)]; kernel_rfl) | (rw [if_neg (by decide +kernel)]; exact ⟨rfl, rfl⟩))
    (fun os started H enc _ => lifted os started H enc)

theorem proved : Rows.F64OrderSaid := over
end Go.Proofs.Ytobhihggdoccoab.f64Order
namespace Go.Proofs.Ytobhihggdoccoab
theorem f64Order_holds : Rows.F64OrderSaid := f64Order.proved
#print axioms f64Order_holds
end Go.Proofs.Ytobhihggdoccoab

