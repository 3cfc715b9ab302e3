/- Walks of 'I64Order' of package peloruslaw3, one for each way in which two numbers can lie. -/
import Derived.Test.YtjolnfipacpjgaaDoorJOrderA
namespace Go.Proofs.YtjolnfipacpjgaaDoor.i64Order
open Go.ChangeShapes Go.WideShapes Go.ChangeAt Go.RowKit
set_option linter.unusedVariables false

set_option maxRecDepth 100000 in
set_option maxHeartbeats 2000000 in
theorem gg (x y : Int) (hne : (x == y) = false) (r0 : Hid (BM.bin64 81 x y = (0, 0))) (r1 : Hid (BM.bin64 82 x y = (1, 0))) (r2 : Hid (BM.bin64 83 x y = (0, 0))) (r3 : Hid (BM.bin64 84 x y = (0, 0))) (r4 : Hid (BM.bin64 85 x y = (1, 0))) (r5 : Hid (BM.bin64 86 x y = (1, 0))) (r6 : Hid (BM.bin64 87 x y = (0, 0))) (r7 : Hid (BM.bin64 88 x y = (0, 0))) (r8 : Hid (BM.bin64 89 x y = (1, 0))) (r9 : Hid (BM.bin64 90 x y = (1, 0))) (w : World) :
    Calls Tryd.prog 7 #[.int .i64 x, .int .i64 y] w fun e w' => e = .returned (.bool true) ∧ Grown w w' := by
  go_enter Tryd.func7, Tryd.ntmps7
  go_wp2_with fail
  refine (awake_grown _).mono ?_
  rintro e v ⟨rfl, G⟩
  go_wp2
  refine wp_loop_rounds 11 ?_
  rw [rounds_succ]
  go_wp2_with fail
  refine (bin_eq (by decide) r0.out _).mono ?_
  rintro e w' ⟨rfl, rfl⟩
  go_wp2_with (go_at_call 13; refine (num_any _ _).mono ?_; rintro e w' ⟨rfl, rfl⟩)
  rw [rounds_succ]
  go_wp2_with fail
  refine (bin_eq (by decide) r1.out _).mono ?_
  rintro e w' ⟨rfl, rfl⟩
  go_wp2_with (go_at_call 13; refine (num_any _ _).mono ?_; rintro e w' ⟨rfl, rfl⟩)
  rw [rounds_succ]
  go_wp2_with fail
  refine (bin_eq (by decide) r2.out _).mono ?_
  rintro e w' ⟨rfl, rfl⟩
  go_wp2_with (go_at_call 13; refine (num_any _ _).mono ?_; rintro e w' ⟨rfl, rfl⟩)
  rw [rounds_succ]
  go_wp2_with fail
  refine (bin_eq (by decide) r3.out _).mono ?_
  rintro e w' ⟨rfl, rfl⟩
  go_wp2_with (go_at_call 13; refine (num_any _ _).mono ?_; rintro e w' ⟨rfl, rfl⟩)
  rw [rounds_succ]
  go_wp2_with fail
  refine (bin_eq (by decide) r4.out _).mono ?_
  rintro e w' ⟨rfl, rfl⟩
  go_wp2_with (go_at_call 13; refine (num_any _ _).mono ?_; rintro e w' ⟨rfl, rfl⟩)
  rw [rounds_succ]
  go_wp2_with fail
  refine (bin_eq (by decide) r5.out _).mono ?_
  rintro e w' ⟨rfl, rfl⟩
  go_wp2_with (go_at_call 13; refine (num_any _ _).mono ?_; rintro e w' ⟨rfl, rfl⟩)
  rw [rounds_succ]
  go_wp2_with fail
  refine (bin_eq (by decide) r6.out _).mono ?_
  rintro e w' ⟨rfl, rfl⟩
  go_wp2_with (go_at_call 13; refine (num_any _ _).mono ?_; rintro e w' ⟨rfl, rfl⟩)
  rw [rounds_succ]
  go_wp2_with fail
  refine (bin_eq (by decide) r7.out _).mono ?_
  rintro e w' ⟨rfl, rfl⟩
  go_wp2_with (go_at_call 13; refine (num_any _ _).mono ?_; rintro e w' ⟨rfl, rfl⟩)
  rw [rounds_succ]
  go_wp2_with fail
  refine (bin_eq (by decide) r8.out _).mono ?_
  rintro e w' ⟨rfl, rfl⟩
  go_wp2_with (go_at_call 13; refine (num_any _ _).mono ?_; rintro e w' ⟨rfl, rfl⟩)
  rw [rounds_succ]
  go_wp2_with fail
  refine (bin_eq (by decide) r9.out _).mono ?_
  rintro e w' ⟨rfl, rfl⟩
  go_wp2_with (go_at_call 13; refine (num_any _ _).mono ?_; rintro e w' ⟨rfl, rfl⟩)
  rw [rounds_succ]
  go_wp2
  go_quiet (first | (go_at_call 15; exact Calls.quiet_of_same (l0_true _)) | (go_at_call 15; exact Calls.quiet_of_same (l0_false _)))
  go_wp2
  go_ret
  exact ⟨rfl, (G.out.alloc _ _ : Grown _ _)⟩
end Go.Proofs.YtjolnfipacpjgaaDoor.i64Order
