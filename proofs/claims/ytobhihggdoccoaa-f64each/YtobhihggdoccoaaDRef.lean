/- Contracts of the document's own floats (pelorusref4) at 32 bits, over this seat's translation. -/
import Derived.Test.YtobhihggdoccoaaRows
import Derived.WalkKit
import Derived.ProofKit
import Derived.Deep.QuietTactic
import Derived.BigQuiet
import Derived.LoopN
import Derived.LoopTactic
import Derived.Test.YtobhihggdoccoaaFar
namespace Go.Proofs.Ytobhihggdoccoaa.D
open Go.RowKit
set_option linter.unusedVariables false

/-- the format -/
abbrev fm : Value := .agg #[.int .i64 64, .int .i64 52]
theorem single_any (w : World) :
    Calls Try.prog 37 #[] w fun e w' => e = .returned fm ∧ Later w w' := by
  go_enter Try.func37, Try.ntmps37
  go_wp2
  refine bodyPost_ret (v := fm) (by simp [results, Try.results37, go_sem]) rfl ⟨rfl, (by repeat (first | exact Later.refl _ | refine Later.alloc ?_ | refine Later.far ?_ | refine Later.drewN ?_ | refine Later.drew ?_))⟩
theorem bias_any (w : World) :
    Calls Try.prog 87 #[fm] w fun e w' => e = .returned (.int .i64 1023) ∧ Later w w' := by
  go_enter Try.func87, Try.ntmps87
  go_wp2
  go_ret
  exact ⟨rfl, (by repeat (first | exact Later.refl _ | refine Later.alloc ?_ | refine Later.far ?_ | refine Later.drewN ?_ | refine Later.drew ?_))⟩
theorem top_any (w : World) :
    Calls Try.prog 75 #[fm] w fun e w' => e = .returned (.int .u64 2047) ∧ Later w w' := by
  go_enter Try.func75, Try.ntmps75
  go_wp2
  go_ret
  exact ⟨rfl, (by repeat (first | exact Later.refl _ | refine Later.alloc ?_ | refine Later.far ?_ | refine Later.drewN ?_ | refine Later.drew ?_))⟩
theorem least_any (w : World) :
    Calls Try.prog 76 #[fm] w fun e w' => e = .returned (.int .i64 (-1074)) ∧ Later w w' := by
  go_enter Try.func76, Try.ntmps76
  go_wp2_with fail
  refine wp_region_quiet_far (by kernel_rfl) (by kernel_rfl) ?_
  repeat (quiet_step ((go_at_call 87; exact Calls.far_of (bias_any _))))
  refine wpQuiet_nil ?_
  rintro _ ⟨⟨bs, n⟩, rfl⟩
  go_wp2
  go_ret
  exact ⟨rfl, (by repeat (first | exact Later.refl _ | refine Later.alloc ?_ | refine Later.far ?_ | refine Later.drewN ?_ | refine Later.drew ?_))⟩
theorem signed_true (w : World) :
    Calls Try.prog 50 #[fm, .bool true] w fun e w' => e = .returned (.int .u64 9223372036854775808) ∧ Later w w' := by
  go_enter Try.func50, Try.ntmps50
  go_wp2
  go_ret
  exact ⟨rfl, (by repeat (first | exact Later.refl _ | refine Later.alloc ?_ | refine Later.far ?_ | refine Later.drewN ?_ | refine Later.drew ?_))⟩
theorem signed_false (w : World) :
    Calls Try.prog 50 #[fm, .bool false] w fun e w' => e = .returned (.int .u64 0) ∧ Later w w' := by
  go_enter Try.func50, Try.ntmps50
  go_wp2
  go_ret
  exact ⟨rfl, (by repeat (first | exact Later.refl _ | refine Later.alloc ?_ | refine Later.far ?_ | refine Later.drewN ?_ | refine Later.drew ?_))⟩
/-- the sign bit -/
def sgn (neg : Bool) : Int := if neg then 9223372036854775808 else 0
theorem signed_any (neg : Bool) (w : World) :
    Calls Try.prog 50 #[fm, .bool neg] w fun e w' => e = .returned (.int .u64 (sgn neg)) ∧ Later w w' := by
  cases neg
  · exact signed_false w
  · exact signed_true w
theorem nan_any (w : World) :
    Calls Try.prog 69 #[fm] w fun e w' => e = .returned (.int .u64 9221120237041090560) ∧ Later w w' := by
  go_enter Try.func69, Try.ntmps69
  go_wp2_with fail
  refine wp_region_quiet_far (by kernel_rfl) (by kernel_rfl) ?_
  repeat (quiet_step ((go_at_call 75; exact Calls.far_of (top_any _))))
  refine wpQuiet_nil ?_
  rintro _ ⟨⟨bs, n⟩, rfl⟩
  go_wp2
  go_ret
  exact ⟨rfl, (by repeat (first | exact Later.refl _ | refine Later.alloc ?_ | refine Later.far ?_ | refine Later.drewN ?_ | refine Later.drew ?_))⟩
theorem inf_true (w : World) :
    Calls Try.prog 70 #[fm, .bool true] w fun e w' => e = .returned (.int .u64 18442240474082181120) ∧ Later w w' := by
  go_enter Try.func70, Try.ntmps70
  go_wp2_with fail
  refine wp_region_quiet_far (by kernel_rfl) (by kernel_rfl) ?_
  repeat (quiet_step (first | (go_at_call 75; exact Calls.far_of (top_any _)) | (go_at_call 50; exact Calls.far_of (signed_true _))))
  refine wpQuiet_nil ?_
  rintro _ ⟨⟨bs, n⟩, rfl⟩
  go_wp2
  go_ret
  exact ⟨rfl, (by repeat (first | exact Later.refl _ | refine Later.alloc ?_ | refine Later.far ?_ | refine Later.drewN ?_ | refine Later.drew ?_))⟩
theorem inf_false (w : World) :
    Calls Try.prog 70 #[fm, .bool false] w fun e w' => e = .returned (.int .u64 9218868437227405312) ∧ Later w w' := by
  go_enter Try.func70, Try.ntmps70
  go_wp2_with fail
  refine wp_region_quiet_far (by kernel_rfl) (by kernel_rfl) ?_
  repeat (quiet_step (first | (go_at_call 75; exact Calls.far_of (top_any _)) | (go_at_call 50; exact Calls.far_of (signed_false _))))
  refine wpQuiet_nil ?_
  rintro _ ⟨⟨bs, n⟩, rfl⟩
  go_wp2
  go_ret
  exact ⟨rfl, (by repeat (first | exact Later.refl _ | refine Later.alloc ?_ | refine Later.far ?_ | refine Later.drewN ?_ | refine Later.drew ?_))⟩
end Go.Proofs.Ytobhihggdoccoaa.D
