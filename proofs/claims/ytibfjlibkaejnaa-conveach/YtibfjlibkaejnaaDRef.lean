/- Contracts of the document's own floats (pelorusref4) at 32 bits, over this seat's translation. -/
import Derived.Test.YtibfjlibkaejnaaRows
import Derived.WalkKit
import Derived.ProofKit
import Derived.Deep.QuietTactic
import Derived.BigQuiet
import Derived.LoopN
import Derived.LoopTactic
import Derived.Test.YtibfjlibkaejnaaFar
namespace Go.Proofs.Ytibfjlibkaejnaa.D
open Go.RowKit
set_option linter.unusedVariables false

/-- the format -/
abbrev fm : Value := .agg #[.int .i64 64, .int .i64 52]
theorem single_any (w : World) :
    Calls Try.prog 27 #[] w fun e w' => e = .returned fm ∧ Later w w' := by
  go_enter Try.func27, Try.ntmps27
  go_wp2
  refine bodyPost_ret (v := fm) (by simp [results, Try.results27, go_sem]) rfl ⟨rfl, (by repeat (first | exact Later.refl _ | refine Later.alloc ?_ | refine Later.far ?_ | refine Later.drewN ?_ | refine Later.drew ?_))⟩
theorem bias_any (w : World) :
    Calls Try.prog 51 #[fm] w fun e w' => e = .returned (.int .i64 1023) ∧ Later w w' := by
  go_enter Try.func51, Try.ntmps51
  go_wp2
  go_ret
  exact ⟨rfl, (by repeat (first | exact Later.refl _ | refine Later.alloc ?_ | refine Later.far ?_ | refine Later.drewN ?_ | refine Later.drew ?_))⟩
theorem top_any (w : World) :
    Calls Try.prog 43 #[fm] w fun e w' => e = .returned (.int .u64 2047) ∧ Later w w' := by
  go_enter Try.func43, Try.ntmps43
  go_wp2
  go_ret
  exact ⟨rfl, (by repeat (first | exact Later.refl _ | refine Later.alloc ?_ | refine Later.far ?_ | refine Later.drewN ?_ | refine Later.drew ?_))⟩
theorem least_any (w : World) :
    Calls Try.prog 44 #[fm] w fun e w' => e = .returned (.int .i64 (-1074)) ∧ Later w w' := by
  go_enter Try.func44, Try.ntmps44
  go_wp2_with fail
  refine wp_region_quiet_far (by kernel_rfl) (by kernel_rfl) ?_
  repeat (quiet_step ((go_at_call 51; exact Calls.far_of (bias_any _))))
  refine wpQuiet_nil ?_
  rintro _ ⟨⟨bs, n⟩, rfl⟩
  go_wp2
  go_ret
  exact ⟨rfl, (by repeat (first | exact Later.refl _ | refine Later.alloc ?_ | refine Later.far ?_ | refine Later.drewN ?_ | refine Later.drew ?_))⟩
theorem signed_true (w : World) :
    Calls Try.prog 47 #[fm, .bool true] w fun e w' => e = .returned (.int .u64 9223372036854775808) ∧ Later w w' := by
  go_enter Try.func47, Try.ntmps47
  go_wp2
  go_ret
  exact ⟨rfl, (by repeat (first | exact Later.refl _ | refine Later.alloc ?_ | refine Later.far ?_ | refine Later.drewN ?_ | refine Later.drew ?_))⟩
theorem signed_false (w : World) :
    Calls Try.prog 47 #[fm, .bool false] w fun e w' => e = .returned (.int .u64 0) ∧ Later w w' := by
  go_enter Try.func47, Try.ntmps47
  go_wp2
  go_ret
  exact ⟨rfl, (by repeat (first | exact Later.refl _ | refine Later.alloc ?_ | refine Later.far ?_ | refine Later.drewN ?_ | refine Later.drew ?_))⟩
/-- the sign bit -/
def sgn (neg : Bool) : Int := if neg then 9223372036854775808 else 0
theorem signed_any (neg : Bool) (w : World) :
    Calls Try.prog 47 #[fm, .bool neg] w fun e w' => e = .returned (.int .u64 (sgn neg)) ∧ Later w w' := by
  cases neg
  · exact signed_false w
  · exact signed_true w
theorem nan_any (w : World) :
    Calls Try.prog 40 #[fm] w fun e w' => e = .returned (.int .u64 9221120237041090560) ∧ Later w w' := by
  go_enter Try.func40, Try.ntmps40
  go_wp2_with fail
  refine wp_region_quiet_far (by kernel_rfl) (by kernel_rfl) ?_
  repeat (quiet_step ((go_at_call 43; exact Calls.far_of (top_any _))))
  refine wpQuiet_nil ?_
  rintro _ ⟨⟨bs, n⟩, rfl⟩
  go_wp2
  go_ret
  exact ⟨rfl, (by repeat (first | exact Later.refl _ | refine Later.alloc ?_ | refine Later.far ?_ | refine Later.drewN ?_ | refine Later.drew ?_))⟩
theorem inf_true (w : World) :
    Calls Try.prog 41 #[fm, .bool true] w fun e w' => e = .returned (.int .u64 18442240474082181120) ∧ Later w w' := by
  go_enter Try.func41, Try.ntmps41
  go_wp2_with fail
  refine wp_region_quiet_far (by kernel_rfl) (by kernel_rfl) ?_
  repeat (quiet_step (first | (go_at_call 43; exact Calls.far_of (top_any _)) | (go_at_call 47; exact Calls.far_of (signed_true _))))
  refine wpQuiet_nil ?_
  rintro _ ⟨⟨bs, n⟩, rfl⟩
  go_wp2
  go_ret
  exact ⟨rfl, (by repeat (first | exact Later.refl _ | refine Later.alloc ?_ | refine Later.far ?_ | refine Later.drewN ?_ | refine Later.drew ?_))⟩
theorem inf_false (w : World) :
    Calls Try.prog 41 #[fm, .bool false] w fun e w' => e = .returned (.int .u64 9218868437227405312) ∧ Later w w' := by
  go_enter Try.func41, Try.ntmps41
  go_wp2_with fail
  refine wp_region_quiet_far (by kernel_rfl) (by kernel_rfl) ?_
  repeat (quiet_step (first | (go_at_call 43; exact Calls.far_of (top_any _)) | (go_at_call 47; exact Calls.far_of (signed_false _))))
  refine wpQuiet_nil ?_
  rintro _ ⟨⟨bs, n⟩, rfl⟩
  go_wp2
  go_ret
  exact ⟨rfl, (by repeat (first | exact Later.refl _ | refine Later.alloc ?_ | refine Later.far ?_ | refine Later.drewN ?_ | refine Later.drew ?_))⟩
end Go.Proofs.Ytibfjlibkaejnaa.D
