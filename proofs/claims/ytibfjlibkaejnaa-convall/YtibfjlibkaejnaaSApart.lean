/- Contracts of the document's floats (pelorusref4), over this seat's translation: a float taken apart. -/
import Derived.Test.YtibfjlibkaejnaaSRound2
import Derived.RegionCalls
import Derived.Deep.RegionWith
import Derived.Test.YtibfjlibkaejnaaFData
namespace Go.Proofs.Ytibfjlibkaejnaa.S
open Go.RowKit
open Go.FM (W64 two bl lost)
set_option linter.unusedVariables false

/-- a float taken apart, as the document's struct -/
abbrev fv (neg inf nan : Bool) (m e : Int) : Value := .agg #[.bool neg, .bool inf, .bool nan, .int .u64 m, .int .i64 e]
set_option maxRecDepth 100000 in
set_option maxHeartbeats 4000000 in
theorem apart_inf0 (x a sb q ex m : Int) (neg : Bool) (ea : x / 2147483648 = a) (es : bits .and .u64 a 1 = sb) (hs : (sb == 1) = neg) (eq : x / 8388608 = q) (ee : bits .and .u64 q 255 = ex) (em : bits .and .u64 x 8388607 = m) (hx : ex = 255) (hm : m = 0) (w : World) :
    Calls Try.prog 36 #[fm, .int .u64 x] w fun e w' => e = .returned (fv neg true false 0 0) ∧ Later w w' := by
  go_enter Try.func36, Try.ntmps36
  go_wp2_with fail
  refine wp_region_quiet_far (by kernel_rfl) (by kernel_rfl) ?_
  repeat (quiet_step ((go_at_call 43; exact Calls.far_of (top_any _))))
  refine wpQuiet_nil ?_
  rintro _ ⟨⟨bs, n⟩, rfl⟩
  go_wp2_with (first | (go_at_call 44; refine (least_any _).mono ?_; rintro e w' ⟨rfl, bs, n, rfl⟩) | (go_at_call 43; refine (top_any _).mono ?_; rintro e w' ⟨rfl, bs, n, rfl⟩))
  first
    | (go_ret; exact ⟨rfl, (by repeat (first | exact Later.refl _ | refine Later.alloc ?_ | refine Later.far ?_ | refine Later.drewN ?_ | refine Later.drew ?_))⟩)
    | (refine bodyPost_ret (v := (fv neg true false 0 0)) (by simp [results, Try.results36, go_sem]) rfl ⟨rfl, (by repeat (first | exact Later.refl _ | refine Later.alloc ?_ | refine Later.far ?_ | refine Later.drewN ?_ | refine Later.drew ?_))⟩)
set_option maxRecDepth 100000 in
set_option maxHeartbeats 4000000 in
theorem apart_nan0 (x a sb q ex m : Int) (neg : Bool) (ea : x / 2147483648 = a) (es : bits .and .u64 a 1 = sb) (hs : (sb == 1) = neg) (eq : x / 8388608 = q) (ee : bits .and .u64 q 255 = ex) (em : bits .and .u64 x 8388607 = m) (hx : ex = 255) (hm : ¬ m = 0) (w : World) :
    Calls Try.prog 36 #[fm, .int .u64 x] w fun e w' => e = .returned (fv neg false true m 0) ∧ Later w w' := by
  go_enter Try.func36, Try.ntmps36
  go_wp2_with fail
  refine wp_region_quiet_far (by kernel_rfl) (by kernel_rfl) ?_
  repeat (quiet_step ((go_at_call 43; exact Calls.far_of (top_any _))))
  refine wpQuiet_nil ?_
  rintro _ ⟨⟨bs, n⟩, rfl⟩
  go_wp2_with (first | (go_at_call 44; refine (least_any _).mono ?_; rintro e w' ⟨rfl, bs, n, rfl⟩) | (go_at_call 43; refine (top_any _).mono ?_; rintro e w' ⟨rfl, bs, n, rfl⟩))
  first
    | (go_ret; exact ⟨rfl, (by repeat (first | exact Later.refl _ | refine Later.alloc ?_ | refine Later.far ?_ | refine Later.drewN ?_ | refine Later.drew ?_))⟩)
    | (refine bodyPost_ret (v := (fv neg false true m 0)) (by simp [results, Try.results36, go_sem, hm]) rfl ⟨rfl, (by repeat (first | exact Later.refl _ | refine Later.alloc ?_ | refine Later.far ?_ | refine Later.drewN ?_ | refine Later.drew ?_))⟩)
set_option maxRecDepth 100000 in
set_option maxHeartbeats 4000000 in
theorem apart_sub0 (x a sb q ex m : Int) (neg : Bool) (ea : x / 2147483648 = a) (es : bits .and .u64 a 1 = sb) (hs : (sb == 1) = neg) (eq : x / 8388608 = q) (ee : bits .and .u64 q 255 = ex) (em : bits .and .u64 x 8388607 = m) (hx : ex = 0) (w : World) :
    Calls Try.prog 36 #[fm, .int .u64 x] w fun e w' => e = .returned (fv neg false false m (-149)) ∧ Later w w' := by
  go_enter Try.func36, Try.ntmps36
  go_wp2_with fail
  refine wp_region_quiet_far (by kernel_rfl) (by kernel_rfl) ?_
  repeat (quiet_step ((go_at_call 43; exact Calls.far_of (top_any _))))
  refine wpQuiet_nil ?_
  rintro _ ⟨⟨bs, n⟩, rfl⟩
  go_wp2_with (first | (go_at_call 44; refine (least_any _).mono ?_; rintro e w' ⟨rfl, bs, n, rfl⟩) | (go_at_call 43; refine (top_any _).mono ?_; rintro e w' ⟨rfl, bs, n, rfl⟩))
  first
    | (go_ret; exact ⟨rfl, (by repeat (first | exact Later.refl _ | refine Later.alloc ?_ | refine Later.far ?_ | refine Later.drewN ?_ | refine Later.drew ?_))⟩)
    | (refine bodyPost_ret (v := (fv neg false false m (-149))) (by simp [results, Try.results36, go_sem]) rfl ⟨rfl, (by repeat (first | exact Later.refl _ | refine Later.alloc ?_ | refine Later.far ?_ | refine Later.drewN ?_ | refine Later.drew ?_))⟩)
set_option maxRecDepth 100000 in
set_option maxHeartbeats 4000000 in
theorem apart_norm0 (x a sb q ex m : Int) (neg : Bool) (ea : x / 2147483648 = a) (es : bits .and .u64 a 1 = sb) (hs : (sb == 1) = neg) (eq : x / 8388608 = q) (ee : bits .and .u64 q 255 = ex) (em : bits .and .u64 x 8388607 = m) (m2 e2 : Int) (hx : (ex == 255) = false) (hx0 : (ex == 0) = false) (hx1 : 0 ≤ ex) (hx2 : ex < 255) (eo : bits .or .u64 m 8388608 = m2) (e2e : -149 + ex - 1 = e2) (w : World) :
    Calls Try.prog 36 #[fm, .int .u64 x] w fun e w' => e = .returned (fv neg false false m2 e2) ∧ Later w w' := by
  go_enter Try.func36, Try.ntmps36
  go_wp2_with fail
  refine wp_region_quiet_far (by kernel_rfl) (by kernel_rfl) ?_
  repeat (quiet_step ((go_at_call 43; exact Calls.far_of (top_any _))))
  refine wpQuiet_nil ?_
  rintro _ ⟨⟨bs, n⟩, rfl⟩
  go_wp2_with (first | (go_at_call 44; refine (least_any _).mono ?_; rintro e w' ⟨rfl, bs, n, rfl⟩) | (go_at_call 43; refine (top_any _).mono ?_; rintro e w' ⟨rfl, bs, n, rfl⟩))
  go_region
  go_wp2_with (first | (go_at_call 44; refine (least_any _).mono ?_; rintro e w' ⟨rfl, bs, n, rfl⟩) | (go_at_call 43; refine (top_any _).mono ?_; rintro e w' ⟨rfl, bs, n, rfl⟩))
  first
    | (go_ret; exact ⟨rfl, (by repeat (first | exact Later.refl _ | refine Later.alloc ?_ | refine Later.far ?_ | refine Later.drewN ?_ | refine Later.drew ?_))⟩)
    | (refine bodyPost_ret (v := (fv neg false false m2 e2)) (by simp [results, Try.results36, go_sem]) rfl ⟨rfl, (by repeat (first | exact Later.refl _ | refine Later.alloc ?_ | refine Later.far ?_ | refine Later.drewN ?_ | refine Later.drew ?_))⟩)
end Go.Proofs.Ytibfjlibkaejnaa.S
