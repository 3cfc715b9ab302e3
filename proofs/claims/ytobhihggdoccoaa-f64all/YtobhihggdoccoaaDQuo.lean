/- Contracts of the document's floats (pelorusref4), over this seat's translation: quotients, the walks. -/
import Derived.Test.YtobhihggdoccoaaDApart2
import Derived.Test.YtobhihggdoccoaaFFar2
import Derived.WalkLawsBesides
import Derived.RegionCalls
import Derived.Deep.RegionWith
namespace Go.Proofs.Ytobhihggdoccoaa.D
open Go.RowKit
open Go.FM (W64 two bl lost isN qn)
set_option linter.unusedVariables false

set_option maxRecDepth 100000 in
set_option maxHeartbeats 4000000 in
theorem quo_fin0 (s t v : Bool) (m n : Int) (p q : Nat) (i j X Y x1 x2 k hi lo lo2 e1 e2 e3 e4 ee : Int) (z : Nat) (hs : (!(s == t)) = v) (hm : (m == 0) = false) (hm2 : ¬ m = 0) (hn : (n == 0) = false) (hn2 : ¬ n = 0) (hpb : p ≤ 64) (hqb : q ≤ 64) (hp : Hid (∀ w : World, Calls Try.prog 71 #[.int .u64 m] w fun e w' => e = .returned (.int .i64 (p : Nat)) ∧ w' = w)) (hq : Hid (∀ w : World, Calls Try.prog 71 #[.int .u64 n] w fun e w' => e = .returned (.int .i64 (q : Nat)) ∧ w' = w)) (hX : IntKind.u64.wrap (m * 2 ^ p) = X) (hY : IntKind.u64.wrap (n * 2 ^ q) = Y) (he1 : IntKind.i64.wrap (i - p) = e1) (he2 : IntKind.i64.wrap (j - q) = e2) (he3 : IntKind.i64.wrap (e1 - e2) = e3) (he4 : IntKind.i64.wrap (e3 - 63) = e4) (hee : IntKind.i64.wrap (e4 - 1) = ee) (hx1 : X / 2 = x1) (hx2 : IntKind.u64.wrap (X * 9223372036854775808) = x2) (hd : Hid (∀ w : World, Calls Try.prog 79 #[.int .u64 x1, .int .u64 x2, .int .u64 Y] w fun e w' => e = .returned (.tuple #[.int .u64 k, .int .u64 0]) ∧ w' = w)) (hU : Hid (∀ w : World, Calls Try.prog 72 #[.int .u64 k, .int .i64 1] w fun e w' => e = .returned (.tuple #[.int .u64 hi, .int .u64 lo]) ∧ Later w w')) (hr : Hid (∀ w : World, Calls Try.prog 74 #[fm, .bool v, .int .u64 hi, .int .u64 lo, .int .i64 ee] w fun e w' => e = .returned (.int .u64 (z : Nat)) ∧ Later w w')) (w : World) :
    Calls Try.prog 58 #[fm, fv s false false m i, fv t false false n j] w fun e w' => e = .returned (.int .u64 (z : Nat)) ∧ Later w w' := by
  go_enter Try.func58, Try.ntmps58
  go_wp2_with fail
  refine wp_region_quiet_far (by kernel_rfl) (by kernel_rfl) ?_
  repeat (quiet_step (first | (go_at_call 71; exact Calls.far_of_same (hp.out _)) | (go_at_call 71; exact Calls.far_of_same (hq.out _))))
  refine wpQuiet_nil ?_
  rintro _ ⟨⟨bq1, nq1⟩, rfl⟩
  go_wp2_with fail
  refine wp_region_quiet_far2 (by kernel_rfl) (by kernel_rfl) ?_
  repeat (quiet_step (first | fail))
  refine wpQuiet_nil ?_
  rintro _ ⟨⟨bq2, nq2⟩, rfl⟩
  go_wp2_with fail
  refine (hd.out _).mono ?_
  rintro e w' ⟨rfl, rfl⟩
  go_wp2_with fail
  refine (hU.out _).mono ?_
  rintro e w' ⟨rfl, bs4, n4, rfl⟩
  go_wp2_with fail
  refine (hr.out _).mono ?_
  rintro e w' ⟨rfl, bs5, n5, rfl⟩
  go_wp2
  go_ret
  exact ⟨rfl, (by repeat (first | exact Later.refl _ | refine Later.alloc ?_ | refine Later.far ?_ | refine Later.drewN ?_ | refine Later.drew ?_))⟩
set_option maxRecDepth 100000 in
set_option maxHeartbeats 4000000 in
theorem quo_fin1 (s t v : Bool) (m n r : Int) (p q : Nat) (i j X Y x1 x2 k hi lo lo2 e1 e2 e3 e4 ee : Int) (z : Nat) (hs : (!(s == t)) = v) (hm : (m == 0) = false) (hm2 : ¬ m = 0) (hn : (n == 0) = false) (hn2 : ¬ n = 0) (hpb : p ≤ 64) (hqb : q ≤ 64) (hp : Hid (∀ w : World, Calls Try.prog 71 #[.int .u64 m] w fun e w' => e = .returned (.int .i64 (p : Nat)) ∧ w' = w)) (hq : Hid (∀ w : World, Calls Try.prog 71 #[.int .u64 n] w fun e w' => e = .returned (.int .i64 (q : Nat)) ∧ w' = w)) (hX : IntKind.u64.wrap (m * 2 ^ p) = X) (hY : IntKind.u64.wrap (n * 2 ^ q) = Y) (he1 : IntKind.i64.wrap (i - p) = e1) (he2 : IntKind.i64.wrap (j - q) = e2) (he3 : IntKind.i64.wrap (e1 - e2) = e3) (he4 : IntKind.i64.wrap (e3 - 63) = e4) (hee : IntKind.i64.wrap (e4 - 1) = ee) (hx1 : X / 2 = x1) (hx2 : IntKind.u64.wrap (X * 9223372036854775808) = x2) (hd : Hid (∀ w : World, Calls Try.prog 79 #[.int .u64 x1, .int .u64 x2, .int .u64 Y] w fun e w' => e = .returned (.tuple #[.int .u64 k, .int .u64 r]) ∧ w' = w)) (hU : Hid (∀ w : World, Calls Try.prog 72 #[.int .u64 k, .int .i64 1] w fun e w' => e = .returned (.tuple #[.int .u64 hi, .int .u64 lo]) ∧ Later w w')) (hr0 : ¬ r = 0) (hr1 : (r == 0) = false) (hl : bits .or .u64 lo 1 = lo2) (hr : Hid (∀ w : World, Calls Try.prog 74 #[fm, .bool v, .int .u64 hi, .int .u64 lo2, .int .i64 ee] w fun e w' => e = .returned (.int .u64 (z : Nat)) ∧ Later w w')) (w : World) :
    Calls Try.prog 58 #[fm, fv s false false m i, fv t false false n j] w fun e w' => e = .returned (.int .u64 (z : Nat)) ∧ Later w w' := by
  go_enter Try.func58, Try.ntmps58
  go_wp2_with fail
  refine wp_region_quiet_far (by kernel_rfl) (by kernel_rfl) ?_
  repeat (quiet_step (first | (go_at_call 71; exact Calls.far_of_same (hp.out _)) | (go_at_call 71; exact Calls.far_of_same (hq.out _))))
  refine wpQuiet_nil ?_
  rintro _ ⟨⟨bq6, nq6⟩, rfl⟩
  go_wp2_with fail
  refine wp_region_quiet_far2 (by kernel_rfl) (by kernel_rfl) ?_
  repeat (quiet_step (first | fail))
  refine wpQuiet_nil ?_
  rintro _ ⟨⟨bq7, nq7⟩, rfl⟩
  go_wp2_with fail
  refine (hd.out _).mono ?_
  rintro e w' ⟨rfl, rfl⟩
  go_wp2_with fail
  refine (hU.out _).mono ?_
  rintro e w' ⟨rfl, bs9, n9, rfl⟩
  go_wp2_with fail
  refine (hr.out _).mono ?_
  rintro e w' ⟨rfl, bs10, n10, rfl⟩
  go_wp2
  go_ret
  exact ⟨rfl, (by repeat (first | exact Later.refl _ | refine Later.alloc ?_ | refine Later.far ?_ | refine Later.drewN ?_ | refine Later.drew ?_))⟩
set_option maxRecDepth 100000 in
set_option maxHeartbeats 4000000 in
theorem quo_nan1 (s t p q r : Bool) (m n i j : Int) (w : World) :
    Calls Try.prog 58 #[fm, fv s p true m i, fv t q r n j] w fun e w' => e = .returned (.int .u64 9221120237041090560) ∧ Later w w' := by
  go_enter Try.func58, Try.ntmps58
  go_wp2_with fail
  refine (nan_any _).mono ?_
  rintro e w' ⟨rfl, bs11, n11, rfl⟩
  go_wp2
  go_ret
  exact ⟨rfl, (by repeat (first | exact Later.refl _ | refine Later.alloc ?_ | refine Later.far ?_ | refine Later.drewN ?_ | refine Later.drew ?_))⟩
set_option maxRecDepth 100000 in
set_option maxHeartbeats 4000000 in
theorem quo_nan2 (s t p : Bool) (m n i j : Int) (w : World) :
    Calls Try.prog 58 #[fm, fv s p false m i, fv t false true n j] w fun e w' => e = .returned (.int .u64 9221120237041090560) ∧ Later w w' := by
  go_enter Try.func58, Try.ntmps58
  go_wp2_with fail
  refine (nan_any _).mono ?_
  rintro e w' ⟨rfl, bs12, n12, rfl⟩
  go_wp2
  go_ret
  exact ⟨rfl, (by repeat (first | exact Later.refl _ | refine Later.alloc ?_ | refine Later.far ?_ | refine Later.drewN ?_ | refine Later.drew ?_))⟩
set_option maxRecDepth 100000 in
set_option maxHeartbeats 4000000 in
theorem quo_nan3 (s t : Bool) (m n i j : Int) (w : World) :
    Calls Try.prog 58 #[fm, fv s true false m i, fv t true false n j] w fun e w' => e = .returned (.int .u64 9221120237041090560) ∧ Later w w' := by
  go_enter Try.func58, Try.ntmps58
  go_wp2_with fail
  refine (nan_any _).mono ?_
  rintro e w' ⟨rfl, bs13, n13, rfl⟩
  go_wp2
  go_ret
  exact ⟨rfl, (by repeat (first | exact Later.refl _ | refine Later.alloc ?_ | refine Later.far ?_ | refine Later.drewN ?_ | refine Later.drew ?_))⟩
set_option maxRecDepth 100000 in
set_option maxHeartbeats 4000000 in
theorem quo_nan4 (s t : Bool) (i j : Int) (w : World) :
    Calls Try.prog 58 #[fm, fv s false false 0 i, fv t false false 0 j] w fun e w' => e = .returned (.int .u64 9221120237041090560) ∧ Later w w' := by
  go_enter Try.func58, Try.ntmps58
  go_wp2_with fail
  refine (nan_any _).mono ?_
  rintro e w' ⟨rfl, bs14, n14, rfl⟩
  go_wp2
  go_ret
  exact ⟨rfl, (by repeat (first | exact Later.refl _ | refine Later.alloc ?_ | refine Later.far ?_ | refine Later.drewN ?_ | refine Later.drew ?_))⟩
set_option maxRecDepth 100000 in
set_option maxHeartbeats 4000000 in
theorem quo_inf1 (s t : Bool) (m n i j : Int) (v : Bool) (hs : (!(s == t)) = v) (w : World) :
    Calls Try.prog 58 #[fm, fv s true false m i, fv t false false n j] w fun e w' => e = .returned (.int .u64 (sgn v + 9218868437227405312)) ∧ Later w w' := by
  go_enter Try.func58, Try.ntmps58
  go_wp2_with fail
  refine (inf_any v _).mono ?_
  rintro e w' ⟨rfl, bs15, n15, rfl⟩
  go_wp2
  go_ret
  exact ⟨rfl, (by repeat (first | exact Later.refl _ | refine Later.alloc ?_ | refine Later.far ?_ | refine Later.drewN ?_ | refine Later.drew ?_))⟩
set_option maxRecDepth 100000 in
set_option maxHeartbeats 4000000 in
theorem quo_inf2 (s t : Bool) (m i j : Int) (v : Bool) (hs : (!(s == t)) = v) (hm : (m == 0) = false) (hm2 : ¬ m = 0) (w : World) :
    Calls Try.prog 58 #[fm, fv s false false m i, fv t false false 0 j] w fun e w' => e = .returned (.int .u64 (sgn v + 9218868437227405312)) ∧ Later w w' := by
  go_enter Try.func58, Try.ntmps58
  go_wp2_with fail
  refine (inf_any v _).mono ?_
  rintro e w' ⟨rfl, bs16, n16, rfl⟩
  go_wp2
  go_ret
  exact ⟨rfl, (by repeat (first | exact Later.refl _ | refine Later.alloc ?_ | refine Later.far ?_ | refine Later.drewN ?_ | refine Later.drew ?_))⟩
set_option maxRecDepth 100000 in
set_option maxHeartbeats 4000000 in
theorem quo_zero1 (s t : Bool) (m n i j : Int) (v : Bool) (hs : (!(s == t)) = v) (w : World) :
    Calls Try.prog 58 #[fm, fv s false false m i, fv t true false n j] w fun e w' => e = .returned (.int .u64 (sgn v)) ∧ Later w w' := by
  go_enter Try.func58, Try.ntmps58
  go_wp2_with fail
  refine (signed_any v _).mono ?_
  rintro e w' ⟨rfl, bs17, n17, rfl⟩
  go_wp2
  go_ret
  exact ⟨rfl, (by repeat (first | exact Later.refl _ | refine Later.alloc ?_ | refine Later.far ?_ | refine Later.drewN ?_ | refine Later.drew ?_))⟩
set_option maxRecDepth 100000 in
set_option maxHeartbeats 4000000 in
theorem quo_zero2 (s t : Bool) (n i j : Int) (v : Bool) (hs : (!(s == t)) = v) (hn : (n == 0) = false) (hn2 : ¬ n = 0) (w : World) :
    Calls Try.prog 58 #[fm, fv s false false 0 i, fv t false false n j] w fun e w' => e = .returned (.int .u64 (sgn v)) ∧ Later w w' := by
  go_enter Try.func58, Try.ntmps58
  go_wp2_with fail
  refine (signed_any v _).mono ?_
  rintro e w' ⟨rfl, bs18, n18, rfl⟩
  go_wp2
  go_ret
  exact ⟨rfl, (by repeat (first | exact Later.refl _ | refine Later.alloc ?_ | refine Later.far ?_ | refine Later.drewN ?_ | refine Later.drew ?_))⟩
end Go.Proofs.Ytobhihggdoccoaa.D
