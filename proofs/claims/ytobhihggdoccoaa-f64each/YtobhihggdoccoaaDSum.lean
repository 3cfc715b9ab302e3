/- Contracts of the document's floats (pelorusref4), over this seat's translation: sums with infinities, the walks. -/
import Derived.Test.YtobhihggdoccoaaDApart2
import Derived.Test.YtobhihggdoccoaaFFar2
import Derived.WalkLawsBesides
import Derived.RegionCalls
import Derived.Deep.RegionWith
namespace Go.Proofs.Ytobhihggdoccoaa.D
open Go.RowKit
open Go.FM (W64 two bl lost isN qn)
set_option linter.unusedVariables false

set_option maxRecDepth 100000 in
set_option maxHeartbeats 4000000 in
theorem sum_nan1 (s t p q r : Bool) (m n i j : Int) (w : World) :
    Calls Try.prog 56 #[fm, fv s p true m i, fv t q r n j] w fun e w' => e = .returned (.int .u64 9221120237041090560) ∧ Later w w' := by
  go_enter Try.func56, Try.ntmps56
  go_wp2_with fail
  refine (nan_any _).mono ?_
  rintro e w' ⟨rfl, bs10, n10, rfl⟩
  go_wp2
  go_ret
  exact ⟨rfl, (by repeat (first | exact Later.refl _ | refine Later.alloc ?_ | refine Later.far ?_ | refine Later.drewN ?_ | refine Later.drew ?_))⟩
set_option maxRecDepth 100000 in
set_option maxHeartbeats 4000000 in
theorem sum_nan2 (s t p q : Bool) (m n i j : Int) (w : World) :
    Calls Try.prog 56 #[fm, fv s p false m i, fv t q true n j] w fun e w' => e = .returned (.int .u64 9221120237041090560) ∧ Later w w' := by
  go_enter Try.func56, Try.ntmps56
  go_wp2_with fail
  refine (nan_any _).mono ?_
  rintro e w' ⟨rfl, bs11, n11, rfl⟩
  go_wp2
  go_ret
  exact ⟨rfl, (by repeat (first | exact Later.refl _ | refine Later.alloc ?_ | refine Later.far ?_ | refine Later.drewN ?_ | refine Later.drew ?_))⟩
set_option maxRecDepth 100000 in
set_option maxHeartbeats 4000000 in
theorem sum_nan3 (s : Bool) (m n i j : Int) (w : World) :
    Calls Try.prog 56 #[fm, fv s true false m i, fv (!s) true false n j] w fun e w' => e = .returned (.int .u64 9221120237041090560) ∧ Later w w' := by
  go_enter Try.func56, Try.ntmps56
  go_wp2_with fail
  refine (nan_any _).mono ?_
  rintro e w' ⟨rfl, bs12, n12, rfl⟩
  go_wp2
  go_ret
  exact ⟨rfl, (by repeat (first | exact Later.refl _ | refine Later.alloc ?_ | refine Later.far ?_ | refine Later.drewN ?_ | refine Later.drew ?_))⟩
set_option maxRecDepth 100000 in
set_option maxHeartbeats 4000000 in
theorem sum_inf1 (s : Bool) (m n i j : Int) (w : World) :
    Calls Try.prog 56 #[fm, fv s true false m i, fv s true false n j] w fun e w' => e = .returned (.int .u64 (sgn s + 9218868437227405312)) ∧ Later w w' := by
  go_enter Try.func56, Try.ntmps56
  go_wp2_with fail
  refine (inf_any s _).mono ?_
  rintro e w' ⟨rfl, bs13, n13, rfl⟩
  go_wp2
  go_ret
  exact ⟨rfl, (by repeat (first | exact Later.refl _ | refine Later.alloc ?_ | refine Later.far ?_ | refine Later.drewN ?_ | refine Later.drew ?_))⟩
set_option maxRecDepth 100000 in
set_option maxHeartbeats 4000000 in
theorem sum_inf2 (s t : Bool) (m n i j : Int) (w : World) :
    Calls Try.prog 56 #[fm, fv s true false m i, fv t false false n j] w fun e w' => e = .returned (.int .u64 (sgn s + 9218868437227405312)) ∧ Later w w' := by
  go_enter Try.func56, Try.ntmps56
  go_wp2_with fail
  refine (inf_any s _).mono ?_
  rintro e w' ⟨rfl, bs14, n14, rfl⟩
  go_wp2
  go_ret
  exact ⟨rfl, (by repeat (first | exact Later.refl _ | refine Later.alloc ?_ | refine Later.far ?_ | refine Later.drewN ?_ | refine Later.drew ?_))⟩
set_option maxRecDepth 100000 in
set_option maxHeartbeats 4000000 in
theorem sum_inf3 (s t : Bool) (m n i j : Int) (w : World) :
    Calls Try.prog 56 #[fm, fv t false false m i, fv s true false n j] w fun e w' => e = .returned (.int .u64 (sgn s + 9218868437227405312)) ∧ Later w w' := by
  go_enter Try.func56, Try.ntmps56
  go_wp2_with fail
  refine (inf_any s _).mono ?_
  rintro e w' ⟨rfl, bs15, n15, rfl⟩
  go_wp2
  go_ret
  exact ⟨rfl, (by repeat (first | exact Later.refl _ | refine Later.alloc ?_ | refine Later.far ?_ | refine Later.drewN ?_ | refine Later.drew ?_))⟩
set_option maxRecDepth 100000 in
set_option maxHeartbeats 4000000 in
theorem sum_fin0 (s t : Bool) (m n i j : Int) (z : Nat) (ha : Hid (∀ w : World, Calls Try.prog 78 #[fm, fv s false false m i, fv t false false n j] w fun e w' => e = .returned (.int .u64 (z : Nat)) ∧ Later w w')) (w : World) :
    Calls Try.prog 56 #[fm, fv s false false m i, fv t false false n j] w fun e w' => e = .returned (.int .u64 (z : Nat)) ∧ Later w w' := by
  go_enter Try.func56, Try.ntmps56
  go_wp2_with fail
  refine (ha.out _).mono ?_
  rintro e w' ⟨rfl, bs16, n16, rfl⟩
  go_wp2
  go_ret
  exact ⟨rfl, (by repeat (first | exact Later.refl _ | refine Later.alloc ?_ | refine Later.far ?_ | refine Later.drewN ?_ | refine Later.drew ?_))⟩
end Go.Proofs.Ytobhihggdoccoaa.D
