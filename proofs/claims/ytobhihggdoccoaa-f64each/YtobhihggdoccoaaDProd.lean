/- Contracts of the document's floats (pelorusref4), over this seat's translation: products. -/
import Derived.Test.YtobhihggdoccoaaDApart2
import Derived.Test.YtobhihggdoccoaaFFar2
import Derived.WalkLawsBesides
import Derived.RegionCalls
import Derived.Deep.RegionWith
namespace Go.Proofs.Ytobhihggdoccoaa.D
open Go.RowKit
open Go.FM (W64 two bl lost isN qn)
set_option linter.unusedVariables false

set_option maxRecDepth 100000 in
set_option maxHeartbeats 4000000 in
theorem product_fin0 (s t v : Bool) (m n hi lo z : Nat) (i j ee : Int) (hs : (!(s == t)) = v) (hij : IntKind.i64.wrap (i + j) = ee) (hm : Hid (∀ w : World, Calls Try.prog 73 #[.int .u64 (m : Nat), .int .u64 (n : Nat)] w fun e w' => e = .returned (.tuple #[.int .u64 (hi : Nat), .int .u64 (lo : Nat)]) ∧ w' = w)) (hr : Hid (∀ w : World, Calls Try.prog 74 #[fm, .bool v, .int .u64 (hi : Nat), .int .u64 (lo : Nat), .int .i64 ee] w fun e w' => e = .returned (.int .u64 (z : Nat)) ∧ Later w w')) (w : World) :
    Calls Try.prog 57 #[fm, fv s false false (m : Nat) i, fv t false false (n : Nat) j] w fun e w' => e = .returned (.int .u64 (z : Nat)) ∧ Later w w' := by
  go_enter Try.func57, Try.ntmps57
  go_wp2_with fail
  refine (hm.out _).mono ?_
  rintro e w' ⟨rfl, rfl⟩
  go_wp2_with fail
  refine (hr.out _).mono ?_
  rintro e w' ⟨rfl, bs2, n2, rfl⟩
  go_wp2
  go_ret
  exact ⟨rfl, (by repeat (first | exact Later.refl _ | refine Later.alloc ?_ | refine Later.far ?_ | refine Later.drewN ?_ | refine Later.drew ?_))⟩
set_option maxRecDepth 100000 in
set_option maxHeartbeats 4000000 in
theorem product_nan1 (s t p q r : Bool) (m n i j : Int) (w : World) :
    Calls Try.prog 57 #[fm, fv s p true m i, fv t q r n j] w fun e w' => e = .returned (.int .u64 9221120237041090560) ∧ Later w w' := by
  go_enter Try.func57, Try.ntmps57
  go_wp2_with fail
  refine (nan_any _).mono ?_
  rintro e w' ⟨rfl, bs3, n3, rfl⟩
  go_wp2
  go_ret
  exact ⟨rfl, (by repeat (first | exact Later.refl _ | refine Later.alloc ?_ | refine Later.far ?_ | refine Later.drewN ?_ | refine Later.drew ?_))⟩
set_option maxRecDepth 100000 in
set_option maxHeartbeats 4000000 in
theorem product_nan2 (s t p : Bool) (m n i j : Int) (w : World) :
    Calls Try.prog 57 #[fm, fv s p false m i, fv t false true n j] w fun e w' => e = .returned (.int .u64 9221120237041090560) ∧ Later w w' := by
  go_enter Try.func57, Try.ntmps57
  go_wp2_with fail
  refine (nan_any _).mono ?_
  rintro e w' ⟨rfl, bs4, n4, rfl⟩
  go_wp2
  go_ret
  exact ⟨rfl, (by repeat (first | exact Later.refl _ | refine Later.alloc ?_ | refine Later.far ?_ | refine Later.drewN ?_ | refine Later.drew ?_))⟩
set_option maxRecDepth 100000 in
set_option maxHeartbeats 4000000 in
theorem product_nan3 (s t : Bool) (m i j : Int) (w : World) :
    Calls Try.prog 57 #[fm, fv s true false m i, fv t false false 0 j] w fun e w' => e = .returned (.int .u64 9221120237041090560) ∧ Later w w' := by
  go_enter Try.func57, Try.ntmps57
  go_wp2_with fail
  refine (nan_any _).mono ?_
  rintro e w' ⟨rfl, bs5, n5, rfl⟩
  go_wp2
  go_ret
  exact ⟨rfl, (by repeat (first | exact Later.refl _ | refine Later.alloc ?_ | refine Later.far ?_ | refine Later.drewN ?_ | refine Later.drew ?_))⟩
set_option maxRecDepth 100000 in
set_option maxHeartbeats 4000000 in
theorem product_nan4 (s t : Bool) (n i j : Int) (w : World) :
    Calls Try.prog 57 #[fm, fv s false false 0 i, fv t true false n j] w fun e w' => e = .returned (.int .u64 9221120237041090560) ∧ Later w w' := by
  go_enter Try.func57, Try.ntmps57
  go_wp2_with fail
  refine (nan_any _).mono ?_
  rintro e w' ⟨rfl, bs6, n6, rfl⟩
  go_wp2
  go_ret
  exact ⟨rfl, (by repeat (first | exact Later.refl _ | refine Later.alloc ?_ | refine Later.far ?_ | refine Later.drewN ?_ | refine Later.drew ?_))⟩
set_option maxRecDepth 100000 in
set_option maxHeartbeats 4000000 in
theorem product_inf1 (s t : Bool) (m n i j : Int) (v : Bool) (hs : (!(s == t)) = v) (w : World) :
    Calls Try.prog 57 #[fm, fv s true false m i, fv t true false n j] w fun e w' => e = .returned (.int .u64 (sgn v + 9218868437227405312)) ∧ Later w w' := by
  go_enter Try.func57, Try.ntmps57
  go_wp2_with fail
  refine (inf_any v _).mono ?_
  rintro e w' ⟨rfl, bs7, n7, rfl⟩
  go_wp2
  go_ret
  exact ⟨rfl, (by repeat (first | exact Later.refl _ | refine Later.alloc ?_ | refine Later.far ?_ | refine Later.drewN ?_ | refine Later.drew ?_))⟩
set_option maxRecDepth 100000 in
set_option maxHeartbeats 4000000 in
theorem product_inf2 (s t : Bool) (m n i j : Int) (v : Bool) (hs : (!(s == t)) = v) (hn : (n == 0) = false) (w : World) :
    Calls Try.prog 57 #[fm, fv s true false m i, fv t false false n j] w fun e w' => e = .returned (.int .u64 (sgn v + 9218868437227405312)) ∧ Later w w' := by
  go_enter Try.func57, Try.ntmps57
  go_wp2_with fail
  refine (inf_any v _).mono ?_
  rintro e w' ⟨rfl, bs8, n8, rfl⟩
  go_wp2
  go_ret
  exact ⟨rfl, (by repeat (first | exact Later.refl _ | refine Later.alloc ?_ | refine Later.far ?_ | refine Later.drewN ?_ | refine Later.drew ?_))⟩
set_option maxRecDepth 100000 in
set_option maxHeartbeats 4000000 in
theorem product_inf3 (s t : Bool) (m n i j : Int) (v : Bool) (hs : (!(s == t)) = v) (hm : (m == 0) = false) (w : World) :
    Calls Try.prog 57 #[fm, fv s false false m i, fv t true false n j] w fun e w' => e = .returned (.int .u64 (sgn v + 9218868437227405312)) ∧ Later w w' := by
  go_enter Try.func57, Try.ntmps57
  go_wp2_with fail
  refine (inf_any v _).mono ?_
  rintro e w' ⟨rfl, bs9, n9, rfl⟩
  go_wp2
  go_ret
  exact ⟨rfl, (by repeat (first | exact Later.refl _ | refine Later.alloc ?_ | refine Later.far ?_ | refine Later.drewN ?_ | refine Later.drew ?_))⟩
end Go.Proofs.Ytobhihggdoccoaa.D
