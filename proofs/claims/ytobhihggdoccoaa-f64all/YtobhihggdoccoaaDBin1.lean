/- Contracts of the document's floats (pelorusref4), over this seat's translation: operations on two floats. -/
import Derived.Test.YtobhihggdoccoaaDApart2
import Derived.Test.YtobhihggdoccoaaFFar3
import Derived.Test.YtobhihggdoccoaaFFar2
import Derived.WalkLawsBesides
import Derived.RegionCalls
import Derived.Deep.RegionHeld3
import Derived.Deep.RegionWith
namespace Go.Proofs.Ytobhihggdoccoaa.D
open Go.RowKit
open Go.FM (W64 two bl lost isN qn)
set_option linter.unusedVariables false

set_option maxRecDepth 100000 in
set_option maxHeartbeats 4000000 in
set_option linter.unusedSimpArgs false in
theorem bin_1w (x y m n i j : Int) (s t i1 i2 n1 n2 : Bool) (z : Int) (ha : Hid (∀ w : World, Calls Try.prog 52 #[fm, .int .u64 x] w fun e w' => e = .returned (fv s i1 n1 m i) ∧ Later w w')) (hb : Hid (∀ w : World, Calls Try.prog 52 #[fm, .int .u64 y] w fun e w' => e = .returned (fv t i2 n2 n j) ∧ Later w w')) (hs : Hid (∀ w : World, Calls Try.prog 56 #[fm, fv s i1 n1 m i, fv (!t) i2 n2 n j] w fun e w' => e = .returned (.int .u64 z) ∧ Later w w')) (w : World) :
    Calls Try.prog 33 #[fm, .int .i64 1, .int .u64 x, .int .u64 y] w fun e w' => e = .returned (.int .u64 z) ∧ Later w w' := by
  have es : sgn true = 9223372036854775808 := rfl
  go_enter Try.func33, Try.ntmps33
  go_wp2_with fail
  go_region_held3 (fun w' => w'.cell? ⟨w.heap.size, 0, none⟩ = some (.int .i64 64) ∧ w'.cell? ⟨w.heap.size, 1, none⟩ = some (.int .i64 52) ∧ w.heap.size < w'.heap.size) (refine ⟨?_, ?_, ?_⟩ <;> (repeat (first | refine World.cell?_alloc_some ?_ | (refine (World.cell?_far _ _ _ _ _ ?_).trans ?_; (simp only [World.size_alloc, World.size_drew, World.size_setCell, World.far_size]; omega)))) <;> first | (simp only [World.size_alloc, World.size_drew, World.size_setCell, World.far_size]; omega) | (simp (maxDischargeDepth := 8) [go_sem]; done)) (first | (go_at_call_of 52 x; refine (ha.out _).mono ?_; rintro e w' ⟨rfl, bs1, n1, rfl⟩) | (go_at_call_of 52 y; refine (hb.out _).mono ?_; rintro e w' ⟨rfl, bs2, n2, rfl⟩))
  all_goals
    go_wp2_with fail
    refine (signed_any true _).mono ?_
    rintro e w' ⟨rfl, bs71, n71, rfl⟩
    go_wp2_with fail
    refine (hs.out _).mono ?_
    rintro e w' ⟨rfl, bs72, n72, rfl⟩
    go_wp2
    go_ret
    exact ⟨rfl, (by repeat (first | exact Later.refl _ | refine Later.alloc ?_ | refine Later.far ?_ | refine Later.drewN ?_ | refine Later.drew ?_))⟩
end Go.Proofs.Ytobhihggdoccoaa.D
