/- Contracts of the document's floats (pelorusref4), over this seat's translation: operations on two floats. -/
import Derived.Test.YtobhihggdoccoaaDApart2
import Derived.Test.YtobhihggdoccoaaDLessF
import Derived.Test.YtobhihggdoccoaaFFar3
import Derived.Test.YtobhihggdoccoaaFFar2
import Derived.WalkLawsBesides
import Derived.RegionCalls
import Derived.Deep.RegionHeld3
import Derived.Deep.RegionWith
namespace Go.Proofs.Ytobhihggdoccoaa.D
open Go.RowKit
open Go.FM (W64 two bl lost isN qn)
set_option linter.unusedVariables false

set_option maxRecDepth 100000 in
set_option maxHeartbeats 4000000 in
set_option linter.unusedSimpArgs false in
theorem bin_all (k x y m n i j r z0 z2 z3 z4 z5 z6 : Int) (s t i1 i2 n1 n2 : Bool) (ha : Hid (∀ w : World, Calls Try.prog 52 #[fm, .int .u64 x] w fun e w' => e = .returned (fv s i1 n1 m i) ∧ Later w w')) (hb : Hid (∀ w : World, Calls Try.prog 52 #[fm, .int .u64 y] w fun e w' => e = .returned (fv t i2 n2 n j) ∧ Later w w')) (q0 : Hid (∀ w : World, Calls Try.prog 56 #[fm, fv s i1 n1 m i, fv t i2 n2 n j] w fun e w' => e = .returned (.int .u64 z0) ∧ Later w w')) (q2 : Hid (∀ w : World, Calls Try.prog 57 #[fm, fv s i1 n1 m i, fv t i2 n2 n j] w fun e w' => e = .returned (.int .u64 z2) ∧ Later w w')) (q3 : Hid (∀ w : World, Calls Try.prog 58 #[fm, fv s i1 n1 m i, fv t i2 n2 n j] w fun e w' => e = .returned (.int .u64 z3) ∧ Later w w')) (q4 : Hid (∀ w : World, Calls Try.prog 59 #[fm, .bool false, .int .u64 x, .int .u64 y] w fun e w' => e = .returned (.int .u64 z4) ∧ Later w w')) (q5 : Hid (∀ w : World, Calls Try.prog 59 #[fm, .bool true, .int .u64 x, .int .u64 y] w fun e w' => e = .returned (.int .u64 z5) ∧ Later w w')) (x1 y1 : Int) (h1 : bits .andNot .u64 x 9223372036854775808 = x1) (h2 : bits .and .u64 y 9223372036854775808 = y1) (h3 : bits .or .u64 x1 y1 = z6) (hk : (0 ≤ k ∧ k ≤ 6) ∧ ¬ k = 1) (hr : Hid (binF k z0 z2 z3 z4 z5 z6 = r)) (w : World) :
    Calls Try.prog 33 #[fm, .int .i64 k, .int .u64 x, .int .u64 y] w fun e w' => e = .returned (.int .u64 r) ∧ Later w w' := by
  have es : sgn true = 9223372036854775808 := rfl
  go_enter Try.func33, Try.ntmps33
  go_wp2_with fail
  rename_i Q' K hK
  have T : Hid (∀ (pa pb : Nat) (w' : World), Later w w' → w.heap.size < w'.heap.size → pa < w'.heap.size → pb < w'.heap.size → w'.cell? ⟨w.heap.size, 0, none⟩ = some (.int .i64 64) → w'.cell? ⟨w.heap.size, 1, none⟩ = some (.int .i64 52) → w'.cell? ⟨pa, 0, none⟩ = some (.bool s) → w'.cell? ⟨pb, 0, none⟩ = some (.bool t) → w'.cell? ⟨pa, 1, none⟩ = some (.bool i1) → w'.cell? ⟨pb, 1, none⟩ = some (.bool i2) → w'.cell? ⟨pa, 2, none⟩ = some (.bool n1) → w'.cell? ⟨pb, 2, none⟩ = some (.bool n2) → w'.cell? ⟨pa, 3, none⟩ = some (.int .u64 m) → w'.cell? ⟨pb, 3, none⟩ = some (.int .u64 n) → w'.cell? ⟨pa, 4, none⟩ = some (.int .i64 i) → w'.cell? ⟨pb, 4, none⟩ = some (.int .i64 j) → K { tmps := #[fm, .int .i64 k, .int .u64 x, .int .u64 y, .pointer (some ⟨w.heap.size, 0, none⟩), undef, undef, undef, .int .u64 0, .pointer (some ⟨pa, 0, none⟩), .pointer (some ⟨pb, 0, none⟩), undef, .agg #[.int .i64 64, .int .i64 52], .int .u64 x, fv s i1 n1 m i, .agg #[.int .i64 64, .int .i64 52], .int .u64 y, fv t i2 n2 n j, undef, undef, undef, undef, undef, undef, undef, undef, undef, undef, undef, undef, undef, undef, undef, undef, undef, undef, undef, undef, undef, undef, undef, undef, undef, undef, undef, undef, undef, undef, undef, undef, undef, undef, undef, undef, undef, undef, undef, undef, undef, undef, undef, undef, undef, undef, undef], defers := [] } w') := by
    intro pa pb w' hw h0 hpa hpb c0 c1 a0 b0 a1 b1 a2 b2 a3 b3 a4 b4
    refine hK _ _ ?_
    clear hK ha hb
    have hc : k = 0 ∨ k = 2 ∨ k = 3 ∨ k = 4 ∨ k = 5 ∨ k = 6 := by omega
    clear hk
    rcases hc with rfl | rfl | rfl | rfl | rfl | rfl
    · have hr : z0 = r := hr.out
      subst hr
      go_wp2_with fail
      refine (signed_any true _).mono ?_
      rintro e w' ⟨rfl, bs71, n71, rfl⟩
      go_wp2_with fail
      refine (q0.out _).mono ?_
      rintro e w' ⟨rfl, bs72, n72, rfl⟩
      go_wp2
      go_ret
      exact ⟨rfl, (by repeat (first | exact hw | exact Later.refl _ | refine Later.alloc ?_ | refine Later.far ?_ | refine Later.drewN ?_ | refine Later.drew ?_))⟩
    · have hr : z2 = r := hr.out
      subst hr
      go_wp2_with fail
      refine (signed_any true _).mono ?_
      rintro e w' ⟨rfl, bs71, n71, rfl⟩
      go_wp2_with fail
      refine (q2.out _).mono ?_
      rintro e w' ⟨rfl, bs72, n72, rfl⟩
      go_wp2
      go_ret
      exact ⟨rfl, (by repeat (first | exact hw | exact Later.refl _ | refine Later.alloc ?_ | refine Later.far ?_ | refine Later.drewN ?_ | refine Later.drew ?_))⟩
    · have hr : z3 = r := hr.out
      subst hr
      go_wp2_with fail
      refine (signed_any true _).mono ?_
      rintro e w' ⟨rfl, bs71, n71, rfl⟩
      go_wp2_with fail
      refine (q3.out _).mono ?_
      rintro e w' ⟨rfl, bs72, n72, rfl⟩
      go_wp2
      go_ret
      exact ⟨rfl, (by repeat (first | exact hw | exact Later.refl _ | refine Later.alloc ?_ | refine Later.far ?_ | refine Later.drewN ?_ | refine Later.drew ?_))⟩
    · have hr : z4 = r := hr.out
      subst hr
      go_wp2_with fail
      refine (signed_any true _).mono ?_
      rintro e w' ⟨rfl, bs71, n71, rfl⟩
      go_wp2_with fail
      refine (q4.out _).mono ?_
      rintro e w' ⟨rfl, bs72, n72, rfl⟩
      go_wp2
      go_ret
      exact ⟨rfl, (by repeat (first | exact hw | exact Later.refl _ | refine Later.alloc ?_ | refine Later.far ?_ | refine Later.drewN ?_ | refine Later.drew ?_))⟩
    · have hr : z5 = r := hr.out
      subst hr
      go_wp2_with fail
      refine (signed_any true _).mono ?_
      rintro e w' ⟨rfl, bs71, n71, rfl⟩
      go_wp2_with fail
      refine (q5.out _).mono ?_
      rintro e w' ⟨rfl, bs72, n72, rfl⟩
      go_wp2
      go_ret
      exact ⟨rfl, (by repeat (first | exact hw | exact Later.refl _ | refine Later.alloc ?_ | refine Later.far ?_ | refine Later.drewN ?_ | refine Later.drew ?_))⟩
    · have hr : z6 = r := hr.out
      subst hr
      go_wp2_with fail
      refine (signed_any true _).mono ?_
      rintro e w' ⟨rfl, bs71, n71, rfl⟩
      go_wp2
      go_ret
      exact ⟨rfl, (by repeat (first | exact hw | exact Later.refl _ | refine Later.alloc ?_ | refine Later.far ?_ | refine Later.drewN ?_ | refine Later.drew ?_))⟩
  clear hK q0 q2 q3 q4 q5 h1 h2 h3 hk hr es
  go_region_held3 (fun w' => w'.cell? ⟨w.heap.size, 0, none⟩ = some (.int .i64 64) ∧ w'.cell? ⟨w.heap.size, 1, none⟩ = some (.int .i64 52) ∧ w.heap.size < w'.heap.size) (refine ⟨?_, ?_, ?_⟩ <;> (repeat (first | refine World.cell?_alloc_some ?_ | (refine (World.cell?_far _ _ _ _ _ ?_).trans ?_; (simp only [World.size_alloc, World.size_drew, World.size_setCell, World.far_size]; omega)))) <;> first | (simp only [World.size_alloc, World.size_drew, World.size_setCell, World.far_size]; omega) | (simp (maxDischargeDepth := 8) [go_sem]; done)) (first | (go_at_call_of 52 x; refine (ha.out _).mono ?_; rintro e w' ⟨rfl, bs1, n1, rfl⟩) | (go_at_call_of 52 y; refine (hb.out _).mono ?_; rintro e w' ⟨rfl, bs2, n2, rfl⟩))
  all_goals
    refine T.out _ _ _ ?_ ?_ ?_ ?_ ?_ ?_ ?_ ?_ ?_ ?_ ?_ ?_ ?_ ?_ ?_ ?_
    all_goals (first | ((repeat (first | exact Later.refl _ | refine Later.alloc ?_ | refine Later.far ?_ | refine Later.drewN ?_ | refine Later.drew ?_)); done) | (repeat (first | refine World.cell?_alloc_some ?_ | (refine (World.cell?_far _ _ _ _ _ ?_).trans ?_; (simp only [World.size_alloc, World.size_drew, World.size_setCell, World.far_size]; omega)))) <;> first | (simp only [World.size_alloc, World.size_drew, World.size_setCell, World.far_size]; omega) | (simp (maxDischargeDepth := 8) [go_sem]; done))
end Go.Proofs.Ytobhihggdoccoaa.D
