/- Contracts of the document's floats (pelorusref4), over this seat's translation: less. -/
import Derived.Test.YtobhihggdoccoaaDApart2
import Derived.Test.YtobhihggdoccoaaDLessF
import Derived.Test.YtobhihggdoccoaaFFar3
import Derived.Test.YtobhihggdoccoaaFFar2
import Derived.WalkLawsBesides
import Derived.RegionCalls
import Derived.Deep.RegionHeld3
import Derived.Deep.RegionWith
namespace Go.Proofs.Ytobhihggdoccoaa.D
open Go.RowKit
open Go.FM (W64 two bl lost isN qn)
set_option linter.unusedVariables false

set_option maxRecDepth 100000 in
set_option maxHeartbeats 4000000 in
set_option linter.unusedSimpArgs false in
theorem less_all (x y p q m n i j : Int) (s t i1 i2 n1 n2 r : Bool) (ha : Hid (∀ w : World, Calls Try.prog 52 #[fm, .int .u64 x] w fun e w' => e = .returned (fv s i1 n1 m i) ∧ Later w w')) (hb : Hid (∀ w : World, Calls Try.prog 52 #[fm, .int .u64 y] w fun e w' => e = .returned (fv t i2 n2 n j) ∧ Later w w')) (hp : bits .and .u64 x 9223372036854775807 = p) (hq : bits .and .u64 y 9223372036854775807 = q) (hr : Hid (lessF s t p q = r)) (w : World) :
    Calls Try.prog 55 #[fm, .int .u64 x, .int .u64 y] w fun e w' => e = .returned (.bool r) ∧ Later w w' := by
  go_enter Try.func55, Try.ntmps55
  go_wp2_with fail
  rename_i Q' K hK
  have T : Hid (∀ (pa pb : Nat) (w' : World), Later w w' → w.heap.size < w'.heap.size → pa < w'.heap.size → pb < w'.heap.size → w'.cell? ⟨w.heap.size, 0, none⟩ = some (.int .i64 64) → w'.cell? ⟨w.heap.size, 1, none⟩ = some (.int .i64 52) → w'.cell? ⟨pa, 0, none⟩ = some (.bool s) → w'.cell? ⟨pb, 0, none⟩ = some (.bool t) → K { tmps := #[fm, .int .u64 x, .int .u64 y, .pointer (some ⟨w.heap.size, 0, none⟩), undef, undef, .bool false, .pointer (some ⟨pa, 0, none⟩), .pointer (some ⟨pb, 0, none⟩), undef, undef, undef, .agg #[.int .i64 64, .int .i64 52], .int .u64 x, fv s i1 n1 m i, .agg #[.int .i64 64, .int .i64 52], .int .u64 y, fv t i2 n2 n j, undef, undef, undef, undef, undef, undef, undef, undef, undef, undef, undef, undef, undef, undef, undef, undef, undef, undef, undef, undef, undef, undef, undef, undef, undef, undef, undef, undef, undef, undef, undef, undef, undef, undef, undef], defers := [] } w') := by
    intro pa pb w' hw h0 hpa hpb c0 c1 a0 b0
    refine hK _ _ ?_
    clear hK ha hb
    cases s <;> cases t
    · by_cases h1 : p = 0
      · by_cases h2 : q = 0
        · have hr : r = false := hr.out.symm.trans (lessF_a _ _ p q h1 h2)
          subst hr
          go_wp2
          go_ret
          exact ⟨rfl, (by repeat (first | exact hw | exact Later.refl _ | refine Later.alloc ?_ | refine Later.far ?_ | refine Later.drewN ?_ | refine Later.drew ?_))⟩
        · have h3 : (q == 0) = false := beq_eq_false_iff_ne.2 h2
          have hr : r = decide (0 < q) := hr.out.symm.trans (lessF_b false false p q h1 h2)
          subst hr
          go_wp2
          go_ret
          exact ⟨rfl, (by repeat (first | exact hw | exact Later.refl _ | refine Later.alloc ?_ | refine Later.far ?_ | refine Later.drewN ?_ | refine Later.drew ?_))⟩
      · have h3 : (p == 0) = false := beq_eq_false_iff_ne.2 h1
        have hr : r = decide (p < q) := hr.out.symm.trans (lessF_c false false p q h1)
        subst hr
        go_wp2
        go_ret
        exact ⟨rfl, (by repeat (first | exact hw | exact Later.refl _ | refine Later.alloc ?_ | refine Later.far ?_ | refine Later.drewN ?_ | refine Later.drew ?_))⟩
    · by_cases h1 : p = 0
      · by_cases h2 : q = 0
        · have hr : r = false := hr.out.symm.trans (lessF_a _ _ p q h1 h2)
          subst hr
          go_wp2
          go_ret
          exact ⟨rfl, (by repeat (first | exact hw | exact Later.refl _ | refine Later.alloc ?_ | refine Later.far ?_ | refine Later.drewN ?_ | refine Later.drew ?_))⟩
        · have h3 : (q == 0) = false := beq_eq_false_iff_ne.2 h2
          have hr : r = false := hr.out.symm.trans (lessF_b false true p q h1 h2)
          subst hr
          go_wp2
          go_ret
          exact ⟨rfl, (by repeat (first | exact hw | exact Later.refl _ | refine Later.alloc ?_ | refine Later.far ?_ | refine Later.drewN ?_ | refine Later.drew ?_))⟩
      · have h3 : (p == 0) = false := beq_eq_false_iff_ne.2 h1
        have hr : r = false := hr.out.symm.trans (lessF_c false true p q h1)
        subst hr
        go_wp2
        go_ret
        exact ⟨rfl, (by repeat (first | exact hw | exact Later.refl _ | refine Later.alloc ?_ | refine Later.far ?_ | refine Later.drewN ?_ | refine Later.drew ?_))⟩
    · by_cases h1 : p = 0
      · by_cases h2 : q = 0
        · have hr : r = false := hr.out.symm.trans (lessF_a _ _ p q h1 h2)
          subst hr
          go_wp2
          go_ret
          exact ⟨rfl, (by repeat (first | exact hw | exact Later.refl _ | refine Later.alloc ?_ | refine Later.far ?_ | refine Later.drewN ?_ | refine Later.drew ?_))⟩
        · have h3 : (q == 0) = false := beq_eq_false_iff_ne.2 h2
          have hr : r = true := hr.out.symm.trans (lessF_b true false p q h1 h2)
          subst hr
          go_wp2
          go_ret
          exact ⟨rfl, (by repeat (first | exact hw | exact Later.refl _ | refine Later.alloc ?_ | refine Later.far ?_ | refine Later.drewN ?_ | refine Later.drew ?_))⟩
      · have h3 : (p == 0) = false := beq_eq_false_iff_ne.2 h1
        have hr : r = true := hr.out.symm.trans (lessF_c true false p q h1)
        subst hr
        go_wp2
        go_ret
        exact ⟨rfl, (by repeat (first | exact hw | exact Later.refl _ | refine Later.alloc ?_ | refine Later.far ?_ | refine Later.drewN ?_ | refine Later.drew ?_))⟩
    · by_cases h1 : p = 0
      · by_cases h2 : q = 0
        · have hr : r = false := hr.out.symm.trans (lessF_a _ _ p q h1 h2)
          subst hr
          go_wp2
          go_ret
          exact ⟨rfl, (by repeat (first | exact hw | exact Later.refl _ | refine Later.alloc ?_ | refine Later.far ?_ | refine Later.drewN ?_ | refine Later.drew ?_))⟩
        · have h3 : (q == 0) = false := beq_eq_false_iff_ne.2 h2
          have hr : r = decide (q < 0) := hr.out.symm.trans (lessF_b true true p q h1 h2)
          subst hr
          go_wp2
          go_ret
          exact ⟨rfl, (by repeat (first | exact hw | exact Later.refl _ | refine Later.alloc ?_ | refine Later.far ?_ | refine Later.drewN ?_ | refine Later.drew ?_))⟩
      · have h3 : (p == 0) = false := beq_eq_false_iff_ne.2 h1
        have hr : r = decide (q < p) := hr.out.symm.trans (lessF_c true true p q h1)
        subst hr
        go_wp2
        go_ret
        exact ⟨rfl, (by repeat (first | exact hw | exact Later.refl _ | refine Later.alloc ?_ | refine Later.far ?_ | refine Later.drewN ?_ | refine Later.drew ?_))⟩
  clear hK hp hq hr
  go_region_held3 (fun w' => w'.cell? ⟨w.heap.size, 0, none⟩ = some (.int .i64 64) ∧ w'.cell? ⟨w.heap.size, 1, none⟩ = some (.int .i64 52) ∧ w.heap.size < w'.heap.size) (refine ⟨?_, ?_, ?_⟩ <;> (repeat (first | refine World.cell?_alloc_some ?_ | (refine (World.cell?_far _ _ _ _ _ ?_).trans ?_; (simp only [World.size_alloc, World.size_drew, World.size_setCell, World.far_size]; omega)))) <;> first | (simp only [World.size_alloc, World.size_drew, World.size_setCell, World.far_size]; omega) | (simp (maxDischargeDepth := 8) [go_sem]; done)) (first | (go_at_call_of 52 x; refine (ha.out _).mono ?_; rintro e w' ⟨rfl, bs1, n1, rfl⟩) | (go_at_call_of 52 y; refine (hb.out _).mono ?_; rintro e w' ⟨rfl, bs2, n2, rfl⟩))
  all_goals
    refine T.out _ _ _ ?_ ?_ ?_ ?_ ?_ ?_ ?_ ?_
    all_goals (first | ((repeat (first | exact Later.refl _ | refine Later.alloc ?_ | refine Later.far ?_ | refine Later.drewN ?_ | refine Later.drew ?_)); done) | (repeat (first | refine World.cell?_alloc_some ?_ | (refine (World.cell?_far _ _ _ _ _ ?_).trans ?_; (simp only [World.size_alloc, World.size_drew, World.size_setCell, World.far_size]; omega)))) <;> first | (simp only [World.size_alloc, World.size_drew, World.size_setCell, World.far_size]; omega) | (simp (maxDischargeDepth := 8) [go_sem]; done))
end Go.Proofs.Ytobhihggdoccoaa.D
