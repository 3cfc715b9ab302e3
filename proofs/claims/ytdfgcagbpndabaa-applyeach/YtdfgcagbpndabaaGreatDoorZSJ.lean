/- Less, by signs and rungs. -/
import Derived.WalkKit
import Derived.Test.YtdfgcagbpndabaaGreatDoorZSC
import Derived.Test.YtdfgcagbpndabaaGreatDoorZA
import Derived.WalkLawsBesides
import Derived.RegionCalls
import Derived.Deep.RegionHeld3
import Derived.Deep.RegionWith
set_option linter.unusedVariables false
set_option maxHeartbeats 4000000
set_option maxRecDepth 100000
namespace Go.Proofs.YtdfgcagbpndabaaGreatDoor.S
def lessF (s t : Bool) (p q : Int) : Bool := if p = 0 ∧ q = 0 then false else if s != t then s else if s then decide (q < p) else decide (p < q)
theorem lessF_a (s t : Bool) (p q : Int) (h1 : p = 0) (h2 : q = 0) : lessF s t p q = false := by unfold lessF; rw [if_pos ⟨h1, h2⟩]
theorem lessF_b (s t : Bool) (p q : Int) (h1 : p = 0) (h2 : ¬ q = 0) : lessF s t p q = if s != t then s else if s then decide (q < 0) else decide (0 < q) := by
  unfold lessF; rw [if_neg (fun h => h2 h.2), h1]
theorem lessF_c (s t : Bool) (p q : Int) (h1 : ¬ p = 0) : lessF s t p q = if s != t then s else if s then decide (q < p) else decide (p < q) := by
  unfold lessF; rw [if_neg (fun h => h1 h.1)]
def cmpF (k : Int) (n l g : Bool) : Bool := if n then k == 1 else if k = 0 then !l && !g else if k = 1 then l || g else if k = 2 then l else if k = 3 then g else if k = 4 then !g else !l
def extF (most n l g : Bool) (no x y za zo : Int) : Int := if n then no else if l then (if most then y else x) else if g then (if most then x else y) else if most then za else zo
def tr (b : Bool) : Int := if b then 1 else 0
def binF (k z0 z2 z3 z4 z5 z6 : Int) : Int := if k = 0 then z0 else if k = 2 then z2 else if k = 3 then z3 else if k = 4 then z4 else if k = 5 then z5 else z6
end Go.Proofs.YtdfgcagbpndabaaGreatDoor.S
namespace Go.Proofs.YtdfgcagbpndabaaGreatDoor.S
open Go.RowKit
open Go.FM (W64 two bl lost isN qn)
set_option linter.unusedSimpArgs false in
theorem less_all (x y p q m n i j : Int) (s t i1 i2 n1 n2 r : Bool) (ha : RL Tryz.prog 119 #[fm, .int .u64 x] (fv s i1 n1 m i)) (hb : RL Tryz.prog 119 #[fm, .int .u64 y] (fv t i2 n2 n j)) (hp : bits .and .u64 x 2147483647 = p) (hq : bits .and .u64 y 2147483647 = q) (hr : Hid (lessF s t p q = r)) (w : World) :
    RW Tryz.prog 130 #[fm, .int .u64 x, .int .u64 y] w (.bool r) := by
  go_enter Tryz.func130, Tryz.ntmps130
  go_wp2_with fail
  rename_i Q' K hK
  have T : Hid (∀ (pa pb : Nat) (w' : World), Later w w' → w.heap.size < w'.heap.size → pa < w'.heap.size → pb < w'.heap.size → w'.cell? ⟨w.heap.size, 0, none⟩ = some (.int .i64 32) → w'.cell? ⟨w.heap.size, 1, none⟩ = some (.int .i64 23) → w'.cell? ⟨pa, 0, none⟩ = some (.bool s) → w'.cell? ⟨pb, 0, none⟩ = some (.bool t) → K { tmps := #[fm, .int .u64 x, .int .u64 y, .pointer (some ⟨w.heap.size, 0, none⟩), undef, undef, .bool false, .pointer (some ⟨pa, 0, none⟩), .pointer (some ⟨pb, 0, none⟩), undef, undef, undef, .agg #[.int .i64 32, .int .i64 23], .int .u64 x, fv s i1 n1 m i, .agg #[.int .i64 32, .int .i64 23], .int .u64 y, fv t i2 n2 n j, undef, undef, undef, undef, undef, undef, undef, undef, undef, undef, undef, undef, undef, undef, undef, undef, undef, undef, undef, undef, undef, undef, undef, undef, undef, undef, undef, undef, undef, undef, undef, undef, undef, undef, undef], defers := [] } w') := by
    intro pa pb w' hw h0 hpa hpb c0 c1 a0 b0
    refine hK _ _ ?_
    clear hK ha hb
    cases s <;> cases t
    · by_cases h1 : p = 0
      · by_cases h2 : q = 0
        · have hr : r = false := hr.out.symm.trans (lessF_a _ _ p q h1 h2)
          subst hr
          go_wp2
          go_ret
          exact ⟨rfl, (by repeat (first | exact hw | exact Lz _ | refine La ?_ | refine Lv ?_ | refine Ln ?_ | refine Ld ?_))⟩
        · have h3 : (q == 0) = false := beq_eq_false_iff_ne.2 h2
          have hr : r = decide (0 < q) := hr.out.symm.trans (lessF_b false false p q h1 h2)
          subst hr
          go_wp2
          go_ret
          exact ⟨rfl, (by repeat (first | exact hw | exact Lz _ | refine La ?_ | refine Lv ?_ | refine Ln ?_ | refine Ld ?_))⟩
      · have h3 : (p == 0) = false := beq_eq_false_iff_ne.2 h1
        have hr : r = decide (p < q) := hr.out.symm.trans (lessF_c false false p q h1)
        subst hr
        go_wp2
        go_ret
        exact ⟨rfl, (by repeat (first | exact hw | exact Lz _ | refine La ?_ | refine Lv ?_ | refine Ln ?_ | refine Ld ?_))⟩
    · by_cases h1 : p = 0
      · by_cases h2 : q = 0
        · have hr : r = false := hr.out.symm.trans (lessF_a _ _ p q h1 h2)
          subst hr
          go_wp2
          go_ret
          exact ⟨rfl, (by repeat (first | exact hw | exact Lz _ | refine La ?_ | refine Lv ?_ | refine Ln ?_ | refine Ld ?_))⟩
        · have h3 : (q == 0) = false := beq_eq_false_iff_ne.2 h2
          have hr : r = false := hr.out.symm.trans (lessF_b false true p q h1 h2)
          subst hr
          go_wp2
          go_ret
          exact ⟨rfl, (by repeat (first | exact hw | exact Lz _ | refine La ?_ | refine Lv ?_ | refine Ln ?_ | refine Ld ?_))⟩
      · have h3 : (p == 0) = false := beq_eq_false_iff_ne.2 h1
        have hr : r = false := hr.out.symm.trans (lessF_c false true p q h1)
        subst hr
        go_wp2
        go_ret
        exact ⟨rfl, (by repeat (first | exact hw | exact Lz _ | refine La ?_ | refine Lv ?_ | refine Ln ?_ | refine Ld ?_))⟩
    · by_cases h1 : p = 0
      · by_cases h2 : q = 0
        · have hr : r = false := hr.out.symm.trans (lessF_a _ _ p q h1 h2)
          subst hr
          go_wp2
          go_ret
          exact ⟨rfl, (by repeat (first | exact hw | exact Lz _ | refine La ?_ | refine Lv ?_ | refine Ln ?_ | refine Ld ?_))⟩
        · have h3 : (q == 0) = false := beq_eq_false_iff_ne.2 h2
          have hr : r = true := hr.out.symm.trans (lessF_b true false p q h1 h2)
          subst hr
          go_wp2
          go_ret
          exact ⟨rfl, (by repeat (first | exact hw | exact Lz _ | refine La ?_ | refine Lv ?_ | refine Ln ?_ | refine Ld ?_))⟩
      · have h3 : (p == 0) = false := beq_eq_false_iff_ne.2 h1
        have hr : r = true := hr.out.symm.trans (lessF_c true false p q h1)
        subst hr
        go_wp2
        go_ret
        exact ⟨rfl, (by repeat (first | exact hw | exact Lz _ | refine La ?_ | refine Lv ?_ | refine Ln ?_ | refine Ld ?_))⟩
    · by_cases h1 : p = 0
      · by_cases h2 : q = 0
        · have hr : r = false := hr.out.symm.trans (lessF_a _ _ p q h1 h2)
          subst hr
          go_wp2
          go_ret
          exact ⟨rfl, (by repeat (first | exact hw | exact Lz _ | refine La ?_ | refine Lv ?_ | refine Ln ?_ | refine Ld ?_))⟩
        · have h3 : (q == 0) = false := beq_eq_false_iff_ne.2 h2
          have hr : r = decide (q < 0) := hr.out.symm.trans (lessF_b true true p q h1 h2)
          subst hr
          go_wp2
          go_ret
          exact ⟨rfl, (by repeat (first | exact hw | exact Lz _ | refine La ?_ | refine Lv ?_ | refine Ln ?_ | refine Ld ?_))⟩
      · have h3 : (p == 0) = false := beq_eq_false_iff_ne.2 h1
        have hr : r = decide (q < p) := hr.out.symm.trans (lessF_c true true p q h1)
        subst hr
        go_wp2
        go_ret
        exact ⟨rfl, (by repeat (first | exact hw | exact Lz _ | refine La ?_ | refine Lv ?_ | refine Ln ?_ | refine Ld ?_))⟩
  clear hK hp hq hr
  go_region_held3 (fun w' => w'.cell? ⟨w.heap.size, 0, none⟩ = some (.int .i64 32) ∧ w'.cell? ⟨w.heap.size, 1, none⟩ = some (.int .i64 23) ∧ w.heap.size < w'.heap.size) (refine ⟨?_, ?_, ?_⟩ <;> (repeat (first | refine World.cell?_alloc_some ?_ | (refine (World.cell?_far _ _ _ _ _ ?_).trans ?_; (simp only [World.size_alloc, World.size_drew, World.size_setCell, World.far_size]; omega)))) <;> first | (simp only [World.size_alloc, World.size_drew, World.size_setCell, World.far_size]; omega) | (simp (maxDischargeDepth := 8) [go_sem]; done)) (first | (go_at_call_of 119 x; refine (ha.out _).mono ?_; rintro e w' ⟨rfl, bs1, n1, rfl⟩) | (go_at_call_of 119 y; refine (hb.out _).mono ?_; rintro e w' ⟨rfl, bs2, n2, rfl⟩))
  all_goals
    refine T.out _ _ _ ?_ ?_ ?_ ?_ ?_ ?_ ?_ ?_
    all_goals (first | ((repeat (first | exact Lz _ | refine La ?_ | refine Lv ?_ | refine Ln ?_ | refine Ld ?_)); done) | (repeat (first | refine World.cell?_alloc_some ?_ | (refine (World.cell?_far _ _ _ _ _ ?_).trans ?_; (simp only [World.size_alloc, World.size_drew, World.size_setCell, World.far_size]; omega)))) <;> first | (simp only [World.size_alloc, World.size_drew, World.size_setCell, World.far_size]; omega) | (simp (maxDischargeDepth := 8) [go_sem]; done))
end Go.Proofs.YtdfgcagbpndabaaGreatDoor.S
