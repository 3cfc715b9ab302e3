/- Contracts of the document's floats (pelorusref4), over this seat's translation: comparisons. -/
import Derived.Test.YtdfgcagbpndabaaGreatDoorZDC
import Derived.Test.YtdfgcagbpndabaaGreatDoorZDJ
import Derived.Test.YtdfgcagbpndabaaGreatDoorZA
import Derived.WalkLawsBesides
import Derived.RegionCalls
import Derived.Deep.RegionHeld3
import Derived.Deep.RegionWith
set_option linter.unusedVariables false
set_option maxHeartbeats 4000000
set_option maxRecDepth 100000
namespace Go.Proofs.YtdfgcagbpndabaaGreatDoor.D
open Go.RowKit
open Go.FM (W64 two bl lost isN qn)
set_option linter.unusedSimpArgs false in
theorem cmp_all (k x y m n i j r : Int) (s t i1 i2 n1 n2 : Bool) (ha : RL Tryz.prog 119 #[fm, .int .u64 x] (fv s i1 n1 m i)) (hb : RL Tryz.prog 119 #[fm, .int .u64 y] (fv t i2 n2 n j)) (L : Int → Int → Bool) (Pr : Int → Prop) (hPx : Pr x) (hPy : Pr y) (hL : Hid (∀ (u v : Int) (w : World), Pr u → Pr v → Calls Tryz.prog 130 #[fm, .int .u64 u, .int .u64 v] w fun e w' => e = .returned (.bool (L u v)) ∧ Later w w')) (ht : Hid (∀ (b : Bool) (w : World), Calls Tryz.prog 72 #[.bool b] w fun e w' => e = .returned (.int .i64 (tr b)) ∧ w' = w)) (hk : 0 ≤ k ∧ k ≤ 5) (hlg : L x y = true → L y x = false) (hr : Hid (tr (cmpF k (n1 || n2) (L x y) (L y x)) = r)) (w : World) :
    RW Tryz.prog 81 #[fm, .int .i64 k, .int .u64 x, .int .u64 y] w (.int .i64 r) := by
  go_enter Tryz.func81, Tryz.ntmps81
  go_wp2_with fail
  rename_i Q' K hK
  have T : Hid (∀ (pa pb : Nat) (w' : World), Later w w' → w.heap.size < w'.heap.size → pa < w'.heap.size → pb < w'.heap.size → w'.cell? ⟨w.heap.size, 0, none⟩ = some (.int .i64 64) → w'.cell? ⟨w.heap.size, 1, none⟩ = some (.int .i64 52) → w'.cell? ⟨pa, 2, none⟩ = some (.bool n1) → w'.cell? ⟨pb, 2, none⟩ = some (.bool n2) → K { tmps := #[fm, .int .i64 k, .int .u64 x, .int .u64 y, .pointer (some ⟨w.heap.size, 0, none⟩), undef, undef, undef, .int .i64 0, .pointer (some ⟨pa, 0, none⟩), .pointer (some ⟨pb, 0, none⟩), undef, undef, .agg #[.int .i64 64, .int .i64 52], .int .u64 x, fv s i1 n1 m i, .agg #[.int .i64 64, .int .i64 52], .int .u64 y, fv t i2 n2 n j, undef, undef, undef, undef, undef, undef, undef, undef, undef, undef, undef, undef, undef, undef, undef, undef, undef, undef, undef, undef, undef, undef, undef, undef, undef, undef, undef, undef, undef, undef, undef, undef, undef, undef, undef, undef, undef, undef], defers := [] } w') := by
    intro pa pb w' hw h0 hpa hpb c0 c1 a2 b2
    refine hK _ _ ?_
    clear hK ha hb
    cases n1
    · cases n2
      · obtain ⟨l, hl⟩ : ∃ l, L x y = l := ⟨_, rfl⟩
        obtain ⟨g, hg⟩ : ∃ g, L y x = g := ⟨_, rfl⟩
        rw [hl, hg] at hr
        rw [hl, hg] at hlg
        have hc : k = 0 ∨ k = 1 ∨ k = 2 ∨ k = 3 ∨ k = 4 ∨ k = 5 := by omega
        clear hk
        cases l <;> cases g
        · clear hlg
          go_wp2_with fail
          refine wp_region_quiet_far (by kernel_rfl) (by kernel_rfl) ?_
          repeat (quiet_step ((go_at_call 130; refine Calls.far_of (hL.out _ _ _ ?_ ?_) <;> assumption)))
          refine wpQuiet_nil ?_
          rintro _ ⟨⟨bq, nq⟩, rfl⟩
          rcases hc with rfl | rfl | rfl | rfl | rfl | rfl
          · have hr : tr true = r := hr.out
            subst hr
            go_wp2_with fail
            refine (ht.out true _).mono ?_
            rintro e w' ⟨rfl, rfl⟩
            go_wp2
            go_ret
            exact ⟨rfl, (by repeat (first | exact hw | exact Lz _ | refine La ?_ | refine Lv ?_ | refine Ln ?_ | refine Ld ?_))⟩
          · have hr : tr false = r := hr.out
            subst hr
            go_wp2_with fail
            refine (ht.out false _).mono ?_
            rintro e w' ⟨rfl, rfl⟩
            go_wp2
            go_ret
            exact ⟨rfl, (by repeat (first | exact hw | exact Lz _ | refine La ?_ | refine Lv ?_ | refine Ln ?_ | refine Ld ?_))⟩
          · have hr : tr false = r := hr.out
            subst hr
            go_wp2_with fail
            refine (ht.out false _).mono ?_
            rintro e w' ⟨rfl, rfl⟩
            go_wp2
            go_ret
            exact ⟨rfl, (by repeat (first | exact hw | exact Lz _ | refine La ?_ | refine Lv ?_ | refine Ln ?_ | refine Ld ?_))⟩
          · have hr : tr false = r := hr.out
            subst hr
            go_wp2_with fail
            refine (ht.out false _).mono ?_
            rintro e w' ⟨rfl, rfl⟩
            go_wp2
            go_ret
            exact ⟨rfl, (by repeat (first | exact hw | exact Lz _ | refine La ?_ | refine Lv ?_ | refine Ln ?_ | refine Ld ?_))⟩
          · have hr : tr true = r := hr.out
            subst hr
            go_wp2_with fail
            refine (ht.out true _).mono ?_
            rintro e w' ⟨rfl, rfl⟩
            go_wp2
            go_ret
            exact ⟨rfl, (by repeat (first | exact hw | exact Lz _ | refine La ?_ | refine Lv ?_ | refine Ln ?_ | refine Ld ?_))⟩
          · have hr : tr true = r := hr.out
            subst hr
            go_wp2_with fail
            refine (ht.out true _).mono ?_
            rintro e w' ⟨rfl, rfl⟩
            go_wp2
            go_ret
            exact ⟨rfl, (by repeat (first | exact hw | exact Lz _ | refine La ?_ | refine Lv ?_ | refine Ln ?_ | refine Ld ?_))⟩
        · clear hlg
          go_wp2_with fail
          refine wp_region_quiet_far (by kernel_rfl) (by kernel_rfl) ?_
          repeat (quiet_step ((go_at_call 130; refine Calls.far_of (hL.out _ _ _ ?_ ?_) <;> assumption)))
          refine wpQuiet_nil ?_
          rintro _ ⟨⟨bq, nq⟩, rfl⟩
          rcases hc with rfl | rfl | rfl | rfl | rfl | rfl
          · have hr : tr false = r := hr.out
            subst hr
            go_wp2_with fail
            refine (ht.out false _).mono ?_
            rintro e w' ⟨rfl, rfl⟩
            go_wp2
            go_ret
            exact ⟨rfl, (by repeat (first | exact hw | exact Lz _ | refine La ?_ | refine Lv ?_ | refine Ln ?_ | refine Ld ?_))⟩
          · have hr : tr true = r := hr.out
            subst hr
            go_wp2_with fail
            refine (ht.out true _).mono ?_
            rintro e w' ⟨rfl, rfl⟩
            go_wp2
            go_ret
            exact ⟨rfl, (by repeat (first | exact hw | exact Lz _ | refine La ?_ | refine Lv ?_ | refine Ln ?_ | refine Ld ?_))⟩
          · have hr : tr false = r := hr.out
            subst hr
            go_wp2_with fail
            refine (ht.out false _).mono ?_
            rintro e w' ⟨rfl, rfl⟩
            go_wp2
            go_ret
            exact ⟨rfl, (by repeat (first | exact hw | exact Lz _ | refine La ?_ | refine Lv ?_ | refine Ln ?_ | refine Ld ?_))⟩
          · have hr : tr true = r := hr.out
            subst hr
            go_wp2_with fail
            refine (ht.out true _).mono ?_
            rintro e w' ⟨rfl, rfl⟩
            go_wp2
            go_ret
            exact ⟨rfl, (by repeat (first | exact hw | exact Lz _ | refine La ?_ | refine Lv ?_ | refine Ln ?_ | refine Ld ?_))⟩
          · have hr : tr false = r := hr.out
            subst hr
            go_wp2_with fail
            refine (ht.out false _).mono ?_
            rintro e w' ⟨rfl, rfl⟩
            go_wp2
            go_ret
            exact ⟨rfl, (by repeat (first | exact hw | exact Lz _ | refine La ?_ | refine Lv ?_ | refine Ln ?_ | refine Ld ?_))⟩
          · have hr : tr true = r := hr.out
            subst hr
            go_wp2_with fail
            refine (ht.out true _).mono ?_
            rintro e w' ⟨rfl, rfl⟩
            go_wp2
            go_ret
            exact ⟨rfl, (by repeat (first | exact hw | exact Lz _ | refine La ?_ | refine Lv ?_ | refine Ln ?_ | refine Ld ?_))⟩
        · clear hlg
          go_wp2_with fail
          refine wp_region_quiet_far (by kernel_rfl) (by kernel_rfl) ?_
          repeat (quiet_step ((go_at_call 130; refine Calls.far_of (hL.out _ _ _ ?_ ?_) <;> assumption)))
          refine wpQuiet_nil ?_
          rintro _ ⟨⟨bq, nq⟩, rfl⟩
          rcases hc with rfl | rfl | rfl | rfl | rfl | rfl
          · have hr : tr false = r := hr.out
            subst hr
            go_wp2_with fail
            refine (ht.out false _).mono ?_
            rintro e w' ⟨rfl, rfl⟩
            go_wp2
            go_ret
            exact ⟨rfl, (by repeat (first | exact hw | exact Lz _ | refine La ?_ | refine Lv ?_ | refine Ln ?_ | refine Ld ?_))⟩
          · have hr : tr true = r := hr.out
            subst hr
            go_wp2_with fail
            refine (ht.out true _).mono ?_
            rintro e w' ⟨rfl, rfl⟩
            go_wp2
            go_ret
            exact ⟨rfl, (by repeat (first | exact hw | exact Lz _ | refine La ?_ | refine Lv ?_ | refine Ln ?_ | refine Ld ?_))⟩
          · have hr : tr true = r := hr.out
            subst hr
            go_wp2_with fail
            refine (ht.out true _).mono ?_
            rintro e w' ⟨rfl, rfl⟩
            go_wp2
            go_ret
            exact ⟨rfl, (by repeat (first | exact hw | exact Lz _ | refine La ?_ | refine Lv ?_ | refine Ln ?_ | refine Ld ?_))⟩
          · have hr : tr false = r := hr.out
            subst hr
            go_wp2_with fail
            refine (ht.out false _).mono ?_
            rintro e w' ⟨rfl, rfl⟩
            go_wp2
            go_ret
            exact ⟨rfl, (by repeat (first | exact hw | exact Lz _ | refine La ?_ | refine Lv ?_ | refine Ln ?_ | refine Ld ?_))⟩
          · have hr : tr true = r := hr.out
            subst hr
            go_wp2_with fail
            refine (ht.out true _).mono ?_
            rintro e w' ⟨rfl, rfl⟩
            go_wp2
            go_ret
            exact ⟨rfl, (by repeat (first | exact hw | exact Lz _ | refine La ?_ | refine Lv ?_ | refine Ln ?_ | refine Ld ?_))⟩
          · have hr : tr false = r := hr.out
            subst hr
            go_wp2_with fail
            refine (ht.out false _).mono ?_
            rintro e w' ⟨rfl, rfl⟩
            go_wp2
            go_ret
            exact ⟨rfl, (by repeat (first | exact hw | exact Lz _ | refine La ?_ | refine Lv ?_ | refine Ln ?_ | refine Ld ?_))⟩
        · exact absurd (hlg rfl) (by decide)
      · clear hL hPx hPy hlg
        have hr : tr (k == 1) = r := hr.out
        subst hr
        go_wp2_with fail
        refine (ht.out _ _).mono ?_
        rintro e w' ⟨rfl, rfl⟩
        go_wp2
        go_ret
        exact ⟨rfl, (by repeat (first | exact hw | exact Lz _ | refine La ?_ | refine Lv ?_ | refine Ln ?_ | refine Ld ?_))⟩
    · clear hL hPx hPy hlg
      have hr : tr (k == 1) = r := hr.out
      subst hr
      go_wp2_with fail
      refine (ht.out _ _).mono ?_
      rintro e w' ⟨rfl, rfl⟩
      go_wp2
      go_ret
      exact ⟨rfl, (by repeat (first | exact hw | exact Lz _ | refine La ?_ | refine Lv ?_ | refine Ln ?_ | refine Ld ?_))⟩
  clear hK hL hPx hPy ht hk hlg hr
  go_region_held3 (fun w' => w'.cell? ⟨w.heap.size, 0, none⟩ = some (.int .i64 64) ∧ w'.cell? ⟨w.heap.size, 1, none⟩ = some (.int .i64 52) ∧ w.heap.size < w'.heap.size) (refine ⟨?_, ?_, ?_⟩ <;> (repeat (first | refine World.cell?_alloc_some ?_ | (refine (World.cell?_far _ _ _ _ _ ?_).trans ?_; (simp only [World.size_alloc, World.size_drew, World.size_setCell, World.far_size]; omega)))) <;> first | (simp only [World.size_alloc, World.size_drew, World.size_setCell, World.far_size]; omega) | (simp (maxDischargeDepth := 8) [go_sem]; done)) (first | (go_at_call_of 119 x; refine (ha.out _).mono ?_; rintro e w' ⟨rfl, bs1, n1, rfl⟩) | (go_at_call_of 119 y; refine (hb.out _).mono ?_; rintro e w' ⟨rfl, bs2, n2, rfl⟩))
  all_goals
    refine T.out _ _ _ ?_ ?_ ?_ ?_ ?_ ?_ ?_ ?_
    all_goals (first | ((repeat (first | exact Lz _ | refine La ?_ | refine Lv ?_ | refine Ln ?_ | refine Ld ?_)); done) | (repeat (first | refine World.cell?_alloc_some ?_ | (refine (World.cell?_far _ _ _ _ _ ?_).trans ?_; (simp only [World.size_alloc, World.size_drew, World.size_setCell, World.far_size]; omega)))) <;> first | (simp only [World.size_alloc, World.size_drew, World.size_setCell, World.far_size]; omega) | (simp (maxDischargeDepth := 8) [go_sem]; done))
end Go.Proofs.YtdfgcagbpndabaaGreatDoor.D
