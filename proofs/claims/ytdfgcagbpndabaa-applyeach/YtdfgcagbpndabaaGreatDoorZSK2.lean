/- Contracts of the document's floats (pelorusref4), over this seat's translation: the lesser and the greater. -/
import Derived.Test.YtdfgcagbpndabaaGreatDoorZSC
import Derived.Test.YtdfgcagbpndabaaGreatDoorZSJ
import Derived.Test.YtdfgcagbpndabaaGreatDoorZA
import Derived.WalkLawsBesides
import Derived.RegionCalls
import Derived.Deep.RegionHeld3
import Derived.Deep.RegionWith
set_option linter.unusedVariables false
set_option maxHeartbeats 4000000
set_option maxRecDepth 100000
namespace Go.Proofs.YtdfgcagbpndabaaGreatDoor.S
open Go.RowKit
open Go.FM (W64 two bl lost isN qn)
set_option linter.unusedSimpArgs false in
theorem ext_all (x y m n i j r za zo : Int) (s t i1 i2 n1 n2 most : Bool) (ha : RL Tryz.prog 119 #[fm, .int .u64 x] (fv s i1 n1 m i)) (hb : RL Tryz.prog 119 #[fm, .int .u64 y] (fv t i2 n2 n j)) (L : Int → Int → Bool) (Pr : Int → Prop) (hPx : Pr x) (hPy : Pr y) (hL : Hid (∀ (u v : Int) (w : World), Pr u → Pr v → Calls Tryz.prog 130 #[fm, .int .u64 u, .int .u64 v] w fun e w' => e = .returned (.bool (L u v)) ∧ Later w w')) (hza : bits .and .u64 x y = za) (hzo : bits .or .u64 x y = zo) (hlg : L x y = true → L y x = false) (hr : Hid (extF most (n1 || n2) (L x y) (L y x) 2143289344 x y za zo = r)) (w : World) :
    RW Tryz.prog 134 #[fm, .bool most, .int .u64 x, .int .u64 y] w (.int .u64 r) := by
  go_enter Tryz.func134, Tryz.ntmps134
  go_wp2_with fail
  rename_i Q' K hK
  have T : Hid (∀ (pa pb : Nat) (w' : World), Later w w' → w.heap.size < w'.heap.size → pa < w'.heap.size → pb < w'.heap.size → w'.cell? ⟨w.heap.size, 0, none⟩ = some (.int .i64 32) → w'.cell? ⟨w.heap.size, 1, none⟩ = some (.int .i64 23) → w'.cell? ⟨pa, 2, none⟩ = some (.bool n1) → w'.cell? ⟨pb, 2, none⟩ = some (.bool n2) → K { tmps := #[fm, .bool most, .int .u64 x, .int .u64 y, .pointer (some ⟨w.heap.size, 0, none⟩), undef, undef, undef, .int .u64 0, .pointer (some ⟨pa, 0, none⟩), .pointer (some ⟨pb, 0, none⟩), .agg #[.int .i64 32, .int .i64 23], .int .u64 x, fv s i1 n1 m i, .agg #[.int .i64 32, .int .i64 23], .int .u64 y, fv t i2 n2 n j, undef, undef, undef, undef, undef, undef, undef, undef, undef, undef, undef, undef, undef, undef, undef, undef, undef, undef, undef, undef, undef, undef, undef, undef, undef, undef, undef, undef, undef, undef, undef, undef, undef, undef, undef, undef, undef, undef, undef, undef, undef, undef, undef, undef, undef, undef, undef, undef, undef], defers := [] } w') := by
    intro pa pb w' hw h0 hpa hpb c0 c1 a2 b2
    refine hK _ _ ?_
    clear hK ha hb
    cases n1
    · cases n2
      · obtain ⟨l, hl⟩ : ∃ l, L x y = l := ⟨_, rfl⟩
        obtain ⟨g, hg⟩ : ∃ g, L y x = g := ⟨_, rfl⟩
        rw [hl, hg] at hr
        rw [hl, hg] at hlg
        cases l <;> cases g
        · clear hlg
          cases most
          · have hr : zo = r := hr.out
            subst hr
            go_wp2_with (go_at_call 130; refine (hL.out _ _ _ (by assumption) (by assumption)).mono ?_; rintro e w' ⟨rfl, bs5, n5, rfl⟩)
            go_ret
            exact ⟨rfl, (by repeat (first | exact hw | exact Lz _ | refine La ?_ | refine Lv ?_ | refine Ln ?_ | refine Ld ?_))⟩
          · have hr : za = r := hr.out
            subst hr
            go_wp2_with (go_at_call 130; refine (hL.out _ _ _ (by assumption) (by assumption)).mono ?_; rintro e w' ⟨rfl, bs5, n5, rfl⟩)
            go_ret
            exact ⟨rfl, (by repeat (first | exact hw | exact Lz _ | refine La ?_ | refine Lv ?_ | refine Ln ?_ | refine Ld ?_))⟩
        · clear hlg
          cases most
          · have hr : y = r := hr.out
            subst hr
            go_wp2_with (go_at_call 130; refine (hL.out _ _ _ (by assumption) (by assumption)).mono ?_; rintro e w' ⟨rfl, bs5, n5, rfl⟩)
            go_ret
            exact ⟨rfl, (by repeat (first | exact hw | exact Lz _ | refine La ?_ | refine Lv ?_ | refine Ln ?_ | refine Ld ?_))⟩
          · have hr : x = r := hr.out
            subst hr
            go_wp2_with (go_at_call 130; refine (hL.out _ _ _ (by assumption) (by assumption)).mono ?_; rintro e w' ⟨rfl, bs5, n5, rfl⟩)
            go_ret
            exact ⟨rfl, (by repeat (first | exact hw | exact Lz _ | refine La ?_ | refine Lv ?_ | refine Ln ?_ | refine Ld ?_))⟩
        · clear hlg
          cases most
          · have hr : x = r := hr.out
            subst hr
            go_wp2_with (go_at_call 130; refine (hL.out _ _ _ (by assumption) (by assumption)).mono ?_; rintro e w' ⟨rfl, bs5, n5, rfl⟩)
            go_ret
            exact ⟨rfl, (by repeat (first | exact hw | exact Lz _ | refine La ?_ | refine Lv ?_ | refine Ln ?_ | refine Ld ?_))⟩
          · have hr : y = r := hr.out
            subst hr
            go_wp2_with (go_at_call 130; refine (hL.out _ _ _ (by assumption) (by assumption)).mono ?_; rintro e w' ⟨rfl, bs5, n5, rfl⟩)
            go_ret
            exact ⟨rfl, (by repeat (first | exact hw | exact Lz _ | refine La ?_ | refine Lv ?_ | refine Ln ?_ | refine Ld ?_))⟩
        · exact absurd (hlg rfl) (by decide)
      · clear hL hPx hPy hlg
        have hr : 2143289344 = r := hr.out
        subst hr
        go_wp2_with fail
        refine (nan_any _).mono ?_
        rintro e w' ⟨rfl, bs7, n7, rfl⟩
        go_wp2
        go_ret
        exact ⟨rfl, (by repeat (first | exact hw | exact Lz _ | refine La ?_ | refine Lv ?_ | refine Ln ?_ | refine Ld ?_))⟩
    · clear hL hPx hPy hlg
      have hr : 2143289344 = r := hr.out
      subst hr
      go_wp2_with fail
      refine (nan_any _).mono ?_
      rintro e w' ⟨rfl, bs7, n7, rfl⟩
      go_wp2
      go_ret
      exact ⟨rfl, (by repeat (first | exact hw | exact Lz _ | refine La ?_ | refine Lv ?_ | refine Ln ?_ | refine Ld ?_))⟩
  clear hK hL hPx hPy hza hzo hlg hr
  go_region_held3 (fun w' => w'.cell? ⟨w.heap.size, 0, none⟩ = some (.int .i64 32) ∧ w'.cell? ⟨w.heap.size, 1, none⟩ = some (.int .i64 23) ∧ w.heap.size < w'.heap.size) (refine ⟨?_, ?_, ?_⟩ <;> (repeat (first | refine World.cell?_alloc_some ?_ | (refine (World.cell?_far _ _ _ _ _ ?_).trans ?_; (simp only [World.size_alloc, World.size_drew, World.size_setCell, World.far_size]; omega)))) <;> first | (simp only [World.size_alloc, World.size_drew, World.size_setCell, World.far_size]; omega) | (simp (maxDischargeDepth := 8) [go_sem]; done)) (first | (go_at_call_of 119 x; refine (ha.out _).mono ?_; rintro e w' ⟨rfl, bs1, n1, rfl⟩) | (go_at_call_of 119 y; refine (hb.out _).mono ?_; rintro e w' ⟨rfl, bs2, n2, rfl⟩))
  all_goals
    refine T.out _ _ _ ?_ ?_ ?_ ?_ ?_ ?_ ?_ ?_
    all_goals (first | ((repeat (first | exact Lz _ | refine La ?_ | refine Lv ?_ | refine Ln ?_ | refine Ld ?_)); done) | (repeat (first | refine World.cell?_alloc_some ?_ | (refine (World.cell?_far _ _ _ _ _ ?_).trans ?_; (simp only [World.size_alloc, World.size_drew, World.size_setCell, World.far_size]; omega)))) <;> first | (simp only [World.size_alloc, World.size_drew, World.size_setCell, World.far_size]; omega) | (simp (maxDischargeDepth := 8) [go_sem]; done))
end Go.Proofs.YtdfgcagbpndabaaGreatDoor.S
namespace Go.Proofs.YtdfgcagbpndabaaGreatDoor.S
open Go.RowKit
open Go.FM (W64 two bl lost isN qn)
set_option linter.unusedSimpArgs false in
theorem bin_all (k x y m n i j r z0 z2 z3 z4 z5 z6 : Int) (s t i1 i2 n1 n2 : Bool) (ha : RL Tryz.prog 119 #[fm, .int .u64 x] (fv s i1 n1 m i)) (hb : RL Tryz.prog 119 #[fm, .int .u64 y] (fv t i2 n2 n j)) (q0 : RL Tryz.prog 131 #[fm, fv s i1 n1 m i, fv t i2 n2 n j] (.int .u64 z0)) (q2 : RL Tryz.prog 132 #[fm, fv s i1 n1 m i, fv t i2 n2 n j] (.int .u64 z2)) (q3 : RL Tryz.prog 133 #[fm, fv s i1 n1 m i, fv t i2 n2 n j] (.int .u64 z3)) (q4 : RL Tryz.prog 134 #[fm, .bool false, .int .u64 x, .int .u64 y] (.int .u64 z4)) (q5 : RL Tryz.prog 134 #[fm, .bool true, .int .u64 x, .int .u64 y] (.int .u64 z5)) (x1 y1 : Int) (h1 : bits .andNot .u64 x 2147483648 = x1) (h2 : bits .and .u64 y 2147483648 = y1) (h3 : bits .or .u64 x1 y1 = z6) (hk : (0 ≤ k ∧ k ≤ 6) ∧ ¬ k = 1) (hr : Hid (binF k z0 z2 z3 z4 z5 z6 = r)) (w : World) :
    RW Tryz.prog 82 #[fm, .int .i64 k, .int .u64 x, .int .u64 y] w (.int .u64 r) := by
  have es : sgn true = 2147483648 := rfl
  go_enter Tryz.func82, Tryz.ntmps82
  go_wp2_with fail
  rename_i Q' K hK
  have T : Hid (∀ (pa pb : Nat) (w' : World), Later w w' → w.heap.size < w'.heap.size → pa < w'.heap.size → pb < w'.heap.size → w'.cell? ⟨w.heap.size, 0, none⟩ = some (.int .i64 32) → w'.cell? ⟨w.heap.size, 1, none⟩ = some (.int .i64 23) → w'.cell? ⟨pa, 0, none⟩ = some (.bool s) → w'.cell? ⟨pb, 0, none⟩ = some (.bool t) → w'.cell? ⟨pa, 1, none⟩ = some (.bool i1) → w'.cell? ⟨pb, 1, none⟩ = some (.bool i2) → w'.cell? ⟨pa, 2, none⟩ = some (.bool n1) → w'.cell? ⟨pb, 2, none⟩ = some (.bool n2) → w'.cell? ⟨pa, 3, none⟩ = some (.int .u64 m) → w'.cell? ⟨pb, 3, none⟩ = some (.int .u64 n) → w'.cell? ⟨pa, 4, none⟩ = some (.int .i64 i) → w'.cell? ⟨pb, 4, none⟩ = some (.int .i64 j) → K { tmps := #[fm, .int .i64 k, .int .u64 x, .int .u64 y, .pointer (some ⟨w.heap.size, 0, none⟩), undef, undef, undef, .int .u64 0, .pointer (some ⟨pa, 0, none⟩), .pointer (some ⟨pb, 0, none⟩), undef, .agg #[.int .i64 32, .int .i64 23], .int .u64 x, fv s i1 n1 m i, .agg #[.int .i64 32, .int .i64 23], .int .u64 y, fv t i2 n2 n j, undef, undef, undef, undef, undef, undef, undef, undef, undef, undef, undef, undef, undef, undef, undef, undef, undef, undef, undef, undef, undef, undef, undef, undef, undef, undef, undef, undef, undef, undef, undef, undef, undef, undef, undef, undef, undef, undef, undef, undef, undef, undef, undef, undef, undef, undef, undef], defers := [] } w') := by
    intro pa pb w' hw h0 hpa hpb c0 c1 a0 b0 a1 b1 a2 b2 a3 b3 a4 b4
    refine hK _ _ ?_
    clear hK ha hb
    have hc : k = 0 ∨ k = 2 ∨ k = 3 ∨ k = 4 ∨ k = 5 ∨ k = 6 := by omega
    clear hk
    rcases hc with rfl | rfl | rfl | rfl | rfl | rfl
    · have hr : z0 = r := hr.out
      subst hr
      go_wp2_with fail
      refine (signed_any true _).mono ?_
      rintro e w' ⟨rfl, bs71, n71, rfl⟩
      go_wp2_with fail
      refine (q0.out _).mono ?_
      rintro e w' ⟨rfl, bs72, n72, rfl⟩
      go_wp2
      go_ret
      exact ⟨rfl, (by repeat (first | exact hw | exact Lz _ | refine La ?_ | refine Lv ?_ | refine Ln ?_ | refine Ld ?_))⟩
    · have hr : z2 = r := hr.out
      subst hr
      go_wp2_with fail
      refine (signed_any true _).mono ?_
      rintro e w' ⟨rfl, bs71, n71, rfl⟩
      go_wp2_with fail
      refine (q2.out _).mono ?_
      rintro e w' ⟨rfl, bs72, n72, rfl⟩
      go_wp2
      go_ret
      exact ⟨rfl, (by repeat (first | exact hw | exact Lz _ | refine La ?_ | refine Lv ?_ | refine Ln ?_ | refine Ld ?_))⟩
    · have hr : z3 = r := hr.out
      subst hr
      go_wp2_with fail
      refine (signed_any true _).mono ?_
      rintro e w' ⟨rfl, bs71, n71, rfl⟩
      go_wp2_with fail
      refine (q3.out _).mono ?_
      rintro e w' ⟨rfl, bs72, n72, rfl⟩
      go_wp2
      go_ret
      exact ⟨rfl, (by repeat (first | exact hw | exact Lz _ | refine La ?_ | refine Lv ?_ | refine Ln ?_ | refine Ld ?_))⟩
    · have hr : z4 = r := hr.out
      subst hr
      go_wp2_with fail
      refine (signed_any true _).mono ?_
      rintro e w' ⟨rfl, bs71, n71, rfl⟩
      go_wp2_with fail
      refine (q4.out _).mono ?_
      rintro e w' ⟨rfl, bs72, n72, rfl⟩
      go_wp2
      go_ret
      exact ⟨rfl, (by repeat (first | exact hw | exact Lz _ | refine La ?_ | refine Lv ?_ | refine Ln ?_ | refine Ld ?_))⟩
    · have hr : z5 = r := hr.out
      subst hr
      go_wp2_with fail
      refine (signed_any true _).mono ?_
      rintro e w' ⟨rfl, bs71, n71, rfl⟩
      go_wp2_with fail
      refine (q5.out _).mono ?_
      rintro e w' ⟨rfl, bs72, n72, rfl⟩
      go_wp2
      go_ret
      exact ⟨rfl, (by repeat (first | exact hw | exact Lz _ | refine La ?_ | refine Lv ?_ | refine Ln ?_ | refine Ld ?_))⟩
    · have hr : z6 = r := hr.out
      subst hr
      go_wp2_with fail
      refine (signed_any true _).mono ?_
      rintro e w' ⟨rfl, bs71, n71, rfl⟩
      go_wp2
      go_ret
      exact ⟨rfl, (by repeat (first | exact hw | exact Lz _ | refine La ?_ | refine Lv ?_ | refine Ln ?_ | refine Ld ?_))⟩
  clear hK q0 q2 q3 q4 q5 h1 h2 h3 hk hr es
  go_region_held3 (fun w' => w'.cell? ⟨w.heap.size, 0, none⟩ = some (.int .i64 32) ∧ w'.cell? ⟨w.heap.size, 1, none⟩ = some (.int .i64 23) ∧ w.heap.size < w'.heap.size) (refine ⟨?_, ?_, ?_⟩ <;> (repeat (first | refine World.cell?_alloc_some ?_ | (refine (World.cell?_far _ _ _ _ _ ?_).trans ?_; (simp only [World.size_alloc, World.size_drew, World.size_setCell, World.far_size]; omega)))) <;> first | (simp only [World.size_alloc, World.size_drew, World.size_setCell, World.far_size]; omega) | (simp (maxDischargeDepth := 8) [go_sem]; done)) (first | (go_at_call_of 119 x; refine (ha.out _).mono ?_; rintro e w' ⟨rfl, bs1, n1, rfl⟩) | (go_at_call_of 119 y; refine (hb.out _).mono ?_; rintro e w' ⟨rfl, bs2, n2, rfl⟩))
  all_goals
    refine T.out _ _ _ ?_ ?_ ?_ ?_ ?_ ?_ ?_ ?_ ?_ ?_ ?_ ?_ ?_ ?_ ?_ ?_
    all_goals (first | ((repeat (first | exact Lz _ | refine La ?_ | refine Lv ?_ | refine Ln ?_ | refine Ld ?_)); done) | (repeat (first | refine World.cell?_alloc_some ?_ | (refine (World.cell?_far _ _ _ _ _ ?_).trans ?_; (simp only [World.size_alloc, World.size_drew, World.size_setCell, World.far_size]; omega)))) <;> first | (simp only [World.size_alloc, World.size_drew, World.size_setCell, World.far_size]; omega) | (simp (maxDischargeDepth := 8) [go_sem]; done))
end Go.Proofs.YtdfgcagbpndabaaGreatDoor.S
namespace Go.Proofs.YtdfgcagbpndabaaGreatDoor.S
open Go.RowKit
open Go.FM (W64 two bl lost isN qn)
set_option linter.unusedSimpArgs false in
theorem bin_1w (x y m n i j : Int) (s t i1 i2 n1 n2 : Bool) (z : Int) (ha : RL Tryz.prog 119 #[fm, .int .u64 x] (fv s i1 n1 m i)) (hb : RL Tryz.prog 119 #[fm, .int .u64 y] (fv t i2 n2 n j)) (hs : RL Tryz.prog 131 #[fm, fv s i1 n1 m i, fv (!t) i2 n2 n j] (.int .u64 z)) (w : World) :
    RW Tryz.prog 82 #[fm, .int .i64 1, .int .u64 x, .int .u64 y] w (.int .u64 z) := by
  have es : sgn true = 2147483648 := rfl
  go_enter Tryz.func82, Tryz.ntmps82
  go_wp2_with fail
  go_region_held3 (fun w' => w'.cell? ⟨w.heap.size, 0, none⟩ = some (.int .i64 32) ∧ w'.cell? ⟨w.heap.size, 1, none⟩ = some (.int .i64 23) ∧ w.heap.size < w'.heap.size) (refine ⟨?_, ?_, ?_⟩ <;> (repeat (first | refine World.cell?_alloc_some ?_ | (refine (World.cell?_far _ _ _ _ _ ?_).trans ?_; (simp only [World.size_alloc, World.size_drew, World.size_setCell, World.far_size]; omega)))) <;> first | (simp only [World.size_alloc, World.size_drew, World.size_setCell, World.far_size]; omega) | (simp (maxDischargeDepth := 8) [go_sem]; done)) (first | (go_at_call_of 119 x; refine (ha.out _).mono ?_; rintro e w' ⟨rfl, bs1, n1, rfl⟩) | (go_at_call_of 119 y; refine (hb.out _).mono ?_; rintro e w' ⟨rfl, bs2, n2, rfl⟩))
  all_goals
    go_wp2_with fail
    refine (signed_any true _).mono ?_
    rintro e w' ⟨rfl, bs71, n71, rfl⟩
    go_wp2_with fail
    refine (hs.out _).mono ?_
    rintro e w' ⟨rfl, bs72, n72, rfl⟩
    go_wp2
    go_ret
    exact ⟨rfl, (by repeat first | exact Lz _ | apply La | apply Lv | apply Ln | apply Ld)⟩
end Go.Proofs.YtdfgcagbpndabaaGreatDoor.S
