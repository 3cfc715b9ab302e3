/- Contracts of the document's floats (pelorusref4), over this seat's translation: the lesser and the greater. -/
import Derived.Test.YtobhihggdoccoaaDApart2
import Derived.Test.YtobhihggdoccoaaDLessF
import Derived.Test.YtobhihggdoccoaaFFar3
import Derived.Test.YtobhihggdoccoaaFFar2
import Derived.WalkLawsBesides
import Derived.RegionCalls
import Derived.Deep.RegionHeld3
import Derived.Deep.RegionWith
namespace Go.Proofs.Ytobhihggdoccoaa.D
open Go.RowKit
open Go.FM (W64 two bl lost isN qn)
set_option linter.unusedVariables false

set_option maxRecDepth 100000 in
set_option maxHeartbeats 4000000 in
set_option linter.unusedSimpArgs false in
theorem ext_all (x y m n i j r za zo : Int) (s t i1 i2 n1 n2 most : Bool) (ha : Hid (∀ w : World, Calls Try.prog 52 #[fm, .int .u64 x] w fun e w' => e = .returned (fv s i1 n1 m i) ∧ Later w w')) (hb : Hid (∀ w : World, Calls Try.prog 52 #[fm, .int .u64 y] w fun e w' => e = .returned (fv t i2 n2 n j) ∧ Later w w')) (L : Int → Int → Bool) (Pr : Int → Prop) (hPx : Pr x) (hPy : Pr y) (hL : Hid (∀ (u v : Int) (w : World), Pr u → Pr v → Calls Try.prog 55 #[fm, .int .u64 u, .int .u64 v] w fun e w' => e = .returned (.bool (L u v)) ∧ Later w w')) (hza : bits .and .u64 x y = za) (hzo : bits .or .u64 x y = zo) (hlg : L x y = true → L y x = false) (hr : Hid (extF most (n1 || n2) (L x y) (L y x) 9221120237041090560 x y za zo = r)) (w : World) :
    Calls Try.prog 59 #[fm, .bool most, .int .u64 x, .int .u64 y] w fun e w' => e = .returned (.int .u64 r) ∧ Later w w' := by
  go_enter Try.func59, Try.ntmps59
  go_wp2_with fail
  rename_i Q' K hK
  have T : Hid (∀ (pa pb : Nat) (w' : World), Later w w' → w.heap.size < w'.heap.size → pa < w'.heap.size → pb < w'.heap.size → w'.cell? ⟨w.heap.size, 0, none⟩ = some (.int .i64 64) → w'.cell? ⟨w.heap.size, 1, none⟩ = some (.int .i64 52) → w'.cell? ⟨pa, 2, none⟩ = some (.bool n1) → w'.cell? ⟨pb, 2, none⟩ = some (.bool n2) → K { tmps := #[fm, .bool most, .int .u64 x, .int .u64 y, .pointer (some ⟨w.heap.size, 0, none⟩), undef, undef, undef, .int .u64 0, .pointer (some ⟨pa, 0, none⟩), .pointer (some ⟨pb, 0, none⟩), .agg #[.int .i64 64, .int .i64 52], .int .u64 x, fv s i1 n1 m i, .agg #[.int .i64 64, .int .i64 52], .int .u64 y, fv t i2 n2 n j, undef, undef, undef, undef, undef, undef, undef, undef, undef, undef, undef, undef, undef, undef, undef, undef, undef, undef, undef, undef, undef, undef, undef, undef, undef, undef, undef, undef, undef, undef, undef, undef, undef, undef, undef, undef, undef, undef, undef, undef, undef, undef, undef, undef, undef, undef, undef, undef, undef], defers := [] } w') := by
    intro pa pb w' hw h0 hpa hpb c0 c1 a2 b2
    refine hK _ _ ?_
    clear hK ha hb
    cases n1
    · cases n2
      · obtain ⟨l, hl⟩ : ∃ l, L x y = l := ⟨_, rfl⟩
        obtain ⟨g, hg⟩ : ∃ g, L y x = g := ⟨_, rfl⟩
        rw [hl, hg] at hr
        rw [hl, hg] at hlg
        cases l <;> cases g
        · clear hlg
          cases most
          · have hr : zo = r := hr.out
            subst hr
            go_wp2_with (go_at_call 55; refine (hL.out _ _ _ (by assumption) (by assumption)).mono ?_; rintro e w' ⟨rfl, bs5, n5, rfl⟩)
            go_ret
            exact ⟨rfl, (by repeat (first | exact hw | exact Later.refl _ | refine Later.alloc ?_ | refine Later.far ?_ | refine Later.drewN ?_ | refine Later.drew ?_))⟩
          · have hr : za = r := hr.out
            subst hr
            go_wp2_with (go_at_call 55; refine (hL.out _ _ _ (by assumption) (by assumption)).mono ?_; rintro e w' ⟨rfl, bs5, n5, rfl⟩)
            go_ret
            exact ⟨rfl, (by repeat (first | exact hw | exact Later.refl _ | refine Later.alloc ?_ | refine Later.far ?_ | refine Later.drewN ?_ | refine Later.drew ?_))⟩
        · clear hlg
          cases most
          · have hr : y = r := hr.out
            subst hr
            go_wp2_with (go_at_call 55; refine (hL.out _ _ _ (by assumption) (by assumption)).mono ?_; rintro e w' ⟨rfl, bs5, n5, rfl⟩)
            go_ret
            exact ⟨rfl, (by repeat (first | exact hw | exact Later.refl _ | refine Later.alloc ?_ | refine Later.far ?_ | refine Later.drewN ?_ | refine Later.drew ?_))⟩
          · have hr : x = r := hr.out
            subst hr
            go_wp2_with (go_at_call 55; refine (hL.out _ _ _ (by assumption) (by assumption)).mono ?_; rintro e w' ⟨rfl, bs5, n5, rfl⟩)
            go_ret
            exact ⟨rfl, (by repeat (first | exact hw | exact Later.refl _ | refine Later.alloc ?_ | refine Later.far ?_ | refine Later.drewN ?_ | refine Later.drew ?_))⟩
        · clear hlg
          cases most
          · have hr : x = r := hr.out
            subst hr
            go_wp2_with (go_at_call 55; refine (hL.out _ _ _ (by assumption) (by assumption)).mono ?_; rintro e w' ⟨rfl, bs5, n5, rfl⟩)
            go_ret
            exact ⟨rfl, (by repeat (first | exact hw | exact Later.refl _ | refine Later.alloc ?_ | refine Later.far ?_ | refine Later.drewN ?_ | refine Later.drew ?_))⟩
          · have hr : y = r := hr.out
            subst hr
            go_wp2_with (go_at_call 55; refine (hL.out _ _ _ (by assumption) (by assumption)).mono ?_; rintro e w' ⟨rfl, bs5, n5, rfl⟩)
            go_ret
            exact ⟨rfl, (by repeat (first | exact hw | exact Later.refl _ | refine Later.alloc ?_ | refine Later.far ?_ | refine Later.drewN ?_ | refine Later.drew ?_))⟩
        · exact absurd (hlg rfl) (by decide)
      · clear hL hPx hPy hlg
        have hr : 9221120237041090560 = r := hr.out
        subst hr
        go_wp2_with fail
        refine (nan_any _).mono ?_
        rintro e w' ⟨rfl, bs7, n7, rfl⟩
        go_wp2
        go_ret
        exact ⟨rfl, (by repeat (first | exact hw | exact Later.refl _ | refine Later.alloc ?_ | refine Later.far ?_ | refine Later.drewN ?_ | refine Later.drew ?_))⟩
    · clear hL hPx hPy hlg
      have hr : 9221120237041090560 = r := hr.out
      subst hr
      go_wp2_with fail
      refine (nan_any _).mono ?_
      rintro e w' ⟨rfl, bs7, n7, rfl⟩
      go_wp2
      go_ret
      exact ⟨rfl, (by repeat (first | exact hw | exact Later.refl _ | refine Later.alloc ?_ | refine Later.far ?_ | refine Later.drewN ?_ | refine Later.drew ?_))⟩
  clear hK hL hPx hPy hza hzo hlg hr
  go_region_held3 (fun w' => w'.cell? ⟨w.heap.size, 0, none⟩ = some (.int .i64 64) ∧ w'.cell? ⟨w.heap.size, 1, none⟩ = some (.int .i64 52) ∧ w.heap.size < w'.heap.size) (refine ⟨?_, ?_, ?_⟩ <;> (repeat (first | refine World.cell?_alloc_some ?_ | (refine (World.cell?_far _ _ _ _ _ ?_).trans ?_; (simp only [World.size_alloc, World.size_drew, World.size_setCell, World.far_size]; omega)))) <;> first | (simp only [World.size_alloc, World.size_drew, World.size_setCell, World.far_size]; omega) | (simp (maxDischargeDepth := 8) [go_sem]; done)) (first | (go_at_call_of 52 x; refine (ha.out _).mono ?_; rintro e w' ⟨rfl, bs1, n1, rfl⟩) | (go_at_call_of 52 y; refine (hb.out _).mono ?_; rintro e w' ⟨rfl, bs2, n2, rfl⟩))
  all_goals
    refine T.out _ _ _ ?_ ?_ ?_ ?_ ?_ ?_ ?_ ?_
    all_goals (first | ((repeat (first | exact Later.refl _ | refine Later.alloc ?_ | refine Later.far ?_ | refine Later.drewN ?_ | refine Later.drew ?_)); done) | (repeat (first | refine World.cell?_alloc_some ?_ | (refine (World.cell?_far _ _ _ _ _ ?_).trans ?_; (simp only [World.size_alloc, World.size_drew, World.size_setCell, World.far_size]; omega)))) <;> first | (simp only [World.size_alloc, World.size_drew, World.size_setCell, World.far_size]; omega) | (simp (maxDischargeDepth := 8) [go_sem]; done))
end Go.Proofs.Ytobhihggdoccoaa.D
