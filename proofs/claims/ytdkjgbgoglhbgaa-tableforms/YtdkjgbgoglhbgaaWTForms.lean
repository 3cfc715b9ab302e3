/- 'TableForms' of package peloruslaw9 returns true at every four ints: which sizes a table may have; a later Put goes over an elder one. No condition. -/
import Derived.Test.YtdkjgbgoglhbgaaNG
import Derived.Test.YtdkjgbgoglhbgaaMath
import Derived.LoopTactic
import Derived.OpenShut
set_option linter.unusedVariables false
set_option linter.unusedSimpArgs false
set_option maxRecDepth 100000
set_option maxHeartbeats 8000000
namespace Go.Proofs.Ytdkjgbgoglhbgaa.tableForms
open Go.ChangeShapes Go.WideShapes Go.ChangeAt Go.RowKit
/-- the two lists laid one over the other -/
def fs (x y : Nat) : Nat → Int := lay (lay (fun _ => -1) x 3 (three 1 2 3)) y 2 (two 7 8)
theorem fs_y (x y i : Nat) (h : y ≤ i ∧ i < y + 2) : fs x y i = 7 + (i : Int) - (y : Int) := by
  unfold fs
  rw [lay, if_pos h]
  rcases (by omega : i = y ∨ i = y + 1) with rfl | rfl
  · simp [two]
  · simp [two]; omega
theorem fs_x (x y i : Nat) (h : ¬ (y ≤ i ∧ i < y + 2)) (hx : x ≤ i ∧ i < x + 3) : fs x y i = 1 + (i : Int) - (x : Int) := by
  unfold fs
  rw [lay, if_neg h, lay, if_pos hx]
  rcases (by omega : i = x ∨ i = x + 1 ∨ i = x + 2) with rfl | rfl | rfl
  · simp [three]
  · simp [three]; omega
  · simp [three]; omega
theorem fs_n (x y i : Nat) (h : ¬ (y ≤ i ∧ i < y + 2)) (hx : ¬ (x ≤ i ∧ i < x + 3)) : fs x y i = -1 := by
  unfold fs
  rw [lay, if_neg h, lay, if_neg hx]
theorem core (least most a_ b_ : Int) (w : World) :
    Calls Try.prog 5 #[.int .i64 least, .int .i64 most, .int .i64 a_, .int .i64 b_] w fun e w' => e = .returned (.bool true) ∧ Later w w' := by
  obtain ⟨x, hx, hxl⟩ : ∃ a : Nat, bits .and .i64 a_ 15 = (a : Int) ∧ a < 16 := ⟨(a_ % 16).toNat, by rw [show (15 : Int) = ((2 ^ 4 : Nat) - 1 : Int) by decide, BM.and_mask a_ 4 (by decide)]; omega, by omega⟩
  obtain ⟨y, hy, hyl⟩ : ∃ a : Nat, bits .and .i64 b_ 15 = (a : Int) ∧ a < 16 := ⟨(b_ % 16).toNat, by rw [show (15 : Int) = ((2 ^ 4 : Nat) - 1 : Int) by decide, BM.and_mask b_ 4 (by decide)]; omega, by omega⟩
  have hE1 : Hid (ptE 20 (x : Int) 3 (three 1 2 3) = 0) := by
    show _ = _
    unfold ptE; rw [if_neg (by decide +kernel), if_neg (by omega)]
  have hF1 : Hid (ptF 20 (fun _ => -1) (x : Int) 3 (three 1 2 3) = lay (fun _ => -1) x 3 (three 1 2 3)) := by
    show _ = _
    unfold ptF; rw [if_neg (by decide +kernel), if_neg (by omega)]; rfl
  have hE2 : Hid (ptE 20 (y : Int) 2 (two 7 8) = 0) := by
    show _ = _
    unfold ptE; rw [if_neg (by decide +kernel), if_neg (by omega)]
  have hF2 : Hid (ptF 20 (lay (fun _ => -1) x 3 (three 1 2 3)) (y : Int) 2 (two 7 8) = fs x y) := by
    show _ = _
    unfold ptF; rw [if_neg (by decide +kernel), if_neg (by omega)]; rfl
  have hG : Hid (∀ i : Nat, i < 20 → gtR 20 (fs x y) (i : Int) = if fs x y i = -1 then (0, 902) else (fs x y i, 0)) := fun i hi => by
    unfold gtR
    rw [if_neg (by omega)]
    simp only [Int.toNat_natCast]
  -- which way New goes
  have hway : (∃ q : Nat, least = (q : Int) ∧ Fine (q : Int) most) ∨ ¬ Fine least most := by
    by_cases hf : Fine least most
    · obtain ⟨q, rfl⟩ := Int.eq_ofNat_of_zero_le hf.1
      exact Or.inl ⟨q, rfl, hf⟩
    · exact Or.inr hf
  go_enter Try.func5, Try.ntmps5
  go_wp2_with fail
  refine (awake_any w _ (Lz _)).mono ?_
  rintro e w1 ⟨rfl, h1⟩
  replace h1 : Hid (Later w w1) := h1
  rcases hway with ⟨q, rfl, hf⟩ | hf
  · have g1 : (0 : Int) ≤ (q : Int) := hf.1
    have g2 : (q : Int) ≤ 1024 := hf.2.1
    have g3 := hf.2.2
    replace hf : Hid (Fine (q : Int) most) := hf
    go_wp2_with fail
    refine (st_new w _ h1.out q most hf.out).mono ?_
    rintro e w2 ⟨p, rfl, S2⟩
    have h2 : Hid (Later w w2) := S2.ltr
    clear S2 h1 hf
    rcases g3 with rfl | ⟨g3, g4⟩
    · go_wp2_with (go_at_call 8; refine (num_any _ _).mono ?_; rintro e w' ⟨rfl, rfl⟩)
      refine (st_new w _ h2.out 20 (-1) ⟨by decide, by decide, Or.inl rfl⟩).mono ?_
      rintro e w3 ⟨pu, rfl, S3⟩
      clear h2
      go_wp2_with fail
      refine (st_put (S3.later (La (Lz _))) (x : Int) _ 3 _ (three 1 2 3) (by decide) ⟨by omega, by omega⟩ (lit3 _ 1 2 3 _ rfl) 0 _ hE1.out hF1.out).mono ?_
      rintro e w4 ⟨rfl, S4⟩
      clear S3
      go_wp2_with fail
      refine (st_put (S4.later (La (Lz _))) (y : Int) _ 2 _ (two 7 8) (by decide) ⟨by omega, by omega⟩ (lit2 _ 7 8 _ rfl) 0 _ hE2.out hF2.out).mono ?_
      rintro e w5 ⟨rfl, S5⟩
      clear S4 hE1 hF1 hE2 hF2
      go_wp2_with fail
      go_loopw [17] (fun v wr => ∃ i : Nat, i ≤ 20 ∧ v = .int .i64 (i : Nat) ∧ St w wr pu 20 (fs x y)) (fun v _ => 20 - (intOf v).toNat)
      case atStart => exact ⟨0, Nat.zero_le _, rfl, S5⟩
      case round =>
        obtain ⟨i, hi, rfl, SR⟩ := hrel
        clear S5
        by_cases hlt : i < 20
        · have hl1 : (i : Int) < 20 := by omega
          by_cases hin : y ≤ i ∧ i < y + 2
          · have hv := fs_y x y i hin
            have hg : gtR 20 (fs x y) (i : Int) = (7 + (i : Int) - (y : Int), 0) := by rw [hG.out i hlt, if_neg (by rw [hv]; omega)]; rw [hv]
            clear hv
            replace hg : Hid _ := hg
            have y1 : (y : Int) ≤ (i : Int) := by omega
            have y2 : (i : Int) < (y : Int) + 2 := by omega
            rcases (by omega : ¬ (x : Int) ≤ (i : Int) ∨ ((x : Int) ≤ (i : Int) ∧ ¬ (i : Int) < (x : Int) + 3) ∨ ((x : Int) ≤ (i : Int) ∧ (i : Int) < (x : Int) + 3)) with x1 | ⟨x1, x2⟩ | ⟨x1, x2⟩
            all_goals
              have v1 : ¬ 7 + (i : Int) - (y : Int) < 0 := by omega
              have v2 : 0 ≤ 7 + (i : Int) - (y : Int) := by omega
              go_wp2_with fail
              refine (st_get SR (i : Int) _ _ hg.out).mono ?_
              rintro e w9 ⟨rfl, rfl⟩
              go_wp2_with (go_at_call 8; refine (num_any _ _).mono ?_; rintro e w' ⟨rfl, rfl⟩)
              go_roundw
              case rel => exact ⟨i + 1, by omega, by go_num, SR⟩
              case measure => simp [intOf]; omega
          · by_cases hix : x ≤ i ∧ i < x + 3
            · have hv := fs_x x y i hin hix
              have hg : gtR 20 (fs x y) (i : Int) = (1 + (i : Int) - (x : Int), 0) := by rw [hG.out i hlt, if_neg (by rw [hv]; omega)]; rw [hv]
              clear hv
              replace hg : Hid _ := hg
              have x1 : (x : Int) ≤ (i : Int) := by omega
              have x2 : (i : Int) < (x : Int) + 3 := by omega
              have v1 : ¬ 1 + (i : Int) - (x : Int) < 0 := by omega
              have v2 : 0 ≤ 1 + (i : Int) - (x : Int) := by omega
              rcases (by omega : ¬ (y : Int) ≤ (i : Int) ∨ ((y : Int) ≤ (i : Int) ∧ ¬ (i : Int) < (y : Int) + 2)) with y1 | ⟨y1, y2⟩
              all_goals
                go_wp2_with fail
                refine (st_get SR (i : Int) _ _ hg.out).mono ?_
                rintro e w9 ⟨rfl, rfl⟩
                go_wp2_with (go_at_call 8; refine (num_any _ _).mono ?_; rintro e w' ⟨rfl, rfl⟩)
                go_roundw
                case rel => exact ⟨i + 1, by omega, by go_num, SR⟩
                case measure => simp [intOf]; omega
            · have hv := fs_n x y i hin hix
              have hg : gtR 20 (fs x y) (i : Int) = (0, 902) := by rw [hG.out i hlt, if_pos (by rw [hv])]
              clear hv
              replace hg : Hid _ := hg
              have hxx : ¬ (x : Int) ≤ (i : Int) ∨ ((x : Int) ≤ (i : Int) ∧ ¬ (i : Int) < (x : Int) + 3) := by omega
              rcases (by omega : ¬ (y : Int) ≤ (i : Int) ∨ ((y : Int) ≤ (i : Int) ∧ ¬ (i : Int) < (y : Int) + 2)) with y1 | ⟨y1, y2⟩
              all_goals
                rcases hxx with x1 | ⟨x1, x2⟩
                all_goals
                  go_wp2_with fail
                  refine (st_get SR (i : Int) _ _ hg.out).mono ?_
                  rintro e w9 ⟨rfl, rfl⟩
                  go_wp2_with (go_at_call 8; refine (num_any _ _).mono ?_; rintro e w' ⟨rfl, rfl⟩)
                  go_roundw
                  case rel => exact ⟨i + 1, by omega, by go_num, SR⟩
                  case measure => simp [intOf]; omega
        · have hie : i = 20 := by omega
          subst hie
          clear hG
          go_wp2_with (go_at_call 8; refine (num_any _ _).mono ?_; rintro e w' ⟨rfl, rfl⟩)
          go_ret
          exact ⟨rfl, SR.ltr⟩
    · have g5 : (most == -1) = false := by simp; omega
      go_wp2_with (go_at_call 8; refine (num_any _ _).mono ?_; rintro e w' ⟨rfl, rfl⟩)
      refine (st_new w _ h2.out 20 (-1) ⟨by decide, by decide, Or.inl rfl⟩).mono ?_
      rintro e w3 ⟨pu, rfl, S3⟩
      clear h2
      go_wp2_with fail
      refine (st_put (S3.later (La (Lz _))) (x : Int) _ 3 _ (three 1 2 3) (by decide) ⟨by omega, by omega⟩ (lit3 _ 1 2 3 _ rfl) 0 _ hE1.out hF1.out).mono ?_
      rintro e w4 ⟨rfl, S4⟩
      clear S3
      go_wp2_with fail
      refine (st_put (S4.later (La (Lz _))) (y : Int) _ 2 _ (two 7 8) (by decide) ⟨by omega, by omega⟩ (lit2 _ 7 8 _ rfl) 0 _ hE2.out hF2.out).mono ?_
      rintro e w5 ⟨rfl, S5⟩
      clear S4 hE1 hF1 hE2 hF2
      go_wp2_with fail
      go_loopw [17] (fun v wr => ∃ i : Nat, i ≤ 20 ∧ v = .int .i64 (i : Nat) ∧ St w wr pu 20 (fs x y)) (fun v _ => 20 - (intOf v).toNat)
      case atStart => exact ⟨0, Nat.zero_le _, rfl, S5⟩
      case round =>
        obtain ⟨i, hi, rfl, SR⟩ := hrel
        clear S5
        by_cases hlt : i < 20
        · have hl1 : (i : Int) < 20 := by omega
          by_cases hin : y ≤ i ∧ i < y + 2
          · have hv := fs_y x y i hin
            have hg : gtR 20 (fs x y) (i : Int) = (7 + (i : Int) - (y : Int), 0) := by rw [hG.out i hlt, if_neg (by rw [hv]; omega)]; rw [hv]
            clear hv
            replace hg : Hid _ := hg
            have y1 : (y : Int) ≤ (i : Int) := by omega
            have y2 : (i : Int) < (y : Int) + 2 := by omega
            rcases (by omega : ¬ (x : Int) ≤ (i : Int) ∨ ((x : Int) ≤ (i : Int) ∧ ¬ (i : Int) < (x : Int) + 3) ∨ ((x : Int) ≤ (i : Int) ∧ (i : Int) < (x : Int) + 3)) with x1 | ⟨x1, x2⟩ | ⟨x1, x2⟩
            all_goals
              have v1 : ¬ 7 + (i : Int) - (y : Int) < 0 := by omega
              have v2 : 0 ≤ 7 + (i : Int) - (y : Int) := by omega
              go_wp2_with fail
              refine (st_get SR (i : Int) _ _ hg.out).mono ?_
              rintro e w9 ⟨rfl, rfl⟩
              go_wp2_with (go_at_call 8; refine (num_any _ _).mono ?_; rintro e w' ⟨rfl, rfl⟩)
              go_roundw
              case rel => exact ⟨i + 1, by omega, by go_num, SR⟩
              case measure => simp [intOf]; omega
          · by_cases hix : x ≤ i ∧ i < x + 3
            · have hv := fs_x x y i hin hix
              have hg : gtR 20 (fs x y) (i : Int) = (1 + (i : Int) - (x : Int), 0) := by rw [hG.out i hlt, if_neg (by rw [hv]; omega)]; rw [hv]
              clear hv
              replace hg : Hid _ := hg
              have x1 : (x : Int) ≤ (i : Int) := by omega
              have x2 : (i : Int) < (x : Int) + 3 := by omega
              have v1 : ¬ 1 + (i : Int) - (x : Int) < 0 := by omega
              have v2 : 0 ≤ 1 + (i : Int) - (x : Int) := by omega
              rcases (by omega : ¬ (y : Int) ≤ (i : Int) ∨ ((y : Int) ≤ (i : Int) ∧ ¬ (i : Int) < (y : Int) + 2)) with y1 | ⟨y1, y2⟩
              all_goals
                go_wp2_with fail
                refine (st_get SR (i : Int) _ _ hg.out).mono ?_
                rintro e w9 ⟨rfl, rfl⟩
                go_wp2_with (go_at_call 8; refine (num_any _ _).mono ?_; rintro e w' ⟨rfl, rfl⟩)
                go_roundw
                case rel => exact ⟨i + 1, by omega, by go_num, SR⟩
                case measure => simp [intOf]; omega
            · have hv := fs_n x y i hin hix
              have hg : gtR 20 (fs x y) (i : Int) = (0, 902) := by rw [hG.out i hlt, if_pos (by rw [hv])]
              clear hv
              replace hg : Hid _ := hg
              have hxx : ¬ (x : Int) ≤ (i : Int) ∨ ((x : Int) ≤ (i : Int) ∧ ¬ (i : Int) < (x : Int) + 3) := by omega
              rcases (by omega : ¬ (y : Int) ≤ (i : Int) ∨ ((y : Int) ≤ (i : Int) ∧ ¬ (i : Int) < (y : Int) + 2)) with y1 | ⟨y1, y2⟩
              all_goals
                rcases hxx with x1 | ⟨x1, x2⟩
                all_goals
                  go_wp2_with fail
                  refine (st_get SR (i : Int) _ _ hg.out).mono ?_
                  rintro e w9 ⟨rfl, rfl⟩
                  go_wp2_with (go_at_call 8; refine (num_any _ _).mono ?_; rintro e w' ⟨rfl, rfl⟩)
                  go_roundw
                  case rel => exact ⟨i + 1, by omega, by go_num, SR⟩
                  case measure => simp [intOf]; omega
        · have hie : i = 20 := by omega
          subst hie
          clear hG
          go_wp2_with (go_at_call 8; refine (num_any _ _).mono ?_; rintro e w' ⟨rfl, rfl⟩)
          go_ret
          exact ⟨rfl, SR.ltr⟩
  · have hb : least < 0 ∨ (¬ least < 0 ∧ 1024 < least) ∨ (¬ least < 0 ∧ ¬ 1024 < least ∧ ¬ most = -1 ∧ ¬ least ≤ most) ∨ (¬ least < 0 ∧ ¬ 1024 < least ∧ ¬ most = -1 ∧ least ≤ most ∧ ¬ most ≤ 4294967295) := by unfold Fine at hf; omega
    replace hf : Hid (¬ Fine least most) := hf
    go_wp2_with fail
    refine (new_bad least most hf.out _).mono ?_
    rintro e w2 ⟨rfl, h2⟩
    replace h2 : Hid (Later w w2) := h1.out.trans (Later.trans (by repeat first | exact Lz _ | apply La | apply Ld) h2)
    clear h1 hf
    rcases hb with f1 | ⟨f1, f2⟩ | ⟨f1, f2, f3, f4⟩ | ⟨f1, f2, f3, f4, f5⟩
    · have k1 : ¬ (0 : Int) ≤ least := by omega
      go_wp2_with (go_at_call 8; refine (num_any _ _).mono ?_; rintro e w' ⟨rfl, rfl⟩)
      refine (st_new w _ h2.out 20 (-1) ⟨by decide, by decide, Or.inl rfl⟩).mono ?_
      rintro e w3 ⟨pu, rfl, S3⟩
      clear h2
      go_wp2_with fail
      refine (st_put (S3.later (La (Lz _))) (x : Int) _ 3 _ (three 1 2 3) (by decide) ⟨by omega, by omega⟩ (lit3 _ 1 2 3 _ rfl) 0 _ hE1.out hF1.out).mono ?_
      rintro e w4 ⟨rfl, S4⟩
      clear S3
      go_wp2_with fail
      refine (st_put (S4.later (La (Lz _))) (y : Int) _ 2 _ (two 7 8) (by decide) ⟨by omega, by omega⟩ (lit2 _ 7 8 _ rfl) 0 _ hE2.out hF2.out).mono ?_
      rintro e w5 ⟨rfl, S5⟩
      clear S4 hE1 hF1 hE2 hF2
      go_wp2_with fail
      go_loopw [17] (fun v wr => ∃ i : Nat, i ≤ 20 ∧ v = .int .i64 (i : Nat) ∧ St w wr pu 20 (fs x y)) (fun v _ => 20 - (intOf v).toNat)
      case atStart => exact ⟨0, Nat.zero_le _, rfl, S5⟩
      case round =>
        obtain ⟨i, hi, rfl, SR⟩ := hrel
        clear S5
        by_cases hlt : i < 20
        · have hl1 : (i : Int) < 20 := by omega
          by_cases hin : y ≤ i ∧ i < y + 2
          · have hv := fs_y x y i hin
            have hg : gtR 20 (fs x y) (i : Int) = (7 + (i : Int) - (y : Int), 0) := by rw [hG.out i hlt, if_neg (by rw [hv]; omega)]; rw [hv]
            clear hv
            replace hg : Hid _ := hg
            have y1 : (y : Int) ≤ (i : Int) := by omega
            have y2 : (i : Int) < (y : Int) + 2 := by omega
            rcases (by omega : ¬ (x : Int) ≤ (i : Int) ∨ ((x : Int) ≤ (i : Int) ∧ ¬ (i : Int) < (x : Int) + 3) ∨ ((x : Int) ≤ (i : Int) ∧ (i : Int) < (x : Int) + 3)) with x1 | ⟨x1, x2⟩ | ⟨x1, x2⟩
            all_goals
              have v1 : ¬ 7 + (i : Int) - (y : Int) < 0 := by omega
              have v2 : 0 ≤ 7 + (i : Int) - (y : Int) := by omega
              go_wp2_with fail
              refine (st_get SR (i : Int) _ _ hg.out).mono ?_
              rintro e w9 ⟨rfl, rfl⟩
              go_wp2_with (go_at_call 8; refine (num_any _ _).mono ?_; rintro e w' ⟨rfl, rfl⟩)
              go_roundw
              case rel => exact ⟨i + 1, by omega, by go_num, SR⟩
              case measure => simp [intOf]; omega
          · by_cases hix : x ≤ i ∧ i < x + 3
            · have hv := fs_x x y i hin hix
              have hg : gtR 20 (fs x y) (i : Int) = (1 + (i : Int) - (x : Int), 0) := by rw [hG.out i hlt, if_neg (by rw [hv]; omega)]; rw [hv]
              clear hv
              replace hg : Hid _ := hg
              have x1 : (x : Int) ≤ (i : Int) := by omega
              have x2 : (i : Int) < (x : Int) + 3 := by omega
              have v1 : ¬ 1 + (i : Int) - (x : Int) < 0 := by omega
              have v2 : 0 ≤ 1 + (i : Int) - (x : Int) := by omega
              rcases (by omega : ¬ (y : Int) ≤ (i : Int) ∨ ((y : Int) ≤ (i : Int) ∧ ¬ (i : Int) < (y : Int) + 2)) with y1 | ⟨y1, y2⟩
              all_goals
                go_wp2_with fail
                refine (st_get SR (i : Int) _ _ hg.out).mono ?_
                rintro e w9 ⟨rfl, rfl⟩
                go_wp2_with (go_at_call 8; refine (num_any _ _).mono ?_; rintro e w' ⟨rfl, rfl⟩)
                go_roundw
                case rel => exact ⟨i + 1, by omega, by go_num, SR⟩
                case measure => simp [intOf]; omega
            · have hv := fs_n x y i hin hix
              have hg : gtR 20 (fs x y) (i : Int) = (0, 902) := by rw [hG.out i hlt, if_pos (by rw [hv])]
              clear hv
              replace hg : Hid _ := hg
              have hxx : ¬ (x : Int) ≤ (i : Int) ∨ ((x : Int) ≤ (i : Int) ∧ ¬ (i : Int) < (x : Int) + 3) := by omega
              rcases (by omega : ¬ (y : Int) ≤ (i : Int) ∨ ((y : Int) ≤ (i : Int) ∧ ¬ (i : Int) < (y : Int) + 2)) with y1 | ⟨y1, y2⟩
              all_goals
                rcases hxx with x1 | ⟨x1, x2⟩
                all_goals
                  go_wp2_with fail
                  refine (st_get SR (i : Int) _ _ hg.out).mono ?_
                  rintro e w9 ⟨rfl, rfl⟩
                  go_wp2_with (go_at_call 8; refine (num_any _ _).mono ?_; rintro e w' ⟨rfl, rfl⟩)
                  go_roundw
                  case rel => exact ⟨i + 1, by omega, by go_num, SR⟩
                  case measure => simp [intOf]; omega
        · have hie : i = 20 := by omega
          subst hie
          clear hG
          go_wp2_with (go_at_call 8; refine (num_any _ _).mono ?_; rintro e w' ⟨rfl, rfl⟩)
          go_ret
          exact ⟨rfl, SR.ltr⟩
    · have k1 : (0 : Int) ≤ least := by omega
      have k2 : ¬ least ≤ 1024 := by omega
      go_wp2_with (go_at_call 8; refine (num_any _ _).mono ?_; rintro e w' ⟨rfl, rfl⟩)
      refine (st_new w _ h2.out 20 (-1) ⟨by decide, by decide, Or.inl rfl⟩).mono ?_
      rintro e w3 ⟨pu, rfl, S3⟩
      clear h2
      go_wp2_with fail
      refine (st_put (S3.later (La (Lz _))) (x : Int) _ 3 _ (three 1 2 3) (by decide) ⟨by omega, by omega⟩ (lit3 _ 1 2 3 _ rfl) 0 _ hE1.out hF1.out).mono ?_
      rintro e w4 ⟨rfl, S4⟩
      clear S3
      go_wp2_with fail
      refine (st_put (S4.later (La (Lz _))) (y : Int) _ 2 _ (two 7 8) (by decide) ⟨by omega, by omega⟩ (lit2 _ 7 8 _ rfl) 0 _ hE2.out hF2.out).mono ?_
      rintro e w5 ⟨rfl, S5⟩
      clear S4 hE1 hF1 hE2 hF2
      go_wp2_with fail
      go_loopw [17] (fun v wr => ∃ i : Nat, i ≤ 20 ∧ v = .int .i64 (i : Nat) ∧ St w wr pu 20 (fs x y)) (fun v _ => 20 - (intOf v).toNat)
      case atStart => exact ⟨0, Nat.zero_le _, rfl, S5⟩
      case round =>
        obtain ⟨i, hi, rfl, SR⟩ := hrel
        clear S5
        by_cases hlt : i < 20
        · have hl1 : (i : Int) < 20 := by omega
          by_cases hin : y ≤ i ∧ i < y + 2
          · have hv := fs_y x y i hin
            have hg : gtR 20 (fs x y) (i : Int) = (7 + (i : Int) - (y : Int), 0) := by rw [hG.out i hlt, if_neg (by rw [hv]; omega)]; rw [hv]
            clear hv
            replace hg : Hid _ := hg
            have y1 : (y : Int) ≤ (i : Int) := by omega
            have y2 : (i : Int) < (y : Int) + 2 := by omega
            rcases (by omega : ¬ (x : Int) ≤ (i : Int) ∨ ((x : Int) ≤ (i : Int) ∧ ¬ (i : Int) < (x : Int) + 3) ∨ ((x : Int) ≤ (i : Int) ∧ (i : Int) < (x : Int) + 3)) with x1 | ⟨x1, x2⟩ | ⟨x1, x2⟩
            all_goals
              have v1 : ¬ 7 + (i : Int) - (y : Int) < 0 := by omega
              have v2 : 0 ≤ 7 + (i : Int) - (y : Int) := by omega
              go_wp2_with fail
              refine (st_get SR (i : Int) _ _ hg.out).mono ?_
              rintro e w9 ⟨rfl, rfl⟩
              go_wp2_with (go_at_call 8; refine (num_any _ _).mono ?_; rintro e w' ⟨rfl, rfl⟩)
              go_roundw
              case rel => exact ⟨i + 1, by omega, by go_num, SR⟩
              case measure => simp [intOf]; omega
          · by_cases hix : x ≤ i ∧ i < x + 3
            · have hv := fs_x x y i hin hix
              have hg : gtR 20 (fs x y) (i : Int) = (1 + (i : Int) - (x : Int), 0) := by rw [hG.out i hlt, if_neg (by rw [hv]; omega)]; rw [hv]
              clear hv
              replace hg : Hid _ := hg
              have x1 : (x : Int) ≤ (i : Int) := by omega
              have x2 : (i : Int) < (x : Int) + 3 := by omega
              have v1 : ¬ 1 + (i : Int) - (x : Int) < 0 := by omega
              have v2 : 0 ≤ 1 + (i : Int) - (x : Int) := by omega
              rcases (by omega : ¬ (y : Int) ≤ (i : Int) ∨ ((y : Int) ≤ (i : Int) ∧ ¬ (i : Int) < (y : Int) + 2)) with y1 | ⟨y1, y2⟩
              all_goals
                go_wp2_with fail
                refine (st_get SR (i : Int) _ _ hg.out).mono ?_
                rintro e w9 ⟨rfl, rfl⟩
                go_wp2_with (go_at_call 8; refine (num_any _ _).mono ?_; rintro e w' ⟨rfl, rfl⟩)
                go_roundw
                case rel => exact ⟨i + 1, by omega, by go_num, SR⟩
                case measure => simp [intOf]; omega
            · have hv := fs_n x y i hin hix
              have hg : gtR 20 (fs x y) (i : Int) = (0, 902) := by rw [hG.out i hlt, if_pos (by rw [hv])]
              clear hv
              replace hg : Hid _ := hg
              have hxx : ¬ (x : Int) ≤ (i : Int) ∨ ((x : Int) ≤ (i : Int) ∧ ¬ (i : Int) < (x : Int) + 3) := by omega
              rcases (by omega : ¬ (y : Int) ≤ (i : Int) ∨ ((y : Int) ≤ (i : Int) ∧ ¬ (i : Int) < (y : Int) + 2)) with y1 | ⟨y1, y2⟩
              all_goals
                rcases hxx with x1 | ⟨x1, x2⟩
                all_goals
                  go_wp2_with fail
                  refine (st_get SR (i : Int) _ _ hg.out).mono ?_
                  rintro e w9 ⟨rfl, rfl⟩
                  go_wp2_with (go_at_call 8; refine (num_any _ _).mono ?_; rintro e w' ⟨rfl, rfl⟩)
                  go_roundw
                  case rel => exact ⟨i + 1, by omega, by go_num, SR⟩
                  case measure => simp [intOf]; omega
        · have hie : i = 20 := by omega
          subst hie
          clear hG
          go_wp2_with (go_at_call 8; refine (num_any _ _).mono ?_; rintro e w' ⟨rfl, rfl⟩)
          go_ret
          exact ⟨rfl, SR.ltr⟩
    · have k1 : (0 : Int) ≤ least := by omega
      have k2 : least ≤ 1024 := by omega
      have k3 : (most == -1) = false := beq_eq_false_iff_ne.2 f3
      go_wp2_with (go_at_call 8; refine (num_any _ _).mono ?_; rintro e w' ⟨rfl, rfl⟩)
      refine (st_new w _ h2.out 20 (-1) ⟨by decide, by decide, Or.inl rfl⟩).mono ?_
      rintro e w3 ⟨pu, rfl, S3⟩
      clear h2
      go_wp2_with fail
      refine (st_put (S3.later (La (Lz _))) (x : Int) _ 3 _ (three 1 2 3) (by decide) ⟨by omega, by omega⟩ (lit3 _ 1 2 3 _ rfl) 0 _ hE1.out hF1.out).mono ?_
      rintro e w4 ⟨rfl, S4⟩
      clear S3
      go_wp2_with fail
      refine (st_put (S4.later (La (Lz _))) (y : Int) _ 2 _ (two 7 8) (by decide) ⟨by omega, by omega⟩ (lit2 _ 7 8 _ rfl) 0 _ hE2.out hF2.out).mono ?_
      rintro e w5 ⟨rfl, S5⟩
      clear S4 hE1 hF1 hE2 hF2
      go_wp2_with fail
      go_loopw [17] (fun v wr => ∃ i : Nat, i ≤ 20 ∧ v = .int .i64 (i : Nat) ∧ St w wr pu 20 (fs x y)) (fun v _ => 20 - (intOf v).toNat)
      case atStart => exact ⟨0, Nat.zero_le _, rfl, S5⟩
      case round =>
        obtain ⟨i, hi, rfl, SR⟩ := hrel
        clear S5
        by_cases hlt : i < 20
        · have hl1 : (i : Int) < 20 := by omega
          by_cases hin : y ≤ i ∧ i < y + 2
          · have hv := fs_y x y i hin
            have hg : gtR 20 (fs x y) (i : Int) = (7 + (i : Int) - (y : Int), 0) := by rw [hG.out i hlt, if_neg (by rw [hv]; omega)]; rw [hv]
            clear hv
            replace hg : Hid _ := hg
            have y1 : (y : Int) ≤ (i : Int) := by omega
            have y2 : (i : Int) < (y : Int) + 2 := by omega
            rcases (by omega : ¬ (x : Int) ≤ (i : Int) ∨ ((x : Int) ≤ (i : Int) ∧ ¬ (i : Int) < (x : Int) + 3) ∨ ((x : Int) ≤ (i : Int) ∧ (i : Int) < (x : Int) + 3)) with x1 | ⟨x1, x2⟩ | ⟨x1, x2⟩
            all_goals
              have v1 : ¬ 7 + (i : Int) - (y : Int) < 0 := by omega
              have v2 : 0 ≤ 7 + (i : Int) - (y : Int) := by omega
              go_wp2_with fail
              refine (st_get SR (i : Int) _ _ hg.out).mono ?_
              rintro e w9 ⟨rfl, rfl⟩
              go_wp2_with (go_at_call 8; refine (num_any _ _).mono ?_; rintro e w' ⟨rfl, rfl⟩)
              go_roundw
              case rel => exact ⟨i + 1, by omega, by go_num, SR⟩
              case measure => simp [intOf]; omega
          · by_cases hix : x ≤ i ∧ i < x + 3
            · have hv := fs_x x y i hin hix
              have hg : gtR 20 (fs x y) (i : Int) = (1 + (i : Int) - (x : Int), 0) := by rw [hG.out i hlt, if_neg (by rw [hv]; omega)]; rw [hv]
              clear hv
              replace hg : Hid _ := hg
              have x1 : (x : Int) ≤ (i : Int) := by omega
              have x2 : (i : Int) < (x : Int) + 3 := by omega
              have v1 : ¬ 1 + (i : Int) - (x : Int) < 0 := by omega
              have v2 : 0 ≤ 1 + (i : Int) - (x : Int) := by omega
              rcases (by omega : ¬ (y : Int) ≤ (i : Int) ∨ ((y : Int) ≤ (i : Int) ∧ ¬ (i : Int) < (y : Int) + 2)) with y1 | ⟨y1, y2⟩
              all_goals
                go_wp2_with fail
                refine (st_get SR (i : Int) _ _ hg.out).mono ?_
                rintro e w9 ⟨rfl, rfl⟩
                go_wp2_with (go_at_call 8; refine (num_any _ _).mono ?_; rintro e w' ⟨rfl, rfl⟩)
                go_roundw
                case rel => exact ⟨i + 1, by omega, by go_num, SR⟩
                case measure => simp [intOf]; omega
            · have hv := fs_n x y i hin hix
              have hg : gtR 20 (fs x y) (i : Int) = (0, 902) := by rw [hG.out i hlt, if_pos (by rw [hv])]
              clear hv
              replace hg : Hid _ := hg
              have hxx : ¬ (x : Int) ≤ (i : Int) ∨ ((x : Int) ≤ (i : Int) ∧ ¬ (i : Int) < (x : Int) + 3) := by omega
              rcases (by omega : ¬ (y : Int) ≤ (i : Int) ∨ ((y : Int) ≤ (i : Int) ∧ ¬ (i : Int) < (y : Int) + 2)) with y1 | ⟨y1, y2⟩
              all_goals
                rcases hxx with x1 | ⟨x1, x2⟩
                all_goals
                  go_wp2_with fail
                  refine (st_get SR (i : Int) _ _ hg.out).mono ?_
                  rintro e w9 ⟨rfl, rfl⟩
                  go_wp2_with (go_at_call 8; refine (num_any _ _).mono ?_; rintro e w' ⟨rfl, rfl⟩)
                  go_roundw
                  case rel => exact ⟨i + 1, by omega, by go_num, SR⟩
                  case measure => simp [intOf]; omega
        · have hie : i = 20 := by omega
          subst hie
          clear hG
          go_wp2_with (go_at_call 8; refine (num_any _ _).mono ?_; rintro e w' ⟨rfl, rfl⟩)
          go_ret
          exact ⟨rfl, SR.ltr⟩
    · have k1 : (0 : Int) ≤ least := by omega
      have k2 : least ≤ 1024 := by omega
      have k3 : (most == -1) = false := beq_eq_false_iff_ne.2 f3
      go_wp2_with (go_at_call 8; refine (num_any _ _).mono ?_; rintro e w' ⟨rfl, rfl⟩)
      refine (st_new w _ h2.out 20 (-1) ⟨by decide, by decide, Or.inl rfl⟩).mono ?_
      rintro e w3 ⟨pu, rfl, S3⟩
      clear h2
      go_wp2_with fail
      refine (st_put (S3.later (La (Lz _))) (x : Int) _ 3 _ (three 1 2 3) (by decide) ⟨by omega, by omega⟩ (lit3 _ 1 2 3 _ rfl) 0 _ hE1.out hF1.out).mono ?_
      rintro e w4 ⟨rfl, S4⟩
      clear S3
      go_wp2_with fail
      refine (st_put (S4.later (La (Lz _))) (y : Int) _ 2 _ (two 7 8) (by decide) ⟨by omega, by omega⟩ (lit2 _ 7 8 _ rfl) 0 _ hE2.out hF2.out).mono ?_
      rintro e w5 ⟨rfl, S5⟩
      clear S4 hE1 hF1 hE2 hF2
      go_wp2_with fail
      go_loopw [17] (fun v wr => ∃ i : Nat, i ≤ 20 ∧ v = .int .i64 (i : Nat) ∧ St w wr pu 20 (fs x y)) (fun v _ => 20 - (intOf v).toNat)
      case atStart => exact ⟨0, Nat.zero_le _, rfl, S5⟩
      case round =>
        obtain ⟨i, hi, rfl, SR⟩ := hrel
        clear S5
        by_cases hlt : i < 20
        · have hl1 : (i : Int) < 20 := by omega
          by_cases hin : y ≤ i ∧ i < y + 2
          · have hv := fs_y x y i hin
            have hg : gtR 20 (fs x y) (i : Int) = (7 + (i : Int) - (y : Int), 0) := by rw [hG.out i hlt, if_neg (by rw [hv]; omega)]; rw [hv]
            clear hv
            replace hg : Hid _ := hg
            have y1 : (y : Int) ≤ (i : Int) := by omega
            have y2 : (i : Int) < (y : Int) + 2 := by omega
            rcases (by omega : ¬ (x : Int) ≤ (i : Int) ∨ ((x : Int) ≤ (i : Int) ∧ ¬ (i : Int) < (x : Int) + 3) ∨ ((x : Int) ≤ (i : Int) ∧ (i : Int) < (x : Int) + 3)) with x1 | ⟨x1, x2⟩ | ⟨x1, x2⟩
            all_goals
              have v1 : ¬ 7 + (i : Int) - (y : Int) < 0 := by omega
              have v2 : 0 ≤ 7 + (i : Int) - (y : Int) := by omega
              go_wp2_with fail
              refine (st_get SR (i : Int) _ _ hg.out).mono ?_
              rintro e w9 ⟨rfl, rfl⟩
              go_wp2_with (go_at_call 8; refine (num_any _ _).mono ?_; rintro e w' ⟨rfl, rfl⟩)
              go_roundw
              case rel => exact ⟨i + 1, by omega, by go_num, SR⟩
              case measure => simp [intOf]; omega
          · by_cases hix : x ≤ i ∧ i < x + 3
            · have hv := fs_x x y i hin hix
              have hg : gtR 20 (fs x y) (i : Int) = (1 + (i : Int) - (x : Int), 0) := by rw [hG.out i hlt, if_neg (by rw [hv]; omega)]; rw [hv]
              clear hv
              replace hg : Hid _ := hg
              have x1 : (x : Int) ≤ (i : Int) := by omega
              have x2 : (i : Int) < (x : Int) + 3 := by omega
              have v1 : ¬ 1 + (i : Int) - (x : Int) < 0 := by omega
              have v2 : 0 ≤ 1 + (i : Int) - (x : Int) := by omega
              rcases (by omega : ¬ (y : Int) ≤ (i : Int) ∨ ((y : Int) ≤ (i : Int) ∧ ¬ (i : Int) < (y : Int) + 2)) with y1 | ⟨y1, y2⟩
              all_goals
                go_wp2_with fail
                refine (st_get SR (i : Int) _ _ hg.out).mono ?_
                rintro e w9 ⟨rfl, rfl⟩
                go_wp2_with (go_at_call 8; refine (num_any _ _).mono ?_; rintro e w' ⟨rfl, rfl⟩)
                go_roundw
                case rel => exact ⟨i + 1, by omega, by go_num, SR⟩
                case measure => simp [intOf]; omega
            · have hv := fs_n x y i hin hix
              have hg : gtR 20 (fs x y) (i : Int) = (0, 902) := by rw [hG.out i hlt, if_pos (by rw [hv])]
              clear hv
              replace hg : Hid _ := hg
              have hxx : ¬ (x : Int) ≤ (i : Int) ∨ ((x : Int) ≤ (i : Int) ∧ ¬ (i : Int) < (x : Int) + 3) := by omega
              rcases (by omega : ¬ (y : Int) ≤ (i : Int) ∨ ((y : Int) ≤ (i : Int) ∧ ¬ (i : Int) < (y : Int) + 2)) with y1 | ⟨y1, y2⟩
              all_goals
                rcases hxx with x1 | ⟨x1, x2⟩
                all_goals
                  go_wp2_with fail
                  refine (st_get SR (i : Int) _ _ hg.out).mono ?_
                  rintro e w9 ⟨rfl, rfl⟩
                  go_wp2_with (go_at_call 8; refine (num_any _ _).mono ?_; rintro e w' ⟨rfl, rfl⟩)
                  go_roundw
                  case rel => exact ⟨i + 1, by omega, by go_num, SR⟩
                  case measure => simp [intOf]; omega
        · have hie : i = 20 := by omega
          subst hie
          clear hG
          go_wp2_with (go_at_call 8; refine (num_any _ _).mono ?_; rintro e w' ⟨rfl, rfl⟩)
          go_ret
          exact ⟨rfl, SR.ltr⟩
theorem walk (a0 : Int) (a1 : Int) (a2 : Int) (a3 : Int) (w0 : (Lit.int .i64 a0).wf = true) (w1 : (Lit.int .i64 a1).wf = true) (w2 : (Lit.int .i64 a2).wf = true) (w3 : (Lit.int .i64 a3).wf = true) (w : World) :
    Calls Try.prog 5 #[.int .i64 a0, .int .i64 a1, .int .i64 a2, .int .i64 a3] w fun e w' => e = .returned (.bool true) ∧ Grown w w' :=
  (core a0 a1 a2 a3 w).mono (fun e w' h => ⟨h.1, h.2.grown⟩)

/-! ### THE ROW's STEP: WRITTEN OUT: LEAVE IT -/
set_option maxRecDepth 100000 in
theorem lifted (os : Os) (started : os.Started) (H : Type) (enc : TypeId × Value → H) :
    ReturnsInHanded {} Try.checked os 5 .any (Rows.tableFormsSpec.pre6 enc Try.prog Try.f5 Rows.tableFormsRow.domain false) (Rows.tableFormsSpec.post enc Try.prog Try.f5 false true false false) := by
  refine returnsInHanded_of_change (C := Try.checked) own started (by kernel_rfl) Try.func5
    (ChangeSpec.witness6 (enc := enc) (C := Try.checked) false ⟨#[], #[.int .i64 0, .int .i64 0, .int .i64 0, .int .i64 0], []⟩ 8 (by kernel_rfl) (by kernel_rfl) (by kernel_rfl) (by kernel_rfl)) ?_
  intro W base args ds gs before hval0 hW hcnd _
  have hval : ∀ (j : Nat) t v, Try.f5.params[j]? = some t → args[j]? = some v → Value.okWide Try.prog W .any base t v := hval0
  have hW' := hW
  obtain ⟨p, q, hA0, hV, rfl, hfz, hnd⟩ := hW
  have hA : DataW.TrodAll enc Try.prog W 0 (fun _ => true) true Try.f5.params.toList args.toList ds p := hA0
  rw [Try.params5] at hA hval
  obtain ⟨v0, vs0, d0, ds0, p0, q0, hargs, rfl, rfl, h0, r0⟩ := trodAll_cons hA
  obtain ⟨v1, vs1, d1, ds1, p1, q1, rfl, rfl, rfl, h1, r1⟩ := trodAll_cons r0
  obtain ⟨v2, vs2, d2, ds2, p2, q2, rfl, rfl, rfl, h2, r2⟩ := trodAll_cons r1
  obtain ⟨v3, vs3, d3, ds3, p3, q3, rfl, rfl, rfl, h3, r3⟩ := trodAll_cons r2
  obtain ⟨rfl, rfl, rfl⟩ := trodAll_nil r3
  obtain rfl : args = #[v0, v1, v2, v3] := by cases args; simp_all
  obtain ⟨rfl, rfl⟩ := trodVars_none hV
  obtain ⟨a0, rfl, rfl, rfl, w0⟩ := open_int Try.underlying3 (hval 0 3 v0 rfl rfl) h0
  obtain ⟨a1, rfl, rfl, rfl, w1⟩ := open_int Try.underlying3 (hval 1 3 v1 rfl rfl) h1
  obtain ⟨a2, rfl, rfl, rfl, w2⟩ := open_int Try.underlying3 (hval 2 3 v2 rfl rfl) h2
  obtain ⟨a3, rfl, rfl, rfl, w3⟩ := open_int Try.underlying3 (hval 3 3 v3 rfl rfl) h3
  clear hA0 hval0
  simp only [List.append_nil] at hW'
  refine (walk a0 a1 a2 a3 w0 w1 w2 w3 W).mono fun e W' ⟨he, hg⟩ => ?_
  subst he
  exact ⟨_, rfl, post_of_same (pa := []) (pv := []) hW' (fun _ _ _ => (trodAll_cons_mk (shut_bool Try.underlying4 _) trodAll_mk0)) (fun sp _ => (trodAll_cons_mk (shut_int Try.underlying3 w0) (trodAll_cons_mk (shut_int Try.underlying3 w1) (trodAll_cons_mk (shut_int Try.underlying3 w2) (trodAll_cons_mk (shut_int Try.underlying3 w3) trodAll_mk0))))) (fun _ _ => rfl) rfl
    (hg.frame _) hg.2.1 (ok_one (by kernel_rfl) rfl (okWide_bool_mk Try.underlying4 _))⟩

theorem over : Rows.tableFormsRow.holds Try.pinned (OpenSpec.ofChange Rows.tableFormsSpec) :=
  OpenClaim.holds_of_wide 5 Try.f5 rfl rfl rfl rfl rfl rfl rfl ⟨rfl, rfl, rfl, rfl, rfl⟩ rfl rfl rfl rfl rfl (by kernel_rfl) Try.func5 (by kernel_rfl)
    (of_decide_eq_true (by kernel_rfl)) (by unfold Func.isWrapper; first | (rw [if_pos (by decide +kernel)]; kernel_rfl) | (rw [if_neg (by decide +kernel)]; exact ⟨rfl, rfl⟩))
    (fun os started H enc _ => lifted os started H enc)

theorem proved : Rows.TableFormsSaid := over
end Go.Proofs.Ytdkjgbgoglhbgaa.tableForms
namespace Go.Proofs.Ytdkjgbgoglhbgaa
theorem tableForms_holds : Rows.TableFormsSaid := tableForms.proved
#print axioms tableForms_holds
end Go.Proofs.Ytdkjgbgoglhbgaa

