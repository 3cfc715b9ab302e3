/- 'MemoryWidths' of package peloruslaw8 returns true at every two ints: narrower loads are parts of wider ones, with their sign or without. No condition. -/
import Derived.Test.YtbbjbgbpjhhcoaaDoorMJ
import Derived.Test.YtbbjbgbpjhhcoaaDoorCards
import Derived.Test.YtbbjbgbpjhhcoaaDoorTie
import Derived.LoopTactic
import Derived.OpenShut
set_option linter.unusedVariables false
set_option linter.unusedSimpArgs false
set_option maxRecDepth 100000
set_option maxHeartbeats 8000000
namespace Go.Proofs.YtbbjbgbpjhhcoaaDoor.memoryWidths
open Go.ChangeShapes Go.WideShapes Go.ChangeAt Go.RowKit Go.BY
theorem wi_y (a : Nat) (x : Int) (h : -9223372036854775808 ≤ x ∧ x ≤ 9223372036854775807) : lv (ldAt 1).1 (ldAt 1).2.1 (ldAt 1).2.2 (wd (put (fun _ => 0) a (stAt 1) (ux x)) a (ldAt 1).1) = x := by
  show lv 8 false true (wd (put (fun _ => 0) a 8 (ux x)) a 8) = x
  rw [wd_put _ _ _ _ _ (by omega)]
  simp only [lv, ux, wrap64, Bool.false_eq_true, if_false, if_true]
  omega
theorem wi_n (a : Nat) (x : Int) (k : Nat) (h4 : (ldAt k).1 ≤ 8) : wd (put (fun _ => 0) (a + 0) (stAt 1) (ux x)) (a + 0) (ldAt k).1 = ux x % 256 ^ (ldAt k).1 := wd_put _ _ _ _ _ h4
theorem wu (a : Nat) (x : Int) (k n : Nat) (s wi : Bool) (hk : ldAt k = (n, s, wi)) (h4 : n ≤ 8) (R : Int) (hR : lv n s wi (ux x % 256 ^ n) = R) : lv (ldAt k).1 (ldAt k).2.1 (ldAt k).2.2 (wd (put (fun _ => 0) (a + 0) (stAt 1) (ux x)) (a + 0) (ldAt k).1) = R := by
  rw [wi_n a x k (by rw [hk]; exact h4), hk]; exact hR
theorem u8w (x : Int) (wi : Bool) : lv 1 false wi (ux x % 256 ^ 1) = x % 256 := by cases wi <;> simp only [lv, ux, wrap64, Bool.false_eq_true, if_false, if_true] <;> omega
theorem u16w (x : Int) (wi : Bool) : lv 2 false wi (ux x % 256 ^ 2) = x % 65536 := by cases wi <;> simp only [lv, ux, wrap64, Bool.false_eq_true, if_false, if_true] <;> omega
theorem u32w (x : Int) (wi : Bool) : lv 4 false wi (ux x % 256 ^ 4) = x % 4294967296 := by cases wi <;> simp only [lv, ux, wrap64, Bool.false_eq_true, if_false, if_true] <;> omega
theorem uxi (x : Int) : ((ux x : Nat) : Int) = x % 18446744073709551616 := by unfold ux; omega
theorem s8a (x : Int) (h : x % 256 / 128 % 2 = 1) : lv 1 true true (ux x % 256 ^ 1) = x % 256 - 256 := by
  have hu := uxi x
  generalize ux x = u at *
  simp only [lv, sx, if_true]; split <;> omega
theorem s8b (x : Int) (h : ¬ x % 256 / 128 % 2 = 1) : lv 1 true true (ux x % 256 ^ 1) = x % 256 := by
  have hu := uxi x
  generalize ux x = u at *
  simp only [lv, sx, if_true]; split <;> omega
theorem s16a (x : Int) (h : x % 65536 / 32768 % 2 = 1) : lv 2 true true (ux x % 256 ^ 2) = x % 65536 - 65536 := by
  have hu := uxi x
  generalize ux x = u at *
  simp only [lv, sx, if_true]; split <;> omega
theorem s16b (x : Int) (h : ¬ x % 65536 / 32768 % 2 = 1) : lv 2 true true (ux x % 256 ^ 2) = x % 65536 := by
  have hu := uxi x
  generalize ux x = u at *
  simp only [lv, sx, if_true]; split <;> omega
theorem s32a (x : Int) (h : x % 4294967296 / 2147483648 % 2 = 1) : lv 4 true true (ux x % 256 ^ 4) = x % 4294967296 - 4294967296 := by
  have hu := uxi x
  generalize ux x = u at *
  simp only [lv, sx, if_true]; split <;> omega
theorem s32b (x : Int) (h : ¬ x % 4294967296 / 2147483648 % 2 = 1) : lv 4 true true (ux x % 256 ^ 4) = x % 4294967296 := by
  have hu := uxi x
  generalize ux x = u at *
  simp only [lv, sx, if_true]; split <;> omega
theorem n8 (x : Int) : ∃ R : Int, lv 1 true false (ux x % 256 ^ 1) = R ∧ 0 ≤ R ∧ bits .and .i64 R 255 = x % 256 := by
  refine ⟨_, rfl, ?_, ?_⟩
  · simp only [lv, Bool.false_eq_true, if_false]; omega
  · rw [show (255 : Int) = ((2 ^ 8 : Nat) - 1 : Int) by decide, BM.and_mask _ 8 (by decide)]
    have hu := uxi x
    generalize ux x = u at *
    simp only [lv, sx, if_true, Bool.false_eq_true, if_false]
    split <;> omega
theorem n16 (x : Int) : ∃ R : Int, lv 2 true false (ux x % 256 ^ 2) = R ∧ 0 ≤ R ∧ bits .and .i64 R 65535 = x % 65536 := by
  refine ⟨_, rfl, ?_, ?_⟩
  · simp only [lv, Bool.false_eq_true, if_false]; omega
  · rw [show (65535 : Int) = ((2 ^ 16 : Nat) - 1 : Int) by decide, BM.and_mask _ 16 (by decide)]
    have hu := uxi x
    generalize ux x = u at *
    simp only [lv, sx, if_true, Bool.false_eq_true, if_false]
    split <;> omega
theorem d64 (x : Int) (h : -9223372036854775808 ≤ x ∧ x ≤ 9223372036854775807) : lv 8 false true (ux x % 256 ^ 8) = x := by
  simp only [lv, ux, wrap64, Bool.false_eq_true, if_false, if_true]; omega
theorem and8 (y : Int) : bits .and .i64 y 255 = y % 256 := by
  rw [show (255 : Int) = ((2 ^ 8 : Nat) - 1 : Int) by decide, BM.and_mask y 8 (by decide)]; rfl
theorem and16 (y : Int) : bits .and .i64 y 65535 = y % 65536 := by
  rw [show (65535 : Int) = ((2 ^ 16 : Nat) - 1 : Int) by decide, BM.and_mask y 16 (by decide)]; rfl
theorem core (at_ x : Int) (hx : Hid (-9223372036854775808 ≤ x ∧ x ≤ 9223372036854775807)) (w : World) (hT : Hid (Tabs w)) :
    Calls Tryd.prog 7 #[.int .i64 at_, .int .i64 x] w fun e w' => e = .returned (.bool true) ∧ Later w w' := by
  obtain ⟨a, ha, hal⟩ : ∃ a : Nat, bits .and .i64 at_ 32767 = (a : Int) ∧ a < 32768 := ⟨(at_ % 32768).toNat, by rw [show (32767 : Int) = ((2 ^ 15 : Nat) - 1 : Int) by decide, BM.and_mask at_ 15 (by decide)]; omega, by omega⟩
  go_enter Tryd.func7, Tryd.ntmps7
  go_wp2_with fail
  refine (awake_any w _ hT (Lz _)).mono ?_
  rintro e w1 ⟨rfl, h1⟩
  replace h1 : Hid (Later w w1) := h1
  go_wp2_with fail
  refine (st_new w _ hT.out (h1.out.trans (by repeat first | exact Lz _ | apply La | apply Ld)) 1 (-1) 1 1 (by decide) (Or.inl ⟨by decide, by decide⟩)).mono ?_
  rintro e w2 ⟨p, rfl, S2⟩
  go_wp2_with fail
  refine (st_store_in S2 1 a 0 x (by decide) (by omega) (by omega) (show a + 0 + 8 ≤ 1 * 65536 by omega)).mono ?_
  rintro e w3 ⟨rfl, S3⟩
  clear S2
  go_wp2_with fail
  refine (st_load_v S3 1 a 0 _ _ _ x rfl rfl rfl (by decide) (by omega) (by omega) (show a + 0 + 8 ≤ 1 * 65536 by omega) (wi_y _ _ hx.out)).mono ?_
  rintro e w4 ⟨rfl, S4⟩
  clear S3
  go_wp2
  generalize hF : put (fun _ => 0) (a + 0) (stAt 1) (ux x) = F at S4
  replace hF : Hid (put (fun _ => 0) (a + 0) (stAt 1) (ux x) = F) := hF
  go_loopw [11] (fun i wr => ∃ j : Nat, j ≤ 6 ∧ i = .int .i64 (j : Nat) ∧ St w wr p 1 1 F ∧ Later (w4.alloc (.cells #[.int .i64 48, .int .i64 49, .int .i64 50, .int .i64 51, .int .i64 52, .int .i64 53] 3)) wr) (fun i _ => 6 - (intOf i).toNat)
  case atStart => exact ⟨0, Nat.zero_le _, rfl, S4.later (La (Lz _)), Lz _⟩
  case round =>
    obtain ⟨j, hj, rfl, SR, LR⟩ := hrel
    replace LR : Hid (Later (w4.alloc (.cells #[.int .i64 48, .int .i64 49, .int .i64 50, .int .i64 51, .int .i64 52, .int .i64 53] 3)) wr) := LR
    clear S4 h1
    rcases (by omega : j = 0 ∨ j = 1 ∨ j = 2 ∨ j = 3 ∨ j = 4 ∨ j = 5 ∨ j = 6) with rfl | rfl | rfl | rfl | rfl | rfl | rfl
    · have hm := and8 x
      have hb1 := BM.and1 (x % 256 / 128)
      by_cases hb : x % 256 / 128 % 2 = 1
      · have t0 := (later_of LR).cell_of (show (w4.alloc (.cells #[.int .i64 48, .int .i64 49, .int .i64 50, .int .i64 51, .int .i64 52, .int .i64 53] 3)).cell? ⟨w4.heap.size, 0, none⟩ = some (.int .i64 48) by simp [go_sem])
        go_wp2_with fail
        refine (st_load_l SR 8 a 0 _ _ _ (x % 256 - 256) rfl rfl rfl (by decide) (by omega) (by omega) (by have h8 : (ldAt 8).1 ≤ 8 := (by decide); omega) (by rw [← hF.out]; exact wu a x 8 _ _ _ rfl (by decide) _ (s8a x hb))).mono ?_
        rintro e w7 ⟨rfl, S7, L7⟩
        go_wp2_with (go_at_call 11; refine (num_any _ _).mono ?_; rintro e w' ⟨rfl, rfl⟩)
        go_roundw
        case rel => exact ⟨1, by omega, rfl, S7, (later_of LR).trans (L7.out)⟩
        case measure => decide
      · have t0 := (later_of LR).cell_of (show (w4.alloc (.cells #[.int .i64 48, .int .i64 49, .int .i64 50, .int .i64 51, .int .i64 52, .int .i64 53] 3)).cell? ⟨w4.heap.size, 0, none⟩ = some (.int .i64 48) by simp [go_sem])
        have hb2 : x % 256 / 128 % 2 = 0 := by omega
        go_wp2_with fail
        refine (st_load_l SR 8 a 0 _ _ _ (x % 256) rfl rfl rfl (by decide) (by omega) (by omega) (by have h8 : (ldAt 8).1 ≤ 8 := (by decide); omega) (by rw [← hF.out]; exact wu a x 8 _ _ _ rfl (by decide) _ (s8b x hb))).mono ?_
        rintro e w7 ⟨rfl, S7, L7⟩
        go_wp2_with (go_at_call 11; refine (num_any _ _).mono ?_; rintro e w' ⟨rfl, rfl⟩)
        go_roundw
        case rel => exact ⟨1, by omega, rfl, S7, (later_of LR).trans (L7.out)⟩
        case measure => decide
    · have t0 := (later_of LR).cell_of (show (w4.alloc (.cells #[.int .i64 48, .int .i64 49, .int .i64 50, .int .i64 51, .int .i64 52, .int .i64 53] 3)).cell? ⟨w4.heap.size, 1, none⟩ = some (.int .i64 49) by simp [go_sem])
      have hm := and8 x
      go_wp2_with fail
      refine (st_load_l SR 9 a 0 _ _ _ (x % 256) rfl rfl rfl (by decide) (by omega) (by omega) (by have h8 : (ldAt 9).1 ≤ 8 := (by decide); omega) (by rw [← hF.out]; exact wu a x 9 _ _ _ rfl (by decide) _ (u8w x _))).mono ?_
      rintro e w7 ⟨rfl, S7, L7⟩
      go_wp2_with (go_at_call 11; refine (num_any _ _).mono ?_; rintro e w' ⟨rfl, rfl⟩)
      go_roundw
      case rel => exact ⟨2, by omega, rfl, S7, (later_of LR).trans (L7.out)⟩
      case measure => decide
    · have hm := and16 x
      have hb1 := BM.and1 (x % 65536 / 32768)
      by_cases hb : x % 65536 / 32768 % 2 = 1
      · have t0 := (later_of LR).cell_of (show (w4.alloc (.cells #[.int .i64 48, .int .i64 49, .int .i64 50, .int .i64 51, .int .i64 52, .int .i64 53] 3)).cell? ⟨w4.heap.size, 2, none⟩ = some (.int .i64 50) by simp [go_sem])
        go_wp2_with fail
        refine (st_load_l SR 10 a 0 _ _ _ (x % 65536 - 65536) rfl rfl rfl (by decide) (by omega) (by omega) (by have h8 : (ldAt 10).1 ≤ 8 := (by decide); omega) (by rw [← hF.out]; exact wu a x 10 _ _ _ rfl (by decide) _ (s16a x hb))).mono ?_
        rintro e w7 ⟨rfl, S7, L7⟩
        go_wp2_with (go_at_call 11; refine (num_any _ _).mono ?_; rintro e w' ⟨rfl, rfl⟩)
        go_roundw
        case rel => exact ⟨3, by omega, rfl, S7, (later_of LR).trans (L7.out)⟩
        case measure => decide
      · have t0 := (later_of LR).cell_of (show (w4.alloc (.cells #[.int .i64 48, .int .i64 49, .int .i64 50, .int .i64 51, .int .i64 52, .int .i64 53] 3)).cell? ⟨w4.heap.size, 2, none⟩ = some (.int .i64 50) by simp [go_sem])
        have hb2 : x % 65536 / 32768 % 2 = 0 := by omega
        go_wp2_with fail
        refine (st_load_l SR 10 a 0 _ _ _ (x % 65536) rfl rfl rfl (by decide) (by omega) (by omega) (by have h8 : (ldAt 10).1 ≤ 8 := (by decide); omega) (by rw [← hF.out]; exact wu a x 10 _ _ _ rfl (by decide) _ (s16b x hb))).mono ?_
        rintro e w7 ⟨rfl, S7, L7⟩
        go_wp2_with (go_at_call 11; refine (num_any _ _).mono ?_; rintro e w' ⟨rfl, rfl⟩)
        go_roundw
        case rel => exact ⟨3, by omega, rfl, S7, (later_of LR).trans (L7.out)⟩
        case measure => decide
    · have t0 := (later_of LR).cell_of (show (w4.alloc (.cells #[.int .i64 48, .int .i64 49, .int .i64 50, .int .i64 51, .int .i64 52, .int .i64 53] 3)).cell? ⟨w4.heap.size, 3, none⟩ = some (.int .i64 51) by simp [go_sem])
      have hm := and16 x
      go_wp2_with fail
      refine (st_load_l SR 11 a 0 _ _ _ (x % 65536) rfl rfl rfl (by decide) (by omega) (by omega) (by have h8 : (ldAt 11).1 ≤ 8 := (by decide); omega) (by rw [← hF.out]; exact wu a x 11 _ _ _ rfl (by decide) _ (u16w x _))).mono ?_
      rintro e w7 ⟨rfl, S7, L7⟩
      go_wp2_with (go_at_call 11; refine (num_any _ _).mono ?_; rintro e w' ⟨rfl, rfl⟩)
      go_roundw
      case rel => exact ⟨4, by omega, rfl, S7, (later_of LR).trans (L7.out)⟩
      case measure => decide
    · have hm := BM.and32 x
      have hb1 := BM.and1 (x % 4294967296 / 2147483648)
      by_cases hb : x % 4294967296 / 2147483648 % 2 = 1
      · have t0 := (later_of LR).cell_of (show (w4.alloc (.cells #[.int .i64 48, .int .i64 49, .int .i64 50, .int .i64 51, .int .i64 52, .int .i64 53] 3)).cell? ⟨w4.heap.size, 4, none⟩ = some (.int .i64 52) by simp [go_sem])
        go_wp2_with fail
        refine (st_load_l SR 12 a 0 _ _ _ (x % 4294967296 - 4294967296) rfl rfl rfl (by decide) (by omega) (by omega) (by have h8 : (ldAt 12).1 ≤ 8 := (by decide); omega) (by rw [← hF.out]; exact wu a x 12 _ _ _ rfl (by decide) _ (s32a x hb))).mono ?_
        rintro e w7 ⟨rfl, S7, L7⟩
        go_wp2_with (go_at_call 11; refine (num_any _ _).mono ?_; rintro e w' ⟨rfl, rfl⟩)
        go_roundw
        case rel => exact ⟨5, by omega, rfl, S7, (later_of LR).trans (L7.out)⟩
        case measure => decide
      · have t0 := (later_of LR).cell_of (show (w4.alloc (.cells #[.int .i64 48, .int .i64 49, .int .i64 50, .int .i64 51, .int .i64 52, .int .i64 53] 3)).cell? ⟨w4.heap.size, 4, none⟩ = some (.int .i64 52) by simp [go_sem])
        have hb2 : x % 4294967296 / 2147483648 % 2 = 0 := by omega
        go_wp2_with fail
        refine (st_load_l SR 12 a 0 _ _ _ (x % 4294967296) rfl rfl rfl (by decide) (by omega) (by omega) (by have h8 : (ldAt 12).1 ≤ 8 := (by decide); omega) (by rw [← hF.out]; exact wu a x 12 _ _ _ rfl (by decide) _ (s32b x hb))).mono ?_
        rintro e w7 ⟨rfl, S7, L7⟩
        go_wp2_with (go_at_call 11; refine (num_any _ _).mono ?_; rintro e w' ⟨rfl, rfl⟩)
        go_roundw
        case rel => exact ⟨5, by omega, rfl, S7, (later_of LR).trans (L7.out)⟩
        case measure => decide
    · have t0 := (later_of LR).cell_of (show (w4.alloc (.cells #[.int .i64 48, .int .i64 49, .int .i64 50, .int .i64 51, .int .i64 52, .int .i64 53] 3)).cell? ⟨w4.heap.size, 5, none⟩ = some (.int .i64 53) by simp [go_sem])
      have hm := BM.and32 x
      go_wp2_with fail
      refine (st_load_l SR 13 a 0 _ _ _ (x % 4294967296) rfl rfl rfl (by decide) (by omega) (by omega) (by have h8 : (ldAt 13).1 ≤ 8 := (by decide); omega) (by rw [← hF.out]; exact wu a x 13 _ _ _ rfl (by decide) _ (u32w x _))).mono ?_
      rintro e w7 ⟨rfl, S7, L7⟩
      go_wp2_with (go_at_call 11; refine (num_any _ _).mono ?_; rintro e w' ⟨rfl, rfl⟩)
      go_roundw
      case rel => exact ⟨6, by omega, rfl, S7, (later_of LR).trans (L7.out)⟩
      case measure => decide
    · obtain ⟨R8, hR8, p8, q8⟩ := n8 x
      obtain ⟨R16, hR16, p16, q16⟩ := n16 x
      have hm8 := and8 x
      have hm16 := and16 x
      have hm32 := BM.and32 x
      replace hR8 : Hid _ := hR8
      replace hR16 : Hid _ := hR16
      go_wp2_with fail
      refine (st_load_v SR 4 a 0 _ _ _ (R8) rfl rfl rfl (by decide) (by omega) (by omega) (by have h8 : (ldAt 4).1 ≤ 8 := (by decide); omega) (by rw [← hF.out]; exact wu a x 4 _ _ _ rfl (by decide) _ (hR8.out))).mono ?_
      rintro e z0 ⟨rfl, Z0⟩
      go_wp2_with fail
      refine (st_load_v Z0 5 a 0 _ _ _ (x % 256) rfl rfl rfl (by decide) (by omega) (by omega) (by have h8 : (ldAt 5).1 ≤ 8 := (by decide); omega) (by rw [← hF.out]; exact wu a x 5 _ _ _ rfl (by decide) _ (u8w x _))).mono ?_
      rintro e z1 ⟨rfl, Z1⟩
      go_wp2_with fail
      refine (st_load_v Z1 6 a 0 _ _ _ (R16) rfl rfl rfl (by decide) (by omega) (by omega) (by have h8 : (ldAt 6).1 ≤ 8 := (by decide); omega) (by rw [← hF.out]; exact wu a x 6 _ _ _ rfl (by decide) _ (hR16.out))).mono ?_
      rintro e z2 ⟨rfl, Z2⟩
      go_wp2_with fail
      refine (st_load_v Z2 7 a 0 _ _ _ (x % 65536) rfl rfl rfl (by decide) (by omega) (by omega) (by have h8 : (ldAt 7).1 ≤ 8 := (by decide); omega) (by rw [← hF.out]; exact wu a x 7 _ _ _ rfl (by decide) _ (u16w x _))).mono ?_
      rintro e z3 ⟨rfl, Z3⟩
      go_wp2_with fail
      refine (st_load_v Z3 2 a 0 _ _ _ (x % 4294967296) rfl rfl rfl (by decide) (by omega) (by omega) (by have h8 : (ldAt 2).1 ≤ 8 := (by decide); omega) (by rw [← hF.out]; exact wu a x 2 _ _ _ rfl (by decide) _ (u32w x _))).mono ?_
      rintro e z4 ⟨rfl, Z4⟩
      go_wp2_with fail
      refine (st_load_v Z4 3 a 0 _ _ _ (x) rfl rfl rfl (by decide) (by omega) (by omega) (by have h8 : (ldAt 3).1 ≤ 8 := (by decide); omega) (by rw [← hF.out]; exact wu a x 3 _ _ _ rfl (by decide) _ (d64 x hx.out))).mono ?_
      rintro e z5 ⟨rfl, Z5⟩
      go_wp2_with (go_at_call 11; refine (num_any _ _).mono ?_; rintro e w' ⟨rfl, rfl⟩)
      go_ret
      exact ⟨rfl, Z5.ltr⟩
theorem walk (a0 : Int) (a1 : Int) (w0 : (Lit.int .i64 a0).wf = true) (w1 : (Lit.int .i64 a1).wf = true) (w : World) (hT : Tabs w) :
    Calls Tryd.prog 7 #[.int .i64 a0, .int .i64 a1] w fun e w' => e = .returned (.bool true) ∧ Grown w w' :=
  (core a0 a1 (bounds_i64 w1) w hT).mono (fun e w' h => ⟨h.1, h.2.grown⟩)

set_option maxRecDepth 100000 in
theorem lifted (os : Os) (started : os.Started) (H : Type) (enc : TypeId × Value → H) :
    ReturnsInHanded {} Tryd.checked os 7 .any (fun w args => (Rows.memoryWidthsSpec.pre enc Tryd.prog Tryd.f7 [] false w args ∧ laidMetH Tryd.prog tabs w) ∧ sizedMet enc Tryd.prog Tryd.f7 (OpenSpec.ofChange Rows.memoryWidthsSpec) false w args)
      (Rows.memoryWidthsSpec.post enc Tryd.prog Tryd.f7 false true false false) := by
  refine returnsInHanded_of_change_and (C := Tryd.checked) (X := fun w _ => laidMetH Tryd.prog tabs w) (fun _ _ _ hh h => h.of_heap hh) own started (by kernel_rfl) Tryd.func7
    (ChangeSpec.witness_shaped (enc := enc) (C := Tryd.checked) (os := os) (X := fun w _ => laidMetH Tryd.prog tabs w) false (World.doorLaid Tryd.prog 400 os) #[.int .i64 0, .int .i64 0] 8 rfl (World.shaped_of_RefB (by kernel_rfl) (by kernel_rfl)) (by kernel_rfl) (by kernel_rfl) (by kernel_rfl) (door_met os _)) ?_
  intro W base args ds gs before hval0 hW _ _ hL _
  have hval : ∀ (j : Nat) t v, Tryd.f7.params[j]? = some t → args[j]? = some v → Value.okWide Tryd.prog W .any base t v := hval0
  have hW' := hW
  obtain ⟨p, q, hA0, hV, rfl, hfz, hnd⟩ := hW
  have hA : DataW.TrodAll enc Tryd.prog W 0 (fun _ => true) true Tryd.f7.params.toList args.toList ds p := hA0
  rw [Tryd.params7] at hA hval
  obtain ⟨v0, vs0, d0, ds0, p0, q0, hargs, rfl, rfl, h0, r0⟩ := trodAll_cons hA
  obtain ⟨v1, vs1, d1, ds1, p1, q1, rfl, rfl, rfl, h1, r1⟩ := trodAll_cons r0
  obtain ⟨rfl, rfl, rfl⟩ := trodAll_nil r1
  obtain rfl : args = #[v0, v1] := by cases args; simp_all
  obtain ⟨rfl, rfl⟩ := trodVars_none hV
  obtain ⟨a0, rfl, rfl, rfl, w0⟩ := open_int Tryd.underlying3 (hval 0 3 v0 rfl rfl) h0
  obtain ⟨a1, rfl, rfl, rfl, w1⟩ := open_int Tryd.underlying3 (hval 1 3 v1 rfl rfl) h1
  clear hA0 hval0
  simp only [List.append_nil] at hW'
  refine (walk a0 a1 w0 w1 W (of_laid hL)).mono fun e W' ⟨he, hg⟩ => ?_
  subst he
  exact ⟨_, rfl, post_of_same (pa := []) (pv := []) hW' (fun _ _ _ => (trodAll_cons_mk (shut_bool Tryd.underlying4 _) trodAll_mk0)) (fun sp _ => (trodAll_cons_mk (shut_int Tryd.underlying3 w0) (trodAll_cons_mk (shut_int Tryd.underlying3 w1) trodAll_mk0))) (fun _ _ => rfl) rfl
    (hg.frame _) hg.2.1 (ok_one (by kernel_rfl) rfl (okWide_bool_mk Tryd.underlying4 _))⟩

theorem over : Rows.memoryWidthsRow.holds Tryd.pinned (OpenSpec.ofChange Rows.memoryWidthsSpec) :=
  OpenClaim.holds_of_wide 7 Tryd.f7 rfl rfl rfl rfl rfl rfl rfl ⟨rfl, rfl, rfl, rfl, rfl⟩ rfl rfl rfl rfl rfl (by kernel_rfl) Tryd.func7 (by kernel_rfl)
    (of_decide_eq_true (by kernel_rfl)) (by unfold Func.isWrapper; first | (rw [if_pos (by decide +kernel)]; kernel_rfl) | (rw [if_neg (by decide +kernel)]; exact ⟨rfl, rfl⟩))
    (fun os started H enc _ => lifted os started H enc)

theorem row_holds : Rows.MemoryWidthsSaid := over

theorem card_holds : Rows.MemoryWidthsCardSaid :=
  Claim7.holds_tied_plain_at .later [] [.data] true (true, "18417c4c36e59d634bb1d7bc2a46973f3e80d886067ccc57eeafcee2dfb5387b") false
    row_holds (fun _ h => by cases h) (by kernel_rfl) (fun _ h => by cases h) memoryWidths_row_tie rfl ⟨rfl, rfl⟩ (by kernel_rfl) rfl
    (fun f fn hf hfn => by
      obtain rfl : f = 7 := Option.some.inj ((show Tryd.prog.funcNamed Rows.memoryWidthsRow.func = some 7 by kernel_rfl).symm.trans hf) |>.symm
      obtain rfl : fn = Tryd.f7 := (Option.some.inj (Tryd.func7.symm.trans hfn)).symm
      exact ⟨by kernel_rfl, fun j t ht => by
        rw [Tryd.params7] at ht
        have hm : t ∈ [3, 3] := by simpa using Array.mem_of_getElem? ht
        have hall : ([3, 3].all fun u => !Tryd.prog.wantsStandIn u) = true := by kernel_rfl
        exact (show Tryd.prog.wantsStandIn t = false by simpa using List.all_eq_true.1 hall t hm)⟩)
    (by kernel_rfl)
end Go.Proofs.YtbbjbgbpjhhcoaaDoor.memoryWidths
namespace Go.Proofs.YtbbjbgbpjhhcoaaDoor
theorem memoryWidths_holds : Rows.MemoryWidthsCardSaid := memoryWidths.card_holds
#print axioms memoryWidths_holds
end Go.Proofs.YtbbjbgbpjhhcoaaDoor

