/- 'MemoryGrows' of package peloruslaw8 returns true at every three ints and every list of ints: pages grow up to the lesser of both bounds, what was there stays, what is new is 0. No condition. -/
import Derived.Test.YtbbjbgbpjhhcoaaDoorML
import Derived.Test.YtbbjbgbpjhhcoaaDoorCards
import Derived.Test.YtbbjbgbpjhhcoaaDoorTie
import Derived.LoopTactic
import Derived.OpenShut
import Derived.Carry
set_option linter.unusedVariables false
set_option linter.unusedSimpArgs false
set_option maxRecDepth 100000
set_option maxHeartbeats 8000000
namespace Go.Proofs.YtbbjbgbpjhhcoaaDoor.memoryGrows
open Go.ChangeShapes Go.WideShapes Go.ChangeAt Go.RowKit Go.BY
/-- the bytes: one 7 at the end of the first pages -/
def G (a : Nat) : Nat → Nat := fun i => if i + 1 = 65536 * a then 7 else 0
theorem G_put (a : Nat) (ha : 0 < a) : put (fun _ => 0) (65536 * a - 1 + 0) (stAt 4) (ux 7) = G a := by
  funext i
  show (if 65536 * a - 1 + 0 ≤ i ∧ i < 65536 * a - 1 + 0 + 1 then byt (ux 7) (i - (65536 * a - 1 + 0)) else 0) = _
  unfold G
  by_cases h : i + 1 = 65536 * a
  · rw [if_pos h, if_pos (by omega)]
    have : i - (65536 * a - 1 + 0) = 0 := by omega
    rw [this]; decide
  · rw [if_neg h, if_neg (by omega)]
theorem G_zero : (fun _ => 0) = G 0 := by
  funext i; unfold G; rw [if_neg (by omega)]
theorem G_gr (a n : Nat) (h : 65536 * a ≤ n) : gr (G a) n = G a := by
  funext i; unfold gr G
  by_cases hi : i < n
  · rw [if_pos hi]
  · rw [if_neg hi, if_neg (by omega)]
theorem st_store_g {w0 w : World} {p q : Nat} {top : Int} {f : Nat → Nat} (h : St w0 w p q top f) (k a o : Nat) (op ai oi x : Int) (hop : op = ((54 + k : Nat) : Int)) (ha : ai = (a : Int)) (ho : oi = (o : Int)) (hk : k < 9) (h1 : a < 4294967296) (h2 : o < 4294967296) (hfit : a + o + stAt k ≤ q * 65536) (g : Nat → Nat) (hg : put f (a + o) (stAt k) (ux x) = g) :
    Calls Tryd.prog 13 #[.pointer (some ⟨p, 0, none⟩), .int .i64 op, .int .i64 ai, .int .i64 oi, .int .i64 x] w fun e w' => e = .returned (.int .i64 0) ∧ St w0 w' p q top g := by
  subst hop ha ho hg
  exact st_store_in h k a o x hk h1 h2 hfit
theorem grow_yes {w0 w : World} {p q a : Nat} {top : Int} (h : St w0 w p q top (G a)) (m : Nat) (hm : m ≤ 7) (ha : a ≤ q) (hq : (q + m : Int) ≤ top) :
    Calls Tryd.prog 17 #[.pointer (some ⟨p, 0, none⟩), .int .i64 (m : Int)] w fun e w' => e = .returned (.int .i64 q) ∧ St w0 w' p (q + m) top (G a) := by
  have := st_grow_yes h m (m : Int) (by omega) hq
  rw [G_gr a (q * 65536) (by omega)] at this
  exact this
theorem grow_nop {w0 w : World} {p q : Nat} {top : Int} {f : Nat → Nat} (h : St w0 w p q top f) (m : Nat) (hm : m ≤ 7) (hq : top - q < (m : Int)) :
    Calls Tryd.prog 17 #[.pointer (some ⟨p, 0, none⟩), .int .i64 (m : Int)] w fun e w' => e = .returned (.int .i64 4294967295) ∧ w' = w := st_grow_no h m (by omega)
theorem G_at (u : ByteArray) (a n : Nat) (h : u = strOf (G a) n) (j : Nat) (hj : j < u.size) : u[j] = if j + 1 = 65536 * a then 7 else 0 := by
  subst h
  simp [strOf, ByteArray.getElem_eq_getElem_data, G]
  split <;> rfl
theorem and7 (y : Int) : ∃ k : Nat, bits .and .i64 y 7 = (k : Int) ∧ k ≤ 7 := ⟨(y % 8).toNat, by rw [show (7 : Int) = ((2 ^ 3 : Nat) - 1 : Int) by decide, BM.and_mask y 3 (by decide)]; omega, by omega⟩
theorem core_some (least most top : Int) (w : World) (bb oo n cap : Nat) (Z : Nat → Int) (hZ : ∀ i, i < n → w.cell? ⟨bb, oo + i, none⟩ = some (.int .i64 (Z i))) (hT : Hid (Tabs w)) (c a : Nat) (m1 : Int) (bound : Nat) (hc : bits .and .i64 top 15 = (c : Int)) (hcl : c ≤ 15) (ha : (IntKind.u64.wrap least).tmod ((c : Int) + 1) = (a : Int)) (hal : a ≤ c) (hm : bits .and .i64 most 1 = m1)
    (hbc : a ≤ bound ∧ bound ≤ 15) (hmo : (m1 = 0 ∧ bound = c) ∨ (m1 = 1 ∧ ∃ t : Nat, t ≤ 7 ∧ bits .and .i64 (most / 2) 7 = (t : Int) ∧ bound = min c (a + t))) :
    Calls Tryd.prog 6 #[.int .i64 least, .int .i64 most, .int .i64 top, .slice (some ⟨bb, oo, none⟩) n cap] w fun e w' => e = .returned (.bool true) ∧ Later w w' := by

  go_enter Tryd.func6, Tryd.ntmps6
  go_wp2_with fail
  refine (awake_any w _ hT (Lz _)).mono ?_
  rintro e w1 ⟨rfl, h1⟩
  replace h1 : Hid (Later w w1) := h1
  rcases hmo with ⟨rfl, hb⟩ | ⟨rfl, t, ht7, ht, hb⟩
  · subst hb
    go_wp2_with fail
    refine (st_new w _ hT.out (h1.out.trans (by repeat first | exact Lz _ | apply La | apply Ld)) a (-1) _ (bound : Int) (by omega) (Or.inl ⟨rfl, rfl⟩)).mono ?_
    rintro e w2 ⟨p, rfl, S2⟩
    by_cases hz0 : a = 0
    · subst hz0
      have S3 : St w _ p 0 bound (G 0) := G_zero ▸ S2
      clear S2
      go_wp2_with (go_at_call 11; refine (num_any _ _).mono ?_; rintro e w' ⟨rfl, rfl⟩)
      go_loopw [15, 16] (fun nw i wr => ∃ j q : Nat, j ≤ 12 ∧ i = .int .i64 (j : Nat) ∧ nw = .int .i64 (q : Nat) ∧ 0 ≤ q ∧ q ≤ bound ∧ St w wr p q bound (G 0)) (fun _ i _ => 12 - (intOf i).toNat)
      case atStart => exact ⟨0, 0, Nat.zero_le _, rfl, rfl, Nat.le_refl _, by omega, S3⟩
      case round =>
        obtain ⟨j, q, hj, rfl, rfl, hqa, hqb, SR⟩ := hrel
        clear S3
        by_cases hlt : j < n ∧ j < 12
        · obtain ⟨kk, hkk, hk7⟩ := and7 (Z j)
          have hcell := (SR.ltr).cell_of (hZ j hlt.1)
          have hl1 : (j : Int) < (n : Int) := by omega
          have hl2 : (j : Int) < 12 := by omega
          by_cases hg : (bound : Int) - q < kk
          · have hq9 : ((4294967295 : Int) == (q : Int)) = false := by simp; omega
            have hq8 : ¬ (4294967295 : Int) = (q : Int) := by omega
            go_wp2_with fail
            refine (grow_nop SR kk hk7 hg).mono ?_
            rintro e w7 ⟨rfl, rfl⟩
            go_wp2_with (go_at_call 21; refine (st_pages SR).mono ?_; rintro e w8 ⟨rfl, rfl⟩)
            go_roundw
            case rel => exact ⟨j + 1, q, by omega, by go_num, rfl, hqa, hqb, SR⟩
            case measure => simp [intOf]; omega
          · go_wp2_with fail
            refine (grow_yes SR kk hk7 hqa (by omega)).mono ?_
            rintro e w7 ⟨rfl, S7⟩
            go_wp2_with (go_at_call 21; refine (st_pages S7).mono ?_; rintro e w8 ⟨rfl, rfl⟩)
            go_roundw
            case rel => exact ⟨j + 1, q + kk, by omega, by go_num, by go_num, by omega, by omega, S7⟩
            case measure => simp [intOf]; omega
        · rcases (by omega : ¬ (j : Int) < (n : Int) ∨ ((j : Int) < (n : Int) ∧ ¬ (j : Int) < 12)) with hl1 | ⟨hl1, hl2⟩
          · go_wp2_with fail
            refine (st_all SR).mono ?_
            rintro e w7 ⟨u, rfl, rfl, hu, hU⟩
            have hu7 := G_at u 0 _ hU.out
            obtain ⟨B, hB, hB2⟩ : ∃ B, u.size = B ∧ B = q * 65536 := ⟨_, rfl, hu⟩
            replace hB2 : Hid (B = q * 65536) := hB2
            clear hu hU
            have hB3 : B ≤ 1048576 := by have := hB2.out; omega
            go_wp2
            go_loopw [20] (fun i wr => ∃ j : Nat, j ≤ B + 4095 ∧ i = .int .i64 (j : Nat) ∧ wr = w7) (fun i _ => B + 4095 - (intOf i).toNat)
            case atStart => exact ⟨0, Nat.zero_le _, rfl, rfl⟩
            case round =>
              obtain ⟨k, hk, rfl, rfl⟩ := hrel
              by_cases hkl : k < B
              · have hz := hu7 k (by omega)
                rw [if_neg (by omega)] at hz
                clear hu7
                go_wp2
                go_roundw
                case rel => exact ⟨k + 4095, by omega, by go_num, trivial⟩
                case measure => simp [intOf]; omega
              · have hB4 : ((B : Int) == 65536 * (q : Int)) = true := by have := hB2.out; simp; omega
                have hB5 : (B : Int) = 65536 * (q : Int) := by have := hB2.out; omega
                clear hu7
                go_wp2_with (go_at_call 17; refine (st_grow_no SR (-1) (by omega)).mono ?_; rintro e w9 ⟨rfl, rfl⟩)
                go_ret
                exact ⟨rfl, SR.ltr⟩
          · go_wp2_with fail
            refine (st_all SR).mono ?_
            rintro e w7 ⟨u, rfl, rfl, hu, hU⟩
            have hu7 := G_at u 0 _ hU.out
            obtain ⟨B, hB, hB2⟩ : ∃ B, u.size = B ∧ B = q * 65536 := ⟨_, rfl, hu⟩
            replace hB2 : Hid (B = q * 65536) := hB2
            clear hu hU
            have hB3 : B ≤ 1048576 := by have := hB2.out; omega
            go_wp2
            go_loopw [20] (fun i wr => ∃ j : Nat, j ≤ B + 4095 ∧ i = .int .i64 (j : Nat) ∧ wr = w7) (fun i _ => B + 4095 - (intOf i).toNat)
            case atStart => exact ⟨0, Nat.zero_le _, rfl, rfl⟩
            case round =>
              obtain ⟨k, hk, rfl, rfl⟩ := hrel
              by_cases hkl : k < B
              · have hz := hu7 k (by omega)
                rw [if_neg (by omega)] at hz
                clear hu7
                go_wp2
                go_roundw
                case rel => exact ⟨k + 4095, by omega, by go_num, trivial⟩
                case measure => simp [intOf]; omega
              · have hB4 : ((B : Int) == 65536 * (q : Int)) = true := by have := hB2.out; simp; omega
                have hB5 : (B : Int) = 65536 * (q : Int) := by have := hB2.out; omega
                clear hu7
                go_wp2_with (go_at_call 17; refine (st_grow_no SR (-1) (by omega)).mono ?_; rintro e w9 ⟨rfl, rfl⟩)
                go_ret
                exact ⟨rfl, SR.ltr⟩
    · have ha0 : 0 < (a : Int) := by omega
      go_wp2_with (go_at_call 11; refine (num_any _ _).mono ?_; rintro e w' ⟨rfl, rfl⟩)
      refine (st_store_g S2 4 (65536 * a - 1) 0 _ _ _ 7 rfl (by omega) rfl (by decide) (by omega) (by omega) (show 65536 * a - 1 + 0 + 1 ≤ a * 65536 by omega) _ (G_put a (by omega))).mono ?_
      rintro e w3 ⟨rfl, S3⟩
      clear S2
      go_wp2
      go_loopw [15, 16] (fun nw i wr => ∃ j q : Nat, j ≤ 12 ∧ i = .int .i64 (j : Nat) ∧ nw = .int .i64 (q : Nat) ∧ a ≤ q ∧ q ≤ bound ∧ St w wr p q bound (G a)) (fun _ i _ => 12 - (intOf i).toNat)
      case atStart => exact ⟨0, a, Nat.zero_le _, rfl, rfl, Nat.le_refl _, by omega, S3⟩
      case round =>
        obtain ⟨j, q, hj, rfl, rfl, hqa, hqb, SR⟩ := hrel
        clear S3
        by_cases hlt : j < n ∧ j < 12
        · obtain ⟨kk, hkk, hk7⟩ := and7 (Z j)
          have hcell := (SR.ltr).cell_of (hZ j hlt.1)
          have hl1 : (j : Int) < (n : Int) := by omega
          have hl2 : (j : Int) < 12 := by omega
          by_cases hg : (bound : Int) - q < kk
          · have hq9 : ((4294967295 : Int) == (q : Int)) = false := by simp; omega
            have hq8 : ¬ (4294967295 : Int) = (q : Int) := by omega
            go_wp2_with fail
            refine (grow_nop SR kk hk7 hg).mono ?_
            rintro e w7 ⟨rfl, rfl⟩
            go_wp2_with (go_at_call 21; refine (st_pages SR).mono ?_; rintro e w8 ⟨rfl, rfl⟩)
            go_roundw
            case rel => exact ⟨j + 1, q, by omega, by go_num, rfl, hqa, hqb, SR⟩
            case measure => simp [intOf]; omega
          · go_wp2_with fail
            refine (grow_yes SR kk hk7 hqa (by omega)).mono ?_
            rintro e w7 ⟨rfl, S7⟩
            go_wp2_with (go_at_call 21; refine (st_pages S7).mono ?_; rintro e w8 ⟨rfl, rfl⟩)
            go_roundw
            case rel => exact ⟨j + 1, q + kk, by omega, by go_num, by go_num, by omega, by omega, S7⟩
            case measure => simp [intOf]; omega
        · rcases (by omega : ¬ (j : Int) < (n : Int) ∨ ((j : Int) < (n : Int) ∧ ¬ (j : Int) < 12)) with hl1 | ⟨hl1, hl2⟩
          · go_wp2_with fail
            refine (st_all SR).mono ?_
            rintro e w7 ⟨u, rfl, rfl, hu, hU⟩
            have hu7 := G_at u a _ hU.out
            obtain ⟨B, hB, hB2⟩ : ∃ B, u.size = B ∧ B = q * 65536 := ⟨_, rfl, hu⟩
            replace hB2 : Hid (B = q * 65536) := hB2
            clear hu hU
            have hB3 : B ≤ 1048576 := by have := hB2.out; omega
            go_wp2
            go_loopw [20] (fun i wr => ∃ j : Nat, j ≤ B + 4095 ∧ i = .int .i64 (j : Nat) ∧ wr = w7) (fun i _ => B + 4095 - (intOf i).toNat)
            case atStart => exact ⟨0, Nat.zero_le _, rfl, rfl⟩
            case round =>
              obtain ⟨k, hk, rfl, rfl⟩ := hrel
              by_cases hkl : k < B
              · by_cases hke : k + 1 = 65536 * a
                · have hz := hu7 k (by omega)
                  rw [if_pos hke] at hz
                  clear hu7
                  have hk4 : ((k : Int) == 65536 * (a : Int) - 1) = true := by simp; omega
                  have hk5 : ((k : Int) != 65536 * (a : Int) - 1) = false := by simp; omega
                  go_wp2
                  go_roundw
                  case rel => exact ⟨k + 4095, by omega, by go_num, trivial⟩
                  case measure => simp [intOf]; omega
                · have hz := hu7 k (by omega)
                  rw [if_neg (by omega)] at hz
                  clear hu7
                  go_wp2
                  go_roundw
                  case rel => exact ⟨k + 4095, by omega, by go_num, trivial⟩
                  case measure => simp [intOf]; omega
              · have hB4 : ((B : Int) == 65536 * (q : Int)) = true := by have := hB2.out; simp; omega
                have hB5 : (B : Int) = 65536 * (q : Int) := by have := hB2.out; omega
                have hz := hu7 (65536 * a - 1) (by have := hB2.out; omega)
                rw [if_pos (by omega)] at hz
                have ha9 : ((a : Int) == 0) = false := by simp; omega
                clear hu7
                go_wp2_with (go_at_call 17; refine (st_grow_no SR (-1) (by omega)).mono ?_; rintro e w9 ⟨rfl, rfl⟩)
                go_ret
                exact ⟨rfl, SR.ltr⟩
          · go_wp2_with fail
            refine (st_all SR).mono ?_
            rintro e w7 ⟨u, rfl, rfl, hu, hU⟩
            have hu7 := G_at u a _ hU.out
            obtain ⟨B, hB, hB2⟩ : ∃ B, u.size = B ∧ B = q * 65536 := ⟨_, rfl, hu⟩
            replace hB2 : Hid (B = q * 65536) := hB2
            clear hu hU
            have hB3 : B ≤ 1048576 := by have := hB2.out; omega
            go_wp2
            go_loopw [20] (fun i wr => ∃ j : Nat, j ≤ B + 4095 ∧ i = .int .i64 (j : Nat) ∧ wr = w7) (fun i _ => B + 4095 - (intOf i).toNat)
            case atStart => exact ⟨0, Nat.zero_le _, rfl, rfl⟩
            case round =>
              obtain ⟨k, hk, rfl, rfl⟩ := hrel
              by_cases hkl : k < B
              · by_cases hke : k + 1 = 65536 * a
                · have hz := hu7 k (by omega)
                  rw [if_pos hke] at hz
                  clear hu7
                  have hk4 : ((k : Int) == 65536 * (a : Int) - 1) = true := by simp; omega
                  have hk5 : ((k : Int) != 65536 * (a : Int) - 1) = false := by simp; omega
                  go_wp2
                  go_roundw
                  case rel => exact ⟨k + 4095, by omega, by go_num, trivial⟩
                  case measure => simp [intOf]; omega
                · have hz := hu7 k (by omega)
                  rw [if_neg (by omega)] at hz
                  clear hu7
                  go_wp2
                  go_roundw
                  case rel => exact ⟨k + 4095, by omega, by go_num, trivial⟩
                  case measure => simp [intOf]; omega
              · have hB4 : ((B : Int) == 65536 * (q : Int)) = true := by have := hB2.out; simp; omega
                have hB5 : (B : Int) = 65536 * (q : Int) := by have := hB2.out; omega
                have hz := hu7 (65536 * a - 1) (by have := hB2.out; omega)
                rw [if_pos (by omega)] at hz
                have ha9 : ((a : Int) == 0) = false := by simp; omega
                clear hu7
                go_wp2_with (go_at_call 17; refine (st_grow_no SR (-1) (by omega)).mono ?_; rintro e w9 ⟨rfl, rfl⟩)
                go_ret
                exact ⟨rfl, SR.ltr⟩
  · by_cases hca : (c : Int) ≤ a + t
    · obtain rfl : bound = c := by omega
      clear hb
      go_wp2_with fail
      refine (st_new w _ hT.out (h1.out.trans (by repeat first | exact Lz _ | apply La | apply Ld)) a _ _ (bound : Int) (by omega) (Or.inr ⟨by omega, by omega, by omega⟩)).mono ?_
      rintro e w2 ⟨p, rfl, S2⟩
      by_cases hz0 : a = 0
      · subst hz0
        have S3 : St w _ p 0 bound (G 0) := G_zero ▸ S2
        clear S2
        go_wp2_with (go_at_call 11; refine (num_any _ _).mono ?_; rintro e w' ⟨rfl, rfl⟩)
        go_loopw [15, 16] (fun nw i wr => ∃ j q : Nat, j ≤ 12 ∧ i = .int .i64 (j : Nat) ∧ nw = .int .i64 (q : Nat) ∧ 0 ≤ q ∧ q ≤ bound ∧ St w wr p q bound (G 0)) (fun _ i _ => 12 - (intOf i).toNat)
        case atStart => exact ⟨0, 0, Nat.zero_le _, rfl, rfl, Nat.le_refl _, by omega, S3⟩
        case round =>
          obtain ⟨j, q, hj, rfl, rfl, hqa, hqb, SR⟩ := hrel
          clear S3
          by_cases hlt : j < n ∧ j < 12
          · obtain ⟨kk, hkk, hk7⟩ := and7 (Z j)
            have hcell := (SR.ltr).cell_of (hZ j hlt.1)
            have hl1 : (j : Int) < (n : Int) := by omega
            have hl2 : (j : Int) < 12 := by omega
            by_cases hg : (bound : Int) - q < kk
            · have hq9 : ((4294967295 : Int) == (q : Int)) = false := by simp; omega
              have hq8 : ¬ (4294967295 : Int) = (q : Int) := by omega
              go_wp2_with fail
              refine (grow_nop SR kk hk7 hg).mono ?_
              rintro e w7 ⟨rfl, rfl⟩
              go_wp2_with (go_at_call 21; refine (st_pages SR).mono ?_; rintro e w8 ⟨rfl, rfl⟩)
              go_roundw
              case rel => exact ⟨j + 1, q, by omega, by go_num, rfl, hqa, hqb, SR⟩
              case measure => simp [intOf]; omega
            · go_wp2_with fail
              refine (grow_yes SR kk hk7 hqa (by omega)).mono ?_
              rintro e w7 ⟨rfl, S7⟩
              go_wp2_with (go_at_call 21; refine (st_pages S7).mono ?_; rintro e w8 ⟨rfl, rfl⟩)
              go_roundw
              case rel => exact ⟨j + 1, q + kk, by omega, by go_num, by go_num, by omega, by omega, S7⟩
              case measure => simp [intOf]; omega
          · rcases (by omega : ¬ (j : Int) < (n : Int) ∨ ((j : Int) < (n : Int) ∧ ¬ (j : Int) < 12)) with hl1 | ⟨hl1, hl2⟩
            · go_wp2_with fail
              refine (st_all SR).mono ?_
              rintro e w7 ⟨u, rfl, rfl, hu, hU⟩
              have hu7 := G_at u 0 _ hU.out
              obtain ⟨B, hB, hB2⟩ : ∃ B, u.size = B ∧ B = q * 65536 := ⟨_, rfl, hu⟩
              replace hB2 : Hid (B = q * 65536) := hB2
              clear hu hU
              have hB3 : B ≤ 1048576 := by have := hB2.out; omega
              go_wp2
              go_loopw [20] (fun i wr => ∃ j : Nat, j ≤ B + 4095 ∧ i = .int .i64 (j : Nat) ∧ wr = w7) (fun i _ => B + 4095 - (intOf i).toNat)
              case atStart => exact ⟨0, Nat.zero_le _, rfl, rfl⟩
              case round =>
                obtain ⟨k, hk, rfl, rfl⟩ := hrel
                by_cases hkl : k < B
                · have hz := hu7 k (by omega)
                  rw [if_neg (by omega)] at hz
                  clear hu7
                  go_wp2
                  go_roundw
                  case rel => exact ⟨k + 4095, by omega, by go_num, trivial⟩
                  case measure => simp [intOf]; omega
                · have hB4 : ((B : Int) == 65536 * (q : Int)) = true := by have := hB2.out; simp; omega
                  have hB5 : (B : Int) = 65536 * (q : Int) := by have := hB2.out; omega
                  clear hu7
                  go_wp2_with (go_at_call 17; refine (st_grow_no SR (-1) (by omega)).mono ?_; rintro e w9 ⟨rfl, rfl⟩)
                  go_ret
                  exact ⟨rfl, SR.ltr⟩
            · go_wp2_with fail
              refine (st_all SR).mono ?_
              rintro e w7 ⟨u, rfl, rfl, hu, hU⟩
              have hu7 := G_at u 0 _ hU.out
              obtain ⟨B, hB, hB2⟩ : ∃ B, u.size = B ∧ B = q * 65536 := ⟨_, rfl, hu⟩
              replace hB2 : Hid (B = q * 65536) := hB2
              clear hu hU
              have hB3 : B ≤ 1048576 := by have := hB2.out; omega
              go_wp2
              go_loopw [20] (fun i wr => ∃ j : Nat, j ≤ B + 4095 ∧ i = .int .i64 (j : Nat) ∧ wr = w7) (fun i _ => B + 4095 - (intOf i).toNat)
              case atStart => exact ⟨0, Nat.zero_le _, rfl, rfl⟩
              case round =>
                obtain ⟨k, hk, rfl, rfl⟩ := hrel
                by_cases hkl : k < B
                · have hz := hu7 k (by omega)
                  rw [if_neg (by omega)] at hz
                  clear hu7
                  go_wp2
                  go_roundw
                  case rel => exact ⟨k + 4095, by omega, by go_num, trivial⟩
                  case measure => simp [intOf]; omega
                · have hB4 : ((B : Int) == 65536 * (q : Int)) = true := by have := hB2.out; simp; omega
                  have hB5 : (B : Int) = 65536 * (q : Int) := by have := hB2.out; omega
                  clear hu7
                  go_wp2_with (go_at_call 17; refine (st_grow_no SR (-1) (by omega)).mono ?_; rintro e w9 ⟨rfl, rfl⟩)
                  go_ret
                  exact ⟨rfl, SR.ltr⟩
      · have ha0 : 0 < (a : Int) := by omega
        go_wp2_with (go_at_call 11; refine (num_any _ _).mono ?_; rintro e w' ⟨rfl, rfl⟩)
        refine (st_store_g S2 4 (65536 * a - 1) 0 _ _ _ 7 rfl (by omega) rfl (by decide) (by omega) (by omega) (show 65536 * a - 1 + 0 + 1 ≤ a * 65536 by omega) _ (G_put a (by omega))).mono ?_
        rintro e w3 ⟨rfl, S3⟩
        clear S2
        go_wp2
        go_loopw [15, 16] (fun nw i wr => ∃ j q : Nat, j ≤ 12 ∧ i = .int .i64 (j : Nat) ∧ nw = .int .i64 (q : Nat) ∧ a ≤ q ∧ q ≤ bound ∧ St w wr p q bound (G a)) (fun _ i _ => 12 - (intOf i).toNat)
        case atStart => exact ⟨0, a, Nat.zero_le _, rfl, rfl, Nat.le_refl _, by omega, S3⟩
        case round =>
          obtain ⟨j, q, hj, rfl, rfl, hqa, hqb, SR⟩ := hrel
          clear S3
          by_cases hlt : j < n ∧ j < 12
          · obtain ⟨kk, hkk, hk7⟩ := and7 (Z j)
            have hcell := (SR.ltr).cell_of (hZ j hlt.1)
            have hl1 : (j : Int) < (n : Int) := by omega
            have hl2 : (j : Int) < 12 := by omega
            by_cases hg : (bound : Int) - q < kk
            · have hq9 : ((4294967295 : Int) == (q : Int)) = false := by simp; omega
              have hq8 : ¬ (4294967295 : Int) = (q : Int) := by omega
              go_wp2_with fail
              refine (grow_nop SR kk hk7 hg).mono ?_
              rintro e w7 ⟨rfl, rfl⟩
              go_wp2_with (go_at_call 21; refine (st_pages SR).mono ?_; rintro e w8 ⟨rfl, rfl⟩)
              go_roundw
              case rel => exact ⟨j + 1, q, by omega, by go_num, rfl, hqa, hqb, SR⟩
              case measure => simp [intOf]; omega
            · go_wp2_with fail
              refine (grow_yes SR kk hk7 hqa (by omega)).mono ?_
              rintro e w7 ⟨rfl, S7⟩
              go_wp2_with (go_at_call 21; refine (st_pages S7).mono ?_; rintro e w8 ⟨rfl, rfl⟩)
              go_roundw
              case rel => exact ⟨j + 1, q + kk, by omega, by go_num, by go_num, by omega, by omega, S7⟩
              case measure => simp [intOf]; omega
          · rcases (by omega : ¬ (j : Int) < (n : Int) ∨ ((j : Int) < (n : Int) ∧ ¬ (j : Int) < 12)) with hl1 | ⟨hl1, hl2⟩
            · go_wp2_with fail
              refine (st_all SR).mono ?_
              rintro e w7 ⟨u, rfl, rfl, hu, hU⟩
              have hu7 := G_at u a _ hU.out
              obtain ⟨B, hB, hB2⟩ : ∃ B, u.size = B ∧ B = q * 65536 := ⟨_, rfl, hu⟩
              replace hB2 : Hid (B = q * 65536) := hB2
              clear hu hU
              have hB3 : B ≤ 1048576 := by have := hB2.out; omega
              go_wp2
              go_loopw [20] (fun i wr => ∃ j : Nat, j ≤ B + 4095 ∧ i = .int .i64 (j : Nat) ∧ wr = w7) (fun i _ => B + 4095 - (intOf i).toNat)
              case atStart => exact ⟨0, Nat.zero_le _, rfl, rfl⟩
              case round =>
                obtain ⟨k, hk, rfl, rfl⟩ := hrel
                by_cases hkl : k < B
                · by_cases hke : k + 1 = 65536 * a
                  · have hz := hu7 k (by omega)
                    rw [if_pos hke] at hz
                    clear hu7
                    have hk4 : ((k : Int) == 65536 * (a : Int) - 1) = true := by simp; omega
                    have hk5 : ((k : Int) != 65536 * (a : Int) - 1) = false := by simp; omega
                    go_wp2
                    go_roundw
                    case rel => exact ⟨k + 4095, by omega, by go_num, trivial⟩
                    case measure => simp [intOf]; omega
                  · have hz := hu7 k (by omega)
                    rw [if_neg (by omega)] at hz
                    clear hu7
                    go_wp2
                    go_roundw
                    case rel => exact ⟨k + 4095, by omega, by go_num, trivial⟩
                    case measure => simp [intOf]; omega
                · have hB4 : ((B : Int) == 65536 * (q : Int)) = true := by have := hB2.out; simp; omega
                  have hB5 : (B : Int) = 65536 * (q : Int) := by have := hB2.out; omega
                  have hz := hu7 (65536 * a - 1) (by have := hB2.out; omega)
                  rw [if_pos (by omega)] at hz
                  have ha9 : ((a : Int) == 0) = false := by simp; omega
                  clear hu7
                  go_wp2_with (go_at_call 17; refine (st_grow_no SR (-1) (by omega)).mono ?_; rintro e w9 ⟨rfl, rfl⟩)
                  go_ret
                  exact ⟨rfl, SR.ltr⟩
            · go_wp2_with fail
              refine (st_all SR).mono ?_
              rintro e w7 ⟨u, rfl, rfl, hu, hU⟩
              have hu7 := G_at u a _ hU.out
              obtain ⟨B, hB, hB2⟩ : ∃ B, u.size = B ∧ B = q * 65536 := ⟨_, rfl, hu⟩
              replace hB2 : Hid (B = q * 65536) := hB2
              clear hu hU
              have hB3 : B ≤ 1048576 := by have := hB2.out; omega
              go_wp2
              go_loopw [20] (fun i wr => ∃ j : Nat, j ≤ B + 4095 ∧ i = .int .i64 (j : Nat) ∧ wr = w7) (fun i _ => B + 4095 - (intOf i).toNat)
              case atStart => exact ⟨0, Nat.zero_le _, rfl, rfl⟩
              case round =>
                obtain ⟨k, hk, rfl, rfl⟩ := hrel
                by_cases hkl : k < B
                · by_cases hke : k + 1 = 65536 * a
                  · have hz := hu7 k (by omega)
                    rw [if_pos hke] at hz
                    clear hu7
                    have hk4 : ((k : Int) == 65536 * (a : Int) - 1) = true := by simp; omega
                    have hk5 : ((k : Int) != 65536 * (a : Int) - 1) = false := by simp; omega
                    go_wp2
                    go_roundw
                    case rel => exact ⟨k + 4095, by omega, by go_num, trivial⟩
                    case measure => simp [intOf]; omega
                  · have hz := hu7 k (by omega)
                    rw [if_neg (by omega)] at hz
                    clear hu7
                    go_wp2
                    go_roundw
                    case rel => exact ⟨k + 4095, by omega, by go_num, trivial⟩
                    case measure => simp [intOf]; omega
                · have hB4 : ((B : Int) == 65536 * (q : Int)) = true := by have := hB2.out; simp; omega
                  have hB5 : (B : Int) = 65536 * (q : Int) := by have := hB2.out; omega
                  have hz := hu7 (65536 * a - 1) (by have := hB2.out; omega)
                  rw [if_pos (by omega)] at hz
                  have ha9 : ((a : Int) == 0) = false := by simp; omega
                  clear hu7
                  go_wp2_with (go_at_call 17; refine (st_grow_no SR (-1) (by omega)).mono ?_; rintro e w9 ⟨rfl, rfl⟩)
                  go_ret
                  exact ⟨rfl, SR.ltr⟩
    · have hbe : (a : Int) + (t : Int) = (bound : Int) := by omega
      clear hb
      go_wp2_with fail
      refine (st_new w _ hT.out (h1.out.trans (by repeat first | exact Lz _ | apply La | apply Ld)) a _ _ (bound : Int) (by omega) (Or.inr ⟨by omega, by omega, by omega⟩)).mono ?_
      rintro e w2 ⟨p, rfl, S2⟩
      by_cases hz0 : a = 0
      · subst hz0
        have S3 : St w _ p 0 bound (G 0) := G_zero ▸ S2
        clear S2
        go_wp2_with (go_at_call 11; refine (num_any _ _).mono ?_; rintro e w' ⟨rfl, rfl⟩)
        go_loopw [15, 16] (fun nw i wr => ∃ j q : Nat, j ≤ 12 ∧ i = .int .i64 (j : Nat) ∧ nw = .int .i64 (q : Nat) ∧ 0 ≤ q ∧ q ≤ bound ∧ St w wr p q bound (G 0)) (fun _ i _ => 12 - (intOf i).toNat)
        case atStart => exact ⟨0, 0, Nat.zero_le _, rfl, rfl, Nat.le_refl _, by omega, S3⟩
        case round =>
          obtain ⟨j, q, hj, rfl, rfl, hqa, hqb, SR⟩ := hrel
          clear S3
          by_cases hlt : j < n ∧ j < 12
          · obtain ⟨kk, hkk, hk7⟩ := and7 (Z j)
            have hcell := (SR.ltr).cell_of (hZ j hlt.1)
            have hl1 : (j : Int) < (n : Int) := by omega
            have hl2 : (j : Int) < 12 := by omega
            by_cases hg : (bound : Int) - q < kk
            · have hq9 : ((4294967295 : Int) == (q : Int)) = false := by simp; omega
              have hq8 : ¬ (4294967295 : Int) = (q : Int) := by omega
              go_wp2_with fail
              refine (grow_nop SR kk hk7 hg).mono ?_
              rintro e w7 ⟨rfl, rfl⟩
              go_wp2_with (go_at_call 21; refine (st_pages SR).mono ?_; rintro e w8 ⟨rfl, rfl⟩)
              go_roundw
              case rel => exact ⟨j + 1, q, by omega, by go_num, rfl, hqa, hqb, SR⟩
              case measure => simp [intOf]; omega
            · go_wp2_with fail
              refine (grow_yes SR kk hk7 hqa (by omega)).mono ?_
              rintro e w7 ⟨rfl, S7⟩
              go_wp2_with (go_at_call 21; refine (st_pages S7).mono ?_; rintro e w8 ⟨rfl, rfl⟩)
              go_roundw
              case rel => exact ⟨j + 1, q + kk, by omega, by go_num, by go_num, by omega, by omega, S7⟩
              case measure => simp [intOf]; omega
          · rcases (by omega : ¬ (j : Int) < (n : Int) ∨ ((j : Int) < (n : Int) ∧ ¬ (j : Int) < 12)) with hl1 | ⟨hl1, hl2⟩
            · go_wp2_with fail
              refine (st_all SR).mono ?_
              rintro e w7 ⟨u, rfl, rfl, hu, hU⟩
              have hu7 := G_at u 0 _ hU.out
              obtain ⟨B, hB, hB2⟩ : ∃ B, u.size = B ∧ B = q * 65536 := ⟨_, rfl, hu⟩
              replace hB2 : Hid (B = q * 65536) := hB2
              clear hu hU
              have hB3 : B ≤ 1048576 := by have := hB2.out; omega
              go_wp2
              go_loopw [20] (fun i wr => ∃ j : Nat, j ≤ B + 4095 ∧ i = .int .i64 (j : Nat) ∧ wr = w7) (fun i _ => B + 4095 - (intOf i).toNat)
              case atStart => exact ⟨0, Nat.zero_le _, rfl, rfl⟩
              case round =>
                obtain ⟨k, hk, rfl, rfl⟩ := hrel
                by_cases hkl : k < B
                · have hz := hu7 k (by omega)
                  rw [if_neg (by omega)] at hz
                  clear hu7
                  go_wp2
                  go_roundw
                  case rel => exact ⟨k + 4095, by omega, by go_num, trivial⟩
                  case measure => simp [intOf]; omega
                · have hB4 : ((B : Int) == 65536 * (q : Int)) = true := by have := hB2.out; simp; omega
                  have hB5 : (B : Int) = 65536 * (q : Int) := by have := hB2.out; omega
                  clear hu7
                  go_wp2_with (go_at_call 17; refine (st_grow_no SR (-1) (by omega)).mono ?_; rintro e w9 ⟨rfl, rfl⟩)
                  go_ret
                  exact ⟨rfl, SR.ltr⟩
            · go_wp2_with fail
              refine (st_all SR).mono ?_
              rintro e w7 ⟨u, rfl, rfl, hu, hU⟩
              have hu7 := G_at u 0 _ hU.out
              obtain ⟨B, hB, hB2⟩ : ∃ B, u.size = B ∧ B = q * 65536 := ⟨_, rfl, hu⟩
              replace hB2 : Hid (B = q * 65536) := hB2
              clear hu hU
              have hB3 : B ≤ 1048576 := by have := hB2.out; omega
              go_wp2
              go_loopw [20] (fun i wr => ∃ j : Nat, j ≤ B + 4095 ∧ i = .int .i64 (j : Nat) ∧ wr = w7) (fun i _ => B + 4095 - (intOf i).toNat)
              case atStart => exact ⟨0, Nat.zero_le _, rfl, rfl⟩
              case round =>
                obtain ⟨k, hk, rfl, rfl⟩ := hrel
                by_cases hkl : k < B
                · have hz := hu7 k (by omega)
                  rw [if_neg (by omega)] at hz
                  clear hu7
                  go_wp2
                  go_roundw
                  case rel => exact ⟨k + 4095, by omega, by go_num, trivial⟩
                  case measure => simp [intOf]; omega
                · have hB4 : ((B : Int) == 65536 * (q : Int)) = true := by have := hB2.out; simp; omega
                  have hB5 : (B : Int) = 65536 * (q : Int) := by have := hB2.out; omega
                  clear hu7
                  go_wp2_with (go_at_call 17; refine (st_grow_no SR (-1) (by omega)).mono ?_; rintro e w9 ⟨rfl, rfl⟩)
                  go_ret
                  exact ⟨rfl, SR.ltr⟩
      · have ha0 : 0 < (a : Int) := by omega
        go_wp2_with (go_at_call 11; refine (num_any _ _).mono ?_; rintro e w' ⟨rfl, rfl⟩)
        refine (st_store_g S2 4 (65536 * a - 1) 0 _ _ _ 7 rfl (by omega) rfl (by decide) (by omega) (by omega) (show 65536 * a - 1 + 0 + 1 ≤ a * 65536 by omega) _ (G_put a (by omega))).mono ?_
        rintro e w3 ⟨rfl, S3⟩
        clear S2
        go_wp2
        go_loopw [15, 16] (fun nw i wr => ∃ j q : Nat, j ≤ 12 ∧ i = .int .i64 (j : Nat) ∧ nw = .int .i64 (q : Nat) ∧ a ≤ q ∧ q ≤ bound ∧ St w wr p q bound (G a)) (fun _ i _ => 12 - (intOf i).toNat)
        case atStart => exact ⟨0, a, Nat.zero_le _, rfl, rfl, Nat.le_refl _, by omega, S3⟩
        case round =>
          obtain ⟨j, q, hj, rfl, rfl, hqa, hqb, SR⟩ := hrel
          clear S3
          by_cases hlt : j < n ∧ j < 12
          · obtain ⟨kk, hkk, hk7⟩ := and7 (Z j)
            have hcell := (SR.ltr).cell_of (hZ j hlt.1)
            have hl1 : (j : Int) < (n : Int) := by omega
            have hl2 : (j : Int) < 12 := by omega
            by_cases hg : (bound : Int) - q < kk
            · have hq9 : ((4294967295 : Int) == (q : Int)) = false := by simp; omega
              have hq8 : ¬ (4294967295 : Int) = (q : Int) := by omega
              go_wp2_with fail
              refine (grow_nop SR kk hk7 hg).mono ?_
              rintro e w7 ⟨rfl, rfl⟩
              go_wp2_with (go_at_call 21; refine (st_pages SR).mono ?_; rintro e w8 ⟨rfl, rfl⟩)
              go_roundw
              case rel => exact ⟨j + 1, q, by omega, by go_num, rfl, hqa, hqb, SR⟩
              case measure => simp [intOf]; omega
            · go_wp2_with fail
              refine (grow_yes SR kk hk7 hqa (by omega)).mono ?_
              rintro e w7 ⟨rfl, S7⟩
              go_wp2_with (go_at_call 21; refine (st_pages S7).mono ?_; rintro e w8 ⟨rfl, rfl⟩)
              go_roundw
              case rel => exact ⟨j + 1, q + kk, by omega, by go_num, by go_num, by omega, by omega, S7⟩
              case measure => simp [intOf]; omega
          · rcases (by omega : ¬ (j : Int) < (n : Int) ∨ ((j : Int) < (n : Int) ∧ ¬ (j : Int) < 12)) with hl1 | ⟨hl1, hl2⟩
            · go_wp2_with fail
              refine (st_all SR).mono ?_
              rintro e w7 ⟨u, rfl, rfl, hu, hU⟩
              have hu7 := G_at u a _ hU.out
              obtain ⟨B, hB, hB2⟩ : ∃ B, u.size = B ∧ B = q * 65536 := ⟨_, rfl, hu⟩
              replace hB2 : Hid (B = q * 65536) := hB2
              clear hu hU
              have hB3 : B ≤ 1048576 := by have := hB2.out; omega
              go_wp2
              go_loopw [20] (fun i wr => ∃ j : Nat, j ≤ B + 4095 ∧ i = .int .i64 (j : Nat) ∧ wr = w7) (fun i _ => B + 4095 - (intOf i).toNat)
              case atStart => exact ⟨0, Nat.zero_le _, rfl, rfl⟩
              case round =>
                obtain ⟨k, hk, rfl, rfl⟩ := hrel
                by_cases hkl : k < B
                · by_cases hke : k + 1 = 65536 * a
                  · have hz := hu7 k (by omega)
                    rw [if_pos hke] at hz
                    clear hu7
                    have hk4 : ((k : Int) == 65536 * (a : Int) - 1) = true := by simp; omega
                    have hk5 : ((k : Int) != 65536 * (a : Int) - 1) = false := by simp; omega
                    go_wp2
                    go_roundw
                    case rel => exact ⟨k + 4095, by omega, by go_num, trivial⟩
                    case measure => simp [intOf]; omega
                  · have hz := hu7 k (by omega)
                    rw [if_neg (by omega)] at hz
                    clear hu7
                    go_wp2
                    go_roundw
                    case rel => exact ⟨k + 4095, by omega, by go_num, trivial⟩
                    case measure => simp [intOf]; omega
                · have hB4 : ((B : Int) == 65536 * (q : Int)) = true := by have := hB2.out; simp; omega
                  have hB5 : (B : Int) = 65536 * (q : Int) := by have := hB2.out; omega
                  have hz := hu7 (65536 * a - 1) (by have := hB2.out; omega)
                  rw [if_pos (by omega)] at hz
                  have ha9 : ((a : Int) == 0) = false := by simp; omega
                  clear hu7
                  go_wp2_with (go_at_call 17; refine (st_grow_no SR (-1) (by omega)).mono ?_; rintro e w9 ⟨rfl, rfl⟩)
                  go_ret
                  exact ⟨rfl, SR.ltr⟩
            · go_wp2_with fail
              refine (st_all SR).mono ?_
              rintro e w7 ⟨u, rfl, rfl, hu, hU⟩
              have hu7 := G_at u a _ hU.out
              obtain ⟨B, hB, hB2⟩ : ∃ B, u.size = B ∧ B = q * 65536 := ⟨_, rfl, hu⟩
              replace hB2 : Hid (B = q * 65536) := hB2
              clear hu hU
              have hB3 : B ≤ 1048576 := by have := hB2.out; omega
              go_wp2
              go_loopw [20] (fun i wr => ∃ j : Nat, j ≤ B + 4095 ∧ i = .int .i64 (j : Nat) ∧ wr = w7) (fun i _ => B + 4095 - (intOf i).toNat)
              case atStart => exact ⟨0, Nat.zero_le _, rfl, rfl⟩
              case round =>
                obtain ⟨k, hk, rfl, rfl⟩ := hrel
                by_cases hkl : k < B
                · by_cases hke : k + 1 = 65536 * a
                  · have hz := hu7 k (by omega)
                    rw [if_pos hke] at hz
                    clear hu7
                    have hk4 : ((k : Int) == 65536 * (a : Int) - 1) = true := by simp; omega
                    have hk5 : ((k : Int) != 65536 * (a : Int) - 1) = false := by simp; omega
                    go_wp2
                    go_roundw
                    case rel => exact ⟨k + 4095, by omega, by go_num, trivial⟩
                    case measure => simp [intOf]; omega
                  · have hz := hu7 k (by omega)
                    rw [if_neg (by omega)] at hz
                    clear hu7
                    go_wp2
                    go_roundw
                    case rel => exact ⟨k + 4095, by omega, by go_num, trivial⟩
                    case measure => simp [intOf]; omega
                · have hB4 : ((B : Int) == 65536 * (q : Int)) = true := by have := hB2.out; simp; omega
                  have hB5 : (B : Int) = 65536 * (q : Int) := by have := hB2.out; omega
                  have hz := hu7 (65536 * a - 1) (by have := hB2.out; omega)
                  rw [if_pos (by omega)] at hz
                  have ha9 : ((a : Int) == 0) = false := by simp; omega
                  clear hu7
                  go_wp2_with (go_at_call 17; refine (st_grow_no SR (-1) (by omega)).mono ?_; rintro e w9 ⟨rfl, rfl⟩)
                  go_ret
                  exact ⟨rfl, SR.ltr⟩
theorem core_none (least most top : Int) (w : World) (A : Option Addr) (n cap : Nat) (hn0 : n = 0) (hT : Hid (Tabs w)) (c a : Nat) (m1 : Int) (bound : Nat) (hc : bits .and .i64 top 15 = (c : Int)) (hcl : c ≤ 15) (ha : (IntKind.u64.wrap least).tmod ((c : Int) + 1) = (a : Int)) (hal : a ≤ c) (hm : bits .and .i64 most 1 = m1)
    (hbc : a ≤ bound ∧ bound ≤ 15) (hmo : (m1 = 0 ∧ bound = c) ∨ (m1 = 1 ∧ ∃ t : Nat, t ≤ 7 ∧ bits .and .i64 (most / 2) 7 = (t : Int) ∧ bound = min c (a + t))) :
    Calls Tryd.prog 6 #[.int .i64 least, .int .i64 most, .int .i64 top, .slice (A) n cap] w fun e w' => e = .returned (.bool true) ∧ Later w w' := by
  subst hn0
  go_enter Tryd.func6, Tryd.ntmps6
  go_wp2_with fail
  refine (awake_any w _ hT (Lz _)).mono ?_
  rintro e w1 ⟨rfl, h1⟩
  replace h1 : Hid (Later w w1) := h1
  rcases hmo with ⟨rfl, hb⟩ | ⟨rfl, t, ht7, ht, hb⟩
  · subst hb
    go_wp2_with fail
    refine (st_new w _ hT.out (h1.out.trans (by repeat first | exact Lz _ | apply La | apply Ld)) a (-1) _ (bound : Int) (by omega) (Or.inl ⟨rfl, rfl⟩)).mono ?_
    rintro e w2 ⟨p, rfl, S2⟩
    by_cases hz0 : a = 0
    · subst hz0
      have S3 : St w _ p 0 bound (G 0) := G_zero ▸ S2
      clear S2
      go_wp2_with (go_at_call 11; refine (num_any _ _).mono ?_; rintro e w' ⟨rfl, rfl⟩)
      go_loopw [15, 16] (fun nw i wr => ∃ j q : Nat, j ≤ 12 ∧ i = .int .i64 (j : Nat) ∧ nw = .int .i64 (q : Nat) ∧ 0 ≤ q ∧ q ≤ bound ∧ St w wr p q bound (G 0)) (fun _ i _ => 12 - (intOf i).toNat)
      case atStart => exact ⟨0, 0, Nat.zero_le _, rfl, rfl, Nat.le_refl _, by omega, S3⟩
      case round =>
        obtain ⟨j, q, hj, rfl, rfl, hqa, hqb, SR⟩ := hrel
        clear S3
        go_wp2_with fail
        refine (st_all SR).mono ?_
        rintro e w7 ⟨u, rfl, rfl, hu, hU⟩
        have hu7 := G_at u 0 _ hU.out
        obtain ⟨B, hB, hB2⟩ : ∃ B, u.size = B ∧ B = q * 65536 := ⟨_, rfl, hu⟩
        replace hB2 : Hid (B = q * 65536) := hB2
        clear hu hU
        have hB3 : B ≤ 1048576 := by have := hB2.out; omega
        go_wp2
        go_loopw [20] (fun i wr => ∃ j : Nat, j ≤ B + 4095 ∧ i = .int .i64 (j : Nat) ∧ wr = w7) (fun i _ => B + 4095 - (intOf i).toNat)
        case atStart => exact ⟨0, Nat.zero_le _, rfl, rfl⟩
        case round =>
          obtain ⟨k, hk, rfl, rfl⟩ := hrel
          by_cases hkl : k < B
          · have hz := hu7 k (by omega)
            rw [if_neg (by omega)] at hz
            clear hu7
            go_wp2
            go_roundw
            case rel => exact ⟨k + 4095, by omega, by go_num, trivial⟩
            case measure => simp [intOf]; omega
          · have hB4 : ((B : Int) == 65536 * (q : Int)) = true := by have := hB2.out; simp; omega
            have hB5 : (B : Int) = 65536 * (q : Int) := by have := hB2.out; omega
            clear hu7
            go_wp2_with (go_at_call 17; refine (st_grow_no SR (-1) (by omega)).mono ?_; rintro e w9 ⟨rfl, rfl⟩)
            go_ret
            exact ⟨rfl, SR.ltr⟩
    · have ha0 : 0 < (a : Int) := by omega
      go_wp2_with (go_at_call 11; refine (num_any _ _).mono ?_; rintro e w' ⟨rfl, rfl⟩)
      refine (st_store_g S2 4 (65536 * a - 1) 0 _ _ _ 7 rfl (by omega) rfl (by decide) (by omega) (by omega) (show 65536 * a - 1 + 0 + 1 ≤ a * 65536 by omega) _ (G_put a (by omega))).mono ?_
      rintro e w3 ⟨rfl, S3⟩
      clear S2
      go_wp2
      go_loopw [15, 16] (fun nw i wr => ∃ j q : Nat, j ≤ 12 ∧ i = .int .i64 (j : Nat) ∧ nw = .int .i64 (q : Nat) ∧ a ≤ q ∧ q ≤ bound ∧ St w wr p q bound (G a)) (fun _ i _ => 12 - (intOf i).toNat)
      case atStart => exact ⟨0, a, Nat.zero_le _, rfl, rfl, Nat.le_refl _, by omega, S3⟩
      case round =>
        obtain ⟨j, q, hj, rfl, rfl, hqa, hqb, SR⟩ := hrel
        clear S3
        go_wp2_with fail
        refine (st_all SR).mono ?_
        rintro e w7 ⟨u, rfl, rfl, hu, hU⟩
        have hu7 := G_at u a _ hU.out
        obtain ⟨B, hB, hB2⟩ : ∃ B, u.size = B ∧ B = q * 65536 := ⟨_, rfl, hu⟩
        replace hB2 : Hid (B = q * 65536) := hB2
        clear hu hU
        have hB3 : B ≤ 1048576 := by have := hB2.out; omega
        go_wp2
        go_loopw [20] (fun i wr => ∃ j : Nat, j ≤ B + 4095 ∧ i = .int .i64 (j : Nat) ∧ wr = w7) (fun i _ => B + 4095 - (intOf i).toNat)
        case atStart => exact ⟨0, Nat.zero_le _, rfl, rfl⟩
        case round =>
          obtain ⟨k, hk, rfl, rfl⟩ := hrel
          by_cases hkl : k < B
          · by_cases hke : k + 1 = 65536 * a
            · have hz := hu7 k (by omega)
              rw [if_pos hke] at hz
              clear hu7
              have hk4 : ((k : Int) == 65536 * (a : Int) - 1) = true := by simp; omega
              have hk5 : ((k : Int) != 65536 * (a : Int) - 1) = false := by simp; omega
              go_wp2
              go_roundw
              case rel => exact ⟨k + 4095, by omega, by go_num, trivial⟩
              case measure => simp [intOf]; omega
            · have hz := hu7 k (by omega)
              rw [if_neg (by omega)] at hz
              clear hu7
              go_wp2
              go_roundw
              case rel => exact ⟨k + 4095, by omega, by go_num, trivial⟩
              case measure => simp [intOf]; omega
          · have hB4 : ((B : Int) == 65536 * (q : Int)) = true := by have := hB2.out; simp; omega
            have hB5 : (B : Int) = 65536 * (q : Int) := by have := hB2.out; omega
            have hz := hu7 (65536 * a - 1) (by have := hB2.out; omega)
            rw [if_pos (by omega)] at hz
            have ha9 : ((a : Int) == 0) = false := by simp; omega
            clear hu7
            go_wp2_with (go_at_call 17; refine (st_grow_no SR (-1) (by omega)).mono ?_; rintro e w9 ⟨rfl, rfl⟩)
            go_ret
            exact ⟨rfl, SR.ltr⟩
  · by_cases hca : (c : Int) ≤ a + t
    · obtain rfl : bound = c := by omega
      clear hb
      go_wp2_with fail
      refine (st_new w _ hT.out (h1.out.trans (by repeat first | exact Lz _ | apply La | apply Ld)) a _ _ (bound : Int) (by omega) (Or.inr ⟨by omega, by omega, by omega⟩)).mono ?_
      rintro e w2 ⟨p, rfl, S2⟩
      by_cases hz0 : a = 0
      · subst hz0
        have S3 : St w _ p 0 bound (G 0) := G_zero ▸ S2
        clear S2
        go_wp2_with (go_at_call 11; refine (num_any _ _).mono ?_; rintro e w' ⟨rfl, rfl⟩)
        go_loopw [15, 16] (fun nw i wr => ∃ j q : Nat, j ≤ 12 ∧ i = .int .i64 (j : Nat) ∧ nw = .int .i64 (q : Nat) ∧ 0 ≤ q ∧ q ≤ bound ∧ St w wr p q bound (G 0)) (fun _ i _ => 12 - (intOf i).toNat)
        case atStart => exact ⟨0, 0, Nat.zero_le _, rfl, rfl, Nat.le_refl _, by omega, S3⟩
        case round =>
          obtain ⟨j, q, hj, rfl, rfl, hqa, hqb, SR⟩ := hrel
          clear S3
          go_wp2_with fail
          refine (st_all SR).mono ?_
          rintro e w7 ⟨u, rfl, rfl, hu, hU⟩
          have hu7 := G_at u 0 _ hU.out
          obtain ⟨B, hB, hB2⟩ : ∃ B, u.size = B ∧ B = q * 65536 := ⟨_, rfl, hu⟩
          replace hB2 : Hid (B = q * 65536) := hB2
          clear hu hU
          have hB3 : B ≤ 1048576 := by have := hB2.out; omega
          go_wp2
          go_loopw [20] (fun i wr => ∃ j : Nat, j ≤ B + 4095 ∧ i = .int .i64 (j : Nat) ∧ wr = w7) (fun i _ => B + 4095 - (intOf i).toNat)
          case atStart => exact ⟨0, Nat.zero_le _, rfl, rfl⟩
          case round =>
            obtain ⟨k, hk, rfl, rfl⟩ := hrel
            by_cases hkl : k < B
            · have hz := hu7 k (by omega)
              rw [if_neg (by omega)] at hz
              clear hu7
              go_wp2
              go_roundw
              case rel => exact ⟨k + 4095, by omega, by go_num, trivial⟩
              case measure => simp [intOf]; omega
            · have hB4 : ((B : Int) == 65536 * (q : Int)) = true := by have := hB2.out; simp; omega
              have hB5 : (B : Int) = 65536 * (q : Int) := by have := hB2.out; omega
              clear hu7
              go_wp2_with (go_at_call 17; refine (st_grow_no SR (-1) (by omega)).mono ?_; rintro e w9 ⟨rfl, rfl⟩)
              go_ret
              exact ⟨rfl, SR.ltr⟩
      · have ha0 : 0 < (a : Int) := by omega
        go_wp2_with (go_at_call 11; refine (num_any _ _).mono ?_; rintro e w' ⟨rfl, rfl⟩)
        refine (st_store_g S2 4 (65536 * a - 1) 0 _ _ _ 7 rfl (by omega) rfl (by decide) (by omega) (by omega) (show 65536 * a - 1 + 0 + 1 ≤ a * 65536 by omega) _ (G_put a (by omega))).mono ?_
        rintro e w3 ⟨rfl, S3⟩
        clear S2
        go_wp2
        go_loopw [15, 16] (fun nw i wr => ∃ j q : Nat, j ≤ 12 ∧ i = .int .i64 (j : Nat) ∧ nw = .int .i64 (q : Nat) ∧ a ≤ q ∧ q ≤ bound ∧ St w wr p q bound (G a)) (fun _ i _ => 12 - (intOf i).toNat)
        case atStart => exact ⟨0, a, Nat.zero_le _, rfl, rfl, Nat.le_refl _, by omega, S3⟩
        case round =>
          obtain ⟨j, q, hj, rfl, rfl, hqa, hqb, SR⟩ := hrel
          clear S3
          go_wp2_with fail
          refine (st_all SR).mono ?_
          rintro e w7 ⟨u, rfl, rfl, hu, hU⟩
          have hu7 := G_at u a _ hU.out
          obtain ⟨B, hB, hB2⟩ : ∃ B, u.size = B ∧ B = q * 65536 := ⟨_, rfl, hu⟩
          replace hB2 : Hid (B = q * 65536) := hB2
          clear hu hU
          have hB3 : B ≤ 1048576 := by have := hB2.out; omega
          go_wp2
          go_loopw [20] (fun i wr => ∃ j : Nat, j ≤ B + 4095 ∧ i = .int .i64 (j : Nat) ∧ wr = w7) (fun i _ => B + 4095 - (intOf i).toNat)
          case atStart => exact ⟨0, Nat.zero_le _, rfl, rfl⟩
          case round =>
            obtain ⟨k, hk, rfl, rfl⟩ := hrel
            by_cases hkl : k < B
            · by_cases hke : k + 1 = 65536 * a
              · have hz := hu7 k (by omega)
                rw [if_pos hke] at hz
                clear hu7
                have hk4 : ((k : Int) == 65536 * (a : Int) - 1) = true := by simp; omega
                have hk5 : ((k : Int) != 65536 * (a : Int) - 1) = false := by simp; omega
                go_wp2
                go_roundw
                case rel => exact ⟨k + 4095, by omega, by go_num, trivial⟩
                case measure => simp [intOf]; omega
              · have hz := hu7 k (by omega)
                rw [if_neg (by omega)] at hz
                clear hu7
                go_wp2
                go_roundw
                case rel => exact ⟨k + 4095, by omega, by go_num, trivial⟩
                case measure => simp [intOf]; omega
            · have hB4 : ((B : Int) == 65536 * (q : Int)) = true := by have := hB2.out; simp; omega
              have hB5 : (B : Int) = 65536 * (q : Int) := by have := hB2.out; omega
              have hz := hu7 (65536 * a - 1) (by have := hB2.out; omega)
              rw [if_pos (by omega)] at hz
              have ha9 : ((a : Int) == 0) = false := by simp; omega
              clear hu7
              go_wp2_with (go_at_call 17; refine (st_grow_no SR (-1) (by omega)).mono ?_; rintro e w9 ⟨rfl, rfl⟩)
              go_ret
              exact ⟨rfl, SR.ltr⟩
    · have hbe : (a : Int) + (t : Int) = (bound : Int) := by omega
      clear hb
      go_wp2_with fail
      refine (st_new w _ hT.out (h1.out.trans (by repeat first | exact Lz _ | apply La | apply Ld)) a _ _ (bound : Int) (by omega) (Or.inr ⟨by omega, by omega, by omega⟩)).mono ?_
      rintro e w2 ⟨p, rfl, S2⟩
      by_cases hz0 : a = 0
      · subst hz0
        have S3 : St w _ p 0 bound (G 0) := G_zero ▸ S2
        clear S2
        go_wp2_with (go_at_call 11; refine (num_any _ _).mono ?_; rintro e w' ⟨rfl, rfl⟩)
        go_loopw [15, 16] (fun nw i wr => ∃ j q : Nat, j ≤ 12 ∧ i = .int .i64 (j : Nat) ∧ nw = .int .i64 (q : Nat) ∧ 0 ≤ q ∧ q ≤ bound ∧ St w wr p q bound (G 0)) (fun _ i _ => 12 - (intOf i).toNat)
        case atStart => exact ⟨0, 0, Nat.zero_le _, rfl, rfl, Nat.le_refl _, by omega, S3⟩
        case round =>
          obtain ⟨j, q, hj, rfl, rfl, hqa, hqb, SR⟩ := hrel
          clear S3
          go_wp2_with fail
          refine (st_all SR).mono ?_
          rintro e w7 ⟨u, rfl, rfl, hu, hU⟩
          have hu7 := G_at u 0 _ hU.out
          obtain ⟨B, hB, hB2⟩ : ∃ B, u.size = B ∧ B = q * 65536 := ⟨_, rfl, hu⟩
          replace hB2 : Hid (B = q * 65536) := hB2
          clear hu hU
          have hB3 : B ≤ 1048576 := by have := hB2.out; omega
          go_wp2
          go_loopw [20] (fun i wr => ∃ j : Nat, j ≤ B + 4095 ∧ i = .int .i64 (j : Nat) ∧ wr = w7) (fun i _ => B + 4095 - (intOf i).toNat)
          case atStart => exact ⟨0, Nat.zero_le _, rfl, rfl⟩
          case round =>
            obtain ⟨k, hk, rfl, rfl⟩ := hrel
            by_cases hkl : k < B
            · have hz := hu7 k (by omega)
              rw [if_neg (by omega)] at hz
              clear hu7
              go_wp2
              go_roundw
              case rel => exact ⟨k + 4095, by omega, by go_num, trivial⟩
              case measure => simp [intOf]; omega
            · have hB4 : ((B : Int) == 65536 * (q : Int)) = true := by have := hB2.out; simp; omega
              have hB5 : (B : Int) = 65536 * (q : Int) := by have := hB2.out; omega
              clear hu7
              go_wp2_with (go_at_call 17; refine (st_grow_no SR (-1) (by omega)).mono ?_; rintro e w9 ⟨rfl, rfl⟩)
              go_ret
              exact ⟨rfl, SR.ltr⟩
      · have ha0 : 0 < (a : Int) := by omega
        go_wp2_with (go_at_call 11; refine (num_any _ _).mono ?_; rintro e w' ⟨rfl, rfl⟩)
        refine (st_store_g S2 4 (65536 * a - 1) 0 _ _ _ 7 rfl (by omega) rfl (by decide) (by omega) (by omega) (show 65536 * a - 1 + 0 + 1 ≤ a * 65536 by omega) _ (G_put a (by omega))).mono ?_
        rintro e w3 ⟨rfl, S3⟩
        clear S2
        go_wp2
        go_loopw [15, 16] (fun nw i wr => ∃ j q : Nat, j ≤ 12 ∧ i = .int .i64 (j : Nat) ∧ nw = .int .i64 (q : Nat) ∧ a ≤ q ∧ q ≤ bound ∧ St w wr p q bound (G a)) (fun _ i _ => 12 - (intOf i).toNat)
        case atStart => exact ⟨0, a, Nat.zero_le _, rfl, rfl, Nat.le_refl _, by omega, S3⟩
        case round =>
          obtain ⟨j, q, hj, rfl, rfl, hqa, hqb, SR⟩ := hrel
          clear S3
          go_wp2_with fail
          refine (st_all SR).mono ?_
          rintro e w7 ⟨u, rfl, rfl, hu, hU⟩
          have hu7 := G_at u a _ hU.out
          obtain ⟨B, hB, hB2⟩ : ∃ B, u.size = B ∧ B = q * 65536 := ⟨_, rfl, hu⟩
          replace hB2 : Hid (B = q * 65536) := hB2
          clear hu hU
          have hB3 : B ≤ 1048576 := by have := hB2.out; omega
          go_wp2
          go_loopw [20] (fun i wr => ∃ j : Nat, j ≤ B + 4095 ∧ i = .int .i64 (j : Nat) ∧ wr = w7) (fun i _ => B + 4095 - (intOf i).toNat)
          case atStart => exact ⟨0, Nat.zero_le _, rfl, rfl⟩
          case round =>
            obtain ⟨k, hk, rfl, rfl⟩ := hrel
            by_cases hkl : k < B
            · by_cases hke : k + 1 = 65536 * a
              · have hz := hu7 k (by omega)
                rw [if_pos hke] at hz
                clear hu7
                have hk4 : ((k : Int) == 65536 * (a : Int) - 1) = true := by simp; omega
                have hk5 : ((k : Int) != 65536 * (a : Int) - 1) = false := by simp; omega
                go_wp2
                go_roundw
                case rel => exact ⟨k + 4095, by omega, by go_num, trivial⟩
                case measure => simp [intOf]; omega
              · have hz := hu7 k (by omega)
                rw [if_neg (by omega)] at hz
                clear hu7
                go_wp2
                go_roundw
                case rel => exact ⟨k + 4095, by omega, by go_num, trivial⟩
                case measure => simp [intOf]; omega
            · have hB4 : ((B : Int) == 65536 * (q : Int)) = true := by have := hB2.out; simp; omega
              have hB5 : (B : Int) = 65536 * (q : Int) := by have := hB2.out; omega
              have hz := hu7 (65536 * a - 1) (by have := hB2.out; omega)
              rw [if_pos (by omega)] at hz
              have ha9 : ((a : Int) == 0) = false := by simp; omega
              clear hu7
              go_wp2_with (go_at_call 17; refine (st_grow_no SR (-1) (by omega)).mono ?_; rintro e w9 ⟨rfl, rfl⟩)
              go_ret
              exact ⟨rfl, SR.ltr⟩
theorem and15 (y : Int) : ∃ k : Nat, bits .and .i64 y 15 = (k : Int) ∧ k ≤ 15 := ⟨(y % 16).toNat, by rw [show (15 : Int) = ((2 ^ 4 : Nat) - 1 : Int) by decide, BM.and_mask y 4 (by decide)]; omega, by omega⟩
theorem view_ints {H : Type} {enc : TypeId × Value → H} {W : World} {A : Option Addr} {n cap : Nat} {d : DataW H} {ps : List MemPlace} (h : DataW.Trod enc Tryd.prog W 0 (fun _ => true) true 54 (.slice A n cap) d ps) :
    n = 0 ∨ ∃ (bb oo : Nat) (Z : Nat → Int), A = some ⟨bb, oo, none⟩ ∧ ∀ i, i < n → W.cell? ⟨bb, oo + i, none⟩ = some (.int .i64 (Z i)) := by
  obtain ⟨fuel, hf⟩ := h
  rcases open_ints Tryd.underlying54 Tryd.underlying3 (by kernel_rfl) hf with ⟨hcs, hx⟩ | ⟨a, len', cap', zs, hcs, _, hl, hm, hz, hx, hcell, hwz⟩
  · simp [Value.cells] at hcs
    exact Or.inl hcs.2.1
  · simp [Value.cells] at hcs
    obtain ⟨rfl, rfl, rfl⟩ := hcs
    simp only [if_true] at hz
    by_cases h0 : n = 0
    · exact Or.inl h0
    · obtain ⟨b, off, spot⟩ := a
      have hspot : spot = none := by simpa [Addr.add] using World.cell?_spot (hcell 0 (by omega))
      subst hspot
      exact Or.inr ⟨b, off, fun i => zs.getD i 0, rfl, fun i hi => by rw [← add_plain]; exact hcell i (by omega)⟩
theorem walk (a0 : Int) (a1 : Int) (a2 : Int) (A : Option Addr) (n cap : Nat) (w : World) (hv : n = 0 ∨ ∃ (bb oo : Nat) (Z : Nat → Int), A = some ⟨bb, oo, none⟩ ∧ ∀ i, i < n → w.cell? ⟨bb, oo + i, none⟩ = some (.int .i64 (Z i))) (hT : Tabs w) :
    Calls Tryd.prog 6 #[.int .i64 a0, .int .i64 a1, .int .i64 a2, .slice A n cap] w fun e w' => e = .returned (.bool true) ∧ Later w w' := by
  obtain ⟨c, hc, hcl⟩ := and15 a2
  obtain ⟨a, ha, hal⟩ : ∃ a : Nat, (IntKind.u64.wrap a0).tmod ((c : Int) + 1) = (a : Int) ∧ a ≤ c := by
    have h0 : 0 ≤ IntKind.u64.wrap a0 := by rw [IntKind.wrap_u64]; omega
    have h1 := Int.emod_nonneg (IntKind.u64.wrap a0) (show (c : Int) + 1 ≠ 0 by omega)
    have h2 := Int.emod_lt_of_pos (IntKind.u64.wrap a0) (show 0 < (c : Int) + 1 by omega)
    refine ⟨((IntKind.u64.wrap a0).tmod ((c : Int) + 1)).toNat, ?_, ?_⟩ <;> rw [Int.tmod_eq_emod_of_nonneg h0] <;> omega
  obtain ⟨t, ht, ht7⟩ := and7 (a1 / 2)
  have hm := BM.and1 a1
  obtain ⟨bound, hbc, hmo⟩ : ∃ bound : Nat, (a ≤ bound ∧ bound ≤ 15) ∧ ((a1 % 2 = 0 ∧ bound = c) ∨ (a1 % 2 = 1 ∧ ∃ t : Nat, t ≤ 7 ∧ bits .and .i64 (a1 / 2) 7 = (t : Int) ∧ bound = min c (a + t))) := by
    rcases (by omega : a1 % 2 = 0 ∨ a1 % 2 = 1) with h | h
    · exact ⟨c, by omega, Or.inl ⟨h, rfl⟩⟩
    · exact ⟨min c (a + t), by omega, Or.inr ⟨h, t, ht7, ht, rfl⟩⟩
  rcases hv with h0 | ⟨bb, oo, Z, rfl, hZ⟩
  · exact core_none a0 a1 a2 w A n cap h0 hT c a _ bound hc hcl ha hal hm hbc hmo
  · exact core_some a0 a1 a2 w bb oo n cap Z hZ hT c a _ bound hc hcl ha hal hm hbc hmo

set_option maxRecDepth 100000 in
theorem lifted (os : Os) (started : os.Started) (H : Type) (enc : TypeId × Value → H) :
    ReturnsInHanded {} Tryd.checked os 6 .any (fun w args => (Rows.memoryGrowsSpec.pre enc Tryd.prog Tryd.f6 [] false w args ∧ laidMetH Tryd.prog tabs w) ∧ sizedMet enc Tryd.prog Tryd.f6 (OpenSpec.ofChange Rows.memoryGrowsSpec) false w args)
      (Rows.memoryGrowsSpec.post enc Tryd.prog Tryd.f6 false true false false) := by
  refine returnsInHanded_of_change_and (C := Tryd.checked) (X := fun w _ => laidMetH Tryd.prog tabs w) (fun _ _ _ hh h => h.of_heap hh) own started (by kernel_rfl) Tryd.func6
    (ChangeSpec.witness_shaped (enc := enc) (C := Tryd.checked) (os := os) (X := fun w _ => laidMetH Tryd.prog tabs w) false (World.doorLaid Tryd.prog 400 os) #[.int .i64 0, .int .i64 0, .int .i64 0, .slice none 0 0] 8 rfl (World.shaped_of_RefB (by kernel_rfl) (by kernel_rfl)) (by kernel_rfl) (by kernel_rfl) (by kernel_rfl) (door_met os _)) ?_
  intro W base args ds gs before hval0 hW _ _ hL _
  have hval : ∀ (j : Nat) t v, Tryd.f6.params[j]? = some t → args[j]? = some v → Value.okWide Tryd.prog W .any base t v := hval0
  have hW' := hW
  obtain ⟨p, q, hA0, hV, rfl, hfz, hnd⟩ := hW
  have hA : DataW.TrodAll enc Tryd.prog W 0 (fun _ => true) true Tryd.f6.params.toList args.toList ds p := hA0
  rw [Tryd.params6] at hA hval
  obtain ⟨v0, vs0, d0, ds0, p0, q0, hargs, rfl, rfl, h0, r0⟩ := trodAll_cons hA
  obtain ⟨v1, vs1, d1, ds1, p1, q1, rfl, rfl, rfl, h1, r1⟩ := trodAll_cons r0
  obtain ⟨v2, vs2, d2, ds2, p2, q2, rfl, rfl, rfl, h2, r2⟩ := trodAll_cons r1
  obtain ⟨v3, vs3, d3, ds3, p3, q3, rfl, rfl, rfl, h3, r3⟩ := trodAll_cons r2
  obtain ⟨rfl, rfl, rfl⟩ := trodAll_nil r3
  obtain rfl : args = #[v0, v1, v2, v3] := by cases args; simp_all
  obtain ⟨rfl, rfl⟩ := trodVars_none hV
  obtain ⟨a0, rfl, rfl, rfl, w0⟩ := open_int Tryd.underlying3 (hval 0 3 v0 rfl rfl) h0
  obtain ⟨a1, rfl, rfl, rfl, w1⟩ := open_int Tryd.underlying3 (hval 1 3 v1 rfl rfl) h1
  obtain ⟨a2, rfl, rfl, rfl, w2⟩ := open_int Tryd.underlying3 (hval 2 3 v2 rfl rfl) h2
  obtain ⟨A3, n3, c3, rfl⟩ := okWide_slice Tryd.underlying54 (hval 3 54 v3 rfl rfl)
  clear hA0 hval0
  simp only [List.append_nil, List.nil_append] at hW'
  have hlt : ∀ x ∈ p3, x.block < W.heap.size := fun x hx => by simpa using hW'.lt x hx
  refine (walk a0 a1 a2 A3 n3 c3 W (view_ints h3) (of_laid hL)).mono fun e W' ⟨he, hl⟩ => ?_
  subst he
  have hg := hl.grown
  have hbel : Below W.heap.size W W' := by obtain ⟨bs, nn, rfl⟩ := hl; exact ⟨rfl, rfl, rfl, by rw [World.far_size]; omega, fun k hk => World.far_block W bs nn k hk⟩
  have hx : ∀ sp : Nat → Bool, (∀ p ∈ p3, sp p.block = true) → DataW.TrodAll enc Tryd.prog W' 0 sp true [3, 3, 3, 54] [.int .i64 a0, .int .i64 a1, .int .i64 a2, .slice A3 n3 c3] [.lit (.int .i64 a0), .lit (.int .i64 a1), .lit (.int .i64 a2), d3] (p3) := fun sp hsp => by simpa using (trodAll_cons_mk (shut_int Tryd.underlying3 w0) (trodAll_cons_mk (shut_int Tryd.underlying3 w1) (trodAll_cons_mk (shut_int Tryd.underlying3 w2) (trodAll_cons_mk (WideElems.Trod_stays (by kernel_rfl) (by kernel_rfl) (of_decide_eq_true (by kernel_rfl)) h3 (fun x hx => hbel.same (hlt x hx)) (fun x hx => hsp x hx)) trodAll_mk0))))
  exact ⟨_, rfl, post_of_same (pa := p3) (pv := []) hW' (fun _ _ _ => (trodAll_cons_mk (shut_bool Tryd.underlying4 _) trodAll_mk0)) (fun sp hsp => hx sp hsp) (fun _ _ => rfl) (by simp)
    (hg.frame _) hg.2.1 (ok_one (by kernel_rfl) rfl (okWide_bool_mk Tryd.underlying4 _))⟩

theorem over : Rows.memoryGrowsRow.holds Tryd.pinned (OpenSpec.ofChange Rows.memoryGrowsSpec) :=
  OpenClaim.holds_of_wide 6 Tryd.f6 rfl rfl rfl rfl rfl rfl rfl ⟨rfl, rfl, rfl, rfl, rfl⟩ rfl rfl rfl rfl rfl (by kernel_rfl) Tryd.func6 (by kernel_rfl)
    (of_decide_eq_true (by kernel_rfl)) (by unfold Func.isWrapper; first | (rw [if_pos (by decide +kernel)]; kernel_rfl) | (rw [if_neg (by decide +kernel)]; exact ⟨rfl, rfl⟩))
    (fun os started H enc _ => lifted os started H enc)

theorem row_holds : Rows.MemoryGrowsSaid := over

theorem card_holds : Rows.MemoryGrowsCardSaid :=
  Claim7.holds_tied_plain_at .later [] [.data] true (true, "18417c4c36e59d634bb1d7bc2a46973f3e80d886067ccc57eeafcee2dfb5387b") false
    row_holds (fun _ h => by cases h) (by kernel_rfl) (fun _ h => by cases h) memoryGrows_row_tie rfl ⟨rfl, rfl⟩ (by kernel_rfl) rfl
    (fun f fn hf hfn => by
      obtain rfl : f = 6 := Option.some.inj ((show Tryd.prog.funcNamed Rows.memoryGrowsRow.func = some 6 by kernel_rfl).symm.trans hf) |>.symm
      obtain rfl : fn = Tryd.f6 := (Option.some.inj (Tryd.func6.symm.trans hfn)).symm
      exact ⟨by kernel_rfl, fun j t ht => by
        rw [Tryd.params6] at ht
        have hm : t ∈ [3, 3, 3, 54] := by simpa using Array.mem_of_getElem? ht
        have hall : ([3, 3, 3, 54].all fun u => !Tryd.prog.wantsStandIn u) = true := by kernel_rfl
        exact (show Tryd.prog.wantsStandIn t = false by simpa using List.all_eq_true.1 hall t hm)⟩)
    (by kernel_rfl)
end Go.Proofs.YtbbjbgbpjhhcoaaDoor.memoryGrows
namespace Go.Proofs.YtbbjbgbpjhhcoaaDoor
theorem memoryGrows_holds : Rows.MemoryGrowsCardSaid := memoryGrows.card_holds
#print axioms memoryGrows_holds
end Go.Proofs.YtbbjbgbpjhhcoaaDoor
