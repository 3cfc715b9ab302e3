/- Over this seat's translation: slices.Repeat of one int, New of package table. -/
import Derived.Test.YtdkjgbgoglhbgaaND
set_option linter.unusedVariables false
set_option linter.unusedSimpArgs false
set_option maxRecDepth 100000
set_option maxHeartbeats 4000000
namespace Go.Proofs.Ytdkjgbgoglhbgaa
open Go.RowKit
theorem make_ints (q : Nat) (hq : q ≤ 1024) : ∀ w' : World, (Instr.makeSlice 34 (.int .i64 (q : Int)) (.int .i64 (q : Int))).run Try.prog w' = .ok (.slice (some ⟨w'.heap.size, 0, none⟩) q q) (w'.alloc (.cells (madeCells #[.int .i64 0] q) 3)) := fun w' =>
  run_make_row' (P := Try.prog) 34 3 (.int .i64 0) 8 Try.underlying34 info_int rfl .i64 .i64 q (by omega) (by omega) w'
/-- so many of the first cells are -1 -/
def Rp (w : World) (g q k : Nat) : Prop := w.rowIs g 3 q (fun i => .int .i64 (if i < k then -1 else 0))
theorem rp_copy {w : World} {g q k : Nat} (h : Rp w g q k) (hq : k ≤ q) (a c sl dl dc m : Nat) (D S : Option Addr) (hm : m = Nat.min sl dl) (hak : a = k) (hfit : a + m ≤ q) (hD : 0 < m → D = some ⟨g, a, none⟩) (hS : Lst w S m (fun _ => -1)) :
    ∃ w2, (Builtin.copy_ #[34, 34] 3 #[.slice D dl dc, .slice S sl c]).run Try.prog w = .ok (goInt m) w2 ∧ Rp w2 g q (k + m) ∧ Turned g w w2 := by
  subst hak
  have hl := rowIs_list h
  have hll : ((List.range q).map fun i => Value.int .i64 (if i < a then -1 else 0)).length = q := by simp
  have hcp := run_copy_to (P := Try.prog) w 34 34 3 3 Try.underlying34 size_int D S dl dc sl c g a _ 3 hl (xs (fun _ => -1) m) (by rw [xs_len]; exact hm) (fun hp => by
    rw [xs_len] at hp
    refine ⟨hD hp, ?_⟩
    obtain ⟨b, o, rfl, hc⟩ := hS.resolve_left (by omega)
    exact ⟨_, rfl, news_at hc⟩) (by rw [xs_len, hll]; exact hfit) (xs_one _ m)
  rw [xs_len] at hcp
  have hfl : a + (xs (fun _ => -1) m).length ≤ ((List.range q).map fun i => Value.int .i64 (if i < a then -1 else 0)).length := by rw [xs_len, hll]; exact hfit
  refine ⟨_, hcp, ?_, (Turned.refl h).setRow h _⟩
  refine rowIs_of_list _ (setRow_heap _ _ _ _ _ _ hl) (by rw [length_splice _ _ _ hfl, hll]) (fun i hi => ?_)
  rw [splice_get _ _ _ _ hfl, xs_len]
  by_cases hh : a ≤ i ∧ i < a + m
  · rw [if_pos hh, if_pos (by omega), xs_get _ _ _ (by omega)]
  · rw [if_neg hh]
    simp only [List.getElem?_map, List.getElem?_range hi, Option.map_some]
    by_cases h3 : i < a
    · rw [if_pos h3, if_pos (by omega)]
    · rw [if_neg h3, if_neg (by omega)]
theorem rp_lst {w : World} {g q k m : Nat} (h : Rp w g q k) (hm : m ≤ k) (hq : k ≤ q) : Lst w (some ⟨g, 0, none⟩) m (fun _ => -1) :=
  Or.inr ⟨g, 0, rfl, fun j hj => by
    have := World.rowIs.cell h (i := j) (by omega)
    rw [if_pos (by omega)] at this
    rw [Nat.zero_add]
    exact this⟩
theorem rep_zero (b : Nat) (w : World) :
    Calls Try.prog 20 #[.slice (some ⟨b, 0, none⟩) 1 1, .int .i64 0] w fun e w' => e = .returned (.slice (some ⟨w.heap.size, 0, none⟩) 0 0) ∧ Later w w' ∧ Rp w' w.heap.size 0 0 := by
  have hmk : ∀ w' : World, (Instr.makeSlice 34 (.int .i64 0) (.int .i64 0)).run Try.prog w' = .ok (.slice (some ⟨w'.heap.size, 0, none⟩) 0 0) (w'.alloc (.cells (madeCells #[.int .i64 0] 0) 3)) := make_ints 0 (by decide)
  have hcp : ∀ w' : World, (Builtin.copy_ #[34, 34] 3 #[.slice (some ⟨w.heap.size, 0, none⟩) 0 0, .slice (some ⟨b, 0, none⟩) 1 1]).run Try.prog w' = .ok (goInt 0) w' := fun w' => run_copy_none (P := Try.prog) w' _ _ _ _ _ _ _ _ _ _ Try.underlying34 size_int (by decide)
  have hrow := World.rowIs_made w (.int .i64 0) 0 3
  replace hrow : Hid _ := hrow
  generalize madeCells #[.int .i64 0] 0 = C at *
  go_enter Try.func20, Try.ntmps20
  go_wp2_with (go_at_call 25; refine (mul_one 0 (by decide) _).mono ?_; rintro e w1 ⟨rfl, h1⟩; obtain rfl : w = w1 := h1.symm)
  refine wp_loop_rounds 1 ?_
  rw [rounds_succ]
  go_wp2
  go_ret
  exact ⟨rfl, La (Lz _), hrow.out⟩
theorem rep_some (b q : Nat) (w : World) (hq : 0 < q) (hq2 : q ≤ 1024) (hb : Hid (w.cell? ⟨b, 0, none⟩ = some (.int .i64 (-1)))) :
    Calls Try.prog 20 #[.slice (some ⟨b, 0, none⟩) 1 1, .int .i64 (q : Int)] w fun e w' => e = .returned (.slice (some ⟨w.heap.size, 0, none⟩) q q) ∧ Later w w' ∧ Rp w' w.heap.size q q := by
  have hmk := make_ints q hq2
  have hrow : Rp (w.alloc (.cells (madeCells #[.int .i64 0] q) 3)) w.heap.size q 0 := World.rowIs_made w (.int .i64 0) q 3
  generalize madeCells #[.int .i64 0] q = C at *
  obtain ⟨w2, hcp, hr2, ht2⟩ := rp_copy hrow (Nat.zero_le _) 0 1 1 q q 1 (some ⟨w.heap.size, 0, none⟩) (some ⟨b, 0, none⟩) (Nat.min_eq_left (by omega)).symm rfl (by omega) (fun _ => rfl) (Or.inr ⟨b, 0, rfl, fun j hj => by obtain rfl : j = 0 := (by omega); exact (La (Lz _)).cell_of hb.out⟩)
  have hl2 : Later w w2 := (La (Lz w)).turned hrow (Nat.le_refl _) ht2
  clear hrow ht2
  replace hr2 : Hid _ := hr2
  replace hl2 : Hid _ := hl2
  go_enter Try.func20, Try.ntmps20
  go_wp2_with (go_at_call 25; refine (mul_one q hq2 _).mono ?_; rintro e w1 ⟨rfl, h1⟩; obtain rfl : w = w1 := h1.symm)
  go_loopw [8] (fun i wr => ∃ k : Nat, 1 ≤ k ∧ k ≤ q ∧ i = .int .i64 (k : Nat) ∧ Later w wr ∧ Rp wr w.heap.size q k) (fun i _ => q - (intOf i).toNat)
  case atStart => exact ⟨1, by omega, by omega, rfl, hl2.out, hr2.out⟩
  case round =>
    obtain ⟨k, hk1, hkq, rfl, hl, hr⟩ := hrel
    clear hl2 hr2
    by_cases hlt : k < q
    · have hl1 : (k : Int) < (q : Int) := by omega
      have hs1 := slice_from (some ⟨w.heap.size, 0, none⟩) q q k (by omega)
      rw [if_neg (by omega)] at hs1
      simp only [Option.map_some, add_of, Nat.zero_add] at hs1
      have hs2 := slice_to (some ⟨w.heap.size, 0, none⟩) q q k (by omega)
      obtain ⟨m, hm⟩ : ∃ m, m = Nat.min k (q - k) := ⟨_, rfl⟩
      have hm0 : 0 < m ∧ k + m ≤ q ∧ m ≤ k := by
        have h1 : m ≤ k := by rw [hm]; exact Nat.min_le_left _ _
        have h2 : m ≤ q - k := by rw [hm]; exact Nat.min_le_right _ _
        have h3 : 0 < m := by rw [hm]; exact Nat.lt_min.2 ⟨by omega, by omega⟩
        omega
      obtain ⟨w3, hcp3, hr3, ht3⟩ := rp_copy (w := wr.drew) hr.drew (Nat.le_of_lt hlt) k q k (q - k) (q - k) m (some ⟨w.heap.size, k, none⟩) (some ⟨w.heap.size, 0, none⟩) hm rfl (by omega) (fun _ => rfl) (rp_lst (w := wr.drew) hr.drew hm0.2.2 hkq)
      have hl3 : Later w w3 := (hl.trans (Ld (Lz _))).turned hr.drew (Nat.le_refl _) ht3
      replace hr3 : Hid _ := hr3
      replace hl3 : Hid _ := hl3
      clear hm ht3 hl hr
      go_wp2
      go_region
      go_wp2
      go_roundw
      case rel => exact ⟨k + m, by omega, by omega, by go_num, hl3.out, hr3.out⟩
      case measure => simp [intOf]; omega
    · have hke : k = q := by omega
      subst hke
      replace hl : Hid _ := hl
      replace hr : Hid _ := hr
      go_wp2
      go_ret
      exact ⟨rfl, hl.out, hr.out⟩
end Go.Proofs.Ytdkjgbgoglhbgaa
