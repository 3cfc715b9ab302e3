/- Over this seat's translation: Set that sets, All of package globals. -/
import Derived.Test.YtlbjnlialhpfhaaUG
set_option linter.unusedVariables false
set_option linter.unusedSimpArgs false
set_option maxRecDepth 100000
set_option maxHeartbeats 4000000
namespace Go.Proofs.Ytlbjnlialhpfhaa
open Go.RowKit
theorem set_ok (lab : Nat → Nat) (w0 w : World) (B p n : Nat) (hB : w0.heap.size ≤ B) (hL : Hid (Later w0 w)) (t : Nat → Int) (m : Nat → Bool) (b : Nat → Int) (k : Nat) (x y : Int) (hy : -9223372036854775808 ≤ y ∧ y ≤ 9223372036854775807) (h : Hid (Glo lab w B p n t m b)) (hk : k < n) (hm : Hid (may x y = true)) (hx : x = t k) (hc : m k = true) :
    Calls Try.prog 10 #[.pointer (some ⟨p, 0, none⟩), .int .i64 (k : Int), .agg #[.int .i64 x, .int .i64 y]] w fun e w' => e = .returned (.int .i64 0) ∧ Later w0 w' ∧ ∃ lab', Chg lab (· < 10) w w' lab' ∧ Glo lab' w' B p n t m (upd b k y) := by
  have hne : (x != t k) = false := by simpa using hx
  clear hx
  have hh : Hid (∀ w', Later w w' → Calls Try.prog 20 #[.pointer (some ⟨p, 0, none⟩), .int .i64 (k : Int)] w' fun e w2 => e = .returned (.bool true) ∧ w2 = w') := fun w' hl => has_any lab w' B p n t m b k true (h.out.later hl) (decide_eq_true (by omega))
  have hl1 : (k : Int) < (n : Int) := by omega
  obtain ⟨_, A1, A2, A3, c1, c2, c3, s0, f1, f2, f3⟩ := h.out
  have q0 : w.cell? ⟨p, 0, none⟩ = some (.slice A1 n c1) := s0.1.cell (i := 0) (by decide)
  obtain ⟨g1, rfl, _, l1, _, _, _, k1⟩ := f1.at_ (by omega)
  have r1 := k1 k _ (xs_get t n k hk)
  have q1 : w.cell? ⟨p, 1, none⟩ = some (.slice A2 n c2) := s0.1.cell (i := 1) (by decide)
  obtain ⟨g2, rfl, _, l2, _, _, _, k2⟩ := f2.at_ (by omega)
  have r2 := k2 k _ (bs_get m n k hk)
  rw [hc] at r2
  clear s0 f1 f2 f3 k1 k2
  replace h : Hid _ := h
  go_enter Try.func10, Try.ntmps10
  go_wp2_with fail
  obtain ⟨W, hW⟩ : ∃ W : World, W = w.alloc (.cells #[.int .i64 x, .int .i64 y] 31) := ⟨_, rfl⟩
  rw [← hW]
  have LW : Later w W := by rw [hW]; exact La (Lz _)
  have v0 : W.cell? ⟨w.heap.size, 0, none⟩ = some (.int .i64 x) := by rw [hW]; simp [go_sem]
  have v1 : W.cell? ⟨w.heap.size, 1, none⟩ = some (.int .i64 y) := by rw [hW]; simp [go_sem]
  clear hW
  replace q0 := LW.cell_of q0
  replace r1 := LW.cell_of r1
  replace q1 := LW.cell_of q1
  replace r2 := LW.cell_of r2
  have lv0 := cell_lt v0
  have lq0 := cell_lt q0
  have lr1 := cell_lt r1
  have lr2 := cell_lt r2
  replace LW : Hid (Later w W) := LW
  refine wp_region_quiet_far (by kernel_rfl) (by kernel_rfl) ?_
  repeat (go_big_quiet_step (first | (go_at_call 20; exact Calls.far_of_same (hh.out _ (LW.out.trans (by repeat first | exact Lz _ | apply La | apply Lv | apply Ld | apply Ln)))) | (go_at_call 18; exact Calls.far_of (maybe_any x y hy true hm _))))
  refine wpQuiet_nil ?_
  rintro W3 ⟨⟨bs, d⟩, e3⟩
  have L3 : Later W W3 := ⟨bs, d, e3⟩
  clear e3
  replace q1 := L3.cell_of q1
  replace r2 := L3.cell_of r2
  replace v1 := L3.cell_of v1
  have L4 : Later w W3.drew := LW.out.trans (Ld L3)
  obtain ⟨lab1, C1, hz⟩ := Chg.fresh (lab := lab) (S := fun _ => False) L4 99
  obtain ⟨hn, B1, B2, B3, e1, e2, e3, s0, f1, f2, f3⟩ := h.out.chg C1 (fun k hk => hk.elim)
  have q2 : W3.cell? ⟨p, 2, none⟩ = some (.slice B3 n e3) := s0.1.cell (i := 2) (by decide)
  obtain ⟨g3, rfl, b3, l3, y3, _, _, k3⟩ := f3.at_ (by omega)
  have r3 : W3.cell? ⟨g3, k, none⟩ = some (.int .i64 (b k)) := k3 k _ (xs_get b n k hk)
  obtain ⟨F3, C3, L5, fz⟩ := f3.set g3 rfl k (.int .i64 y) (by omega)
  rw [xs_put] at F3
  have hfin : Hid (Later w0 (W3.drew.setCell ⟨g3, k, none⟩ (.int .i64 y)) ∧ ∃ lab', Chg lab (· < 10) w (W3.drew.setCell ⟨g3, k, none⟩ (.int .i64 y)) lab' ∧ Glo lab' (W3.drew.setCell ⟨g3, k, none⟩ (.int .i64 y)) B p n t m (upd b k y)) :=
    ⟨L5 w0 hB (hL.out.trans L4), lab1, (C1.wide (fun _ hk => hk.elim)).trans (C3.wide (by omega)), hn, B1, B2, _, e1, e2, e3, s0.chg C3 (by decide), f1.chg C3 (by decide), f2.chg C3 (by decide), F3⟩
  have lq1 := cell_lt q1
  replace lr2 := cell_lt r2
  have lr3 := cell_lt r3
  have lv1 := cell_lt v1
  clear F3 C3 L5 C1 L3 L4 s0 f1 f2 f3 k3 hz LW h hL q0 r1 v0 lq0 lr1 lv0
  go_wp2
  go_region
  go_wp2
  go_ret
  exact ⟨rfl, hfin.out⟩
theorem all_any (lab : Nat → Nat) (w : World) (B p n : Nat) (t : Nat → Int) (m : Nat → Bool) (b : Nat → Int) (h : Hid (Glo lab w B p n t m b)) :
    Calls Try.prog 14 #[.pointer (some ⟨p, 0, none⟩)] w fun e w' => e = .returned (.slice (some ⟨w.heap.size, 0, none⟩) n n) ∧ Later w w' ∧ ∃ F, w'.rowIs w.heap.size 31 (n * 2) F ∧ ∀ i, i < n → F (i * 2) = .int .i64 (t i) ∧ F (i * 2 + 1) = .int .i64 (b i) := by
  obtain ⟨hn, A1, A2, A3, c1, c2, c3, s0, f1, f2, f3⟩ := h.out
  have q2 : w.cell? ⟨p, 2, none⟩ = some (.slice A3 n c3) := s0.1.cell (i := 2) (by decide)
  have lp := cell_lt q2
  obtain ⟨iv, hv1, hv2, hv3, hv4⟩ := val_parts
  have hmk : ∀ w' : World, (Instr.makeSlice 26 (.int .i64 (n : Int)) (.int .i64 (n : Int))).run Try.prog w' = .ok (.slice (some ⟨w'.heap.size, 0, none⟩) n n) (w'.alloc (.cells (madeCells #[.int .i64 0, .int .i64 0] (n * 2)) 31)) := fun w' => by
    have hr := run_make (P := Try.prog) w' 26 31 iv _ Try.underlying26 hv1 hv2 .i64 .i64 n n (by omega) (Int.le_refl _) (by rw [hv4]; omega) (by omega)
    simp only [Int.toNat_natCast, hv3] at hr
    exact hr
  have hrow : (w.alloc (.cells (madeCells #[.int .i64 0, .int .i64 0] (n * 2)) 31)).rowIs w.heap.size 31 (n * 2) (fun _ => .int .i64 0) := ⟨_, heap_alloc_new _ _, size_madeCells _ _, fun i hi => by
    simp only [madeCells, Array.getElem?_map]
    rw [Array.getElem?_eq_getElem (by simpa using hi)]
    have : i % 2 = 0 ∨ i % 2 = 1 := by omega
    rcases this with h | h <;> simp [h]⟩
  generalize madeCells #[.int .i64 0, .int .i64 0] (n * 2) = C at *
  clear s0 f1 f2 f3 hv1 hv2 hv3 hv4
  have hval : Hid (∀ (k : Nat) (w' : World), k < n → Later w w' → Calls Try.prog 21 #[.pointer (some ⟨p, 0, none⟩), .int .i64 (k : Int)] w' fun e w2 => e = .returned (.agg #[.int .i64 (t k), .int .i64 (b k)]) ∧ Later w' w2) := fun k w' hk hl => value_any lab w' B p n t m b k hk (h.out.later hl)
  clear h
  replace hrow : Hid _ := hrow
  go_enter Try.func14, Try.ntmps14
  go_wp2
  go_loopw [15] (fun i wr => ∃ (j : Nat) (F : Nat → Value), j ≤ n ∧ i = .int .i64 (j : Nat) ∧ Later w wr ∧ wr.rowIs w.heap.size 31 (n * 2) F ∧ ∀ i, i < j → F (i * 2) = .int .i64 (t i) ∧ F (i * 2 + 1) = .int .i64 (b i)) (fun i _ => n - (intOf i).toNat)
  case atStart => exact ⟨0, _, Nat.zero_le _, rfl, La (Lz _), hrow.out, fun i hi => by omega⟩
  case round =>
    obtain ⟨j, F, hj, rfl, hL, hR, hF⟩ := hrel
    clear hrow hmk
    by_cases hlt : j < n
    · have hl1 : (j : Int) < (n : Int) := by omega
      replace hL : Hid (Later w wr) := hL
      replace hR : Hid (wr.rowIs w.heap.size 31 (n * 2) F) := hR
      replace hF : Hid _ := hF
      go_wp2_with fail
      refine (hval.out j _ hlt hL.out).mono ?_
      rintro e w2 ⟨rfl, h2⟩
      have R2 := rowIs_later h2 hR.out
      have L2 := hL.out.trans h2
      have R3 := (R2.set (j * 2) (.int .i64 (t j)))
      have R4 := R3.set (j * 2 + 1) (.int .i64 (b j))
      have T1 : Turned w.heap.size w2 (w2.setCell ⟨w.heap.size, j * 2, none⟩ (.int .i64 (t j))) := (Turned.refl R2).set R2 _ _
      have T2 := T1.set R2 (j * 2 + 1) (.int .i64 (b j))
      have L4 := L2.turned R2 (Nat.le_refl _) T2
      have z0 := R2.frozen (j * 2)
      have z1 := R2.frozen (j * 2 + 1)
      have z2 := R3.frozen (j * 2 + 1)
      have k0 := R2.cell (i := j * 2) (by omega)
      have k1 := R2.cell (i := j * 2 + 1) (by omega)
      have k2 := R3.cell (i := j * 2 + 1) (by omega)
      replace R4 : Hid _ := R4
      replace L4 : Hid (Later w _) := L4
      clear R2 R3 T1 T2 L2 h2 hL hR hval
      go_wp2
      go_roundw
      case rel =>
        refine ⟨j + 1, _, by omega, by go_num, L4.out, R4.out, fun i hi => ?_⟩
        by_cases hij : i = j
        · subst hij
          exact ⟨by rw [if_neg (by omega), if_pos rfl], by rw [if_pos rfl]⟩
        · have := hF.out i (by omega)
          exact ⟨by rw [if_neg (by omega), if_neg (by omega)]; exact this.1, by rw [if_neg (by omega), if_neg (by omega)]; exact this.2⟩
      case measure => simp [intOf]; omega
    · have hje : j = n := by omega
      subst hje
      have hfin : Hid (Later w wr ∧ ∃ F, wr.rowIs w.heap.size 31 (j * 2) F ∧ ∀ i, i < j → F (i * 2) = .int .i64 (t i) ∧ F (i * 2 + 1) = .int .i64 (b i)) := ⟨hL, F, hR, hF⟩
      clear hL hR hF hval
      go_wp2
      go_ret
      exact ⟨rfl, hfin.out⟩
end Go.Proofs.Ytlbjnlialhpfhaa
