/- Over this seat's translation: Trace (package trace): with it all faces of the program's host. -/
import Derived.Test.YtlckiipkndipiaaUVE
set_option linter.unusedVariables false
set_option linter.unusedSimpArgs false
set_option maxRecDepth 100000
set_option maxHeartbeats 4000000
namespace Go.Proofs.Ytlckiipkndipiaa
open Go.RowKit
/-- the first j of what was heard, copied into a new row -/
def Tj (w wr : World) (lab : Nat → Nat) (m j : Nat) (c : Nat → Int) (a : Nat → Vl) : Prop := Later w wr ∧ ∃ lab' F, Chg lab (fun _ => False) w wr lab' ∧ lab' w.heap.size = 95 ∧ wr.rowIs w.heap.size 52 (m * 2) F ∧ ∀ i, i < j → F (i * 2) = .int .i64 (c i) ∧ (a i).1 * 16 ≤ 140737488351232 ∧ ∃ S cs, F (i * 2 + 1) = .slice S (a i).1 cs ∧ ((a i).1 = 0 ∨ ∃ gi, Rv wr S (a i) gi ∧ lab' gi = 1000 + i ∧ w.heap.size ≤ gi)
theorem Tj.trc {w wr : World} {lab : Nat → Nat} {m : Nat} {c : Nat → Int} {a : Nat → Vl} (h : Tj w wr lab m m c a) : ∃ lab', Chg lab (fun _ => False) w wr lab' ∧ Trc lab' wr w.heap.size (some ⟨w.heap.size, 0, none⟩) m c a 0 := by
  obtain ⟨_, lab', F, C, h95, hR, hF⟩ := h
  refine ⟨lab', C, Or.inr ⟨w.heap.size, rfl, h95, Nat.le_refl _, fun i hi => ?_⟩⟩
  obtain ⟨h1, h2, S, cs, h3, h4⟩ := hF i hi
  have k1 := hR.cell (i := i * 2) (by omega)
  have k2 := hR.cell (i := i * 2 + 1) (by omega)
  rw [h1] at k1
  rw [h3] at k2
  exact ⟨k1, h2, S, cs, k2, Or.inr h4⟩
theorem Tj.next {w wr w2 : World} {lab : Nat → Nat} {m j : Nat} {c : Nat → Int} {a : Nat → Vl} (h : Tj w wr lab m j c a) (hj : j < m) (l2 : Later wr w2) (A : Option Addr) (cap : Nat) (hb : (a j).1 * 16 ≤ 140737488351232) (hc : Cl wr w2 A (a j)) : Tj w ((w2.setCell ⟨w.heap.size, j * 2, none⟩ (.int .i64 (c j))).setCell ⟨w.heap.size, j * 2 + 1, none⟩ (.slice A (a j).1 cap)) lab m (j + 1) c a := by
  obtain ⟨hL, lab1, F, C, h95, hR, hF⟩ := h
  have R2 := rowIs_later l2 hR
  have T1 : Turned w.heap.size w2 (w2.setCell ⟨w.heap.size, j * 2, none⟩ (.int .i64 (c j))) := (Turned.refl R2).set R2 _ _
  have T2 := T1.set R2 (j * 2 + 1) (.slice A (a j).1 cap)
  have R3 := (R2.set (j * 2) (.int .i64 (c j))).set (j * 2 + 1) (.slice A (a j).1 cap)
  have L3 := (hL.trans l2).turned R2 (Nat.le_refl _) T2
  obtain ⟨lab2, C2, hz⟩ := Chg.fresh (lab := lab1) (S := fun _ => False) l2 (1000 + j)
  have hlr := hR.lt
  have e95 : lab2 w.heap.size = 95 := ((C2.2 _ hlr (fun x => x)).1).trans h95
  generalize (w2.setCell ⟨w.heap.size, j * 2, none⟩ (.int .i64 (c j))).setCell ⟨w.heap.size, j * 2 + 1, none⟩ (.slice A (a j).1 cap) = W3 at *
  refine ⟨L3, lab2, _, ⟨L3.size, fun k hk _ => ⟨((C2.2 k (by have := hL.size; omega) (fun x => x)).1).trans (C.2 k hk (fun x => x)).1, L3.block hk⟩⟩, e95, R3, fun i hi => ?_⟩
  by_cases hij : i = j
  · subst hij
    refine ⟨by rw [if_neg (by omega), if_pos rfl], hb, A, cap, if_pos rfl, ?_⟩
    rcases hc with h | ⟨g, h1, h2⟩
    · exact Or.inl h
    · exact Or.inr ⟨g, h1.turned T2 (by omega), hz g h2, by omega⟩
  · obtain ⟨h1, h2, S, cs, h3, h4⟩ := hF i (by omega)
    refine ⟨by rw [if_neg (by omega), if_neg (by omega)]; exact h1, h2, S, cs, by rw [if_neg (by omega), if_neg (by omega)]; exact h3, ?_⟩
    rcases h4 with h4 | ⟨gi, h5, h6, h7⟩
    · exact Or.inl h4
    · refine Or.inr ⟨gi, (h5.later l2).turned T2 (fun e => ?_), ((C2.2 gi h5.lt (fun x => x)).1).trans h6, h7⟩
      rw [e, h95] at h6
      omega
theorem htrace_any (lab : Nat → Nat) (w : World) (B p : Nat) (s : Hs) (h : HoS lab w B p s) (hm : s.2.2.1 < 1000000) :
    Calls Try.prog 16 #[.pointer (some ⟨p, 0, none⟩)] w fun e w' => ∃ A cap, e = .returned (.slice A s.2.2.1 cap) ∧ Later w w' ∧ ∃ lab', Chg lab (fun _ => False) w w' lab' ∧ Trc lab' w' w.heap.size A s.2.2.1 s.2.2.2.1 s.2.2.2.2 0 := by
  obtain ⟨n, f, m, c, a⟩ := s
  obtain ⟨g1, A2, c2, N, pl, L2, F1, G, _, _, s0, _, f2, _, hd⟩ := h
  change m < 1000000 at hm
  change Fld lab 3 w B 52 2 (.slice A2 m c2) m L2 at f2
  change Hrd lab 4 w B L2 m c a at hd
  have q0 : w.cell? ⟨p, 2, none⟩ = some (.slice A2 m c2) := s0.1.cell (i := 2) (by decide)
  have lp := cell_lt q0
  obtain ⟨iv, hv1, hv2, hv3, hv4⟩ := hrd_parts
  have hmk : ∀ w' : World, (Instr.makeSlice 46 (.int .i64 (m : Int)) (.int .i64 (m : Int))).run Try.prog w' = .ok (.slice (some ⟨w'.heap.size, 0, none⟩) m m) (w'.alloc (.cells (madeCells #[.int .i64 0, .slice none 0 0] (m * 2)) 52)) := fun w' => by
    have hr := run_make (P := Try.prog) w' 46 52 iv _ Try.underlying46 hv1 hv2 .i64 .i64 m m (by omega) (Int.le_refl _) (by rw [hv4]; omega) (by omega)
    simp only [Int.toNat_natCast, hv3] at hr
    exact hr
  have hrow : (w.alloc (.cells (madeCells #[.int .i64 0, .slice none 0 0] (m * 2)) 52)).rowIs w.heap.size 52 (m * 2) (fun i => if i % 2 = 0 then .int .i64 0 else .slice none 0 0) := ⟨_, heap_alloc_new _ _, size_madeCells _ _, fun i hi => by
    simp only [madeCells, Array.getElem?_map]
    rw [Array.getElem?_eq_getElem (by simpa using hi)]
    have : i % 2 = 0 ∨ i % 2 = 1 := by omega
    rcases this with h | h <;> simp [h]⟩
  have hrd : Hid (∀ i, i < m → ∃ g S cs, A2 = some ⟨g, 0, none⟩ ∧ w.cell? ⟨g, i * 2, none⟩ = some (.int .i64 (c i)) ∧ w.cell? ⟨g, i * 2 + 1, none⟩ = some (.slice S (a i).1 cs) ∧ (a i).1 * 16 ≤ 140737488351232 ∧ Vst w S (a i).1 (a i).2.1 (a i).2.2) := fun i hi => by
    obtain ⟨g, rfl, _, _, _, _, _, hcell⟩ := f2.at_ (by omega)
    obtain ⟨x0, u, x1, x2⟩ := hd i hi
    obtain ⟨S, cs, rfl, x3, x4⟩ := x2.form
    exact ⟨g, S, cs, rfl, hcell _ _ x0, hcell _ _ x1, x3, x4⟩
  have hst : Hid (Tj w (w.alloc (.cells (madeCells #[.int .i64 0, .slice none 0 0] (m * 2)) 52)) lab m 0 c a) := by
    obtain ⟨lab1, C1, hz⟩ := Chg.fresh (lab := lab) (S := fun _ => False) (La (Lz w) : Later w (w.alloc (.cells (madeCells #[.int .i64 0, .slice none 0 0] (m * 2)) 52))) 95
    exact ⟨La (Lz _), lab1, _, C1, hz _ (Nat.le_refl _), hrow, fun i hi => absurd hi (Nat.not_lt_zero _)⟩
  generalize madeCells #[.int .i64 0, .slice none 0 0] (m * 2) = C at *
  clear s0 f2 hd hv1 hv2 hv3 hv4 hrow
  show Calls Try.prog 16 #[.pointer (some ⟨p, 0, none⟩)] w fun e w' => ∃ A cap, e = .returned (.slice A m cap) ∧ Later w w' ∧ ∃ lab', Chg lab (fun _ => False) w w' lab' ∧ Trc lab' w' w.heap.size A m c a 0
  go_enter Try.func16, Try.ntmps16
  go_wp2
  go_loopw [19] (fun i wr => ∃ j : Nat, j ≤ m ∧ i = .int .i64 (j : Nat) ∧ Tj w wr lab m j c a) (fun i _ => m - (intOf i).toNat)
  case atStart => exact ⟨0, Nat.zero_le _, rfl, hst.out⟩
  case round =>
    obtain ⟨j, hj, rfl, hT⟩ := hrel
    clear hst hmk
    by_cases hlt : j < m
    · have hl1 : (j : Int) < (m : Int) := by omega
      obtain ⟨g, S, cs, rfl, x0, x1, x2, x3⟩ := hrd.out j hlt
      have a0 := hT.1.cell_of x0
      have a1 := hT.1.cell_of x1
      have la := cell_lt a0
      replace x3 := x3.later hT.1
      clear x0 x1
      obtain ⟨F, hR⟩ : ∃ F, wr.rowIs w.heap.size 52 (m * 2) F := by
        obtain ⟨_, _, F, _, _, hR, _⟩ := hT
        exact ⟨F, hR⟩
      replace hR : Hid (wr.rowIs w.heap.size 52 (m * 2) F) := hR
      replace hT : Hid (Tj w wr lab m j c a) := hT
      go_wp2_with fail
      refine (copied_any (c j) S cs (a j) _ x2 (x3.later (by repeat first | exact Lz _ | apply La | apply Lv | apply Ld | apply Ln))).mono ?_
      rintro e w2 ⟨A', c', rfl, hc, hl⟩
      have l2 : Later wr w2 := Later.trans (by repeat first | exact Lz _ | apply La | apply Lv | apply Ld | apply Ln) hl.out
      have hc2 : Cl wr w2 A' (a j) := by
        rcases hc.out with h | ⟨g, h1, h2⟩
        · exact Or.inl h
        · exact Or.inr ⟨g, h1, Nat.le_trans (Later.size (by repeat first | exact Lz _ | apply La | apply Lv | apply Ld | apply Ln)) h2⟩
      have R2 := rowIs_later l2 hR.out
      have hfin : Hid _ := hT.out.next hlt l2 A' c' x2 hc2
      have R3 := (R2.set (j * 2) (.int .i64 (c j)))
      have z0 := R2.frozen (j * 2)
      have z1 := R2.frozen (j * 2 + 1)
      have z2 := R3.frozen (j * 2 + 1)
      have k0 := R2.cell (i := j * 2) (by omega)
      have k1 := R2.cell (i := j * 2 + 1) (by omega)
      have k2 := R3.cell (i := j * 2 + 1) (by omega)
      clear hc hl l2 R2 R3 hc2 hT hR x3 hrd
      go_wp2
      go_roundw
      case rel => exact ⟨j + 1, by omega, by go_num, hfin.out⟩
      case measure => simp [intOf]; omega
    · have hje : j = m := by omega
      subst hje
      replace hT : Hid (Tj w wr lab j j c a) := hT
      clear hrd
      go_wp2
      go_ret
      exact ⟨_, _, rfl, hT.out.1, hT.out.trc⟩
end Go.Proofs.Ytlckiipkndipiaa
