/- Over this seat's translation: the document's Call. -/
import Derived.Test.YtlckiipkndipiaaUQ
set_option linter.unusedVariables false
set_option linter.unusedSimpArgs false
set_option maxRecDepth 100000
set_option maxHeartbeats 4000000
namespace Go.Proofs.Ytlckiipkndipiaa
open Go.RowKit
theorem rcall_type (lab : Nat → Nat) (w0 w : World) (p n m : Nat) (f : Nat → Vl) (c : Nat → Int) (a : Nat → Vl) (x : Int) (hx : ¬ x < 0) (P R X : Option Addr) (mp cp mr cr cx : Nat) (l : Vl) (hL : Hid (Later w0 w)) (h : Hid (Dh lab w w0.heap.size p (n + 1) f m c a)) (hm : m < 1000000) (r : Nat → Int) (hR : Hid (Lk lab w R mr r)) (hfit : Hid (fit mr (f 0).1 r (f 0).2.1 (f 0).2.2 = false)) (hb : l.1 * 16 ≤ 140737488351232) (hX : Hid (Vst w X l.1 l.2.1 l.2.2)) :
    Calls Try.prog 12 #[.pointer (some ⟨p, 0, none⟩), .int .i64 x, .agg #[.slice P mp cp, .slice R mr cr], .slice X l.1 cx] w fun e w' => e = .returned (.tuple #[.slice none 0 0, .int .i64 1102]) ∧ Later w0 w' ∧ ∃ lab', Chg lab hid w w' lab' ∧ Dh lab' w' w0.heap.size p n (fun i => f (i + 1)) (m + 1) (ups c m x) (ups a m l) := by
  go_enter Try.func12, Try.ntmps12
  go_wp2_with fail
  obtain ⟨W, hW⟩ : ∃ W : World, W = w.alloc (.cells #[.slice P mp cp, .slice R mr cr] 36) := ⟨_, rfl⟩
  rw [← hW]
  have LW : Later w W := by rw [hW]; exact La (Lz _)
  have v1 : W.cell? ⟨w.heap.size, 1, none⟩ = some (.slice R mr cr) := by rw [hW]; simp [go_sem]
  clear hW
  obtain ⟨lab0, C0, hz⟩ := Chg.fresh (lab := lab) (S := fun _ => False) (Ld LW : Later w W.drew) 99
  have z0 := hz w.heap.size (Nat.le_refl _)
  obtain ⟨A2, c2, g1, d1, w1, g2, d2, w2, lab1, q0, r1, q1, lp1, r2, q2, fz, lp2, l1, hf⟩ := hrd_more (cx := cx) l x (hL.out.trans (Ld LW)) (h.out.chg C0 (fun _ _ _ x => x)) hm hb (hX.out.later (Ld LW))
  replace q0 : W.cell? ⟨p, 1, none⟩ = some (.slice A2 m c2) := q0
  have lp := cell_lt q0
  replace r1 : Hid ((Builtin.append_ #[24, 24] 24 #[.slice (some ⟨W.heap.size, 0, none⟩) 0 0, .slice X l.1 cx]).run Try.prog (W.alloc (.cells #[] 56)).drew = .ok (.slice (some ⟨g1, 0, none⟩) l.1 d1) w1) := r1
  obtain ⟨L3, C3, D3⟩ := hf.out
  have v3 := C3.cell (by rw [z0]; unfold hid; omega) (w := W.drew) v1
  have z3 : lab1 w.heap.size = 99 := C3.lab_to (w := W.drew) z0 (by unfold hid; omega) v1
  have C03 : Chg lab hid w _ lab1 := (C0.wide (fun _ x => x.elim)).trans C3
  replace C03 : Hid (Chg lab hid w (w2.setCell ⟨p, 1, none⟩ (.slice (some ⟨g2, 0, none⟩) (m + 1) d2)) lab1) := C03
  replace L3 : Hid (Later w0 (w2.setCell ⟨p, 1, none⟩ (.slice (some ⟨g2, 0, none⟩) (m + 1) d2))) := L3
  replace D3 : Hid (Dh lab1 (w2.setCell ⟨p, 1, none⟩ (.slice (some ⟨g2, 0, none⟩) (m + 1) d2)) w0.heap.size p (n + 1) f (m + 1) (ups c m x) (ups a m l)) := D3
  replace v3 : Hid ((w2.setCell ⟨p, 1, none⟩ (.slice (some ⟨g2, 0, none⟩) (m + 1) d2)).cell? ⟨w.heap.size, 1, none⟩ = some (.slice R mr cr)) := v3
  clear hf l1 C3 hz z0 C0 LW v1 hL h hX hb
  go_region_law ((first | (refine step_app (by rfl) _ _ 24 (by rfl) _ _ _ (by rfl) (by rfl) r1.out ?_) | (refine step_app (by rfl) _ _ 46 (by rfl) _ _ _ (by rfl) (by rfl) r2.out ?_)))
  all_goals
    clear q0 r1 q1 lp1 r2 q2 fz lp2 lp
    generalize w2.setCell ⟨p, 1, none⟩ (.slice (some ⟨g2, 0, none⟩) (m + 1) d2) = W3 at *
    have R3 : Lk lab1 W3 R mr r := hR.out.chg C03.out
    obtain ⟨g0, c1, S, cs, g3, d3, w3, lab2, k0, k1, k2, r3, k3, fz3, lp3, hf⟩ := ans_tail L3.out D3.out
    have lk0 := cell_lt k0
    have hs1 := slice_ans (some ⟨g0, 0, none⟩) (n + 1) c1 (by omega)
    simp only [Nat.add_sub_cancel] at hs1
    generalize (if c1 = 1 then some ⟨g0, 0, none⟩ else (some (⟨g0, 0, none⟩ : Addr)).map (·.add 1)) = DD at *
    obtain ⟨L4, C4, D4, V4⟩ := hf.out
    have v4 := C4.cell (by rw [z3]; unfold hid; omega) v3.out
    have R4 := (R3.chg C4).lst
    replace R4 : Hid _ := R4
    replace C4 : Hid (Chg lab hid w _ lab2) := C03.out.trans C4
    replace L4 : Hid (Later w0 _) := L4
    replace D4 : Hid (Dh lab2 _ w0.heap.size p n (fun i => f (i + 1)) (m + 1) (ups c m x) (ups a m l)) := D4
    replace V4 : Hid (Vst _ S (f 0).1 (f 0).2.1 (f 0).2.2) := V4
    clear hf R3 C03 L3 D3 z3 v3 hR
    go_wp2_with (at_builtin; refine wpList_app rfl _ _ 22 rfl _ _ _ rfl rfl r3.out ?_)
    generalize w3.setCell ⟨p, 0, none⟩ (.slice (some ⟨g3, 0, none⟩) n d3) = W4 at *
    clear r3 k0 k1 k3 fz3 lp3 hs1 lk0
    refine (fit_any R S mr (f 0).1 cr cs (by omega) r (f 0).2.1 (f 0).2.2 W4 R4.out V4.out).mono ?_
    rintro e w5 ⟨rfl, L5⟩
    rw [hfit.out]
    have hfin : Hid (Later w0 w5 ∧ ∃ lab', Chg lab hid w w5 lab' ∧ Dh lab' w5 w0.heap.size p n (fun i => f (i + 1)) (m + 1) (ups c m x) (ups a m l)) := ⟨L4.out.trans L5, lab2, C4.out.trans (Chg.of_later L5), D4.out.later L5⟩
    clear L4 C4 D4 V4 R4 L5 v4
    go_wp2
    go_ret2
    exact ⟨rfl, hfin.out⟩
theorem rcall_ok (lab : Nat → Nat) (w0 w : World) (p n m : Nat) (f : Nat → Vl) (c : Nat → Int) (a : Nat → Vl) (x : Int) (hx : ¬ x < 0) (P R X : Option Addr) (mp cp mr cr cx : Nat) (l : Vl) (hL : Hid (Later w0 w)) (h : Hid (Dh lab w w0.heap.size p (n + 1) f m c a)) (hm : m < 1000000) (r : Nat → Int) (hR : Hid (Lk lab w R mr r)) (hfit : Hid (fit mr (f 0).1 r (f 0).2.1 (f 0).2.2 = true)) (hb : l.1 * 16 ≤ 140737488351232) (hX : Hid (Vst w X l.1 l.2.1 l.2.2)) :
    Calls Try.prog 12 #[.pointer (some ⟨p, 0, none⟩), .int .i64 x, .agg #[.slice P mp cp, .slice R mr cr], .slice X l.1 cx] w fun e w' => ∃ g cap, e = .returned (.tuple #[.slice (some ⟨g, 0, none⟩) (f 0).1 cap, .int .i64 0]) ∧ Vst w' (some ⟨g, 0, none⟩) (f 0).1 (f 0).2.1 (f 0).2.2 ∧ w.heap.size ≤ g ∧ Later w0 w' ∧ ∃ lab', Chg lab hid w w' lab' ∧ (lab' g = 99) ∧ Dh lab' w' w0.heap.size p n (fun i => f (i + 1)) (m + 1) (ups c m x) (ups a m l) := by
  go_enter Try.func12, Try.ntmps12
  go_wp2_with fail
  obtain ⟨W, hW⟩ : ∃ W : World, W = w.alloc (.cells #[.slice P mp cp, .slice R mr cr] 36) := ⟨_, rfl⟩
  rw [← hW]
  have LW : Later w W := by rw [hW]; exact La (Lz _)
  have v1 : W.cell? ⟨w.heap.size, 1, none⟩ = some (.slice R mr cr) := by rw [hW]; simp [go_sem]
  clear hW
  obtain ⟨lab0, C0, hz⟩ := Chg.fresh (lab := lab) (S := fun _ => False) (Ld LW : Later w W.drew) 99
  have z0 := hz w.heap.size (Nat.le_refl _)
  obtain ⟨A2, c2, g1, d1, w1, g2, d2, w2, lab1, q0, r1, q1, lp1, r2, q2, fz, lp2, l1, hf⟩ := hrd_more (cx := cx) l x (hL.out.trans (Ld LW)) (h.out.chg C0 (fun _ _ _ x => x)) hm hb (hX.out.later (Ld LW))
  replace q0 : W.cell? ⟨p, 1, none⟩ = some (.slice A2 m c2) := q0
  have lp := cell_lt q0
  replace r1 : Hid ((Builtin.append_ #[24, 24] 24 #[.slice (some ⟨W.heap.size, 0, none⟩) 0 0, .slice X l.1 cx]).run Try.prog (W.alloc (.cells #[] 56)).drew = .ok (.slice (some ⟨g1, 0, none⟩) l.1 d1) w1) := r1
  obtain ⟨L3, C3, D3⟩ := hf.out
  have v3 := C3.cell (by rw [z0]; unfold hid; omega) (w := W.drew) v1
  have z3 : lab1 w.heap.size = 99 := C3.lab_to (w := W.drew) z0 (by unfold hid; omega) v1
  have C03 : Chg lab hid w _ lab1 := (C0.wide (fun _ x => x.elim)).trans C3
  replace C03 : Hid (Chg lab hid w (w2.setCell ⟨p, 1, none⟩ (.slice (some ⟨g2, 0, none⟩) (m + 1) d2)) lab1) := C03
  replace L3 : Hid (Later w0 (w2.setCell ⟨p, 1, none⟩ (.slice (some ⟨g2, 0, none⟩) (m + 1) d2))) := L3
  replace D3 : Hid (Dh lab1 (w2.setCell ⟨p, 1, none⟩ (.slice (some ⟨g2, 0, none⟩) (m + 1) d2)) w0.heap.size p (n + 1) f (m + 1) (ups c m x) (ups a m l)) := D3
  replace v3 : Hid ((w2.setCell ⟨p, 1, none⟩ (.slice (some ⟨g2, 0, none⟩) (m + 1) d2)).cell? ⟨w.heap.size, 1, none⟩ = some (.slice R mr cr)) := v3
  clear hf l1 C3 hz z0 C0 LW v1 hL h hX hb
  go_region_law ((first | (refine step_app (by rfl) _ _ 24 (by rfl) _ _ _ (by rfl) (by rfl) r1.out ?_) | (refine step_app (by rfl) _ _ 46 (by rfl) _ _ _ (by rfl) (by rfl) r2.out ?_)))
  all_goals
    clear q0 r1 q1 lp1 r2 q2 fz lp2 lp
    generalize w2.setCell ⟨p, 1, none⟩ (.slice (some ⟨g2, 0, none⟩) (m + 1) d2) = W3 at *
    have R3 : Lk lab1 W3 R mr r := hR.out.chg C03.out
    obtain ⟨g0, c1, S, cs, g3, d3, w3, lab2, k0, k1, k2, r3, k3, fz3, lp3, hf⟩ := ans_tail L3.out D3.out
    have lk0 := cell_lt k0
    have hs1 := slice_ans (some ⟨g0, 0, none⟩) (n + 1) c1 (by omega)
    simp only [Nat.add_sub_cancel] at hs1
    generalize (if c1 = 1 then some ⟨g0, 0, none⟩ else (some (⟨g0, 0, none⟩ : Addr)).map (·.add 1)) = DD at *
    obtain ⟨L4, C4, D4, V4⟩ := hf.out
    have v4 := C4.cell (by rw [z3]; unfold hid; omega) v3.out
    have R4 := (R3.chg C4).lst
    replace R4 : Hid _ := R4
    replace C4 : Hid (Chg lab hid w _ lab2) := C03.out.trans C4
    replace L4 : Hid (Later w0 _) := L4
    replace D4 : Hid (Dh lab2 _ w0.heap.size p n (fun i => f (i + 1)) (m + 1) (ups c m x) (ups a m l)) := D4
    replace V4 : Hid (Vst _ S (f 0).1 (f 0).2.1 (f 0).2.2) := V4
    clear hf R3 C03 L3 D3 z3 v3 hR
    go_wp2_with (at_builtin; refine wpList_app rfl _ _ 22 rfl _ _ _ rfl rfl r3.out ?_)
    generalize w3.setCell ⟨p, 0, none⟩ (.slice (some ⟨g3, 0, none⟩) n d3) = W4 at *
    clear r3 k0 k1 k3 fz3 lp3 hs1 lk0
    refine (fit_any R S mr (f 0).1 cr cs (by omega) r (f 0).2.1 (f 0).2.2 W4 R4.out V4.out).mono ?_
    rintro e w5 ⟨rfl, L5⟩
    rw [hfit.out]
    obtain ⟨g6, d6, w6, r6, o6, l6⟩ := app_vals S (f 0).1 cs (f 0).2.1 (f 0).2.2 24 w5 k2 (V4.out.later L5)
    have hg6 := (owns_base o6).1
    obtain ⟨lab6, C6, hz6⟩ := Chg.fresh (lab := lab2) (S := fun _ => False) l6 99
    have hfin : Hid (Vst w6 (some ⟨g6, 0, none⟩) (f 0).1 (f 0).2.1 (f 0).2.2 ∧ w.heap.size ≤ g6 ∧ Later w0 w6 ∧ ∃ lab', Chg lab hid w w6 lab' ∧ (lab' g6 = 99) ∧ Dh lab' w6 w0.heap.size p n (fun i => f (i + 1)) (m + 1) (ups c m x) (ups a m l)) :=
      ⟨owns_vst o6, Nat.le_trans C4.out.1 (Nat.le_trans L5.size hg6), (L4.out.trans L5).trans l6, lab6, (C4.out.trans (Chg.of_later L5)).trans (C6.wide (fun _ x => x.elim)), hz6 g6 hg6, (D4.out.later L5).chg (S := fun _ => False) C6 (fun _ _ _ x => x)⟩
    replace r6 : Hid _ := r6
    clear L4 C4 D4 V4 R4 L5 v4 o6 l6 C6 hz6 hg6
    go_wp2_with (at_builtin; refine wpList_app rfl _ _ 24 rfl _ _ _ rfl rfl r6.out ?_)
    go_ret2
    exact ⟨g6, d6, rfl, hfin.out⟩
end Go.Proofs.Ytlckiipkndipiaa
