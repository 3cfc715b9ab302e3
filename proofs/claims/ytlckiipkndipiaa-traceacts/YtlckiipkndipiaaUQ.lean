/- Over this seat's translation: the document's Call. -/
import Derived.Test.YtlckiipkndipiaaUP
set_option linter.unusedVariables false
set_option linter.unusedSimpArgs false
set_option maxRecDepth 100000
set_option maxHeartbeats 4000000
namespace Go.Proofs.Ytlckiipkndipiaa
open Go.RowKit
/-- the labels of the document's host -/
def hid (k : Nat) : Prop := 10 ≤ k ∧ k < 15
/-- a list of ints that stands in a block of none of those labels -/
def Lk (lab : Nat → Nat) (w : World) (R : Option Addr) (m : Nat) (r : Nat → Int) : Prop := m = 0 ∨ ∃ g o, R = some ⟨g, o, none⟩ ∧ ¬ hid (lab g) ∧ ∀ j, j < m → w.cell? ⟨g, o + j, none⟩ = some (.int .i64 (r j))
theorem Lk.chg {lab lab' : Nat → Nat} {w w' : World} {R : Option Addr} {m : Nat} {r : Nat → Int} (h : Lk lab w R m r) (hc : Chg lab hid w w' lab') : Lk lab' w' R m r := by
  rcases h with h | ⟨g, o, rfl, h1, h2⟩
  · exact Or.inl h
  · by_cases h0 : m = 0
    · exact Or.inl h0
    · have hl := hc.lab_eq h1 (h2 0 (by omega))
      exact Or.inr ⟨g, o, rfl, by rw [hl]; exact h1, fun j hj => hc.cell h1 (h2 j hj)⟩
theorem Lk.lst {lab : Nat → Nat} {w : World} {R : Option Addr} {m : Nat} {r : Nat → Int} (h : Lk lab w R m r) : Lst w R m r := by
  rcases h with h | ⟨g, o, rfl, h1, h2⟩
  · exact Or.inl h
  · exact Or.inr ⟨g, o, rfl, h2⟩
/-- one call more written down -/
theorem hrd_more {lab : Nat → Nat} {w0 W : World} {p n m : Nat} {f : Nat → Vl} {c : Nat → Int} {a : Nat → Vl} {X : Option Addr} {cx : Nat} (l : Vl) (x : Int) (hL : Later w0 W) (h : Dh lab W w0.heap.size p n f m c a) (hm : m < 1000000) (hb : l.1 * 16 ≤ 140737488351232) (hX : Vst W X l.1 l.2.1 l.2.2) :
    ∃ A2 c2 g1 d1 w1 g2 d2 w2 lab', W.cell? ⟨p, 1, none⟩ = some (.slice A2 m c2) ∧
      Hid ((Builtin.append_ #[24, 24] 24 #[.slice (some ⟨W.heap.size, 0, none⟩) 0 0, .slice X l.1 cx]).run Try.prog (W.alloc (.cells #[] 56)) = .ok (.slice (some ⟨g1, 0, none⟩) l.1 d1) w1) ∧ w1.cell? ⟨p, 1, none⟩ = some (.slice A2 m c2) ∧ p < w1.heap.size ∧
      Hid ((Builtin.append_ #[46, 46] 46 #[.slice A2 m c2, .slice (some ⟨w1.heap.size, 0, none⟩) 1 1]).run Try.prog (w1.alloc (.cells #[.int .i64 x, .slice (some ⟨g1, 0, none⟩) l.1 d1] 52)) = .ok (.slice (some ⟨g2, 0, none⟩) (m + 1) d2) w2) ∧ w2.cell? ⟨p, 1, none⟩ = some (.slice A2 m c2) ∧ w2.frozen? ⟨p, 1, none⟩ = false ∧ p < w2.heap.size ∧ Hid (Later W w1) ∧
      Hid (Later w0 (w2.setCell ⟨p, 1, none⟩ (.slice (some ⟨g2, 0, none⟩) (m + 1) d2)) ∧ Chg lab hid W (w2.setCell ⟨p, 1, none⟩ (.slice (some ⟨g2, 0, none⟩) (m + 1) d2)) lab' ∧ Dh lab' (w2.setCell ⟨p, 1, none⟩ (.slice (some ⟨g2, 0, none⟩) (m + 1) d2)) w0.heap.size p n f (m + 1) (ups c m x) (ups a m l)) := by
  obtain ⟨ia, hi1, hi2, hi3, hi4⟩ := hrd_parts
  obtain ⟨h0, A1, c1, A2, c2, L1, L2, s0, f1, f2, f3, f4⟩ := h
  obtain ⟨g1, d1, w1, r1, o1, l1⟩ := app_vals X l.1 cx l.2.1 l.2.2 24 W hb hX
  obtain ⟨lab1, C1, hz⟩ := Chg.fresh (lab := lab) (S := fun _ => False) l1 14
  have hg1 := (owns_base o1).1
  have hv : Vin lab1 14 w1 w0.heap.size (.slice (some ⟨g1, 0, none⟩) l.1 d1) l := (vin_own (lab := lab1) (tag := 14) (l := l) o1 hb (hz g1 hg1)).base hL.size
  have s1 := s0.chg C1 (fun x => x)
  have F2 := f2.chg C1 (fun x => x)
  obtain ⟨g2, d2, w2, lab2, r2, G2, l2, C2⟩ := fld_more (P := Try.prog) (hL.trans l1) 46 46 52 ia (.agg #[.int .i64 0, .slice none 0 0]) 2 32 Try.underlying46 hi1 hi2 hi3 hi4 rfl (by decide) F2 [.int .i64 x, .slice (some ⟨g1, 0, none⟩) l.1 d1] rfl (one_hd _ _ _ _) (by unfold maxLen; omega) (by omega)
  have t0 := s1.chg C2 (by decide)
  obtain ⟨u0, C3⟩ := t0.set 1 (.slice (some ⟨g2, 0, none⟩) (m + 1) d2)
  have q1 : w1.cell? ⟨p, 1, none⟩ = some (.slice A2 m c2) := s1.1.cell (i := 1) (by decide)
  have q2 : w2.cell? ⟨p, 1, none⟩ = some (.slice A2 m c2) := t0.1.cell (i := 1) (by decide)
  refine ⟨A2, c2, g1, d1, w1, g2, d2, w2, lab2, s0.1.cell (i := 1) (by decide), r1, q1, cell_lt q1, r2, q2, t0.1.frozen 1, cell_lt q2, l1, t0.ltr l2 1 _, ((C1.wide (fun _ x => x.elim)).trans (C2.wide (by unfold hid; omega))).trans (C3.wide (by unfold hid; omega)), ?_⟩
  refine ⟨h0, A1, c1, _, _, L1, L2 ++ [.int .i64 x, .slice (some ⟨g1, 0, none⟩) l.1 d1], str_p1 u0, ((f1.chg C1 (fun x => x)).chg C2 (by decide)).chg C3 (by decide), G2.chg C3 (by decide), ((f3.chg C1 (fun x => x)).chg C2 (by decide)).chg C3 (by decide), ?_⟩
  exact (((f4.chg C1 (fun x => x)).chg C2 (by decide)).more (by have := f2.1.1; omega) (hv.chg C2 (by decide))).chg C3 (by decide)
theorem own_ait0 (W : World) (b : Nat) (hb : b = W.heap.size) : (W.alloc (.cells #[] 27)).ownsRow W.heap.size 27 1 (.slice (some ⟨b, 0, none⟩) 0 0) 0 [] := by
  subst hb
  exact ⟨rfl, Or.inr ⟨W.heap.size, 0, #[], rfl, Nat.le_refl _, heap_alloc_new W _, Nat.le_refl _, Nat.zero_le _, rfl, rfl⟩⟩
theorem slice_ans (A : Option Addr) (n cap : Nat) (ha : 1 ≤ n) (w : World) :
    (Instr.slice 22 (.slice A n cap) (some (.int .i64 1)) none none).run Try.prog w = .ok (.slice (if cap = 1 then A else A.map (·.add 1)) (n - 1) (cap - 1)) w := by
  obtain ⟨i0, hi, hz0, hz1, hz2⟩ := ans_parts
  have h1 : (1 : Int) ≤ (n : Int) := by omega
  simp [Instr.slice, run_underlying Try.underlying22, Instr.sliceBounds, run_sliceBound, sizeOf, typeInfo, hi, hz1, h1]
/-- the first answer taken: the others copied, stored -/
theorem ans_tail {lab : Nat → Nat} {w0 W : World} {p n m : Nat} {f : Nat → Vl} {c : Nat → Int} {a : Nat → Vl} (hL : Later w0 W) (h : Dh lab W w0.heap.size p (n + 1) f m c a) :
    ∃ g0 c1 S cs g2 d2 w2 lab', W.cell? ⟨p, 0, none⟩ = some (.slice (some ⟨g0, 0, none⟩) (n + 1) c1) ∧ W.cell? ⟨g0, 0, none⟩ = some (.slice S (f 0).1 cs) ∧ (f 0).1 * 16 ≤ 140737488351232 ∧
      Hid ((Builtin.append_ #[22, 22] 22 #[.slice (some ⟨W.heap.size, 0, none⟩) 0 0, .slice (if c1 = 1 then some ⟨g0, 0, none⟩ else (some (⟨g0, 0, none⟩ : Addr)).map (·.add 1)) n (c1 - 1)]).run Try.prog (W.alloc (.cells #[] 27)) = .ok (.slice (some ⟨g2, 0, none⟩) n d2) w2) ∧ w2.cell? ⟨p, 0, none⟩ = some (.slice (some ⟨g0, 0, none⟩) (n + 1) c1) ∧ w2.frozen? ⟨p, 0, none⟩ = false ∧ p < w2.heap.size ∧
      Hid (Later w0 (w2.setCell ⟨p, 0, none⟩ (.slice (some ⟨g2, 0, none⟩) n d2)) ∧ Chg lab hid W (w2.setCell ⟨p, 0, none⟩ (.slice (some ⟨g2, 0, none⟩) n d2)) lab' ∧ Dh lab' (w2.setCell ⟨p, 0, none⟩ (.slice (some ⟨g2, 0, none⟩) n d2)) w0.heap.size p n (fun i => f (i + 1)) m c a ∧ Vst (w2.setCell ⟨p, 0, none⟩ (.slice (some ⟨g2, 0, none⟩) n d2)) S (f 0).1 (f 0).2.1 (f 0).2.2) := by
  obtain ⟨ia, hi1, hi2, hi3, hi4⟩ := ans_parts
  obtain ⟨h0, A1, c1, A2, c2, L1, L2, s0, f1, f2, f3, f4⟩ := h
  obtain ⟨g0, rfl, hb0, hl0, ht0, hcap, _, hc0⟩ := f1.at_ (by omega)
  obtain ⟨u, hu, hv⟩ := f3 0 (by omega)
  obtain ⟨S, cs, rfl, hvb, hvs⟩ := hv.form
  have hlen : L1.length = n + 1 := by have := f1.1.1; omega
  have hrun : ∃ g2 d2 w2, (Builtin.append_ #[22, 22] 22 #[.slice (some ⟨W.heap.size, 0, none⟩) 0 0, .slice (if c1 = 1 then some ⟨g0, 0, none⟩ else (some (⟨g0, 0, none⟩ : Addr)).map (·.add 1)) n (c1 - 1)]).run Try.prog (W.alloc (.cells #[] 27)) = .ok (.slice (some ⟨g2, 0, none⟩) n d2) w2 ∧ w2.ownsRow W.heap.size 27 1 (.slice (some ⟨g2, 0, none⟩) n d2) n L1.tail ∧ Later W w2 := by
    by_cases hn : n = 0
    · subst hn
      have ht : L1.tail = [] := List.eq_nil_of_length_eq_zero (by simp [hlen])
      rw [ht]
      exact ⟨_, _, _, app_zero Try.underlying22 hi1 _ _ _ _ (heap_alloc_new W _), own_ait0 W _ rfl, La (Lz _)⟩
    · rw [if_neg (by omega)]
      simp only [Option.map_some, add_of, Nat.zero_add]
      obtain ⟨g, cap, w', x1, x2, x3⟩ := run_append_later (P := Try.prog) (La (Lz W)) 22 22 27 ia (.agg #[.slice none 0 0]) 1 24 Try.underlying22 hi1 hi2 hi3 hi4 rfl (by decide) _ 0 [] (own_ait0 W _ rfl) ⟨g0, 1, none⟩ n (c1 - 1) L1.tail (by simp [hlen]) (fun j v hv => by
        rw [List.getElem?_tail] at hv
        rw [add_of, Nat.add_comm 1 j]
        exact (La (Lz W)).cell_of (hc0 _ _ hv)) (fun v hv => by
        obtain ⟨j, hj⟩ := List.mem_iff_getElem?.1 hv
        rw [List.getElem?_tail] at hj
        have hjl : j + 1 < n + 1 := by have := (List.getElem?_eq_some_iff.1 hj).1; omega
        obtain ⟨u', k1, k2⟩ := f3 (j + 1) hjl
        rw [k1] at hj
        cases hj
        obtain ⟨S', cs', rfl, _⟩ := k2
        rfl) (by unfold maxLen; omega) (by omega) (by omega)
      rw [Nat.zero_add] at x1 x2
      exact ⟨g, cap, w', x1, x2, x3⟩
  obtain ⟨g2, d2, w2, r2, o2, l2⟩ := hrun
  obtain ⟨lab1, C1, hz⟩ := Chg.fresh (lab := lab) (S := fun _ => False) l2 11
  have hg2 := (owns_base o2).1
  have s1 := s0.chg C1 (fun x => x)
  obtain ⟨u0, C3⟩ := s1.set 0 (.slice (some ⟨g2, 0, none⟩) n d2)
  have q2 : w2.cell? ⟨p, 0, none⟩ = some (.slice (some ⟨g0, 0, none⟩) (n + 1) c1) := s1.1.cell (i := 0) (by decide)
  refine ⟨g0, c1, S, cs, g2, d2, w2, lab1, s0.1.cell (i := 0) (by decide), hc0 0 _ hu, hvb, r2, q2, s1.1.frozen 0, cell_lt q2, s1.ltr (hL.trans l2) 0 _, (C1.wide (fun _ x => x.elim)).trans (C3.wide (by unfold hid; omega)), ?_, ?_⟩
  · refine ⟨by omega, _, _, A2, c2, L1.tail, L2, str_p0 u0, ?_, (f2.chg C1 (fun x => x)).chg C3 (by decide), (f3.tail.chg C1 (fun x => x)).chg C3 (by decide), (f4.chg C1 (fun x => x)).chg C3 (by decide)⟩
    refine Fld.chg (lab := lab1) (t2 := 11) (w := w2) ⟨own_base o2 hL.size, fun g hg => ?_⟩ C3 (by decide)
    obtain rfl : g2 = g := Option.some.inj hg
    exact hz g2 hg2
  · exact ((hv.chg C1 (fun x => x)).chg C3 (by decide)).vst.2.2
theorem rcall_form (w : World) (p : Nat) (x : Int) (hx : x < 0) (P R X : Option Addr) (mp cp mr cr nx cx : Nat) :
    Calls Try.prog 12 #[.pointer (some ⟨p, 0, none⟩), .int .i64 x, .agg #[.slice P mp cp, .slice R mr cr], .slice X nx cx] w fun e w' => e = .returned (.tuple #[.slice none 0 0, .int .i64 1100]) ∧ Later w w' := by
  go_enter Try.func12, Try.ntmps12
  go_wp2
  go_ret2
  exact ⟨rfl, (by repeat first | exact Lz _ | apply La | apply Lv | apply Ld | apply Ln)⟩
theorem rcall_missing (lab : Nat → Nat) (w0 w : World) (p n m : Nat) (f : Nat → Vl) (c : Nat → Int) (a : Nat → Vl) (x : Int) (hx : ¬ x < 0) (P R X : Option Addr) (mp cp mr cr cx : Nat) (l : Vl) (hL : Hid (Later w0 w)) (h : Hid (Dh lab w w0.heap.size p n f m c a)) (hm : m < 1000000) (hb : l.1 * 16 ≤ 140737488351232) (hX : Hid (Vst w X l.1 l.2.1 l.2.2)) (hn : n = 0) :
    Calls Try.prog 12 #[.pointer (some ⟨p, 0, none⟩), .int .i64 x, .agg #[.slice P mp cp, .slice R mr cr], .slice X l.1 cx] w fun e w' => e = .returned (.tuple #[.slice none 0 0, .int .i64 1101]) ∧ Later w0 w' ∧ ∃ lab', Chg lab hid w w' lab' ∧ Dh lab' w' w0.heap.size p 0 f (m + 1) (ups c m x) (ups a m l) := by
  subst hn
  go_enter Try.func12, Try.ntmps12
  go_wp2_with fail
  obtain ⟨W, hW⟩ : ∃ W : World, W = w.alloc (.cells #[.slice P mp cp, .slice R mr cr] 36) := ⟨_, rfl⟩
  rw [← hW]
  have LW : Later w W := by rw [hW]; exact La (Lz _)
  have v1 : W.cell? ⟨w.heap.size, 1, none⟩ = some (.slice R mr cr) := by rw [hW]; simp [go_sem]
  clear hW
  obtain ⟨lab0, C0, hz⟩ := Chg.fresh (lab := lab) (S := fun _ => False) (Ld LW : Later w W.drew) 99
  have z0 := hz w.heap.size (Nat.le_refl _)
  obtain ⟨A2, c2, g1, d1, w1, g2, d2, w2, lab1, q0, r1, q1, lp1, r2, q2, fz, lp2, l1, hf⟩ := hrd_more (cx := cx) l x (hL.out.trans (Ld LW)) (h.out.chg C0 (fun _ _ _ x => x)) hm hb (hX.out.later (Ld LW))
  replace q0 : W.cell? ⟨p, 1, none⟩ = some (.slice A2 m c2) := q0
  have lp := cell_lt q0
  replace r1 : Hid ((Builtin.append_ #[24, 24] 24 #[.slice (some ⟨W.heap.size, 0, none⟩) 0 0, .slice X l.1 cx]).run Try.prog (W.alloc (.cells #[] 56)).drew = .ok (.slice (some ⟨g1, 0, none⟩) l.1 d1) w1) := r1
  obtain ⟨L3, C3, D3⟩ := hf.out
  have v3 := C3.cell (by rw [z0]; unfold hid; omega) (w := W.drew) v1
  have z3 : lab1 w.heap.size = 99 := C3.lab_to (w := W.drew) z0 (by unfold hid; omega) v1
  have C03 : Chg lab hid w _ lab1 := (C0.wide (fun _ x => x.elim)).trans C3
  replace C03 : Hid (Chg lab hid w (w2.setCell ⟨p, 1, none⟩ (.slice (some ⟨g2, 0, none⟩) (m + 1) d2)) lab1) := C03
  replace L3 : Hid (Later w0 (w2.setCell ⟨p, 1, none⟩ (.slice (some ⟨g2, 0, none⟩) (m + 1) d2))) := L3
  replace D3 : Hid (Dh lab1 (w2.setCell ⟨p, 1, none⟩ (.slice (some ⟨g2, 0, none⟩) (m + 1) d2)) w0.heap.size p 0 f (m + 1) (ups c m x) (ups a m l)) := D3
  replace v3 : Hid ((w2.setCell ⟨p, 1, none⟩ (.slice (some ⟨g2, 0, none⟩) (m + 1) d2)).cell? ⟨w.heap.size, 1, none⟩ = some (.slice R mr cr)) := v3
  clear hf l1 C3 hz z0 C0 LW v1 hL h hX hb
  go_region_law ((first | (refine step_app (by rfl) _ _ 24 (by rfl) _ _ _ (by rfl) (by rfl) r1.out ?_) | (refine step_app (by rfl) _ _ 46 (by rfl) _ _ _ (by rfl) (by rfl) r2.out ?_)))
  all_goals
    clear q0 r1 q1 lp1 r2 q2 fz lp2 lp
    generalize w2.setCell ⟨p, 1, none⟩ (.slice (some ⟨g2, 0, none⟩) (m + 1) d2) = W3 at *
    obtain ⟨_, A1, c1, _, _, _, _, s0, _⟩ := D3.out
    have k0 : W3.cell? ⟨p, 0, none⟩ = some (.slice A1 0 c1) := s0.1.cell (i := 0) (by decide)
    clear s0
    go_wp2
    go_ret2
    exact ⟨rfl, L3.out, lab1, C03.out, D3.out⟩
end Go.Proofs.Ytlckiipkndipiaa
