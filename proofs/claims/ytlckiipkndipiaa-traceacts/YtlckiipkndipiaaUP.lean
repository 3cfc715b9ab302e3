/- Over this seat's translation: the document's NewHost. -/
import Derived.Test.YtlckiipkndipiaaUO
set_option linter.unusedVariables false
set_option linter.unusedSimpArgs false
set_option maxRecDepth 100000
set_option maxHeartbeats 4000000
namespace Go.Proofs.Ytlckiipkndipiaa
open Go.RowKit
/-- a list of lists of values, as it is handed in -/
def Anv (w : World) (A : Option Addr) (n : Nat) (f : Nat → Vl) : Prop := n = 0 ∨ ∃ bb oo, A = some ⟨bb, oo, none⟩ ∧ ∀ i, i < n → ∃ S c, w.cell? ⟨bb, oo + i, none⟩ = some (.slice S (f i).1 c) ∧ (f i).1 * 16 ≤ 140737488351232 ∧ Vst w S (f i).1 (f i).2.1 (f i).2.2
theorem Anv.later {w w' : World} {A : Option Addr} {n : Nat} {f : Nat → Vl} (h : Anv w A n f) (hl : Later w w') : Anv w' A n f := by
  rcases h with h | ⟨bb, oo, hA, h⟩
  · exact Or.inl h
  · refine Or.inr ⟨bb, oo, hA, fun i hi => ?_⟩
    obtain ⟨S, c, h1, h2, h3⟩ := h i hi
    exact ⟨S, c, hl.cell_of h1, h2, h3.later hl⟩
theorem ups_same {α : Type} (f : Nat → α) (k : Nat) : ups f k (f k) = f := by
  funext i
  unfold ups
  by_cases h : i = k
  · rw [if_pos h, h]
  · rw [if_neg h]
/-- one answer more: its values copied, appended, stored: what stands then, ahead of the walk -/
theorem ans_more {lab : Nat → Nat} {w0 W : World} {p n m : Nat} {f : Nat → Vl} {c : Nat → Int} {a : Nat → Vl} {S : Option Addr} {cs : Nat} (hL : Later w0 W) (h : Dh lab W w0.heap.size p n f m c a) (hn : (n + 1) * 24 ≤ 140737488351232) (hb : (f n).1 * 16 ≤ 140737488351232) (hS : Vst W S (f n).1 (f n).2.1 (f n).2.2) :
    ∃ A1 c1 g1 d1 w1 g2 d2 w2 lab', W.cell? ⟨p, 0, none⟩ = some (.slice A1 n c1) ∧
      Hid ((Builtin.append_ #[24, 24] 24 #[.slice (some ⟨W.heap.size, 0, none⟩) 0 0, .slice S (f n).1 cs]).run Try.prog (W.alloc (.cells #[] 56)) = .ok (.slice (some ⟨g1, 0, none⟩) (f n).1 d1) w1) ∧ w1.cell? ⟨p, 0, none⟩ = some (.slice A1 n c1) ∧ p < w1.heap.size ∧
      Hid ((Builtin.append_ #[22, 22] 22 #[.slice A1 n c1, .slice (some ⟨w1.heap.size, 0, none⟩) 1 1]).run Try.prog (w1.alloc (.cells #[.slice (some ⟨g1, 0, none⟩) (f n).1 d1] 27)) = .ok (.slice (some ⟨g2, 0, none⟩) (n + 1) d2) w2) ∧ w2.cell? ⟨p, 0, none⟩ = some (.slice A1 n c1) ∧ w2.frozen? ⟨p, 0, none⟩ = false ∧ p < w2.heap.size ∧ Hid (Later W w1) ∧
      Hid (Later w0 (w2.setCell ⟨p, 0, none⟩ (.slice (some ⟨g2, 0, none⟩) (n + 1) d2)) ∧ Chg lab (fun k => 10 ≤ k ∧ k < 15) W (w2.setCell ⟨p, 0, none⟩ (.slice (some ⟨g2, 0, none⟩) (n + 1) d2)) lab' ∧ Dh lab' (w2.setCell ⟨p, 0, none⟩ (.slice (some ⟨g2, 0, none⟩) (n + 1) d2)) w0.heap.size p (n + 1) f m c a) := by
  obtain ⟨ia, hi1, hi2, hi3, hi4⟩ := ans_parts
  obtain ⟨h0, A1, c1, A2, c2, L1, L2, s0, f1, f2, f3, f4⟩ := h
  obtain ⟨g1, d1, w1, r1, o1, l1⟩ := app_vals S (f n).1 cs (f n).2.1 (f n).2.2 24 W hb hS
  obtain ⟨lab1, C1, hz⟩ := Chg.fresh (lab := lab) (S := fun _ => False) l1 12
  have hg1 := (owns_base o1).1
  have hv : Vin lab1 12 w1 w0.heap.size (.slice (some ⟨g1, 0, none⟩) (f n).1 d1) (f n) := by
    obtain ⟨A', cap', e, x1, x2⟩ := vin_own (lab := lab1) (tag := 12) (l := f n) o1 hb (hz g1 hg1)
    refine ⟨A', cap', e, x1, ?_⟩
    rcases x2 with x2 | ⟨g, o, x3, x4, x5, x6⟩
    · exact Or.inl x2
    · exact Or.inr ⟨g, o, x3, x4, Nat.le_trans hL.size x5, x6⟩
  replace s0 := And.intro s0 (s0.chg C1 (fun x => x))
  have F1 := f1.chg C1 (fun x => x)
  obtain ⟨g2, d2, w2, lab2, r2, G1, l2, C2⟩ := fld_more (P := Try.prog) (hL.trans l1) 22 22 27 ia (.agg #[.slice none 0 0]) 1 24 Try.underlying22 hi1 hi2 hi3 hi4 rfl (by decide) F1 [.slice (some ⟨g1, 0, none⟩) (f n).1 d1] rfl (one_sl _ _ _) (by unfold maxLen; omega) (by omega)
  have t0 := s0.2.chg C2 (by decide)
  obtain ⟨u0, C3⟩ := t0.set 0 (.slice (some ⟨g2, 0, none⟩) (n + 1) d2)
  have q1 : w1.cell? ⟨p, 0, none⟩ = some (.slice A1 n c1) := s0.2.1.cell (i := 0) (by decide)
  have q2 : w2.cell? ⟨p, 0, none⟩ = some (.slice A1 n c1) := t0.1.cell (i := 0) (by decide)
  refine ⟨A1, c1, g1, d1, w1, g2, d2, w2, lab2, s0.1.1.cell (i := 0) (by decide), r1, q1, cell_lt q1, r2, q2, t0.1.frozen 0, cell_lt q2, l1, t0.ltr l2 0 _, ((C1.wide (fun _ x => x.elim)).trans (C2.wide (by omega))).trans (C3.wide (by omega)), ?_⟩
  refine ⟨by omega, _, _, A2, c2, L1 ++ [.slice (some ⟨g1, 0, none⟩) (f n).1 d1], L2, str_p0 u0, G1.chg C3 (by decide), ((f2.chg C1 (fun x => x)).chg C2 (by decide)).chg C3 (by decide), ?_, ((f4.chg C1 (fun x => x)).chg C2 (by decide)).chg C3 (by decide)⟩
  have hm := ((f3.chg C1 (fun x => x)).chg C2 (by decide)).more (by have := f1.1.1; omega) (hv.chg C2 (by decide))
  rw [ups_same] at hm
  exact hm.chg C3 (by decide)
theorem dh_none (lab : Nat → Nat) (w0 w : World) (hB : w0.heap.size ≤ w.heap.size) (f : Nat → Vl) (c : Nat → Int) (a : Nat → Vl) : ∃ lab', Chg lab (fun _ => False) w (w.alloc (.cells #[.slice none 0 0, .slice none 0 0] 48)) lab' ∧ Dh lab' (w.alloc (.cells #[.slice none 0 0, .slice none 0 0] 48)) w0.heap.size w.heap.size 0 f 0 c a := by
  obtain ⟨lab1, C1, hz⟩ := Chg.fresh (lab := lab) (S := fun _ => False) (La (Lz w) : Later w (w.alloc (.cells #[.slice none 0 0, .slice none 0 0] 48))) 10
  have h2 := World.rowIs_alloc w #[.slice none 0 0, .slice none 0 0] 48 (pr2 (.slice none 0 0) (.slice none 0 0)) (by
    intro i hi
    match i, hi with
    | 0, _ => rfl
    | 1, _ => rfl)
  exact ⟨lab1, C1, by decide, none, 0, none, 0, [], [], ⟨by simpa using h2, hB, hz _ (Nat.le_refl _)⟩, ⟨World.ownsRow_nil _ _ _ _, fun g hg => by cases hg⟩, ⟨World.ownsRow_nil _ _ _ _, fun g hg => by cases hg⟩, fun i hi => by omega, fun i hi => by omega⟩
theorem own_base {w : World} {B B' : Nat} {e : TypeId} {size n : Nat} {v : Value} {L : List Value} (h : w.ownsRow B e size v n L) (hB : B' ≤ B) : w.ownsRow B' e size v n L := by
  refine ⟨h.1, ?_⟩
  rcases h.2 with h2 | ⟨g, c, cur, h2, h3, h4⟩
  · exact Or.inl h2
  · exact Or.inr ⟨g, c, cur, h2, Nat.le_trans hB h3, h4⟩
theorem Vin.base {lab : Nat → Nat} {tag : Nat} {w : World} {B B' : Nat} {u : Value} {l : Vl} (h : Vin lab tag w B u l) (hB : B' ≤ B) : Vin lab tag w B' u l := by
  obtain ⟨A, cap, e, h0, h1⟩ := h
  refine ⟨A, cap, e, h0, ?_⟩
  rcases h1 with h1 | ⟨g, o, h2, h3, h4, h5⟩
  · exact Or.inl h1
  · exact Or.inr ⟨g, o, h2, h3, Nat.le_trans hB h4, h5⟩
theorem Dh.base {lab : Nat → Nat} {w : World} {B B' p n m : Nat} {f : Nat → Vl} {c : Nat → Int} {a : Nat → Vl} (h : Dh lab w B p n f m c a) (hB : B' ≤ B) : Dh lab w B' p n f m c a := by
  obtain ⟨h0, A1, c1, A2, c2, L1, L2, s0, f1, f2, f3, f4⟩ := h
  refine ⟨h0, A1, c1, A2, c2, L1, L2, ⟨s0.1, Nat.le_trans hB s0.2.1, s0.2.2⟩, ⟨own_base f1.1 hB, f1.2⟩, ⟨own_base f2.1 hB, f2.2⟩, fun i hi => ?_, fun i hi => ?_⟩
  · obtain ⟨u, x1, x2⟩ := f3 i hi
    exact ⟨u, x1, x2.base hB⟩
  · obtain ⟨x0, u, x1, x2⟩ := f4 i hi
    exact ⟨x0, u, x1, x2.base hB⟩
theorem Dh.zero {lab : Nat → Nat} {w : World} {B p n : Nat} {f : Nat → Vl} {c : Nat → Int} {a : Nat → Vl} (h : Dh lab w B p n f 0 c a) (c' : Nat → Int) (a' : Nat → Vl) : Dh lab w B p n f 0 c' a' := by
  obtain ⟨h0, A1, c1, A2, c2, L1, L2, s0, f1, f2, f3, f4⟩ := h
  exact ⟨h0, A1, c1, A2, c2, L1, L2, s0, f1, f2, f3, fun i hi => by omega⟩
section
variable {lab lab' : Nat → Nat} {w : World} {B tag : Nat}
theorem Vin.relab {u : Value} {l : Vl} (h : Vin lab tag w B u l) (he : ∀ k, B ≤ k → lab' k = lab k) : Vin lab' tag w B u l := by
  obtain ⟨A, cap, e, h0, h1⟩ := h
  refine ⟨A, cap, e, h0, ?_⟩
  rcases h1 with h1 | ⟨g, o, h2, h3, h4, h5⟩
  · exact Or.inl h1
  · exact Or.inr ⟨g, o, h2, by rw [he g h4]; exact h3, h4, h5⟩
theorem Hrd.relab {L : List Value} {m : Nat} {c : Nat → Int} {a : Nat → Vl} (h : Hrd lab tag w B L m c a) (he : ∀ k, B ≤ k → lab' k = lab k) : Hrd lab' tag w B L m c a := fun i hi => by
  obtain ⟨x0, u, x1, x2⟩ := h i hi
  exact ⟨x0, u, x1, x2.relab he⟩
theorem Ans.relab {L : List Value} {n : Nat} {f : Nat → Vl} (h : Ans lab tag w B L n f) (he : ∀ k, B ≤ k → lab' k = lab k) : Ans lab' tag w B L n f := fun i hi => by
  obtain ⟨u, x1, x2⟩ := h i hi
  exact ⟨u, x1, x2.relab he⟩
theorem Dh.relab {p n m : Nat} {f : Nat → Vl} {c : Nat → Int} {a : Nat → Vl} (h : Dh lab w B p n f m c a) (he : ∀ k, B ≤ k → lab' k = lab k) : Dh lab' w B p n f m c a := by
  obtain ⟨h0, A1, c1, A2, c2, L1, L2, s0, f1, f2, f3, f4⟩ := h
  exact ⟨h0, A1, c1, A2, c2, L1, L2, s0.relab he, f1.relab he, f2.relab he, f3.relab he, f4.relab he⟩
end
theorem newhost_any (lab : Nat → Nat) (w0 w : World) (hL : Hid (Later w0 w)) (A : Option Addr) (n cap : Nat) (f : Nat → Vl) (hn : n * 24 ≤ 140737488351232) (hA : Hid (Anv w A n f)) :
    Calls Try.prog 8 #[.slice A n cap] w fun e w' => ∃ p, e = .returned (.pointer (some ⟨p, 0, none⟩)) ∧ Later w w' ∧ ∀ c a, ∃ lab', Chg lab (fun _ => False) w w' lab' ∧ Dh lab' w' w0.heap.size p n f 0 c a := by
  obtain ⟨labS, CS, DS⟩ := dh_none lab w w (Nat.le_refl _) f (fun _ => 0) (fun _ => (0, fun _ => 0, fun _ => 0))
  have hstart : Hid (∃ lab', Dh lab' (w.alloc (.cells #[.slice none 0 0, .slice none 0 0] 48)) w.heap.size w.heap.size 0 f 0 (fun _ => 0) (fun _ => (0, fun _ => 0, fun _ => 0))) := ⟨labS, DS⟩
  clear CS DS
  go_enter Try.func8, Try.ntmps8
  go_wp2_with fail
  go_loopw [4] (fun i wr => ∃ j : Nat, j ≤ n ∧ i = .int .i64 (j : Nat) ∧ Later w wr ∧ ∃ lab', Dh lab' wr w.heap.size w.heap.size j f 0 (fun _ => 0) (fun _ => (0, fun _ => 0, fun _ => 0))) (fun i _ => n - (intOf i).toNat)
  case atStart => exact ⟨0, Nat.zero_le _, rfl, La (Lz _), hstart.out⟩
  case round =>
    obtain ⟨j, hj, rfl, hW, lab1, D⟩ := hrel
    clear hstart
    by_cases hlt : j < n
    · have hl1 : (j : Int) < (n : Int) := by omega
      obtain ⟨bb, oo, rfl, hc⟩ := hA.out.resolve_left (by omega)
      obtain ⟨S, cs, k1, k2, k3⟩ := hc j hlt
      have a0 := hW.cell_of k1
      have la := cell_lt a0
      obtain ⟨A1, c1, g1, d1, w1, g2, d2, w2, lab2, q0, r1, q1, lp1, r2, q2, fz, lp2, l1, hf⟩ := ans_more (cs := cs) (Ld hW) (D.later (Ld (Lz _))) (by omega) k2 (k3.later (Ld hW))
      replace q0 : wr.cell? ⟨w.heap.size, 0, none⟩ = some (.slice A1 j c1) := q0
      have lp := cell_lt q0
      have a1 := (later_of l1).cell_of (w := wr.drew) a0
      have la1 := cell_lt a1
      replace r1 : Hid ((Builtin.append_ #[24, 24] 24 #[.slice (some ⟨wr.heap.size, 0, none⟩) 0 0, .slice S (f j).1 cs]).run Try.prog (wr.alloc (.cells #[] 56)).drew = .ok (.slice (some ⟨g1, 0, none⟩) (f j).1 d1) w1) := r1
      have hfin : Hid (Later w (w2.setCell ⟨w.heap.size, 0, none⟩ (.slice (some ⟨g2, 0, none⟩) (j + 1) d2)) ∧ ∃ lab', Dh lab' (w2.setCell ⟨w.heap.size, 0, none⟩ (.slice (some ⟨g2, 0, none⟩) (j + 1) d2)) w.heap.size w.heap.size (j + 1) f 0 (fun _ => 0) (fun _ => (0, fun _ => 0, fun _ => 0))) :=
        ⟨hf.out.1, lab2, hf.out.2.2⟩
      clear hf l1 D hW hc k1 k3 hA
      go_wp2
      go_region_law ((first | (refine step_app (by rfl) _ _ 24 (by rfl) _ _ _ (by rfl) (by rfl) r1.out ?_) | (refine step_app (by rfl) _ _ 22 (by rfl) _ _ _ (by rfl) (by rfl) r2.out ?_)))
      all_goals
        go_wp2
        go_roundw
        case rel => exact ⟨j + 1, by omega, by go_num, hfin.out.1, hfin.out.2⟩
        case measure => simp [intOf]; omega
    · have hje : j = n := by omega
      subst hje
      have hfin : Hid (Later w wr ∧ ∀ c a, ∃ lab', Chg lab (fun _ => False) w wr lab' ∧ Dh lab' wr w0.heap.size w.heap.size j f 0 c a) := ⟨hW, fun c a => ⟨fun k => if k < w.heap.size then lab k else lab1 k, ⟨hW.size, fun k hk _ => ⟨if_pos hk, hW.block hk⟩⟩, ((D.relab (fun k hk => if_neg (by omega))).base hL.out.size).zero c a⟩⟩
      clear hW D hA hL
      go_wp2
      go_ret
      exact ⟨_, rfl, hfin.out⟩
end Go.Proofs.Ytlckiipkndipiaa
