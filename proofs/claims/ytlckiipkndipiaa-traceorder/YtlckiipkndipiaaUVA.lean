/- Over this seat's translation: slices.Clone of a list of values; copied (package trace). -/
import Derived.Test.YtlckiipkndipiaaUW
import Derived.Lib.SliceRun
set_option linter.unusedVariables false
set_option linter.unusedSimpArgs false
set_option maxRecDepth 100000
set_option maxHeartbeats 4000000
namespace Go.Proofs.Ytlckiipkndipiaa
open Go.RowKit
/-- a list of its own: new, at the head of its row -/
def Cl (w w' : World) (A : Option Addr) (l : Vl) : Prop := l.1 = 0 ∨ ∃ g, Rv w' A l g ∧ w.heap.size ≤ g
theorem Cl.vst {w w' : World} {A : Option Addr} {l : Vl} (h : Cl w w' A l) : Vst w' A l.1 l.2.1 l.2.2 := by
  rcases h with h | ⟨g, h, _⟩
  · exact Or.inl h
  · exact h.vst
theorem rv_own {w : World} {B g cap : Nat} {l : Vl} (h : w.ownsRow B 56 2 (.slice (some ⟨g, 0, none⟩) l.1 cap) l.1 (vs l.2.1 l.2.2 l.1)) (h0 : 0 < l.1) : Rv w (some ⟨g, 0, none⟩) l g := by
  obtain ⟨g', e, hb, hl, ht, hc, ⟨cur, hcur, hsz⟩, hcell⟩ := Fld.at_ (lab := fun _ => 0) (tag := 0) ⟨h, fun _ _ => rfl⟩ h0
  cases e
  refine ⟨rfl, 56, cap * 2, fun i => cur.getD i (.int .i64 0), ⟨cur, hcur, hsz, fun i hi => by simp [Array.getD, hsz, hi]⟩, by omega, fun i hi => ?_⟩
  have k0 := hcell (i * 2) _ (vs_0 _ _ _ i hi)
  have k1 := hcell (i * 2 + 1) _ (vs_1 _ _ _ i hi)
  rw [cell_of_row _ _ _ _ _ _ hcur] at k0 k1
  exact ⟨by simp [Array.getD_eq_getD_getElem?, k0], by simp [Array.getD_eq_getD_getElem?, k1]⟩
theorem q34 : ∀ (w : World) (a : Option Addr) (n c n' c' : Nat), (binOp .eql 24 (.slice a n c) (.slice none n' c')).run Try.prog w = .ok (.bool a.isNone) w := fun w a n c n' c' => Lib.run_eql_slice_nil w _ _ a n c n' c' Try.underlying24
theorem clone_none (c : Nat) (w : World) :
    Calls Try.prog 20 #[.slice none 0 c] w fun e w' => e = .returned (.slice none 0 0) ∧ Later w w' := by
  have q := q34
  go_enter Try.func20, Try.ntmps20
  go_wp2
  go_ret
  exact ⟨rfl, Lz _⟩
theorem clone_some (a : Addr) (c n : Nat) (t b : Nat → Int) (w : World) (hb : n * 16 ≤ 140737488351232) (hV : Hid (Vst w (some a) n t b)) :
    Calls Try.prog 20 #[.slice (some a) n c] w fun e w' => ∃ g cap, e = .returned (.slice (some ⟨g, 0, none⟩) n cap) ∧ Hid (w'.ownsRow w.heap.size 56 2 (.slice (some ⟨g, 0, none⟩) n cap) n (vs t b n)) ∧ Hid (Later w w') := by
  obtain ⟨g, cap, w2, h1, h2, h3⟩ := app_vals (some a) n c t b 24 w hb hV
  replace h1 : Hid _ := h1
  replace h2 : Hid _ := h2
  replace h3 : Hid _ := h3
  have q := q34
  go_enter Try.func20, Try.ntmps20
  go_wp2_with (at_builtin; refine wpList_app rfl _ _ 24 rfl _ _ _ rfl rfl h1.out ?_)
  go_ret
  exact ⟨g, cap, rfl, h2, h3⟩
theorem clone_any (A : Option Addr) (c : Nat) (l : Vl) (w : World) (hb : l.1 * 16 ≤ 140737488351232) (hV : Vst w A l.1 l.2.1 l.2.2) :
    Calls Try.prog 20 #[.slice A l.1 c] w fun e w' => ∃ A' cap, e = .returned (.slice A' l.1 cap) ∧ Hid (Cl w w' A' l) ∧ Hid (Later w w') := by
  cases A with
  | none =>
    have h0 : l.1 = 0 := by
      rcases hV with h | ⟨g, o, h, _⟩
      · exact h
      · cases h
    rw [h0]
    exact (clone_none c w).mono fun e w' h => ⟨none, 0, h.1, Or.inl h0, h.2⟩
  | some a =>
    refine (clone_some a c l.1 l.2.1 l.2.2 w hb hV).mono ?_
    rintro e w' ⟨g, cap, rfl, h1, h2⟩
    refine ⟨_, cap, rfl, ?_, h2⟩
    by_cases h0 : l.1 = 0
    · exact Or.inl h0
    · exact Or.inr ⟨g, rv_own h1.out (by omega), (owns_base h1.out).1⟩
theorem Rv.turned {w w' : World} {A : Option Addr} {l : Vl} {g k : Nat} (h : Rv w A l g) (ht : Turned k w w') (hk : g ≠ k) : Rv w' A l g := by
  obtain ⟨hA, T, M, F, hr, h2⟩ := h
  exact ⟨hA, T, M, F, ht.row hr hk, h2⟩
theorem two_row (w : World) (a b : Value) (T : TypeId) : (w.alloc (.cells #[a, b] T)).rowIs w.heap.size T 2 (pr2 a b) := by
  refine World.rowIs_alloc w #[a, b] T _ ?_
  intro i hi
  match i, hi with
  | 0, _ => rfl
  | 1, _ => rfl
theorem copied_any (x : Int) (A : Option Addr) (c : Nat) (l : Vl) (w : World) (hb : l.1 * 16 ≤ 140737488351232) (hV : Vst w A l.1 l.2.1 l.2.2) :
    Calls Try.prog 21 #[.agg #[.int .i64 x, .slice A l.1 c]] w fun e w' => ∃ A' cap, e = .returned (.agg #[.int .i64 x, .slice A' l.1 cap]) ∧ Hid (Cl w w' A' l) ∧ Hid (Later w w') := by
  have hcl : Hid (∀ W, Later w W → Calls Try.prog 20 #[.slice A l.1 c] W fun e w' => ∃ A' cap, e = .returned (.slice A' l.1 cap) ∧ Hid (Cl W w' A' l) ∧ Hid (Later W w')) := fun W hl => clone_any A c l W hb (hV.later hl)
  clear hV
  go_enter Try.func21, Try.ntmps21
  go_wp2_with fail
  have r0 := (two_row w (.int .i64 x) (.slice A l.1 c) 52).alloc (.cells #[.int .i64 0, .slice none 0 0] 52)
  have r1 := two_row (w.alloc (.cells #[.int .i64 x, .slice A l.1 c] 52)) (.int .i64 0) (.slice none 0 0) 52
  rw [show (w.alloc (.cells #[.int .i64 x, .slice A l.1 c] 52)).heap.size = w.heap.size + 1 by simp] at r1
  have L0 : Hid (Later w ((w.alloc (.cells #[.int .i64 x, .slice A l.1 c] 52)).alloc (.cells #[.int .i64 0, .slice none 0 0] 52))) := La (La (Lz _))
  generalize (w.alloc (.cells #[.int .i64 x, .slice A l.1 c] 52)).alloc (.cells #[.int .i64 0, .slice none 0 0] 52) = W at *
  have v0 : W.cell? ⟨w.heap.size, 0, none⟩ = some (.int .i64 x) := r0.cell (i := 0) (by decide)
  have v1 : W.cell? ⟨w.heap.size, 1, none⟩ = some (.slice A l.1 c) := r0.cell (i := 1) (by decide)
  have lv := cell_lt v0
  replace r1 : Hid (W.rowIs (w.heap.size + 1) 52 2 (pr2 (.int .i64 0) (.slice none 0 0))) := r1
  clear r0
  go_region_law (go_simp; go_at_call 20; refine (hcl.out _ (Ld L0.out)).mono ?_; rintro e w2 ⟨A', cap, rfl, hc, hl⟩; have u0 := (later_of hl).cell_of (w := W.drew) v0; have lu := cell_lt u0; have R1 := rowIs_later (w := W.drew) hl.out r1.out; have k0 := R1.cell (i := 0) (by decide); have k1 := R1.cell (i := 1) (by decide); have f0 := R1.frozen 0; have f1 := R1.frozen 1)
  all_goals
    have T1 : Turned (w.heap.size + 1) w2 (w2.setCell ⟨w.heap.size + 1, 0, none⟩ (.int .i64 x)) := (Turned.refl R1).set R1 _ _
    have T2 := T1.set R1 1 (.slice A' l.1 cap)
    have R4 := (R1.set 0 (.int .i64 x)).set 1 (.slice A' l.1 cap)
    have hfin : Hid (Cl w ((w2.setCell ⟨w.heap.size + 1, 0, none⟩ (.int .i64 x)).setCell ⟨w.heap.size + 1, 1, none⟩ (.slice A' l.1 cap)) A' l ∧ Later w ((w2.setCell ⟨w.heap.size + 1, 0, none⟩ (.int .i64 x)).setCell ⟨w.heap.size + 1, 1, none⟩ (.slice A' l.1 cap))) := by
      refine ⟨?_, ((Ld L0.out).trans hl.out).turned R1 (by omega) T2⟩
      rcases hc.out with h | ⟨g, h1, h2⟩
      · exact Or.inl h
      · have h3 : W.heap.size ≤ g := h2
        have h4 := r1.out.lt
        exact Or.inr ⟨g, h1.turned T2 (by omega), by omega⟩
    have z0 : ((w2.setCell ⟨w.heap.size + 1, 0, none⟩ (.int .i64 x)).setCell ⟨w.heap.size + 1, 1, none⟩ (.slice A' l.1 cap)).cell? ⟨w.heap.size + 1, 0, none⟩ = some (.int .i64 x) := R4.cell (i := 0) (by decide)
    have z1 : ((w2.setCell ⟨w.heap.size + 1, 0, none⟩ (.int .i64 x)).setCell ⟨w.heap.size + 1, 1, none⟩ (.slice A' l.1 cap)).cell? ⟨w.heap.size + 1, 1, none⟩ = some (.slice A' l.1 cap) := R4.cell (i := 1) (by decide)
    clear T1 T2 R4 R1 k0 k1 f0 f1 hc hl u0 lu v0 v1 lv r1 L0 hcl
    generalize (w2.setCell ⟨w.heap.size + 1, 0, none⟩ (.int .i64 x)).setCell ⟨w.heap.size + 1, 1, none⟩ (.slice A' l.1 cap) = w4 at *
    go_wp2
    refine bodyPost_ret (v := .agg #[.int .i64 x, .slice A' l.1 cap]) (by simp [results, Try.results21, go_sem, z0, z1]) rfl ⟨A', cap, rfl, hfin.out.1, hfin.out.2⟩
end Go.Proofs.Ytlckiipkndipiaa
