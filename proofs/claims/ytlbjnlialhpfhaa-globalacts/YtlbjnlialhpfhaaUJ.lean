/- Over this seat's translation: the document's globals (package pelorusref8). -/
import Derived.Test.YtlbjnlialhpfhaaUI
set_option linter.unusedVariables false
set_option linter.unusedSimpArgs false
set_option maxRecDepth 100000
set_option maxHeartbeats 4000000
namespace Go.Proofs.Ytlbjnlialhpfhaa
open Go.RowKit
def two (a b : Value) : Nat → Value := fun i => if i = 0 then a else b
/-- globals of the document: a struct of two lists; labels 10 to 12 -/
def Doc (lab : Nat → Nat) (w : World) (B p n : Nat) (t : Nat → Int) (m : Nat → Bool) (b : Nat → Int) : Prop :=
  n ≤ 1024 ∧ ∃ A1 A2 c1 c2, Str lab 10 w B p 29 2 (two (.slice A1 n c1) (.slice A2 n c2)) ∧ Fld lab 11 w B 31 2 (.slice A1 n c1) n (vs t b n) ∧ Fld lab 12 w B 4 1 (.slice A2 n c2) n (bs m n)
theorem Doc.chg {lab lab' : Nat → Nat} {S : Nat → Prop} {w w' : World} {B p n : Nat} {t : Nat → Int} {m : Nat → Bool} {b : Nat → Int} (h : Doc lab w B p n t m b) (hc : Chg lab S w w' lab') (hs : ∀ k, S k → k < 10) : Doc lab' w' B p n t m b := by
  obtain ⟨hn, A1, A2, c1, c2, h0, h1, h2⟩ := h
  exact ⟨hn, A1, A2, c1, c2, h0.chg hc (fun x => by have := hs _ x; omega), h1.chg hc (fun x => by have := hs _ x; omega), h2.chg hc (fun x => by have := hs _ x; omega)⟩
theorem Doc.later {lab : Nat → Nat} {w w' : World} {B p n : Nat} {t : Nat → Int} {m : Nat → Bool} {b : Nat → Int} (h : Doc lab w B p n t m b) (hl : Later w w') : Doc lab w' B p n t m b := h.chg (S := fun _ => False) (Chg.of_later hl) (fun k hk => hk.elim)
theorem str_t0 {lab : Nat → Nat} {w : World} {B p : Nat} {T : TypeId} {a b v : Value} (h : Str lab 10 w B p T 2 (fun j => if j = 0 then v else two a b j)) : Str lab 10 w B p T 2 (two v b) := by
  refine ⟨h.1.congr fun i hi => ?_, h.2⟩
  match i, hi with
  | 0, _ => rfl
  | 1, _ => rfl
theorem str_t1 {lab : Nat → Nat} {w : World} {B p : Nat} {T : TypeId} {a b v : Value} (h : Str lab 10 w B p T 2 (fun j => if j = 1 then v else two a b j)) : Str lab 10 w B p T 2 (two a v) := by
  refine ⟨h.1.congr fun i hi => ?_, h.2⟩
  match i, hi with
  | 0, _ => rfl
  | 1, _ => rfl
theorem one_val (x y : Int) : ∀ u ∈ [Value.int .i64 x, Value.int .i64 y], u.oneCell' = true := by
  intro u hu
  simp only [List.mem_cons, List.not_mem_nil, or_false] at hu
  rcases hu with rfl | rfl <;> rfl
/-- no globals -/
theorem rnew (lab : Nat → Nat) (w : World) (B : Nat) (hB : B ≤ w.heap.size) (t : Nat → Int) (m : Nat → Bool) (b : Nat → Int) : ∃ lab', Chg lab (fun _ => False) w (w.alloc (.cells #[.slice none 0 0, .slice none 0 0] 29)) lab' ∧ Doc lab' (w.alloc (.cells #[.slice none 0 0, .slice none 0 0] 29)) B w.heap.size 0 t m b := by
  obtain ⟨lab1, C1, hz⟩ := Chg.fresh (lab := lab) (S := fun _ => False) (La (Lz w) : Later w (w.alloc (.cells #[.slice none 0 0, .slice none 0 0] 29))) 10
  have h2 := World.rowIs_alloc w #[.slice none 0 0, .slice none 0 0] 29 (two (.slice none 0 0) (.slice none 0 0)) (by
    intro i hi
    match i, hi with
    | 0, _ => rfl
    | 1, _ => rfl)
  exact ⟨lab1, C1, by decide, none, none, 0, 0, ⟨by simpa using h2, hB, hz _ (Nat.le_refl _)⟩, ⟨World.ownsRow_nil _ _ _ _, fun g hg => by cases hg⟩, ⟨World.ownsRow_nil _ _ _ _, fun g hg => by cases hg⟩⟩
theorem radd_ok (lab : Nat → Nat) (w0 w : World) (p n : Nat) (t : Nat → Int) (m : Nat → Bool) (b : Nat → Int) (x y : Int) (μ : Bool) (hL : Hid (Later w0 w)) (h : Hid (Doc lab w w0.heap.size p n t m b)) (hm : Hid (may x y = true)) (hn : n < 1024) :
    Calls Try.prog 9 #[.pointer (some ⟨p, 0, none⟩), .agg #[.int .i64 x, .int .i64 y], .bool μ] w fun e w' => e = .returned (.int .i64 0) ∧ Later w0 w' ∧ ∃ lab', Chg lab (fun k => 10 ≤ k ∧ k < 99) w w' lab' ∧ Doc lab' w' w0.heap.size p (n + 1) (upd t n x) (upd m n μ) (upd b n y) := by
  obtain ⟨iv, hi1, hi2, hi3, hi4⟩ := val_parts
  obtain ⟨ib, hb1, hb2, hb3, hb4⟩ := bool_parts
  go_enter Try.func9, Try.ntmps9
  go_wp2_with fail
  refine (valmay_any x y true hm _).mono ?_
  rintro e w1 ⟨rfl, h1⟩
  have hl1 : decide (1024 ≤ (n : Int)) = false := decide_eq_false (by omega)
  have v0 : w1.cell? ⟨w.heap.size, 0, none⟩ = some (.int .i64 x) := h1.cell_of (by simp [go_sem])
  have v1 : w1.cell? ⟨w.heap.size, 1, none⟩ = some (.int .i64 y) := h1.cell_of (by simp [go_sem])
  have L1 : Later w w1.drew := Ld ((La (Lz _)).trans h1)
  have hlv := cell_lt v0
  obtain ⟨lab1, C1, hz⟩ := Chg.fresh (lab := lab) (S := fun _ => False) L1 99
  obtain ⟨_, A1, A2, c1, c2, s0, f1, f2⟩ := h.out.chg C1 (fun k hk => hk.elim)
  have L0 : Later w0 w1.drew := hL.out.trans L1
  have q0 : w1.cell? ⟨p, 0, none⟩ = some (.slice A1 n c1) := s0.1.cell (i := 0) (by decide)
  have lp := cell_lt q0
  obtain ⟨g1, d1, w2, lab2, r1, F1, L2, C2⟩ := fld_more (P := Try.prog) L0 26 26 31 iv (.agg #[.int .i64 0, .int .i64 0]) 2 16 Try.underlying26 hi1 hi2 hi3 hi4 rfl (by decide) f1 [.int .i64 x, .int .i64 y] rfl (one_val x y) (by unfold maxLen; omega) (by omega)
  replace r1 : Hid ((Builtin.append_ #[26, 26] 26 #[.slice A1 n c1, .slice (some ⟨w1.heap.size, 0, none⟩) 1 1]).run Try.prog (w1.alloc (.cells #[.int .i64 x, .int .i64 y] 31)).drew = .ok (.slice (some ⟨g1, 0, none⟩) (n + 1) d1) w2) := r1
  have t0 := s0.chg C2 (by decide)
  have q00 : w2.cell? ⟨p, 0, none⟩ = some (.slice A1 n c1) := t0.1.cell (i := 0) (by decide)
  have fz0 := t0.1.frozen 0
  have lp2 := cell_lt q00
  go_wp2
  go_region_law ((refine step_app (by rfl) _ _ 26 (by rfl) _ _ _ (by rfl) (by rfl) r1.out ?_))
  all_goals
    obtain ⟨u0, C3⟩ := t0.set 0 (.slice (some ⟨g1, 0, none⟩) (n + 1) d1)
    replace u0 := str_t0 u0
    have L3 := t0.ltr L2 0 (.slice (some ⟨g1, 0, none⟩) (n + 1) d1)
    generalize w2.setCell ⟨p, 0, none⟩ (.slice (some ⟨g1, 0, none⟩) (n + 1) d1) = W2 at *
    have D2 : Chg lab (fun k => 10 ≤ k ∧ k < 99) w W2 lab2 := (((C1.wide (fun _ hk => hk.elim))).trans (C2.wide (by omega))).trans (C3.wide (by omega))
    replace F1 := F1.chg C3 (by decide)
    replace f2 := (f2.chg C2 (by decide)).chg C3 (by decide)
    clear v0 v1 h1 L1 L0 L2 C1 C2 C3 s0 t0 f1 q0 q00 r1 fz0 hlv lp lp2 hz
    obtain ⟨g2, d2, w3, lab3, r2, F2, L4, C4⟩ := fld_more (P := Try.prog) L3 27 27 4 ib (.bool false) 1 1 Try.underlying27 hb1 hb2 hb3 hb4 rfl (by decide) f2 [.bool μ] rfl (one_bool μ) (by unfold maxLen; omega) (by omega)
    replace r2 : Hid ((Builtin.append_ #[27, 27] 27 #[.slice A2 n c2, .slice (some ⟨W2.heap.size, 0, none⟩) 1 1]).run Try.prog (W2.alloc (.cells #[.bool μ] 4)) = .ok (.slice (some ⟨g2, 0, none⟩) (n + 1) d2) w3) := r2
    have q1 : W2.cell? ⟨p, 1, none⟩ = some (.slice A2 n c2) := u0.1.cell (i := 1) (by decide)
    have lpW := cell_lt q1
    have t1 := u0.chg C4 (by decide)
    have q10 : w3.cell? ⟨p, 1, none⟩ = some (.slice A2 n c2) := t1.1.cell (i := 1) (by decide)
    have fz1 := t1.1.frozen 1
    obtain ⟨u1, C5⟩ := t1.set 1 (.slice (some ⟨g2, 0, none⟩) (n + 1) d2)
    replace u1 := str_t1 u1
    have L5 := t1.ltr L4 1 (.slice (some ⟨g2, 0, none⟩) (n + 1) d2)
    have hfin : Hid (Later w0 (w3.setCell ⟨p, 1, none⟩ (.slice (some ⟨g2, 0, none⟩) (n + 1) d2)) ∧ ∃ lab', Chg lab (fun k => 10 ≤ k ∧ k < 99) w (w3.setCell ⟨p, 1, none⟩ (.slice (some ⟨g2, 0, none⟩) (n + 1) d2)) lab' ∧ Doc lab' (w3.setCell ⟨p, 1, none⟩ (.slice (some ⟨g2, 0, none⟩) (n + 1) d2)) w0.heap.size p (n + 1) (upd t n x) (upd m n μ) (upd b n y)) := by
      refine ⟨L5, lab3, (D2.trans (C4.wide (by omega))).trans (C5.wide (by omega)), hn, _, _, _, _, u1, ?_, ?_⟩
      · rw [← vs_upd]; exact (F1.chg C4 (by decide)).chg C5 (by decide)
      · rw [← bs_upd]; exact F2.chg C5 (by decide)
    clear L3 L4 L5 C4 C5 u0 u1 t1 f2 F1 F2 D2
    go_wp2_with (at_builtin; refine wpList_app rfl _ _ 27 rfl _ _ _ rfl rfl r2.out ?_)
    go_ret
    exact ⟨rfl, hfin.out⟩
theorem radd_form (w : World) (p : Nat) (x y : Int) (μ : Bool) (hm : Hid (may x y = false)) :
    Calls Try.prog 9 #[.pointer (some ⟨p, 0, none⟩), .agg #[.int .i64 x, .int .i64 y], .bool μ] w fun e w' => e = .returned (.int .i64 1000) ∧ Later w w' := by
  go_enter Try.func9, Try.ntmps9
  go_wp2_with fail
  refine (valmay_any x y false hm _).mono ?_
  rintro e w1 ⟨rfl, h1⟩
  have L1 : Hid (Later w w1) := (La (Lz _)).trans h1
  clear h1
  go_wp2
  go_ret
  exact ⟨rfl, L1.out⟩
theorem radd_full (lab : Nat → Nat) (w : World) (B p n : Nat) (t : Nat → Int) (m : Nat → Bool) (b : Nat → Int) (x y : Int) (μ : Bool) (h : Hid (Doc lab w B p n t m b)) (hm : Hid (may x y = true)) (hn : 1024 ≤ n) :
    Calls Try.prog 9 #[.pointer (some ⟨p, 0, none⟩), .agg #[.int .i64 x, .int .i64 y], .bool μ] w fun e w' => e = .returned (.int .i64 1000) ∧ Later w w' := by
  go_enter Try.func9, Try.ntmps9
  go_wp2_with fail
  refine (valmay_any x y true hm _).mono ?_
  rintro e w1 ⟨rfl, h1⟩
  have L1 : Hid (Later w w1) := (La (Lz _)).trans h1
  obtain ⟨_, A1, A2, c1, c2, s0, f1, f2⟩ := h.out.later L1.out
  have q0 : w1.cell? ⟨p, 0, none⟩ = some (.slice A1 n c1) := s0.1.cell (i := 0) (by decide)
  have hl1 : decide (1024 ≤ (n : Int)) = true := decide_eq_true (by omega)
  clear h1 s0 f1 f2
  go_wp2
  go_ret
  exact ⟨rfl, L1.out⟩
theorem rget_out (lab : Nat → Nat) (w : World) (B p n : Nat) (t : Nat → Int) (m : Nat → Bool) (b : Nat → Int) (k : Int) (h : Hid (Doc lab w B p n t m b)) (hk : ¬ (0 ≤ k ∧ k < (n : Int))) :
    Calls Try.prog 13 #[.pointer (some ⟨p, 0, none⟩), .int .i64 k] w fun e w' => e = .returned (.tuple #[.agg #[.int .i64 0, .int .i64 0], .int .i64 1000]) ∧ Later w w' := by
  obtain ⟨_, A1, A2, c1, c2, s0, f1, f2⟩ := h.out
  have q0 : w.cell? ⟨p, 0, none⟩ = some (.slice A1 n c1) := s0.1.cell (i := 0) (by decide)
  have lp := cell_lt q0
  clear h s0 f1 f2
  replace hk : k < 0 ∨ (¬ k < 0 ∧ (n : Int) ≤ k) := by omega
  rcases hk with h1 | ⟨h1, h2⟩
  all_goals
    go_enter Try.func13, Try.ntmps13
    go_wp2
    refine bodyPost_ret (v := .tuple #[.agg #[.int .i64 0, .int .i64 0], .int .i64 1000]) (by simp [results, Try.results13, go_sem]) rfl ⟨rfl, (by repeat first | exact Lz _ | apply La | apply Lv | apply Ld | apply Ln)⟩
theorem rget_in (lab : Nat → Nat) (w : World) (B p n : Nat) (t : Nat → Int) (m : Nat → Bool) (b : Nat → Int) (k : Nat) (h : Hid (Doc lab w B p n t m b)) (hk : k < n) :
    Calls Try.prog 13 #[.pointer (some ⟨p, 0, none⟩), .int .i64 (k : Int)] w fun e w' => e = .returned (.tuple #[.agg #[.int .i64 (t k), .int .i64 (b k)], .int .i64 0]) ∧ Later w w' := by
  obtain ⟨_, A1, A2, c1, c2, s0, f1, f2⟩ := h.out
  have q0 : w.cell? ⟨p, 0, none⟩ = some (.slice A1 n c1) := s0.1.cell (i := 0) (by decide)
  obtain ⟨g1, rfl, _, l1, _, _, _, k1⟩ := f1.at_ (by omega)
  have r0 := k1 _ _ (vs_0 t b n k hk)
  have r1 := k1 _ _ (vs_1 t b n k hk)
  have lp := cell_lt q0
  have hl1 : (k : Int) < (n : Int) := by omega
  clear h s0 f1 f2 k1
  go_enter Try.func13, Try.ntmps13
  go_wp2
  refine bodyPost_ret (v := .tuple #[.agg #[.int .i64 (t k), .int .i64 (b k)], .int .i64 0]) (by simp [results, Try.results13, go_sem]) rfl ⟨rfl, (by repeat first | exact Lz _ | apply La | apply Lv | apply Ld | apply Ln)⟩
end Go.Proofs.Ytlbjnlialhpfhaa
