/- 'ApplyWrong' of package peloruslaw7 returns true at every two ints and every value: a value of another type, one too many, one too few are refused, and of 32 bits a value beyond them. No condition. -/
import Derived.Test.YtdfgcagbpndabaaGreatDoorVN
import Derived.Test.YtdfgcagbpndabaaGreatDoorCards
import Derived.Test.YtdfgcagbpndabaaGreatDoorTie
import Derived.LoopTactic
import Derived.OpenShut
import Derived.Carry
import Derived.Lib.SmallJoins
import Derived.Laws.OwnMore
set_option linter.unusedVariables false
set_option linter.unusedSimpArgs false
set_option maxRecDepth 100000
set_option maxHeartbeats 60000000
namespace Go.Proofs.YtdfgcagbpndabaaGreatDoor.applyWrong
open Go.ChangeShapes Go.WideShapes Go.ChangeAt Go.RowKit Go.AM
theorem own_lit0 (W : World) (b : Nat) (hb : b = W.heap.size) : (W.alloc (.cells #[] 33)).ownsRow W.heap.size 33 2 (.slice (some ⟨b, 0, none⟩) 0 0) 0 [] := by
  subst hb
  exact ⟨rfl, Or.inr ⟨W.heap.size, 0, #[], rfl, Nat.le_refl _, heap_alloc_new W _, Nat.le_refl _, Nat.zero_le _, rfl, rfl⟩⟩
theorem own_set {W w : World} (hL : Later W w) {g c cap : Nat} {xs : List Value} (ho : w.ownsRow W.heap.size 33 2 (.slice (some ⟨g, 0, none⟩) c cap) c xs) (i : Nat) (v : Value) : Later W (w.setCell ⟨g, i, none⟩ v) := by
  rcases ho.2 with ⟨h, _⟩ | ⟨b, cap', cur, h, hb, hbb, _⟩
  · cases h
  · simp only [Value.slice.injEq, Option.some.injEq, Addr.mk.injEq] at h
    obtain ⟨⟨rfl, _⟩, _⟩ := h
    exact hL.setCell v hb hbb
theorem own_cap {w : World} {base g c cap : Nat} {xs : List Value} (ho : w.ownsRow base 33 2 (.slice (some ⟨g, 0, none⟩) c cap) c xs) (hc : 0 < c) : c ≤ cap := by
  rcases ho.2 with ⟨h, _⟩ | ⟨b, cap', cur, h, hb, hbb, h2, _⟩
  · cases h
  · simp only [Value.slice.injEq] at h
    omega
theorem ne_blk {g b i j : Nat} (h : b < g) : (⟨g, i, none⟩ : Addr) ≠ ⟨b, j, none⟩ := by
  intro e; simp only [Addr.mk.injEq] at e; omega
theorem ne_off {g i j : Nat} (h : i ≠ j) : (⟨g, i, none⟩ : Addr) ≠ ⟨g, j, none⟩ := by
  intro e; simp only [Addr.mk.injEq] at e; omega
theorem news_a {X : World} {g : Nat} {a b : Value} (h0 : X.cell? ⟨g, 0, none⟩ = some a) (h1 : X.cell? ⟨g, 1, none⟩ = some b) : ∀ (j : Nat) (u : Value), [a, b][j]? = some u → X.cell? ((⟨g, 0, none⟩ : Addr).add j) = some u := by
  intro j u h
  rw [add_lit]
  match j, h with
  | 0, h => simpa [h0] using h
  | 1, h => simpa [h1] using h
theorem news_b {X : World} {g : Nat} {a b c d : Value} (h0 : X.cell? ⟨g, 0, none⟩ = some a) (h1 : X.cell? ⟨g, 1, none⟩ = some b) (h2 : X.cell? ⟨g, 2, none⟩ = some c) (h3 : X.cell? ⟨g, 3, none⟩ = some d) : ∀ (j : Nat) (u : Value), [a, b, c, d][j]? = some u → X.cell? ((⟨g, 0, none⟩ : Addr).add j) = some u := by
  intro j u h
  rw [add_lit]
  match j, h with
  | 0, h => simpa [h0] using h
  | 1, h => simpa [h1] using h
  | 2, h => simpa [h2] using h
  | 3, h => simpa [h3] using h
theorem one4 (a b c d : Int) : ∀ u ∈ [Value.int .i64 a, Value.int .i64 b, Value.int .i64 c, Value.int .i64 d], u.oneCell' = true := by
  intro u hu
  simp only [List.mem_cons, List.not_mem_nil, or_false] at hu
  rcases hu with rfl | rfl | rfl | rfl <;> rfl
theorem core10 (op which : Int) (k p r tt : Int) (e0 e1 : Int) (E : Int) (w : World) (hk : (IntKind.u64.wrap op).tmod 123 = k) (h69 : 0 ≤ k) (h191 : k ≤ 122) (hR : RT1 (69 + k) p r)
    (hOA : ∀ (wv : World) (g cap : Nat), Hid (Later w wv) → wv.cell? ⟨g, 0, none⟩ = some (.int .i64 p) → wv.cell? ⟨g, 1, none⟩ = some (.int .i64 1) → ∃ A4 B4 C4, OfC wv (69 + k) (.slice (some ⟨g, 0, none⟩) 1 cap) (A4, B4, C4, 0))
    (hOB : ∀ (wv : World) (g cap : Nat), wv.cell? ⟨g, 0, none⟩ = some (.int .i64 (124 + tt)) → wv.cell? ⟨g, 1, none⟩ = some (.int .i64 1) → OfC wv (69 + k) (.slice (some ⟨g, 0, none⟩) 1 cap) (0, 0, 0, 700))
    (hOW : ∀ (wv : World) (g cap : Nat), Hid (Later w wv) → wv.cell? ⟨g, 0, none⟩ = some (.int .i64 p) → wv.cell? ⟨g, 1, none⟩ = some (.int .i64 (-1)) → ∃ A4 B4 C4, OfC wv (69 + k) (.slice (some ⟨g, 0, none⟩) 1 cap) (A4, B4, C4, E))
    (hOL : ∀ (wv : World) (ad : Option Addr) (len cap : Nat), ¬ len = 1 → OfC wv (69 + k) (.slice ad len cap) (0, 0, 0, 700))
    (hw : (IntKind.u64.wrap which).tmod 1 = 0) (hp1 : 124 ≤ p) (hp2 : p ≤ 127) (htt : (p - 124 + 1).tmod 4 = tt) (ht0 : 0 ≤ tt) (ht3 : tt ≤ 3) (hE : Hid ((p = 127 ∧ E = 700) ∨ (p = 125 ∧ E = 700) ∨ (¬ p = 127 ∧ ¬ p = 125 ∧ E = 0))) :
    Calls Tryz.prog 5 #[.int .i64 op, .int .i64 which, .agg #[.int .i64 e0, .int .i64 e1]] w fun e w' => e = .returned (.bool true) ∧ Later w w' := by
  obtain ⟨i0, hi, hz0, hz1, hz2⟩ := info_parts info_val
  replace hOA : Hid _ := hOA
  replace hOB : Hid _ := hOB
  replace hOW : Hid _ := hOW
  replace hOL : Hid _ := hOL
  go_enter Tryz.func5, Tryz.ntmps5
  go_wp2_with fail
  refine (awake_any _).mono ?_
  rintro e wa ⟨rfl, h0⟩
  have t0 : wa.cell? ⟨w.heap.size, 0, none⟩ = some (.int .i64 e0) := h0.cell_of (by simp [go_sem])
  have t1 : wa.cell? ⟨w.heap.size, 1, none⟩ = some (.int .i64 e1) := h0.cell_of (by simp [go_sem])
  replace h0 : Hid (Later w wa) := Later.trans (by repeat first | exact Lz _ | apply La | apply Lp | apply Lv | apply Ln | apply Ld) h0
  go_wp2_with fail
  refine (hR _).mono ?_
  rintro e w1 ⟨B, C, cp, rfl, hl, hB0, hC0, hBC, hB, hC⟩
  have L1 : Hid (Later wa w1) := later_of hl
  have b0 := hB.out.cell (j := 0) (x := p) rfl
  have lB := hB.out.lt
  have lC := hC.out.lt
  replace t0 := (later_of L1).cell_of t0
  replace t1 := (later_of L1).cell_of t1
  have lt := cell_lt t0
  clear hB0 hC0 hl
  have L0 : Hid (Later w w1) := h0.out.trans (later_of L1)
  clear h0 L1
  go_wp2_with fail
  refine wp_loop_rounds 2 ?_
  rw [rounds_succ]
  go_wp2_with (at_builtin; refine wpList_append_later (Lz _) rfl _ _ 22 rfl 33 i0 (.agg #[.int .i64 0, .int .i64 0]) 2 16 Tryz.underlying22 hi hz0 hz1 hz2 rfl (by decide) _ _ _ rfl (World.ownsRow_nil _ _ _ _) _ 1 _ [.int .i64 p, .int .i64 1] rfl rfl (news2 (by simp)) (one2 _ _) (by decide) (by decide) (by decide) ?_; clear b0 lB lC; intro g cap w2 hown hL2; simp only [Nat.zero_add, List.nil_append, List.cons_append] at hown; have v0 := owns_cell hown (j := 0) rfl; have v1 := owns_cell hown (j := 1) rfl; have lg := (owns_base hown).2; have u0 : w2.cell? ⟨w1.heap.size, 0, none⟩ = some (.slice (some ⟨B, 0, none⟩) 1 cp) := (later_of hL2).cell_of (by simp [go_sem]); have Lw2 : Hid (Later w1 w2) := Later.trans (by repeat first | exact Lz _ | apply La | apply Lp | apply Lv | apply Ln | apply Ld) (later_of hL2); have b0 := (hB.out.later (later_of Lw2)).cell (j := 0) (x := p) rfl; have lu := cell_lt u0; have lB := cell_lt b0)
  rw [rounds_succ]
  replace t0 := (later_of Lw2).cell_of t0
  replace t1 := (later_of Lw2).cell_of t1
  clear lt
  have lt := cell_lt t0
  have LV : Hid (Later w w2) := (later_of L0).trans (later_of Lw2)
  obtain ⟨A4, B4, C4, hof⟩ := hOA.out w2 g cap LV v0 v1
  clear hB hC hown hL2 Lw2 L0 hOA
  go_wp2_with fail
  refine (hof _ (by repeat first | exact Lz _ | apply La | apply Lp | apply Lv | apply Ln | apply Ld)).mono ?_
  rintro e w4 ⟨rfl, h4⟩
  have L4 : Hid (Later w2 w4) := Later.trans (by repeat first | exact Lz _ | apply La | apply Lp | apply Lv | apply Ln | apply Ld) h4
  replace v0 := (later_of L4).cell_of v0
  replace v1 := (later_of L4).cell_of v1
  replace u0 := (later_of L4).cell_of u0
  replace b0 := (later_of L4).cell_of b0
  replace t0 := (later_of L4).cell_of t0
  replace t1 := (later_of L4).cell_of t1
  have LW : Hid (Later w w4) := LV.out.trans (later_of L4)
  replace h4 : Hid True := trivial
  clear LV L4 hof
  clear lg
  clear lu
  clear lB
  clear lt
  have lg := cell_lt v0
  have lu := cell_lt u0
  have lB := cell_lt b0
  have lt := cell_lt t0
  go_wp2_with (at_builtin; refine wpList_append_later (La (Lz _)) rfl _ _ 22 rfl 33 i0 (.agg #[.int .i64 0, .int .i64 0]) 2 16 Tryz.underlying22 hi hz0 hz1 hz2 rfl (by decide) _ 0 [] rfl (own_lit0 _ _ (by simp)) _ 1 _ [.int .i64 p, .int .i64 1] rfl rfl (news_a (Later.cell_of (by repeat first | exact Lz _ | apply La | apply Lp | apply Lv | apply Ln | apply Ld) v0) (Later.cell_of (by repeat first | exact Lz _ | apply La | apply Lp | apply Lv | apply Ln | apply Ld) v1)) (one2 _ _) (by decide) (by decide) (by decide) ?_; intro g5 cap5 w5 hown5 hL5; simp only [Nat.zero_add, List.nil_append] at hown5; have Lw5 : Hid (Later w4 w5) := Later.trans (by repeat first | exact Lz _ | apply La | apply Lp | apply Lv | apply Ln | apply Ld) (later_of hL5); have hbw5 := (owns_base hown5).1; simp at hbw5; replace v0 := (later_of Lw5).cell_of v0; replace v1 := (later_of Lw5).cell_of v1; replace u0 := (later_of Lw5).cell_of u0; replace b0 := (later_of Lw5).cell_of b0; replace t0 := (later_of Lw5).cell_of t0; replace t1 := (later_of Lw5).cell_of t1; have o0 := owns_cell hown5 (j := 0) rfl; have o1 := owns_cell hown5 (j := 1) rfl; have lo := (owns_base hown5).2; have fz := hown5.frozenAt 0)
  have E5 : Hid (Later w4 (w5.setCell ⟨g5, 0, none⟩ (.int .i64 (124 + tt)))) := Later.trans (by repeat first | exact Lz _ | apply La | apply Lp | apply Lv | apply Ln | apply Ld) (own_set (later_of hL5) hown5 _ _)
  have hcall := hOB.out (w5.setCell ⟨g5, 0, none⟩ (.int .i64 (124 + tt))) g5 cap5 (World.cell?_setCell_same _ _ (.int .i64 (124 + tt)) o0) ((World.cell?_setCell_other _ _ _ (.int .i64 (124 + tt)) (ne_off (by decide))).trans o1)
  replace v0 := (World.cell?_setCell_other _ _ _ (.int .i64 (124 + tt)) (ne_blk (g := g5) (i := 0) (by omega))).trans v0
  replace v1 := (World.cell?_setCell_other _ _ _ (.int .i64 (124 + tt)) (ne_blk (g := g5) (i := 0) (by omega))).trans v1
  replace u0 := (World.cell?_setCell_other _ _ _ (.int .i64 (124 + tt)) (ne_blk (g := g5) (i := 0) (by omega))).trans u0
  replace b0 := (World.cell?_setCell_other _ _ _ (.int .i64 (124 + tt)) (ne_blk (g := g5) (i := 0) (by omega))).trans b0
  replace t0 := (World.cell?_setCell_other _ _ _ (.int .i64 (124 + tt)) (ne_blk (g := g5) (i := 0) (by omega))).trans t0
  replace t1 := (World.cell?_setCell_other _ _ _ (.int .i64 (124 + tt)) (ne_blk (g := g5) (i := 0) (by omega))).trans t1
  clear o0 o1 lo fz
  refine (hcall _ (Lz _)).mono ?_
  rintro e w6 ⟨rfl, h6⟩
  have LW6 : Hid (Later w w6) := (LW.out.trans E5.out).trans h6
  replace v0 := h6.cell_of v0
  replace v1 := h6.cell_of v1
  replace u0 := h6.cell_of u0
  replace b0 := h6.cell_of b0
  replace t0 := h6.cell_of t0
  replace t1 := h6.cell_of t1
  replace h6 : Hid True := trivial
  clear LW E5 hcall hown5 hL5 Lw5 hbw5
  clear lg
  clear lu
  clear lB
  clear lt
  have lg := cell_lt v0
  have lu := cell_lt u0
  have lB := cell_lt b0
  have lt := cell_lt t0
  go_wp2_with fail
  all_goals
    refine (hOL.out _ _ _ _ (by decide) _ (Lz _)).mono ?_
    rintro e w7 ⟨rfl, h7⟩
    have K7 : Hid (Later w6 w7) := Later.trans (by repeat first | exact Lz _ | apply La | apply Lp | apply Lv | apply Ln | apply Ld) h7
    have LW7 : Hid (Later w w7) := LW6.out.trans K7.out
    replace h7 : Hid True := trivial
    replace v0 := (later_of K7).cell_of v0
    replace v1 := (later_of K7).cell_of v1
    replace u0 := (later_of K7).cell_of u0
    replace b0 := (later_of K7).cell_of b0
    replace t0 := (later_of K7).cell_of t0
    replace t1 := (later_of K7).cell_of t1
    clear K7 LW6
    clear lg
    clear lu
    clear lB
    clear lt
    have lg := cell_lt v0
    have lu := cell_lt u0
    have lB := cell_lt b0
    have lt := cell_lt t0
    go_wp2_with (first | (at_builtin; refine wpList_append_later (La (Lz _)) rfl _ _ 22 rfl 33 i0 (.agg #[.int .i64 0, .int .i64 0]) 2 16 Tryz.underlying22 hi hz0 hz1 hz2 rfl (by decide) _ 0 [] rfl (own_lit0 _ _ (by simp)) _ 1 _ [.int .i64 p, .int .i64 1] rfl rfl (news_a (Later.cell_of (by repeat first | exact Lz _ | apply La | apply Lp | apply Lv | apply Ln | apply Ld) v0) (Later.cell_of (by repeat first | exact Lz _ | apply La | apply Lp | apply Lv | apply Ln | apply Ld) v1)) (one2 _ _) (by decide) (by decide) (by decide) ?_; intro g8 cap8 w8 hown8 hL8; simp only [Nat.zero_add, List.nil_append] at hown8; have K8 : Hid (Later w7 w8) := Later.trans (by repeat first | exact Lz _ | apply La | apply Lp | apply Lv | apply Ln | apply Ld) (later_of hL8); have q0 := (later_of K8).cell_of t0; have q1 := (later_of K8).cell_of t1; have lq := cell_lt q0) | (at_builtin; refine wpList_append_later (La (later_of hL8)) rfl _ _ 22 rfl 33 i0 (.agg #[.int .i64 0, .int .i64 0]) 2 16 Tryz.underlying22 hi hz0 hz1 hz2 rfl (by decide) _ _ _ rfl (hown8.alloc _) _ 1 _ [.int .i64 e0, .int .i64 e1] rfl rfl (news2 (by simp)) (one2 _ _) (by decide) (by decide) (by decide) ?_; intro g9 cap9 w9 hown9 hL9; have K9 : Hid (Later w7 w9) := Later.trans (by repeat first | exact Lz _ | apply La | apply Lp | apply Lv | apply Ln | apply Ld) (later_of hL9)))
    clear q0 q1 lq K8 hown8 hL8 hown9 hL9
    replace v0 := (later_of K9).cell_of v0
    replace v1 := (later_of K9).cell_of v1
    replace u0 := (later_of K9).cell_of u0
    replace b0 := (later_of K9).cell_of b0
    replace t0 := (later_of K9).cell_of t0
    replace t1 := (later_of K9).cell_of t1
    have LW9 : Hid (Later w w9) := LW7.out.trans K9.out
    clear K9 LW7
    clear lg
    clear lu
    clear lB
    clear lt
    have lg := cell_lt v0
    have lu := cell_lt u0
    have lB := cell_lt b0
    have lt := cell_lt t0
    refine (hOL.out _ _ _ _ (by decide) _ (Lz _)).mono ?_
    rintro e w10 ⟨rfl, h7⟩
    have K7 : Hid (Later w9 w10) := Later.trans (by repeat first | exact Lz _ | apply La | apply Lp | apply Lv | apply Ln | apply Ld) h7
    have LW10 : Hid (Later w w10) := LW9.out.trans K7.out
    replace h7 : Hid True := trivial
    replace v0 := (later_of K7).cell_of v0
    replace v1 := (later_of K7).cell_of v1
    replace u0 := (later_of K7).cell_of u0
    replace b0 := (later_of K7).cell_of b0
    replace t0 := (later_of K7).cell_of t0
    replace t1 := (later_of K7).cell_of t1
    clear K7 LW9
    clear lg
    clear lu
    clear lB
    clear lt
    have lg := cell_lt v0
    have lu := cell_lt u0
    have lB := cell_lt b0
    have lt := cell_lt t0
    go_wp2_with (at_builtin; refine wpList_append_later (La (Lz _)) rfl _ _ 22 rfl 33 i0 (.agg #[.int .i64 0, .int .i64 0]) 2 16 Tryz.underlying22 hi hz0 hz1 hz2 rfl (by decide) _ 0 [] rfl (own_lit0 _ _ (by simp)) _ 1 _ [.int .i64 p, .int .i64 1] rfl rfl (news_a (Later.cell_of (by repeat first | exact Lz _ | apply La | apply Lp | apply Lv | apply Ln | apply Ld) v0) (Later.cell_of (by repeat first | exact Lz _ | apply La | apply Lp | apply Lv | apply Ln | apply Ld) v1)) (one2 _ _) (by decide) (by decide) (by decide) ?_; intro g11 cap11 w11 hown11 hL11; simp only [Nat.zero_add, List.nil_append] at hown11; have Lw11 : Hid (Later w10 w11) := Later.trans (by repeat first | exact Lz _ | apply La | apply Lp | apply Lv | apply Ln | apply Ld) (later_of hL11); have hbw11 := (owns_base hown11).1; simp at hbw11; replace v0 := (later_of Lw11).cell_of v0; replace v1 := (later_of Lw11).cell_of v1; replace u0 := (later_of Lw11).cell_of u0; replace b0 := (later_of Lw11).cell_of b0; replace t0 := (later_of Lw11).cell_of t0; replace t1 := (later_of Lw11).cell_of t1; have o0 := owns_cell hown11 (j := 0) rfl; have o1 := owns_cell hown11 (j := 1) rfl; have lo := (owns_base hown11).2; have fz := hown11.frozenAt 1)
    have E5 : Hid (Later w10 (w11.setCell ⟨g11, 1, none⟩ (.int .i64 (-1)))) := Later.trans (by repeat first | exact Lz _ | apply La | apply Lp | apply Lv | apply Ln | apply Ld) (own_set (later_of hL11) hown11 _ _)
    obtain ⟨A5, B5, C5, hcall⟩ := hOW.out (w11.setCell ⟨g11, 1, none⟩ (.int .i64 (-1))) g11 cap11 (LW10.out.trans E5.out) ((World.cell?_setCell_other _ _ _ (.int .i64 (-1)) (ne_off (by decide))).trans o0) (World.cell?_setCell_same _ _ (.int .i64 (-1)) o1)
    replace v0 := (World.cell?_setCell_other _ _ _ (.int .i64 (-1)) (ne_blk (g := g11) (i := 1) (by omega))).trans v0
    replace v1 := (World.cell?_setCell_other _ _ _ (.int .i64 (-1)) (ne_blk (g := g11) (i := 1) (by omega))).trans v1
    replace u0 := (World.cell?_setCell_other _ _ _ (.int .i64 (-1)) (ne_blk (g := g11) (i := 1) (by omega))).trans u0
    replace b0 := (World.cell?_setCell_other _ _ _ (.int .i64 (-1)) (ne_blk (g := g11) (i := 1) (by omega))).trans b0
    replace t0 := (World.cell?_setCell_other _ _ _ (.int .i64 (-1)) (ne_blk (g := g11) (i := 1) (by omega))).trans t0
    replace t1 := (World.cell?_setCell_other _ _ _ (.int .i64 (-1)) (ne_blk (g := g11) (i := 1) (by omega))).trans t1
    clear o0 o1 lo fz
    refine (hcall _ (Lz _)).mono ?_
    rintro e w12 ⟨rfl, h6⟩
    have LW12 : Hid (Later w w12) := (LW10.out.trans E5.out).trans h6
    replace v0 := h6.cell_of v0
    replace v1 := h6.cell_of v1
    replace u0 := h6.cell_of u0
    replace b0 := h6.cell_of b0
    replace t0 := h6.cell_of t0
    replace t1 := h6.cell_of t1
    replace h6 : Hid True := trivial
    clear LW10 E5 hcall hown11 hL11 Lw11 hbw11
    clear lg
    clear lu
    clear lB
    clear lt
    have lg := cell_lt v0
    have lu := cell_lt u0
    have lB := cell_lt b0
    have lt := cell_lt t0
    rcases hE.out with ⟨z1, z2⟩ | ⟨z1, z2⟩ | ⟨z1, z3, z2⟩
    · subst z1 z2
      go_wp2_with (go_at_call 12; refine (num_any _ _).mono ?_; rintro e w' ⟨rfl, rfl⟩)
      go_ret
      exact ⟨rfl, LW12.out.trans (by repeat first | exact Lz _ | apply La | apply Lp | apply Lv | apply Ln | apply Ld)⟩
    · subst z1 z2
      go_wp2_with (go_at_call 12; refine (num_any _ _).mono ?_; rintro e w' ⟨rfl, rfl⟩)
      go_ret
      exact ⟨rfl, LW12.out.trans (by repeat first | exact Lz _ | apply La | apply Lp | apply Lv | apply Ln | apply Ld)⟩
    · subst z2
      have z4 : (p == 127) = false := beq_eq_false_iff_ne.2 z1
      have z5 : (p == 125) = false := beq_eq_false_iff_ne.2 z3
      go_wp2_with (go_at_call 12; refine (num_any _ _).mono ?_; rintro e w' ⟨rfl, rfl⟩)
      go_ret
      exact ⟨rfl, LW12.out.trans (by repeat first | exact Lz _ | apply La | apply Lp | apply Lv | apply Ln | apply Ld)⟩
theorem core20 (op which : Int) (k p r tt : Int) (e0 e1 : Int) (E : Int) (w : World) (hk : (IntKind.u64.wrap op).tmod 123 = k) (h69 : 0 ≤ k) (h191 : k ≤ 122) (hR : RT2 (69 + k) p r)
    (hOA : ∀ (wv : World) (g cap : Nat), Hid (Later w wv) → wv.cell? ⟨g, 0, none⟩ = some (.int .i64 p) → wv.cell? ⟨g, 1, none⟩ = some (.int .i64 1) → wv.cell? ⟨g, 2, none⟩ = some (.int .i64 p) → wv.cell? ⟨g, 3, none⟩ = some (.int .i64 1) → ∃ A4 B4 C4, OfC wv (69 + k) (.slice (some ⟨g, 0, none⟩) 2 cap) (A4, B4, C4, 0))
    (hOB : ∀ (wv : World) (g cap : Nat), wv.cell? ⟨g, 0, none⟩ = some (.int .i64 (124 + tt)) → wv.cell? ⟨g, 1, none⟩ = some (.int .i64 1) → wv.cell? ⟨g, 2, none⟩ = some (.int .i64 p) → wv.cell? ⟨g, 3, none⟩ = some (.int .i64 1) → OfC wv (69 + k) (.slice (some ⟨g, 0, none⟩) 2 cap) (0, 0, 0, 700))
    (hOW : ∀ (wv : World) (g cap : Nat), Hid (Later w wv) → wv.cell? ⟨g, 0, none⟩ = some (.int .i64 p) → wv.cell? ⟨g, 1, none⟩ = some (.int .i64 (-1)) → wv.cell? ⟨g, 2, none⟩ = some (.int .i64 p) → wv.cell? ⟨g, 3, none⟩ = some (.int .i64 1) → ∃ A4 B4 C4, OfC wv (69 + k) (.slice (some ⟨g, 0, none⟩) 2 cap) (A4, B4, C4, E))
    (hOL : ∀ (wv : World) (ad : Option Addr) (len cap : Nat), ¬ len = 2 → OfC wv (69 + k) (.slice ad len cap) (0, 0, 0, 700))
    (hw : (IntKind.u64.wrap which).tmod 2 = 0) (hp1 : 124 ≤ p) (hp2 : p ≤ 127) (htt : (p - 124 + 1).tmod 4 = tt) (ht0 : 0 ≤ tt) (ht3 : tt ≤ 3) (hE : Hid ((p = 127 ∧ E = 700) ∨ (p = 125 ∧ E = 700) ∨ (¬ p = 127 ∧ ¬ p = 125 ∧ E = 0))) :
    Calls Tryz.prog 5 #[.int .i64 op, .int .i64 which, .agg #[.int .i64 e0, .int .i64 e1]] w fun e w' => e = .returned (.bool true) ∧ Later w w' := by
  obtain ⟨i0, hi, hz0, hz1, hz2⟩ := info_parts info_val
  replace hOA : Hid _ := hOA
  replace hOB : Hid _ := hOB
  replace hOW : Hid _ := hOW
  replace hOL : Hid _ := hOL
  go_enter Tryz.func5, Tryz.ntmps5
  go_wp2_with fail
  refine (awake_any _).mono ?_
  rintro e wa ⟨rfl, h0⟩
  have t0 : wa.cell? ⟨w.heap.size, 0, none⟩ = some (.int .i64 e0) := h0.cell_of (by simp [go_sem])
  have t1 : wa.cell? ⟨w.heap.size, 1, none⟩ = some (.int .i64 e1) := h0.cell_of (by simp [go_sem])
  replace h0 : Hid (Later w wa) := Later.trans (by repeat first | exact Lz _ | apply La | apply Lp | apply Lv | apply Ln | apply Ld) h0
  go_wp2_with fail
  refine (hR _).mono ?_
  rintro e w1 ⟨B, C, cp, rfl, hl, hB0, hC0, hBC, hB, hC⟩
  have L1 : Hid (Later wa w1) := later_of hl
  have b0 := hB.out.cell (j := 0) (x := p) rfl
  have b1 := hB.out.cell (j := 1) (x := p) rfl
  have lB := hB.out.lt
  have lC := hC.out.lt
  replace t0 := (later_of L1).cell_of t0
  replace t1 := (later_of L1).cell_of t1
  have lt := cell_lt t0
  clear hB0 hC0 hl
  have L0 : Hid (Later w w1) := h0.out.trans (later_of L1)
  clear h0 L1
  go_wp2_with fail
  refine wp_loop_rounds 3 ?_
  rw [rounds_succ]
  go_wp2_with (at_builtin; refine wpList_append_later (Lz _) rfl _ _ 22 rfl 33 i0 (.agg #[.int .i64 0, .int .i64 0]) 2 16 Tryz.underlying22 hi hz0 hz1 hz2 rfl (by decide) _ _ _ rfl (World.ownsRow_nil _ _ _ _) _ 1 _ [.int .i64 p, .int .i64 1] rfl rfl (news2 (by simp)) (one2 _ _) (by decide) (by decide) (by decide) ?_; clear b0 b1 lB lC; intro g cap w2 hown hL2; simp only [Nat.zero_add, List.nil_append, List.cons_append] at hown; have v0 := owns_cell hown (j := 0) rfl; have v1 := owns_cell hown (j := 1) rfl; have lg := (owns_base hown).2; have u0 : w2.cell? ⟨w1.heap.size, 0, none⟩ = some (.slice (some ⟨B, 0, none⟩) 2 cp) := (later_of hL2).cell_of (by simp [go_sem]); have Lw2 : Hid (Later w1 w2) := Later.trans (by repeat first | exact Lz _ | apply La | apply Lp | apply Lv | apply Ln | apply Ld) (later_of hL2); have b0 := (hB.out.later (later_of Lw2)).cell (j := 0) (x := p) rfl; have b1 := (hB.out.later (later_of Lw2)).cell (j := 1) (x := p) rfl; have lu := cell_lt u0; have lB := cell_lt b0)
  rw [rounds_succ]
  go_wp2_with (at_builtin; refine wpList_append_later (La (later_of hL2)) rfl _ _ 22 rfl 33 i0 (.agg #[.int .i64 0, .int .i64 0]) 2 16 Tryz.underlying22 hi hz0 hz1 hz2 rfl (by decide) _ _ _ rfl (hown.alloc _) _ 1 _ [.int .i64 p, .int .i64 1] rfl rfl (news2 (by simp)) (one2 _ _) (by decide) (by decide) (by decide) ?_; clear b0 b1 lB lu lg u0 v0 v1; intro g2 cap2 w3 hown3 hL3; simp only [Nat.zero_add, List.nil_append, List.cons_append] at hown3; have v0 := owns_cell hown3 (j := 0) rfl; have v1 := owns_cell hown3 (j := 1) rfl; have v2 := owns_cell hown3 (j := 2) rfl; have v3 := owns_cell hown3 (j := 3) rfl; have lg := (owns_base hown3).2; have u0 : w3.cell? ⟨w1.heap.size, 0, none⟩ = some (.slice (some ⟨B, 0, none⟩) 2 cp) := (later_of hL3).cell_of (by simp [go_sem]); have Lw3 : Hid (Later w1 w3) := Later.trans (by repeat first | exact Lz _ | apply La | apply Lp | apply Lv | apply Ln | apply Ld) (later_of hL3); have b0 := (hB.out.later (later_of Lw3)).cell (j := 0) (x := p) rfl; have b1 := (hB.out.later (later_of Lw3)).cell (j := 1) (x := p) rfl; have lu := cell_lt u0; have lB := cell_lt b0)
  rw [rounds_succ]
  replace t0 := (later_of Lw3).cell_of t0
  replace t1 := (later_of Lw3).cell_of t1
  clear lt
  have lt := cell_lt t0
  have LV : Hid (Later w w3) := (later_of L0).trans (later_of Lw3)
  obtain ⟨A4, B4, C4, hof⟩ := hOA.out w3 g2 cap2 LV v0 v1 v2 v3
  have hcn : ¬ cap2 = 1 := by have := own_cap hown3 (by decide); omega
  clear hB hC hown hL2 hown3 hL3 Lw2 Lw3 L0 hOA
  go_wp2_with fail
  refine (hof _ (by repeat first | exact Lz _ | apply La | apply Lp | apply Lv | apply Ln | apply Ld)).mono ?_
  rintro e w4 ⟨rfl, h4⟩
  have L4 : Hid (Later w3 w4) := Later.trans (by repeat first | exact Lz _ | apply La | apply Lp | apply Lv | apply Ln | apply Ld) h4
  replace v0 := (later_of L4).cell_of v0
  replace v1 := (later_of L4).cell_of v1
  replace v2 := (later_of L4).cell_of v2
  replace v3 := (later_of L4).cell_of v3
  replace u0 := (later_of L4).cell_of u0
  replace b0 := (later_of L4).cell_of b0
  replace b1 := (later_of L4).cell_of b1
  replace t0 := (later_of L4).cell_of t0
  replace t1 := (later_of L4).cell_of t1
  have LW : Hid (Later w w4) := LV.out.trans (later_of L4)
  replace h4 : Hid True := trivial
  clear LV L4 hof
  clear lg
  clear lu
  clear lB
  clear lt
  have lg := cell_lt v0
  have lu := cell_lt u0
  have lB := cell_lt b0
  have lt := cell_lt t0
  go_wp2_with (at_builtin; refine wpList_append_later (La (Lz _)) rfl _ _ 22 rfl 33 i0 (.agg #[.int .i64 0, .int .i64 0]) 2 16 Tryz.underlying22 hi hz0 hz1 hz2 rfl (by decide) _ 0 [] rfl (own_lit0 _ _ (by simp)) _ 2 _ [.int .i64 p, .int .i64 1, .int .i64 p, .int .i64 1] rfl rfl (news_b (Later.cell_of (by repeat first | exact Lz _ | apply La | apply Lp | apply Lv | apply Ln | apply Ld) v0) (Later.cell_of (by repeat first | exact Lz _ | apply La | apply Lp | apply Lv | apply Ln | apply Ld) v1) (Later.cell_of (by repeat first | exact Lz _ | apply La | apply Lp | apply Lv | apply Ln | apply Ld) v2) (Later.cell_of (by repeat first | exact Lz _ | apply La | apply Lp | apply Lv | apply Ln | apply Ld) v3)) (one4 _ _ _ _) (by decide) (by decide) (by decide) ?_; intro g5 cap5 w5 hown5 hL5; simp only [Nat.zero_add, List.nil_append] at hown5; have Lw5 : Hid (Later w4 w5) := Later.trans (by repeat first | exact Lz _ | apply La | apply Lp | apply Lv | apply Ln | apply Ld) (later_of hL5); have hbw5 := (owns_base hown5).1; simp at hbw5; replace v0 := (later_of Lw5).cell_of v0; replace v1 := (later_of Lw5).cell_of v1; replace v2 := (later_of Lw5).cell_of v2; replace v3 := (later_of Lw5).cell_of v3; replace u0 := (later_of Lw5).cell_of u0; replace b0 := (later_of Lw5).cell_of b0; replace b1 := (later_of Lw5).cell_of b1; replace t0 := (later_of Lw5).cell_of t0; replace t1 := (later_of Lw5).cell_of t1; have o0 := owns_cell hown5 (j := 0) rfl; have o1 := owns_cell hown5 (j := 1) rfl; have o2 := owns_cell hown5 (j := 2) rfl; have o3 := owns_cell hown5 (j := 3) rfl; have lo := (owns_base hown5).2; have fz := hown5.frozenAt 0)
  have E5 : Hid (Later w4 (w5.setCell ⟨g5, 0, none⟩ (.int .i64 (124 + tt)))) := Later.trans (by repeat first | exact Lz _ | apply La | apply Lp | apply Lv | apply Ln | apply Ld) (own_set (later_of hL5) hown5 _ _)
  have hcall := hOB.out (w5.setCell ⟨g5, 0, none⟩ (.int .i64 (124 + tt))) g5 cap5 (World.cell?_setCell_same _ _ (.int .i64 (124 + tt)) o0) ((World.cell?_setCell_other _ _ _ (.int .i64 (124 + tt)) (ne_off (by decide))).trans o1) ((World.cell?_setCell_other _ _ _ (.int .i64 (124 + tt)) (ne_off (by decide))).trans o2) ((World.cell?_setCell_other _ _ _ (.int .i64 (124 + tt)) (ne_off (by decide))).trans o3)
  replace v0 := (World.cell?_setCell_other _ _ _ (.int .i64 (124 + tt)) (ne_blk (g := g5) (i := 0) (by omega))).trans v0
  replace v1 := (World.cell?_setCell_other _ _ _ (.int .i64 (124 + tt)) (ne_blk (g := g5) (i := 0) (by omega))).trans v1
  replace v2 := (World.cell?_setCell_other _ _ _ (.int .i64 (124 + tt)) (ne_blk (g := g5) (i := 0) (by omega))).trans v2
  replace v3 := (World.cell?_setCell_other _ _ _ (.int .i64 (124 + tt)) (ne_blk (g := g5) (i := 0) (by omega))).trans v3
  replace u0 := (World.cell?_setCell_other _ _ _ (.int .i64 (124 + tt)) (ne_blk (g := g5) (i := 0) (by omega))).trans u0
  replace b0 := (World.cell?_setCell_other _ _ _ (.int .i64 (124 + tt)) (ne_blk (g := g5) (i := 0) (by omega))).trans b0
  replace b1 := (World.cell?_setCell_other _ _ _ (.int .i64 (124 + tt)) (ne_blk (g := g5) (i := 0) (by omega))).trans b1
  replace t0 := (World.cell?_setCell_other _ _ _ (.int .i64 (124 + tt)) (ne_blk (g := g5) (i := 0) (by omega))).trans t0
  replace t1 := (World.cell?_setCell_other _ _ _ (.int .i64 (124 + tt)) (ne_blk (g := g5) (i := 0) (by omega))).trans t1
  clear o0 o1 o2 o3 lo fz
  refine (hcall _ (Lz _)).mono ?_
  rintro e w6 ⟨rfl, h6⟩
  have LW6 : Hid (Later w w6) := (LW.out.trans E5.out).trans h6
  replace v0 := h6.cell_of v0
  replace v1 := h6.cell_of v1
  replace v2 := h6.cell_of v2
  replace v3 := h6.cell_of v3
  replace u0 := h6.cell_of u0
  replace b0 := h6.cell_of b0
  replace b1 := h6.cell_of b1
  replace t0 := h6.cell_of t0
  replace t1 := h6.cell_of t1
  replace h6 : Hid True := trivial
  clear LW E5 hcall hown5 hL5 Lw5 hbw5
  clear lg
  clear lu
  clear lB
  clear lt
  have lg := cell_lt v0
  have lu := cell_lt u0
  have lB := cell_lt b0
  have lt := cell_lt t0
  go_wp2_with fail
  refine (hOL.out _ _ _ _ (by decide) _ (Lz _)).mono ?_
  rintro e w7 ⟨rfl, h7⟩
  have K7 : Hid (Later w6 w7) := Later.trans (by repeat first | exact Lz _ | apply La | apply Lp | apply Lv | apply Ln | apply Ld) h7
  have LW7 : Hid (Later w w7) := LW6.out.trans K7.out
  replace h7 : Hid True := trivial
  replace v0 := (later_of K7).cell_of v0
  replace v1 := (later_of K7).cell_of v1
  replace v2 := (later_of K7).cell_of v2
  replace v3 := (later_of K7).cell_of v3
  replace u0 := (later_of K7).cell_of u0
  replace b0 := (later_of K7).cell_of b0
  replace b1 := (later_of K7).cell_of b1
  replace t0 := (later_of K7).cell_of t0
  replace t1 := (later_of K7).cell_of t1
  clear K7 LW6
  clear lg
  clear lu
  clear lB
  clear lt
  have lg := cell_lt v0
  have lu := cell_lt u0
  have lB := cell_lt b0
  have lt := cell_lt t0
  go_wp2_with (first | (at_builtin; refine wpList_append_later (La (Lz _)) rfl _ _ 22 rfl 33 i0 (.agg #[.int .i64 0, .int .i64 0]) 2 16 Tryz.underlying22 hi hz0 hz1 hz2 rfl (by decide) _ 0 [] rfl (own_lit0 _ _ (by simp)) _ 2 _ [.int .i64 p, .int .i64 1, .int .i64 p, .int .i64 1] rfl rfl (news_b (Later.cell_of (by repeat first | exact Lz _ | apply La | apply Lp | apply Lv | apply Ln | apply Ld) v0) (Later.cell_of (by repeat first | exact Lz _ | apply La | apply Lp | apply Lv | apply Ln | apply Ld) v1) (Later.cell_of (by repeat first | exact Lz _ | apply La | apply Lp | apply Lv | apply Ln | apply Ld) v2) (Later.cell_of (by repeat first | exact Lz _ | apply La | apply Lp | apply Lv | apply Ln | apply Ld) v3)) (one4 _ _ _ _) (by decide) (by decide) (by decide) ?_; intro g8 cap8 w8 hown8 hL8; simp only [Nat.zero_add, List.nil_append] at hown8; have K8 : Hid (Later w7 w8) := Later.trans (by repeat first | exact Lz _ | apply La | apply Lp | apply Lv | apply Ln | apply Ld) (later_of hL8); have q0 := (later_of K8).cell_of t0; have q1 := (later_of K8).cell_of t1; have lq := cell_lt q0) | (at_builtin; refine wpList_append_later (La (later_of hL8)) rfl _ _ 22 rfl 33 i0 (.agg #[.int .i64 0, .int .i64 0]) 2 16 Tryz.underlying22 hi hz0 hz1 hz2 rfl (by decide) _ _ _ rfl (hown8.alloc _) _ 1 _ [.int .i64 e0, .int .i64 e1] rfl rfl (news2 (by simp)) (one2 _ _) (by decide) (by decide) (by decide) ?_; intro g9 cap9 w9 hown9 hL9; have K9 : Hid (Later w7 w9) := Later.trans (by repeat first | exact Lz _ | apply La | apply Lp | apply Lv | apply Ln | apply Ld) (later_of hL9)))
  clear q0 q1 lq K8 hown8 hL8 hown9 hL9
  replace v0 := (later_of K9).cell_of v0
  replace v1 := (later_of K9).cell_of v1
  replace v2 := (later_of K9).cell_of v2
  replace v3 := (later_of K9).cell_of v3
  replace u0 := (later_of K9).cell_of u0
  replace b0 := (later_of K9).cell_of b0
  replace b1 := (later_of K9).cell_of b1
  replace t0 := (later_of K9).cell_of t0
  replace t1 := (later_of K9).cell_of t1
  have LW9 : Hid (Later w w9) := LW7.out.trans K9.out
  clear K9 LW7
  clear lg
  clear lu
  clear lB
  clear lt
  have lg := cell_lt v0
  have lu := cell_lt u0
  have lB := cell_lt b0
  have lt := cell_lt t0
  refine (hOL.out _ _ _ _ (by decide) _ (Lz _)).mono ?_
  rintro e w10 ⟨rfl, h7⟩
  have K7 : Hid (Later w9 w10) := Later.trans (by repeat first | exact Lz _ | apply La | apply Lp | apply Lv | apply Ln | apply Ld) h7
  have LW10 : Hid (Later w w10) := LW9.out.trans K7.out
  replace h7 : Hid True := trivial
  replace v0 := (later_of K7).cell_of v0
  replace v1 := (later_of K7).cell_of v1
  replace v2 := (later_of K7).cell_of v2
  replace v3 := (later_of K7).cell_of v3
  replace u0 := (later_of K7).cell_of u0
  replace b0 := (later_of K7).cell_of b0
  replace b1 := (later_of K7).cell_of b1
  replace t0 := (later_of K7).cell_of t0
  replace t1 := (later_of K7).cell_of t1
  clear K7 LW9
  clear lg
  clear lu
  clear lB
  clear lt
  have lg := cell_lt v0
  have lu := cell_lt u0
  have lB := cell_lt b0
  have lt := cell_lt t0
  go_wp2_with (at_builtin; refine wpList_append_later (La (Lz _)) rfl _ _ 22 rfl 33 i0 (.agg #[.int .i64 0, .int .i64 0]) 2 16 Tryz.underlying22 hi hz0 hz1 hz2 rfl (by decide) _ 0 [] rfl (own_lit0 _ _ (by simp)) _ 2 _ [.int .i64 p, .int .i64 1, .int .i64 p, .int .i64 1] rfl rfl (news_b (Later.cell_of (by repeat first | exact Lz _ | apply La | apply Lp | apply Lv | apply Ln | apply Ld) v0) (Later.cell_of (by repeat first | exact Lz _ | apply La | apply Lp | apply Lv | apply Ln | apply Ld) v1) (Later.cell_of (by repeat first | exact Lz _ | apply La | apply Lp | apply Lv | apply Ln | apply Ld) v2) (Later.cell_of (by repeat first | exact Lz _ | apply La | apply Lp | apply Lv | apply Ln | apply Ld) v3)) (one4 _ _ _ _) (by decide) (by decide) (by decide) ?_; intro g11 cap11 w11 hown11 hL11; simp only [Nat.zero_add, List.nil_append] at hown11; have Lw11 : Hid (Later w10 w11) := Later.trans (by repeat first | exact Lz _ | apply La | apply Lp | apply Lv | apply Ln | apply Ld) (later_of hL11); have hbw11 := (owns_base hown11).1; simp at hbw11; replace v0 := (later_of Lw11).cell_of v0; replace v1 := (later_of Lw11).cell_of v1; replace v2 := (later_of Lw11).cell_of v2; replace v3 := (later_of Lw11).cell_of v3; replace u0 := (later_of Lw11).cell_of u0; replace b0 := (later_of Lw11).cell_of b0; replace b1 := (later_of Lw11).cell_of b1; replace t0 := (later_of Lw11).cell_of t0; replace t1 := (later_of Lw11).cell_of t1; have o0 := owns_cell hown11 (j := 0) rfl; have o1 := owns_cell hown11 (j := 1) rfl; have o2 := owns_cell hown11 (j := 2) rfl; have o3 := owns_cell hown11 (j := 3) rfl; have lo := (owns_base hown11).2; have fz := hown11.frozenAt 1)
  have E5 : Hid (Later w10 (w11.setCell ⟨g11, 1, none⟩ (.int .i64 (-1)))) := Later.trans (by repeat first | exact Lz _ | apply La | apply Lp | apply Lv | apply Ln | apply Ld) (own_set (later_of hL11) hown11 _ _)
  obtain ⟨A5, B5, C5, hcall⟩ := hOW.out (w11.setCell ⟨g11, 1, none⟩ (.int .i64 (-1))) g11 cap11 (LW10.out.trans E5.out) ((World.cell?_setCell_other _ _ _ (.int .i64 (-1)) (ne_off (by decide))).trans o0) (World.cell?_setCell_same _ _ (.int .i64 (-1)) o1) ((World.cell?_setCell_other _ _ _ (.int .i64 (-1)) (ne_off (by decide))).trans o2) ((World.cell?_setCell_other _ _ _ (.int .i64 (-1)) (ne_off (by decide))).trans o3)
  replace v0 := (World.cell?_setCell_other _ _ _ (.int .i64 (-1)) (ne_blk (g := g11) (i := 1) (by omega))).trans v0
  replace v1 := (World.cell?_setCell_other _ _ _ (.int .i64 (-1)) (ne_blk (g := g11) (i := 1) (by omega))).trans v1
  replace v2 := (World.cell?_setCell_other _ _ _ (.int .i64 (-1)) (ne_blk (g := g11) (i := 1) (by omega))).trans v2
  replace v3 := (World.cell?_setCell_other _ _ _ (.int .i64 (-1)) (ne_blk (g := g11) (i := 1) (by omega))).trans v3
  replace u0 := (World.cell?_setCell_other _ _ _ (.int .i64 (-1)) (ne_blk (g := g11) (i := 1) (by omega))).trans u0
  replace b0 := (World.cell?_setCell_other _ _ _ (.int .i64 (-1)) (ne_blk (g := g11) (i := 1) (by omega))).trans b0
  replace b1 := (World.cell?_setCell_other _ _ _ (.int .i64 (-1)) (ne_blk (g := g11) (i := 1) (by omega))).trans b1
  replace t0 := (World.cell?_setCell_other _ _ _ (.int .i64 (-1)) (ne_blk (g := g11) (i := 1) (by omega))).trans t0
  replace t1 := (World.cell?_setCell_other _ _ _ (.int .i64 (-1)) (ne_blk (g := g11) (i := 1) (by omega))).trans t1
  clear o0 o1 o2 o3 lo fz
  refine (hcall _ (Lz _)).mono ?_
  rintro e w12 ⟨rfl, h6⟩
  have LW12 : Hid (Later w w12) := (LW10.out.trans E5.out).trans h6
  replace v0 := h6.cell_of v0
  replace v1 := h6.cell_of v1
  replace v2 := h6.cell_of v2
  replace v3 := h6.cell_of v3
  replace u0 := h6.cell_of u0
  replace b0 := h6.cell_of b0
  replace b1 := h6.cell_of b1
  replace t0 := h6.cell_of t0
  replace t1 := h6.cell_of t1
  replace h6 : Hid True := trivial
  clear LW10 E5 hcall hown11 hL11 Lw11 hbw11
  clear lg
  clear lu
  clear lB
  clear lt
  have lg := cell_lt v0
  have lu := cell_lt u0
  have lB := cell_lt b0
  have lt := cell_lt t0
  rcases hE.out with ⟨z1, z2⟩ | ⟨z1, z2⟩ | ⟨z1, z3, z2⟩
  · subst z1 z2
    go_wp2_with (go_at_call 12; refine (num_any _ _).mono ?_; rintro e w' ⟨rfl, rfl⟩)
    go_ret
    exact ⟨rfl, LW12.out.trans (by repeat first | exact Lz _ | apply La | apply Lp | apply Lv | apply Ln | apply Ld)⟩
  · subst z1 z2
    go_wp2_with (go_at_call 12; refine (num_any _ _).mono ?_; rintro e w' ⟨rfl, rfl⟩)
    go_ret
    exact ⟨rfl, LW12.out.trans (by repeat first | exact Lz _ | apply La | apply Lp | apply Lv | apply Ln | apply Ld)⟩
  · subst z2
    have z4 : (p == 127) = false := beq_eq_false_iff_ne.2 z1
    have z5 : (p == 125) = false := beq_eq_false_iff_ne.2 z3
    go_wp2_with (go_at_call 12; refine (num_any _ _).mono ?_; rintro e w' ⟨rfl, rfl⟩)
    go_ret
    exact ⟨rfl, LW12.out.trans (by repeat first | exact Lz _ | apply La | apply Lp | apply Lv | apply Ln | apply Ld)⟩
theorem core21 (op which : Int) (k p r tt : Int) (e0 e1 : Int) (E : Int) (w : World) (hk : (IntKind.u64.wrap op).tmod 123 = k) (h69 : 0 ≤ k) (h191 : k ≤ 122) (hR : RT2 (69 + k) p r)
    (hOA : ∀ (wv : World) (g cap : Nat), Hid (Later w wv) → wv.cell? ⟨g, 0, none⟩ = some (.int .i64 p) → wv.cell? ⟨g, 1, none⟩ = some (.int .i64 1) → wv.cell? ⟨g, 2, none⟩ = some (.int .i64 p) → wv.cell? ⟨g, 3, none⟩ = some (.int .i64 1) → ∃ A4 B4 C4, OfC wv (69 + k) (.slice (some ⟨g, 0, none⟩) 2 cap) (A4, B4, C4, 0))
    (hOB : ∀ (wv : World) (g cap : Nat), wv.cell? ⟨g, 0, none⟩ = some (.int .i64 p) → wv.cell? ⟨g, 1, none⟩ = some (.int .i64 1) → wv.cell? ⟨g, 2, none⟩ = some (.int .i64 (124 + tt)) → wv.cell? ⟨g, 3, none⟩ = some (.int .i64 1) → OfC wv (69 + k) (.slice (some ⟨g, 0, none⟩) 2 cap) (0, 0, 0, 700))
    (hOW : ∀ (wv : World) (g cap : Nat), Hid (Later w wv) → wv.cell? ⟨g, 0, none⟩ = some (.int .i64 p) → wv.cell? ⟨g, 1, none⟩ = some (.int .i64 1) → wv.cell? ⟨g, 2, none⟩ = some (.int .i64 p) → wv.cell? ⟨g, 3, none⟩ = some (.int .i64 (-1)) → ∃ A4 B4 C4, OfC wv (69 + k) (.slice (some ⟨g, 0, none⟩) 2 cap) (A4, B4, C4, E))
    (hOL : ∀ (wv : World) (ad : Option Addr) (len cap : Nat), ¬ len = 2 → OfC wv (69 + k) (.slice ad len cap) (0, 0, 0, 700))
    (hw : (IntKind.u64.wrap which).tmod 2 = 1) (hp1 : 124 ≤ p) (hp2 : p ≤ 127) (htt : (p - 124 + 1).tmod 4 = tt) (ht0 : 0 ≤ tt) (ht3 : tt ≤ 3) (hE : Hid ((p = 127 ∧ E = 700) ∨ (p = 125 ∧ E = 700) ∨ (¬ p = 127 ∧ ¬ p = 125 ∧ E = 0))) :
    Calls Tryz.prog 5 #[.int .i64 op, .int .i64 which, .agg #[.int .i64 e0, .int .i64 e1]] w fun e w' => e = .returned (.bool true) ∧ Later w w' := by
  obtain ⟨i0, hi, hz0, hz1, hz2⟩ := info_parts info_val
  replace hOA : Hid _ := hOA
  replace hOB : Hid _ := hOB
  replace hOW : Hid _ := hOW
  replace hOL : Hid _ := hOL
  go_enter Tryz.func5, Tryz.ntmps5
  go_wp2_with fail
  refine (awake_any _).mono ?_
  rintro e wa ⟨rfl, h0⟩
  have t0 : wa.cell? ⟨w.heap.size, 0, none⟩ = some (.int .i64 e0) := h0.cell_of (by simp [go_sem])
  have t1 : wa.cell? ⟨w.heap.size, 1, none⟩ = some (.int .i64 e1) := h0.cell_of (by simp [go_sem])
  replace h0 : Hid (Later w wa) := Later.trans (by repeat first | exact Lz _ | apply La | apply Lp | apply Lv | apply Ln | apply Ld) h0
  go_wp2_with fail
  refine (hR _).mono ?_
  rintro e w1 ⟨B, C, cp, rfl, hl, hB0, hC0, hBC, hB, hC⟩
  have L1 : Hid (Later wa w1) := later_of hl
  have b0 := hB.out.cell (j := 0) (x := p) rfl
  have b1 := hB.out.cell (j := 1) (x := p) rfl
  have lB := hB.out.lt
  have lC := hC.out.lt
  replace t0 := (later_of L1).cell_of t0
  replace t1 := (later_of L1).cell_of t1
  have lt := cell_lt t0
  clear hB0 hC0 hl
  have L0 : Hid (Later w w1) := h0.out.trans (later_of L1)
  clear h0 L1
  go_wp2_with fail
  refine wp_loop_rounds 3 ?_
  rw [rounds_succ]
  go_wp2_with (at_builtin; refine wpList_append_later (Lz _) rfl _ _ 22 rfl 33 i0 (.agg #[.int .i64 0, .int .i64 0]) 2 16 Tryz.underlying22 hi hz0 hz1 hz2 rfl (by decide) _ _ _ rfl (World.ownsRow_nil _ _ _ _) _ 1 _ [.int .i64 p, .int .i64 1] rfl rfl (news2 (by simp)) (one2 _ _) (by decide) (by decide) (by decide) ?_; clear b0 b1 lB lC; intro g cap w2 hown hL2; simp only [Nat.zero_add, List.nil_append, List.cons_append] at hown; have v0 := owns_cell hown (j := 0) rfl; have v1 := owns_cell hown (j := 1) rfl; have lg := (owns_base hown).2; have u0 : w2.cell? ⟨w1.heap.size, 0, none⟩ = some (.slice (some ⟨B, 0, none⟩) 2 cp) := (later_of hL2).cell_of (by simp [go_sem]); have Lw2 : Hid (Later w1 w2) := Later.trans (by repeat first | exact Lz _ | apply La | apply Lp | apply Lv | apply Ln | apply Ld) (later_of hL2); have b0 := (hB.out.later (later_of Lw2)).cell (j := 0) (x := p) rfl; have b1 := (hB.out.later (later_of Lw2)).cell (j := 1) (x := p) rfl; have lu := cell_lt u0; have lB := cell_lt b0)
  rw [rounds_succ]
  go_wp2_with (at_builtin; refine wpList_append_later (La (later_of hL2)) rfl _ _ 22 rfl 33 i0 (.agg #[.int .i64 0, .int .i64 0]) 2 16 Tryz.underlying22 hi hz0 hz1 hz2 rfl (by decide) _ _ _ rfl (hown.alloc _) _ 1 _ [.int .i64 p, .int .i64 1] rfl rfl (news2 (by simp)) (one2 _ _) (by decide) (by decide) (by decide) ?_; clear b0 b1 lB lu lg u0 v0 v1; intro g2 cap2 w3 hown3 hL3; simp only [Nat.zero_add, List.nil_append, List.cons_append] at hown3; have v0 := owns_cell hown3 (j := 0) rfl; have v1 := owns_cell hown3 (j := 1) rfl; have v2 := owns_cell hown3 (j := 2) rfl; have v3 := owns_cell hown3 (j := 3) rfl; have lg := (owns_base hown3).2; have u0 : w3.cell? ⟨w1.heap.size, 0, none⟩ = some (.slice (some ⟨B, 0, none⟩) 2 cp) := (later_of hL3).cell_of (by simp [go_sem]); have Lw3 : Hid (Later w1 w3) := Later.trans (by repeat first | exact Lz _ | apply La | apply Lp | apply Lv | apply Ln | apply Ld) (later_of hL3); have b0 := (hB.out.later (later_of Lw3)).cell (j := 0) (x := p) rfl; have b1 := (hB.out.later (later_of Lw3)).cell (j := 1) (x := p) rfl; have lu := cell_lt u0; have lB := cell_lt b0)
  rw [rounds_succ]
  replace t0 := (later_of Lw3).cell_of t0
  replace t1 := (later_of Lw3).cell_of t1
  clear lt
  have lt := cell_lt t0
  have LV : Hid (Later w w3) := (later_of L0).trans (later_of Lw3)
  obtain ⟨A4, B4, C4, hof⟩ := hOA.out w3 g2 cap2 LV v0 v1 v2 v3
  have hcn : ¬ cap2 = 1 := by have := own_cap hown3 (by decide); omega
  clear hB hC hown hL2 hown3 hL3 Lw2 Lw3 L0 hOA
  go_wp2_with fail
  refine (hof _ (by repeat first | exact Lz _ | apply La | apply Lp | apply Lv | apply Ln | apply Ld)).mono ?_
  rintro e w4 ⟨rfl, h4⟩
  have L4 : Hid (Later w3 w4) := Later.trans (by repeat first | exact Lz _ | apply La | apply Lp | apply Lv | apply Ln | apply Ld) h4
  replace v0 := (later_of L4).cell_of v0
  replace v1 := (later_of L4).cell_of v1
  replace v2 := (later_of L4).cell_of v2
  replace v3 := (later_of L4).cell_of v3
  replace u0 := (later_of L4).cell_of u0
  replace b0 := (later_of L4).cell_of b0
  replace b1 := (later_of L4).cell_of b1
  replace t0 := (later_of L4).cell_of t0
  replace t1 := (later_of L4).cell_of t1
  have LW : Hid (Later w w4) := LV.out.trans (later_of L4)
  replace h4 : Hid True := trivial
  clear LV L4 hof
  clear lg
  clear lu
  clear lB
  clear lt
  have lg := cell_lt v0
  have lu := cell_lt u0
  have lB := cell_lt b0
  have lt := cell_lt t0
  go_wp2_with (at_builtin; refine wpList_append_later (La (Lz _)) rfl _ _ 22 rfl 33 i0 (.agg #[.int .i64 0, .int .i64 0]) 2 16 Tryz.underlying22 hi hz0 hz1 hz2 rfl (by decide) _ 0 [] rfl (own_lit0 _ _ (by simp)) _ 2 _ [.int .i64 p, .int .i64 1, .int .i64 p, .int .i64 1] rfl rfl (news_b (Later.cell_of (by repeat first | exact Lz _ | apply La | apply Lp | apply Lv | apply Ln | apply Ld) v0) (Later.cell_of (by repeat first | exact Lz _ | apply La | apply Lp | apply Lv | apply Ln | apply Ld) v1) (Later.cell_of (by repeat first | exact Lz _ | apply La | apply Lp | apply Lv | apply Ln | apply Ld) v2) (Later.cell_of (by repeat first | exact Lz _ | apply La | apply Lp | apply Lv | apply Ln | apply Ld) v3)) (one4 _ _ _ _) (by decide) (by decide) (by decide) ?_; intro g5 cap5 w5 hown5 hL5; simp only [Nat.zero_add, List.nil_append] at hown5; have Lw5 : Hid (Later w4 w5) := Later.trans (by repeat first | exact Lz _ | apply La | apply Lp | apply Lv | apply Ln | apply Ld) (later_of hL5); have hbw5 := (owns_base hown5).1; simp at hbw5; replace v0 := (later_of Lw5).cell_of v0; replace v1 := (later_of Lw5).cell_of v1; replace v2 := (later_of Lw5).cell_of v2; replace v3 := (later_of Lw5).cell_of v3; replace u0 := (later_of Lw5).cell_of u0; replace b0 := (later_of Lw5).cell_of b0; replace b1 := (later_of Lw5).cell_of b1; replace t0 := (later_of Lw5).cell_of t0; replace t1 := (later_of Lw5).cell_of t1; have o0 := owns_cell hown5 (j := 0) rfl; have o1 := owns_cell hown5 (j := 1) rfl; have o2 := owns_cell hown5 (j := 2) rfl; have o3 := owns_cell hown5 (j := 3) rfl; have lo := (owns_base hown5).2; have fz := hown5.frozenAt 2)
  have E5 : Hid (Later w4 (w5.setCell ⟨g5, 2, none⟩ (.int .i64 (124 + tt)))) := Later.trans (by repeat first | exact Lz _ | apply La | apply Lp | apply Lv | apply Ln | apply Ld) (own_set (later_of hL5) hown5 _ _)
  have hcall := hOB.out (w5.setCell ⟨g5, 2, none⟩ (.int .i64 (124 + tt))) g5 cap5 ((World.cell?_setCell_other _ _ _ (.int .i64 (124 + tt)) (ne_off (by decide))).trans o0) ((World.cell?_setCell_other _ _ _ (.int .i64 (124 + tt)) (ne_off (by decide))).trans o1) (World.cell?_setCell_same _ _ (.int .i64 (124 + tt)) o2) ((World.cell?_setCell_other _ _ _ (.int .i64 (124 + tt)) (ne_off (by decide))).trans o3)
  replace v0 := (World.cell?_setCell_other _ _ _ (.int .i64 (124 + tt)) (ne_blk (g := g5) (i := 2) (by omega))).trans v0
  replace v1 := (World.cell?_setCell_other _ _ _ (.int .i64 (124 + tt)) (ne_blk (g := g5) (i := 2) (by omega))).trans v1
  replace v2 := (World.cell?_setCell_other _ _ _ (.int .i64 (124 + tt)) (ne_blk (g := g5) (i := 2) (by omega))).trans v2
  replace v3 := (World.cell?_setCell_other _ _ _ (.int .i64 (124 + tt)) (ne_blk (g := g5) (i := 2) (by omega))).trans v3
  replace u0 := (World.cell?_setCell_other _ _ _ (.int .i64 (124 + tt)) (ne_blk (g := g5) (i := 2) (by omega))).trans u0
  replace b0 := (World.cell?_setCell_other _ _ _ (.int .i64 (124 + tt)) (ne_blk (g := g5) (i := 2) (by omega))).trans b0
  replace b1 := (World.cell?_setCell_other _ _ _ (.int .i64 (124 + tt)) (ne_blk (g := g5) (i := 2) (by omega))).trans b1
  replace t0 := (World.cell?_setCell_other _ _ _ (.int .i64 (124 + tt)) (ne_blk (g := g5) (i := 2) (by omega))).trans t0
  replace t1 := (World.cell?_setCell_other _ _ _ (.int .i64 (124 + tt)) (ne_blk (g := g5) (i := 2) (by omega))).trans t1
  clear o0 o1 o2 o3 lo fz
  refine (hcall _ (Lz _)).mono ?_
  rintro e w6 ⟨rfl, h6⟩
  have LW6 : Hid (Later w w6) := (LW.out.trans E5.out).trans h6
  replace v0 := h6.cell_of v0
  replace v1 := h6.cell_of v1
  replace v2 := h6.cell_of v2
  replace v3 := h6.cell_of v3
  replace u0 := h6.cell_of u0
  replace b0 := h6.cell_of b0
  replace b1 := h6.cell_of b1
  replace t0 := h6.cell_of t0
  replace t1 := h6.cell_of t1
  replace h6 : Hid True := trivial
  clear LW E5 hcall hown5 hL5 Lw5 hbw5
  clear lg
  clear lu
  clear lB
  clear lt
  have lg := cell_lt v0
  have lu := cell_lt u0
  have lB := cell_lt b0
  have lt := cell_lt t0
  go_wp2_with fail
  refine (hOL.out _ _ _ _ (by decide) _ (Lz _)).mono ?_
  rintro e w7 ⟨rfl, h7⟩
  have K7 : Hid (Later w6 w7) := Later.trans (by repeat first | exact Lz _ | apply La | apply Lp | apply Lv | apply Ln | apply Ld) h7
  have LW7 : Hid (Later w w7) := LW6.out.trans K7.out
  replace h7 : Hid True := trivial
  replace v0 := (later_of K7).cell_of v0
  replace v1 := (later_of K7).cell_of v1
  replace v2 := (later_of K7).cell_of v2
  replace v3 := (later_of K7).cell_of v3
  replace u0 := (later_of K7).cell_of u0
  replace b0 := (later_of K7).cell_of b0
  replace b1 := (later_of K7).cell_of b1
  replace t0 := (later_of K7).cell_of t0
  replace t1 := (later_of K7).cell_of t1
  clear K7 LW6
  clear lg
  clear lu
  clear lB
  clear lt
  have lg := cell_lt v0
  have lu := cell_lt u0
  have lB := cell_lt b0
  have lt := cell_lt t0
  go_wp2_with (first | (at_builtin; refine wpList_append_later (La (Lz _)) rfl _ _ 22 rfl 33 i0 (.agg #[.int .i64 0, .int .i64 0]) 2 16 Tryz.underlying22 hi hz0 hz1 hz2 rfl (by decide) _ 0 [] rfl (own_lit0 _ _ (by simp)) _ 2 _ [.int .i64 p, .int .i64 1, .int .i64 p, .int .i64 1] rfl rfl (news_b (Later.cell_of (by repeat first | exact Lz _ | apply La | apply Lp | apply Lv | apply Ln | apply Ld) v0) (Later.cell_of (by repeat first | exact Lz _ | apply La | apply Lp | apply Lv | apply Ln | apply Ld) v1) (Later.cell_of (by repeat first | exact Lz _ | apply La | apply Lp | apply Lv | apply Ln | apply Ld) v2) (Later.cell_of (by repeat first | exact Lz _ | apply La | apply Lp | apply Lv | apply Ln | apply Ld) v3)) (one4 _ _ _ _) (by decide) (by decide) (by decide) ?_; intro g8 cap8 w8 hown8 hL8; simp only [Nat.zero_add, List.nil_append] at hown8; have K8 : Hid (Later w7 w8) := Later.trans (by repeat first | exact Lz _ | apply La | apply Lp | apply Lv | apply Ln | apply Ld) (later_of hL8); have q0 := (later_of K8).cell_of t0; have q1 := (later_of K8).cell_of t1; have lq := cell_lt q0) | (at_builtin; refine wpList_append_later (La (later_of hL8)) rfl _ _ 22 rfl 33 i0 (.agg #[.int .i64 0, .int .i64 0]) 2 16 Tryz.underlying22 hi hz0 hz1 hz2 rfl (by decide) _ _ _ rfl (hown8.alloc _) _ 1 _ [.int .i64 e0, .int .i64 e1] rfl rfl (news2 (by simp)) (one2 _ _) (by decide) (by decide) (by decide) ?_; intro g9 cap9 w9 hown9 hL9; have K9 : Hid (Later w7 w9) := Later.trans (by repeat first | exact Lz _ | apply La | apply Lp | apply Lv | apply Ln | apply Ld) (later_of hL9)))
  clear q0 q1 lq K8 hown8 hL8 hown9 hL9
  replace v0 := (later_of K9).cell_of v0
  replace v1 := (later_of K9).cell_of v1
  replace v2 := (later_of K9).cell_of v2
  replace v3 := (later_of K9).cell_of v3
  replace u0 := (later_of K9).cell_of u0
  replace b0 := (later_of K9).cell_of b0
  replace b1 := (later_of K9).cell_of b1
  replace t0 := (later_of K9).cell_of t0
  replace t1 := (later_of K9).cell_of t1
  have LW9 : Hid (Later w w9) := LW7.out.trans K9.out
  clear K9 LW7
  clear lg
  clear lu
  clear lB
  clear lt
  have lg := cell_lt v0
  have lu := cell_lt u0
  have lB := cell_lt b0
  have lt := cell_lt t0
  refine (hOL.out _ _ _ _ (by decide) _ (Lz _)).mono ?_
  rintro e w10 ⟨rfl, h7⟩
  have K7 : Hid (Later w9 w10) := Later.trans (by repeat first | exact Lz _ | apply La | apply Lp | apply Lv | apply Ln | apply Ld) h7
  have LW10 : Hid (Later w w10) := LW9.out.trans K7.out
  replace h7 : Hid True := trivial
  replace v0 := (later_of K7).cell_of v0
  replace v1 := (later_of K7).cell_of v1
  replace v2 := (later_of K7).cell_of v2
  replace v3 := (later_of K7).cell_of v3
  replace u0 := (later_of K7).cell_of u0
  replace b0 := (later_of K7).cell_of b0
  replace b1 := (later_of K7).cell_of b1
  replace t0 := (later_of K7).cell_of t0
  replace t1 := (later_of K7).cell_of t1
  clear K7 LW9
  clear lg
  clear lu
  clear lB
  clear lt
  have lg := cell_lt v0
  have lu := cell_lt u0
  have lB := cell_lt b0
  have lt := cell_lt t0
  go_wp2_with (at_builtin; refine wpList_append_later (La (Lz _)) rfl _ _ 22 rfl 33 i0 (.agg #[.int .i64 0, .int .i64 0]) 2 16 Tryz.underlying22 hi hz0 hz1 hz2 rfl (by decide) _ 0 [] rfl (own_lit0 _ _ (by simp)) _ 2 _ [.int .i64 p, .int .i64 1, .int .i64 p, .int .i64 1] rfl rfl (news_b (Later.cell_of (by repeat first | exact Lz _ | apply La | apply Lp | apply Lv | apply Ln | apply Ld) v0) (Later.cell_of (by repeat first | exact Lz _ | apply La | apply Lp | apply Lv | apply Ln | apply Ld) v1) (Later.cell_of (by repeat first | exact Lz _ | apply La | apply Lp | apply Lv | apply Ln | apply Ld) v2) (Later.cell_of (by repeat first | exact Lz _ | apply La | apply Lp | apply Lv | apply Ln | apply Ld) v3)) (one4 _ _ _ _) (by decide) (by decide) (by decide) ?_; intro g11 cap11 w11 hown11 hL11; simp only [Nat.zero_add, List.nil_append] at hown11; have Lw11 : Hid (Later w10 w11) := Later.trans (by repeat first | exact Lz _ | apply La | apply Lp | apply Lv | apply Ln | apply Ld) (later_of hL11); have hbw11 := (owns_base hown11).1; simp at hbw11; replace v0 := (later_of Lw11).cell_of v0; replace v1 := (later_of Lw11).cell_of v1; replace v2 := (later_of Lw11).cell_of v2; replace v3 := (later_of Lw11).cell_of v3; replace u0 := (later_of Lw11).cell_of u0; replace b0 := (later_of Lw11).cell_of b0; replace b1 := (later_of Lw11).cell_of b1; replace t0 := (later_of Lw11).cell_of t0; replace t1 := (later_of Lw11).cell_of t1; have o0 := owns_cell hown11 (j := 0) rfl; have o1 := owns_cell hown11 (j := 1) rfl; have o2 := owns_cell hown11 (j := 2) rfl; have o3 := owns_cell hown11 (j := 3) rfl; have lo := (owns_base hown11).2; have fz := hown11.frozenAt 3)
  have E5 : Hid (Later w10 (w11.setCell ⟨g11, 3, none⟩ (.int .i64 (-1)))) := Later.trans (by repeat first | exact Lz _ | apply La | apply Lp | apply Lv | apply Ln | apply Ld) (own_set (later_of hL11) hown11 _ _)
  obtain ⟨A5, B5, C5, hcall⟩ := hOW.out (w11.setCell ⟨g11, 3, none⟩ (.int .i64 (-1))) g11 cap11 (LW10.out.trans E5.out) ((World.cell?_setCell_other _ _ _ (.int .i64 (-1)) (ne_off (by decide))).trans o0) ((World.cell?_setCell_other _ _ _ (.int .i64 (-1)) (ne_off (by decide))).trans o1) ((World.cell?_setCell_other _ _ _ (.int .i64 (-1)) (ne_off (by decide))).trans o2) (World.cell?_setCell_same _ _ (.int .i64 (-1)) o3)
  replace v0 := (World.cell?_setCell_other _ _ _ (.int .i64 (-1)) (ne_blk (g := g11) (i := 3) (by omega))).trans v0
  replace v1 := (World.cell?_setCell_other _ _ _ (.int .i64 (-1)) (ne_blk (g := g11) (i := 3) (by omega))).trans v1
  replace v2 := (World.cell?_setCell_other _ _ _ (.int .i64 (-1)) (ne_blk (g := g11) (i := 3) (by omega))).trans v2
  replace v3 := (World.cell?_setCell_other _ _ _ (.int .i64 (-1)) (ne_blk (g := g11) (i := 3) (by omega))).trans v3
  replace u0 := (World.cell?_setCell_other _ _ _ (.int .i64 (-1)) (ne_blk (g := g11) (i := 3) (by omega))).trans u0
  replace b0 := (World.cell?_setCell_other _ _ _ (.int .i64 (-1)) (ne_blk (g := g11) (i := 3) (by omega))).trans b0
  replace b1 := (World.cell?_setCell_other _ _ _ (.int .i64 (-1)) (ne_blk (g := g11) (i := 3) (by omega))).trans b1
  replace t0 := (World.cell?_setCell_other _ _ _ (.int .i64 (-1)) (ne_blk (g := g11) (i := 3) (by omega))).trans t0
  replace t1 := (World.cell?_setCell_other _ _ _ (.int .i64 (-1)) (ne_blk (g := g11) (i := 3) (by omega))).trans t1
  clear o0 o1 o2 o3 lo fz
  refine (hcall _ (Lz _)).mono ?_
  rintro e w12 ⟨rfl, h6⟩
  have LW12 : Hid (Later w w12) := (LW10.out.trans E5.out).trans h6
  replace v0 := h6.cell_of v0
  replace v1 := h6.cell_of v1
  replace v2 := h6.cell_of v2
  replace v3 := h6.cell_of v3
  replace u0 := h6.cell_of u0
  replace b0 := h6.cell_of b0
  replace b1 := h6.cell_of b1
  replace t0 := h6.cell_of t0
  replace t1 := h6.cell_of t1
  replace h6 : Hid True := trivial
  clear LW10 E5 hcall hown11 hL11 Lw11 hbw11
  clear lg
  clear lu
  clear lB
  clear lt
  have lg := cell_lt v0
  have lu := cell_lt u0
  have lB := cell_lt b0
  have lt := cell_lt t0
  rcases hE.out with ⟨z1, z2⟩ | ⟨z1, z2⟩ | ⟨z1, z3, z2⟩
  · subst z1 z2
    go_wp2_with (go_at_call 12; refine (num_any _ _).mono ?_; rintro e w' ⟨rfl, rfl⟩)
    go_ret
    exact ⟨rfl, LW12.out.trans (by repeat first | exact Lz _ | apply La | apply Lp | apply Lv | apply Ln | apply Ld)⟩
  · subst z1 z2
    go_wp2_with (go_at_call 12; refine (num_any _ _).mono ?_; rintro e w' ⟨rfl, rfl⟩)
    go_ret
    exact ⟨rfl, LW12.out.trans (by repeat first | exact Lz _ | apply La | apply Lp | apply Lv | apply Ln | apply Ld)⟩
  · subst z2
    have z4 : (p == 127) = false := beq_eq_false_iff_ne.2 z1
    have z5 : (p == 125) = false := beq_eq_false_iff_ne.2 z3
    go_wp2_with (go_at_call 12; refine (num_any _ _).mono ?_; rintro e w' ⟨rfl, rfl⟩)
    go_ret
    exact ⟨rfl, LW12.out.trans (by repeat first | exact Lz _ | apply La | apply Lp | apply Lv | apply Ln | apply Ld)⟩
theorem res_end (r : Int) (ve : Int × Int) : ∃ A4 B4 C4, resN r ve = (A4, B4, C4, 0) := by
  by_cases h : ve.2 = 0
  · exact ⟨_, _, _, res_val r ve h⟩
  · exact ⟨_, _, _, res_trap r ve h⟩
theorem okx1 (p : Int) : okX p 1 = true := by unfold okX; simp
theorem ok_small (p : Int) (h : p = 127 ∨ p = 125) : okX p (-1) = false := by rcases h with rfl | rfl <;> decide
theorem ok_wide (p : Int) (h : p = 126 ∨ p = 124) : okX p (-1) = true := by rcases h with rfl | rfl <;> decide
theorem tt_ne (p : Int) (h1 : 124 ≤ p) (h2 : p ≤ 127) : (0 ≤ (p - 124 + 1).tmod 4 ∧ (p - 124 + 1).tmod 4 ≤ 3) ∧ ¬ 124 + (p - 124 + 1).tmod 4 = p := by
  rcases (by omega : p = 124 ∨ p = 125 ∨ p = 126 ∨ p = 127) with rfl | rfl | rfl | rfl <;> decide
theorem in1 : inI 1 ∧ inI (-1) := by unfold inI; decide
theorem walk (a0 a1 e0 e1 : Int) (w : World) (hT : Tabs w) :
    Calls Tryz.prog 5 #[.int .i64 a0, .int .i64 a1, .agg #[.int .i64 e0, .int .i64 e1]] w fun e w' => e = .returned (.bool true) ∧ Later w w' := by
  obtain ⟨k, hk, hk0, hk1⟩ : ∃ k : Int, (IntKind.u64.wrap a0).tmod 123 = k ∧ 0 ≤ k ∧ k ≤ 122 := by
    have h0 : 0 ≤ IntKind.u64.wrap a0 := by rw [IntKind.wrap_u64]; omega
    refine ⟨_, rfl, ?_, ?_⟩ <;> rw [Int.tmod_eq_emod_of_nonneg h0] <;> omega
  have h0 : 0 ≤ IntKind.u64.wrap a1 := by rw [IntKind.wrap_u64]; omega
  have h : 69 ≤ 69 + k ∧ 69 + k ≤ 191 := by omega
  have hp := kP_or (69 + k) h.1 h.2
  have hpb : 124 ≤ kP (69 + k) ∧ kP (69 + k) ≤ 127 := by omega
  obtain ⟨⟨t0, t3⟩, tn⟩ := tt_ne (kP (69 + k)) hpb.1 hpb.2
  obtain ⟨E, hE⟩ : ∃ E : Int, (kP (69 + k) = 127 ∧ E = 700) ∨ (kP (69 + k) = 125 ∧ E = 700) ∨ (¬ kP (69 + k) = 127 ∧ ¬ kP (69 + k) = 125 ∧ E = 0) := by
    by_cases g1 : kP (69 + k) = 127
    · exact ⟨700, Or.inl ⟨g1, rfl⟩⟩
    · by_cases g2 : kP (69 + k) = 125
      · exact ⟨700, Or.inr (Or.inl ⟨g2, rfl⟩)⟩
      · exact ⟨0, Or.inr (Or.inr ⟨g1, g2, rfl⟩)⟩
  rcases kC_or (69 + k) with hc | hc
  · refine core10 a0 a1 k (kP (69 + k)) (kR (69 + k)) _ e0 e1 E w hk hk0 hk1 (rt1 _ h hc) ?_ ?_ ?_ ?_ ?_ hpb.1 hpb.2 rfl t0 t3 hE
    · intro wv g cap hl c0 c1
      have f := of_fit1 wv (69 + k) 1 g 0 cap h hc (hT.later hl.out) c0 c1 (okx1 _)
      obtain ⟨A4, B4, C4, e⟩ := res_end (kR (69 + k)) (numN (69 + k) (kP (69 + k)) 1 1 0)
      rw [e] at f
      exact ⟨_, _, _, f⟩
    · intro wv g cap c0 c1
      exact of_bad1 wv (69 + k) _ 1 g 0 cap h hc c0 c1 (fun hh => tn hh.1)
    · intro wv g cap hl c0 c1
      rcases hE with ⟨g1, rfl⟩ | ⟨g1, rfl⟩ | ⟨g1, g2, rfl⟩
      · exact ⟨0, 0, 0, of_bad1 wv (69 + k) _ (-1) g 0 cap h hc c0 c1 (fun hh => by rw [ok_small _ (Or.inl g1)] at hh; exact absurd hh.2 (by decide))⟩
      · exact ⟨0, 0, 0, of_bad1 wv (69 + k) _ (-1) g 0 cap h hc c0 c1 (fun hh => by rw [ok_small _ (Or.inr g1)] at hh; exact absurd hh.2 (by decide))⟩
      · have f := of_fit1 wv (69 + k) (-1) g 0 cap h hc (hT.later hl.out) c0 c1 (ok_wide _ (by omega))
        obtain ⟨A4, B4, C4, e⟩ := res_end (kR (69 + k)) (numN (69 + k) (kP (69 + k)) 1 (-1) 0)
        rw [e] at f
        exact ⟨_, _, _, f⟩
    · intro wv ad len cap hl
      exact of_len wv (69 + k) ad len cap h (by rw [hc]; omega)
    · rw [Int.tmod_eq_emod_of_nonneg h0]; omega
  · have hlen : ∀ (wv : World) (ad : Option Addr) (len cap : Nat), ¬ len = 2 → OfC wv (69 + k) (.slice ad len cap) (0, 0, 0, 700) := fun wv ad len cap hl => of_len wv (69 + k) ad len cap h (by rw [hc]; omega)
    have hfit : ∀ (wv : World) (g cap : Nat), Hid (Later w wv) → wv.cell? ⟨g, 0, none⟩ = some (.int .i64 (kP (69 + k))) → wv.cell? ⟨g, 1, none⟩ = some (.int .i64 1) → wv.cell? ⟨g, 2, none⟩ = some (.int .i64 (kP (69 + k))) → wv.cell? ⟨g, 3, none⟩ = some (.int .i64 1) → ∃ A4 B4 C4, OfC wv (69 + k) (.slice (some ⟨g, 0, none⟩) 2 cap) (A4, B4, C4, 0) := by
      intro wv g cap hl c0 c1 c2 c3
      have f := of_fit2 wv (69 + k) 1 g 0 cap 1 h hc in1.1 in1.1 c0 c1 c2 c3 (okx1 _) (okx1 _)
      obtain ⟨A4, B4, C4, e⟩ := res_end (kR (69 + k)) (numN (69 + k) (kP (69 + k)) 2 1 1)
      rw [e] at f
      exact ⟨_, _, _, f⟩
    rcases (by omega : IntKind.u64.wrap a1 % 2 = 0 ∨ IntKind.u64.wrap a1 % 2 = 1) with hw | hw
    · refine core20 a0 a1 k (kP (69 + k)) (kR (69 + k)) _ e0 e1 E w hk hk0 hk1 (rt2 _ h hc).2 hfit ?_ ?_ hlen ?_ hpb.1 hpb.2 rfl t0 t3 hE
      · intro wv g cap c0 c1 c2 c3
        exact of_bad2 wv (69 + k) _ 1 g 0 cap _ 1 h hc c0 c1 c2 c3 (fun hh => tn hh.1)
      · intro wv g cap hl c0 c1 c2 c3
        rcases hE with ⟨g1, rfl⟩ | ⟨g1, rfl⟩ | ⟨g1, g2, rfl⟩
        · exact ⟨0, 0, 0, of_bad2 wv (69 + k) _ (-1) g 0 cap _ 1 h hc c0 c1 c2 c3 (fun hh => by rw [ok_small _ (Or.inl g1)] at hh; exact absurd hh.2.1 (by decide))⟩
        · exact ⟨0, 0, 0, of_bad2 wv (69 + k) _ (-1) g 0 cap _ 1 h hc c0 c1 c2 c3 (fun hh => by rw [ok_small _ (Or.inr g1)] at hh; exact absurd hh.2.1 (by decide))⟩
        · have f := of_fit2 wv (69 + k) (-1) g 0 cap 1 h hc in1.2 in1.1 c0 c1 c2 c3 (ok_wide _ (by omega)) (okx1 _)
          obtain ⟨A4, B4, C4, e⟩ := res_end (kR (69 + k)) (numN (69 + k) (kP (69 + k)) 2 (-1) 1)
          rw [e] at f
          exact ⟨_, _, _, f⟩
      · rw [Int.tmod_eq_emod_of_nonneg h0]; exact hw
    · refine core21 a0 a1 k (kP (69 + k)) (kR (69 + k)) _ e0 e1 E w hk hk0 hk1 (rt2 _ h hc).2 hfit ?_ ?_ hlen ?_ hpb.1 hpb.2 rfl t0 t3 hE
      · intro wv g cap c0 c1 c2 c3
        exact of_bad2 wv (69 + k) _ 1 g 0 cap _ 1 h hc c0 c1 c2 c3 (fun hh => tn hh.2.2.1)
      · intro wv g cap hl c0 c1 c2 c3
        rcases hE with ⟨g1, rfl⟩ | ⟨g1, rfl⟩ | ⟨g1, g2, rfl⟩
        · exact ⟨0, 0, 0, of_bad2 wv (69 + k) _ 1 g 0 cap _ (-1) h hc c0 c1 c2 c3 (fun hh => by rw [ok_small _ (Or.inl g1)] at hh; exact absurd hh.2.2.2 (by decide))⟩
        · exact ⟨0, 0, 0, of_bad2 wv (69 + k) _ 1 g 0 cap _ (-1) h hc c0 c1 c2 c3 (fun hh => by rw [ok_small _ (Or.inr g1)] at hh; exact absurd hh.2.2.2 (by decide))⟩
        · have f := of_fit2 wv (69 + k) 1 g 0 cap (-1) h hc in1.1 in1.2 c0 c1 c2 c3 (okx1 _) (ok_wide _ (by omega))
          obtain ⟨A4, B4, C4, e⟩ := res_end (kR (69 + k)) (numN (69 + k) (kP (69 + k)) 2 1 (-1))
          rw [e] at f
          exact ⟨_, _, _, f⟩
      · rw [Int.tmod_eq_emod_of_nonneg h0]; exact hw

set_option maxRecDepth 100000 in
theorem lifted (os : Os) (started : os.Started) (H : Type) (enc : TypeId × Value → H) :
    ReturnsInHanded {} Tryz.checked os 5 .any (fun w args => (Rows.applyWrongSpec.pre enc Tryz.prog Tryz.f5 [] false w args ∧ laidMetH Tryz.prog tabs w) ∧ sizedMet enc Tryz.prog Tryz.f5 (OpenSpec.ofChange Rows.applyWrongSpec) false w args)
      (Rows.applyWrongSpec.post enc Tryz.prog Tryz.f5 false true false false) := by
  refine returnsInHanded_of_change_and (C := Tryz.checked) (X := fun w _ => laidMetH Tryz.prog tabs w) (fun _ _ _ hh h => h.of_heap hh) own started (by kernel_rfl) Tryz.func5
    (ChangeSpec.witness_shaped (enc := enc) (C := Tryz.checked) (os := os) (X := fun w _ => laidMetH Tryz.prog tabs w) false (World.doorLaid Tryz.prog 400 os) #[.int .i64 0, .int .i64 0, .agg #[.int .i64 0, .int .i64 0]] 8 rfl (World.shaped_of_RefB (by kernel_rfl) (by kernel_rfl)) (by kernel_rfl) (by kernel_rfl) (by kernel_rfl) (door_met os _)) ?_
  intro W base args ds gs before hval0 hW _ _ hL _
  have hval : ∀ (j : Nat) t v, Tryz.f5.params[j]? = some t → args[j]? = some v → Value.okWide Tryz.prog W .any base t v := hval0
  have hW' := hW
  obtain ⟨p, q, hA0, hV, rfl, hfz, hnd⟩ := hW
  have hA : DataW.TrodAll enc Tryz.prog W 0 (fun _ => true) true Tryz.f5.params.toList args.toList ds p := hA0
  rw [Tryz.params5] at hA hval
  obtain ⟨v0, vs0, d0, ds0, p0, q0, hargs, rfl, rfl, h0, r0⟩ := trodAll_cons hA
  obtain ⟨v1, vs1, d1, ds1, p1, q1, rfl, rfl, rfl, h1, r1⟩ := trodAll_cons r0
  obtain ⟨v2, vs2, d2, ds2, p2, q2, rfl, rfl, rfl, h2, r2⟩ := trodAll_cons r1
  obtain ⟨rfl, rfl, rfl⟩ := trodAll_nil r2
  obtain rfl : args = #[v0, v1, v2] := by cases args; simp_all
  obtain ⟨rfl, rfl⟩ := trodVars_none hV
  obtain ⟨a0, rfl, rfl, rfl, w0⟩ := open_int Tryz.underlying3 (hval 0 3 v0 rfl rfl) h0
  obtain ⟨a1, rfl, rfl, rfl, w1⟩ := open_int Tryz.underlying3 (hval 1 3 v1 rfl rfl) h1
  have k2 := h2
  obtain ⟨va2, vb2, ya2, yb2, m2, rfl, hd2, hp2, ta2, tb2⟩ := Joins.open_agg2 Tryz.underlying33 (by kernel_rfl) (by kernel_rfl) (hval 2 33 v2 rfl rfl) h2
  obtain ⟨la2, ea2, _, _⟩ := DataW.trod_int Tryz.underlying3 ta2
  obtain ⟨lb2, eb2, _, _⟩ := DataW.trod_int Tryz.underlying3 tb2
  simp only [List.cons.injEq, and_true] at ea2 eb2
  subst ea2 eb2
  clear hA0 hval0
  simp only [List.append_nil, List.nil_append] at hW'
  have hlt : ∀ x ∈ p2, x.block < W.heap.size := fun x hx => by simpa using hW'.lt x hx
  refine (walk a0 a1 la2 lb2 W  (of_laid hL)).mono fun e W' ⟨he, hl⟩ => ?_
  subst he
  have hg := hl.grown
  have hbel : Below W.heap.size W W' := by obtain ⟨bs, nn, rfl⟩ := hl; exact ⟨rfl, rfl, rfl, by rw [World.far_size]; omega, fun k hk => World.far_block W bs nn k hk⟩
  have hx : ∀ sp : Nat → Bool, (∀ p ∈ p2, sp p.block = true) → DataW.TrodAll enc Tryz.prog W' 0 sp true [3, 3, 33] [.int .i64 a0, .int .i64 a1, .agg #[.int .i64 la2, .int .i64 lb2]] [.lit (.int .i64 a0), .lit (.int .i64 a1), d2] (p2) := fun sp hsp => by simpa using (trodAll_cons_mk (shut_int Tryz.underlying3 w0) (trodAll_cons_mk (shut_int Tryz.underlying3 w1) (trodAll_cons_mk (WideElems.Trod_stays (by kernel_rfl) (by kernel_rfl) (of_decide_eq_true (by kernel_rfl)) k2 (fun x hx => hbel.same (hlt x (by simp [hx]))) (fun x hx => hsp x (by simp [hx]))) trodAll_mk0)))
  exact ⟨_, rfl, post_of_same (pa := p2) (pv := []) hW' (fun _ _ _ => (trodAll_cons_mk (shut_bool Tryz.underlying4 _) trodAll_mk0)) (fun sp hsp => hx sp hsp) (fun _ _ => rfl) (by simp)
    (hg.frame _) hg.2.1 (ok_one (by kernel_rfl) rfl (okWide_bool_mk Tryz.underlying4 _))⟩

theorem over : Rows.applyWrongRow.holds Tryz.pinned (OpenSpec.ofChange Rows.applyWrongSpec) :=
  OpenClaim.holds_of_wide 5 Tryz.f5 rfl rfl rfl rfl rfl rfl rfl ⟨rfl, rfl, rfl, rfl, rfl⟩ rfl rfl rfl rfl rfl (by kernel_rfl) Tryz.func5 (by kernel_rfl)
    (of_decide_eq_true (by kernel_rfl)) (by unfold Func.isWrapper; first | (rw [if_pos (by decide +kernel)]; kernel_rfl) | (rw [if_neg (by decide +kernel)]; exact ⟨rfl, rfl⟩))
    (fun os started H enc _ => lifted os started H enc)


theorem row_holds : Rows.ApplyWrongSaid := over

theorem card_holds : Rows.ApplyWrongCardSaid :=
  Claim7.holds_tied_plain_at .later [] [.data, .data] true (true, "858e6e0648fcb45bf74692b8baf86f4e36d11ad85089584bc713cf3883128cf4") false
    row_holds (fun _ h => by cases h) (by kernel_rfl) (fun _ h => by cases h) applyWrong_row_tie rfl ⟨rfl, rfl⟩ (by kernel_rfl) rfl
    (fun f fn hf hfn => by
      obtain rfl : f = 5 := Option.some.inj ((show Tryz.prog.funcNamed Rows.applyWrongRow.func = some 5 by kernel_rfl).symm.trans hf) |>.symm
      obtain rfl : fn = Tryz.f5 := (Option.some.inj (Tryz.func5.symm.trans hfn)).symm
      exact ⟨by kernel_rfl, fun j t ht => by
        rw [Tryz.params5] at ht
        have hm : t ∈ [3, 3, 33] := by simpa using Array.mem_of_getElem? ht
        have hall : ([3, 3, 33].all fun u => !Tryz.prog.wantsStandIn u) = true := by kernel_rfl
        exact (show Tryz.prog.wantsStandIn t = false by simpa using List.all_eq_true.1 hall t hm)⟩)
    (by kernel_rfl)
end Go.Proofs.YtdfgcagbpndabaaGreatDoor.applyWrong
namespace Go.Proofs.YtdfgcagbpndabaaGreatDoor
theorem applyWrong_holds : Rows.ApplyWrongCardSaid := applyWrong.card_holds
#print axioms applyWrong_holds
end Go.Proofs.YtdfgcagbpndabaaGreatDoor
