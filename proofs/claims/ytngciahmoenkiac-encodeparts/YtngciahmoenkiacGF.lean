/- package instr: fault, walked over the row. -/
import Derived.Test.YtngciahmoenkiacGE
import Derived.RangeFuncNested
import Derived.RangeFuncBound
import Derived.RangeFuncCalls
import Derived.RangeFuncLeaves
import Derived.Shelf.Abstract
import Derived.Shelf.RegionOpen
import Derived.WalkKit
import Derived.OwnWalkIn
import Derived.TacticsInMore
import Derived.LoopNIn
import Derived.LoopIn
set_option linter.unusedVariables false
set_option linter.unusedSimpArgs false
set_option maxRecDepth 100000
set_option maxHeartbeats 8000000
namespace Go.Proofs.Ytngciahmoenkiac.gi
open Go.RowKit Go.Shelf
attribute [local go_sem] Oper.semAt_some
open rw
/-- what holds between the rounds -/
structure Fi (w : World) (p : Nat) (E c : Int) (W : World) : Prop where
  low : Bel p w W
  b0 : Boxed W p 53 (.int .i64 E)
  b1 : Boxed W (p + 1) 3 (.int .i64 c)
theorem Fi.bel {w : World} {p : Nat} {E c : Int} {W W' : World} {B : Nat} (h : Fi w p E c W) (hb : Bel B W W') (hB : p + 2 ≤ B) : Fi w p E c W' :=
  ⟨h.low.trans (hb.mono (by omega)), (hb.block _ (by omega)).trans h.b0, (hb.block _ (by omega)).trans h.b1⟩
theorem Fi.setN {w : World} {p : Nat} {E c : Int} {W : World} (h : Fi w p E c W) (x : Int) : Fi w p E x (W.setCell ⟨p + 1, 0, none⟩ (.int .i64 x)) :=
  ⟨h.low.setCell (p := ⟨p + 1, 0, none⟩) (show p ≤ p + 1 by omega) _, Boxed.other h.b0 (by omega) _, Boxed.set _ h.b1⟩
theorem Fi.setE {w : World} {p : Nat} {E c : Int} {W : World} (h : Fi w p E c W) (x : Int) : Fi w p x c (W.setCell ⟨p, 0, none⟩ (.int .i64 x)) :=
  ⟨h.low.setCell (p := ⟨p, 0, none⟩) (Nat.le_refl _) _, Boxed.set _ h.b0, Boxed.other h.b1 (by omega) _⟩
theorem kept_cell {p B : Nat} {X W : World} {b : Nat} (h : KeptAt (fun k => k < p) B X W) (v : Value) (hp : p ≤ b) (hb : b < B) : KeptAt (fun k => k < p) B X (W.setCell ⟨b, 0, none⟩ v) :=
  h.trans ⟨by simp, fun k hk hl => Below.heap_setCell W ⟨b, 0, none⟩ _ k (by intro e; rw [show k = b from e] at hk; rcases hk with h | h <;> omega)⟩
theorem kept_later {p B : Nat} {X W W' : World} (h : KeptAt (fun k => k < p) B X W) (hl : Later W W') : KeptAt (fun k => k < p) B X W' :=
  h.trans ⟨hl.size, fun k _ hk => hl.block hk⟩
theorem fe_more {k : Nk} {pre : List Nk} {n : Int} (hp : ∀ t, fe (pre ++ t) 0 = fe t n) (h1 : ¬ n + 1 > 8192) (h2 : ¬ ((fo k.op = 1 ∨ fo k.op = 2) ∧ k.deep ≥ 32)) (h3 : mayP k.op k.a k.b k.bi k.ty k.ls k.bo.len k.el.len) : ∀ t, fe ((pre ++ [k]) ++ t) 0 = fe t (n + 1) := by
  intro t
  rw [List.append_assoc, List.singleton_append, hp]
  conv => lhs; unfold fe
  rw [if_neg h1, if_neg h2, if_neg (fun h => h h3)]
theorem fe_1 {k : Nk} {pre : List Nk} {n : Int} (hp : ∀ t, fe (pre ++ t) 0 = fe t n) (h1 : n + 1 > 8192) : ∀ t, fe ((pre ++ [k]) ++ t) 0 = 1400 := by
  intro t
  rw [List.append_assoc, List.singleton_append, hp]
  unfold fe
  rw [if_pos h1]
theorem fe_2 {k : Nk} {pre : List Nk} {n : Int} (hp : ∀ t, fe (pre ++ t) 0 = fe t n) (h1 : ¬ n + 1 > 8192) (h2 : (fo k.op = 1 ∨ fo k.op = 2) ∧ k.deep ≥ 32) : ∀ t, fe ((pre ++ [k]) ++ t) 0 = 1402 := by
  intro t
  rw [List.append_assoc, List.singleton_append, hp]
  unfold fe
  rw [if_neg h1, if_pos h2]
theorem fe_3 {k : Nk} {pre : List Nk} {n : Int} (hp : ∀ t, fe (pre ++ t) 0 = fe t n) (h1 : ¬ n + 1 > 8192) (h2 : ¬ ((fo k.op = 1 ∨ fo k.op = 2) ∧ k.deep ≥ 32)) (h3 : ¬ mayP k.op k.a k.b k.bi k.ty k.ls k.bo.len k.el.len) : ∀ t, fe ((pre ++ [k]) ++ t) 0 = 1400 := by
  intro t
  rw [List.append_assoc, List.singleton_append, hp]
  unfold fe
  rw [if_neg h1, if_neg h2, if_pos h3]
theorem deep_iff (op d : Int) : ((lay op = 2 ∨ lay op = 3) ∧ 32 ≤ d) ↔ ((fo op = 1 ∨ fo op = 2) ∧ d ≥ 32) := by
  rcases lay_inv op with ⟨hl, hf⟩ | ⟨hl, hf⟩ | ⟨hl, hf⟩ | ⟨hl, hf⟩ | ⟨hl, hf⟩ | ⟨hl, hf⟩ | ⟨hl, hf⟩ | ⟨hl, hf⟩ | ⟨hl, hf⟩ | ⟨hl, hf, ho⟩ | ⟨hl, hf, ho⟩ | ⟨hl, hf, ho⟩ | ⟨hl, hf, ho⟩
  all_goals
    rw [hl, hf]
    omega
theorem fin_any (f : Fs) (w : World) (p Dd : Nat) (E k : Int) (W : World) (n9 : Nat) (hd : p < Dd) (hp : w.heap.size = p) (he : fe ((sq f 0).take 8193) 0 = E) (hfi : Fi w p E k W) (hK : W.heap[Dd]? = some (.deferred (some []))) (a : Act) (ht : a.tmps.getD 2 undef = .pointer (some ⟨p, 0, none⟩)) (hdf : a.defers = [{ target := Target.collected Dd, args := #[] }]) :
    bodyPostM Fence.wide n9 Try.prog Try.f61 (fun e w' => e = .returned (.int .i64 (fe ((sq f 0).take 8193) 0)) ∧ Hid (Later w w')) Exit.ret a W := by
  obtain ⟨tm, df⟩ := a
  simp only at ht hdf
  subst hdf
  refine ⟨by simp, .inl ⟨_, _, rfl, run_takeDeferred hK, ?_⟩⟩
  obtain ⟨W5, hW5⟩ : ∃ W5, W5 = W.putObj Dd (.deferred none) := ⟨_, rfl⟩
  have hbx : Boxed W5 p 53 (.int .i64 E) := by
    rw [hW5]
    exact (World.putObj_heap_other (by omega)).trans hfi.b0
  have hlow : Bel p w W5 := by
    rw [hW5]
    exact hfi.low.trans (below_put (by omega) _)
  rw [← hW5, he]
  have hce := hbx.cell
  have hres : (results Try.f61 tm).run Try.prog W5 = .ok (.int .i64 E) W5 := by
    have hr : Try.f61.results = #[.cell 2 53] := rfl
    have ht' : tm[2]?.getD undef = .pointer (some ⟨p, 0, none⟩) := by simpa using ht
    simp [results, hr, ht', asAddr, hce, go_sem]
  subst hp
  exact ⟨.int .i64 E, hres, rfl, later_bel hlow⟩
theorem fault_any (f : Fs) (ho : f.Ok) (hn : f.len * 112 ≤ 140737488351232) (Z : Nat → Prop) (w : World) (A : Option Addr) (c : Nat) (hT : Tr Z w A f) :
    Calls Try.prog 61 #[.slice A f.len c] w fun e w' => e = .returned (.int .i64 (ck f 0 0).1) ∧ Hid (Later w w') := by
  have hT2 : Tr (fun k => Z k ∧ k < w.heap.size) w A f := hT.move (fun k hk hl => ⟨⟨hk, hl⟩, rfl⟩)
  rw [← fe_all f]
  obtain ⟨W1, hW1⟩ : ∃ W1, ((w.alloc (.cells #[.int .i64 0] 53)).alloc (.cells #[.int .i64 0] 3)).alloc (.cells #[.slice A f.len c] 41) = W1 := ⟨_, rfl⟩
  have hb1 : Bel w.heap.size w W1 := by rw [← hW1]; exact (((Bel.refl _ w).alloc (Nat.le_refl _) _).alloc (by simp) _).alloc (by simp; omega) _
  have hs1 : W1.heap.size = w.heap.size + 3 := by rw [← hW1]; simp
  have hfi : Fi w w.heap.size 0 0 W1 := ⟨hb1, by rw [← hW1]; exact ((Boxed.new w _ _).alloc _).alloc _, by
    rw [← hW1]; have := Boxed.new (w.alloc (.cells #[.int .i64 0] 53)) 3 (.int .i64 0); rw [World.size_alloc] at this; exact this.alloc _⟩
  have bs : W1.heap[w.heap.size + 2]? = some (.cells #[.slice A f.len c] 41 (0, 0)) := by
    rw [← hW1]; have := World.alloc_heap_new ((w.alloc (.cells #[.int .i64 0] 53)).alloc (.cells #[.int .i64 0] 3)) (.cells #[.slice A f.len c] 41); rwa [World.size_alloc, World.size_alloc] at this
  have hsq : Hid (SeqBel Fence.wide 8 Try.prog 70 #[.pointer (some ⟨w.heap.size + 2, 0, none⟩)] (encs (Z := fun k => Z k ∧ k < w.heap.size) (w := w)) (fun k => k < w.heap.size) (Sx f) (Sp f) 8193 W1) :=
    row_below f ho hn A c (w.heap.size + 2) hT2 W1 (fun k hk => hk.2) hb1.size (fun k hk hl => hb1.block k hl) _ (fun k hk => hk.2) bs 8
  clear hT hT2 ho bs
  generalize f.len = n at *
  refine (callsIn_wide (n := 9)).1 ?_
  refine callsIn_of_wp_marks Try.func61 rfl trivial ?_ rfl
  simp only [Try.ntmps61, List.size_toArray, List.length_cons, List.length_nil, Nat.reduceAdd, Nat.reduceSub, Array.replicate_succ, Array.replicate_zero, List.push_toArray, List.append_toArray, List.nil_append, List.cons_append]
  gi_wp2
  refine ⟨trivial, ?_⟩
  refine (callsIn_wide.2 (row_any A n c _)).mono ?_
  rintro e w2 ⟨rfl, h2⟩
  obtain rfl : w2 = W1 := by rw [h2]; exact hW1
  clear h2 hW1
  simp only [World.size_alloc]
  gi_wp2
  generalize hp : w.heap.size = p at *
  refine wpIn_range_below (α := Nd (fun k => Z k ∧ k < p) w) (w := w2) rfl (by decide) rfl trivial (enters_of Try.func70 (by kernel_rfl) rfl) hsq.out (fun k hk => by omega) (Bel.refl _ _) (fun x => rfl)
    (fun pre W => Fi w p 0 (pre.length : Nat) W ∧ ∀ t, fe (pre.map key ++ t) 0 = fe t (pre.length : Nat))
    (fun c pre W => c = .ret ∧ ∃ E k, Fi w p E k W ∧ ∀ t, fe (pre.map key ++ t) 0 = E)
    (fun s X Y h hb => ⟨h.1.bel hb (by omega), h.2⟩)
    (fun c s X Y h hb => by obtain ⟨h1, E, k, h2, h3⟩ := h; exact ⟨h1, E, k, h2.bel hb (by omega), h3⟩)
    ⟨hfi, fun t => by simp⟩
    (fun x a' W => a' = { tmps := #[.slice A n c, undef, .pointer (some ⟨p, 0, none⟩), .pointer (some ⟨p + 1, 0, none⟩), .int .i64 x.k.deep, .pointer (some ⟨x.g, x.o, none⟩), .slice A n c, .func (.func 70) #[] #[.pointer (some ⟨p + 2, 0, none⟩)], .int .i64 x.k.deep, .pointer (some ⟨x.g, x.o, none⟩), undef, undef, undef, undef, undef, undef, undef, undef, undef, undef, undef, undef, undef, undef, undef, undef, undef], defers := [] })
    (fun x a' W r h => h)
    ?_ ?_ ?_ ?_
  · intro l pre x W K hi hz hK
    simp only [encs]
    gi_wp2
    exact hK _ _ (Bel.refl _ _) (by simp)
  · rintro l pre x a' W ⟨hfi, hpre⟩ hz rfl hlt
    have c1 := hfi.b1.cell
    have f1 := hfi.b1.frozen
    have l1 := hfi.b1.lt
    have hpl : (pre.length : Int) ≤ 8192 := by omega
    obtain ⟨V, hV⟩ : ∃ V, W.setCell ⟨p + 1, 0, none⟩ (.int .i64 ((pre.length : Int) + 1)) = V := ⟨_, rfl⟩
    have fV : Fi w p 0 ((pre.length : Int) + 1) V := by rw [← hV]; exact hfi.setN _
    have kV : KeptAt (fun k => k < p) w2.heap.size W V := by rw [← hV]; exact kept_cell (KeptAt.refl _ _ _) _ (by omega) (by omega)
    have d1 := fV.b1.cell
    have d0 := fV.b0.cell
    have g0 := fV.b0.frozen
    have m0 := fV.b0.lt
    have m1 := fV.b1.lt
    obtain ⟨LA, lc, B, bc, E, ec, i0, i1, i2, i3, i4, i5, i6, i7, hL, _, _⟩ := x.at_
    have hxg : x.g < p := x.hz.2
    have hcv : ∀ j, V.cell? ⟨x.g, j, none⟩ = w.cell? ⟨x.g, j, none⟩ := fun j => World.cell?_of_block (a := ⟨x.g, j, none⟩) (fV.low.block x.g hxg)
    rw [← hcv] at i0 i1 i2 i3 i4 i5 i6 i7
    have hLV : Lst V LA x.k.ls.length (fun j => x.k.ls.getD j 0) := by
      have := hL.keep (w' := V) (fun k hk _ => fV.low.block k hk.2)
      exact this.1
    have hx0 : x.g < V.heap.size := by omega
    have hnd : Hid (Nat.succ pre.length = (pre ++ [x]).length ∧ (pre ++ [x]).map key = pre.map key ++ [x.k]) := ⟨by simp, by simp [key]⟩
    have hmb : Hid (Calls Try.prog 67 #[.pointer (some ⟨x.g, x.o, none⟩)] V fun e w' => ∃ r : Bool, e = .returned (.bool r) ∧ Hid (r = true ↔ mayP x.k.op x.k.a x.k.b x.k.bi x.k.ty x.k.ls x.k.bo.len x.k.el.len) ∧ Hid (Later V w')) := may_any V x.g x.o _ _ _ _ _ LA x.k.ls lc B _ bc E _ ec ⟨i0, i1, i2, i3, i4, i5, i6, i7⟩ hLV
    replace hpre : Hid (∀ t, fe (pre.map key ++ t) 0 = fe t (pre.length : Nat)) := hpre
    clear hLV hL i1 i2 i3 i4 i5 i6 i7 hcv
    by_cases hful : pre.length = 8192
    · have t1 : (8192 : Int) < (pre.length : Int) + 1 := by omega
      have hfin : Hid (∀ t, fe ((pre ++ [x]).map key ++ t) 0 = 1400) := by rw [hnd.out.2]; exact fe_1 hpre.out (by omega)
      have hV2 : Hid (KeptAt (fun k => k < p) w2.heap.size W (V.setCell ⟨p, 0, none⟩ (.int .i64 1400)) ∧ Fi w p 1400 ((pre.length : Int) + 1) (V.setCell ⟨p, 0, none⟩ (.int .i64 1400))) := ⟨kept_cell kV _ (Nat.le_refl _) (by omega), fV.setE _⟩
      clear hmb hpre hfi fV kV hful
      gi_wp2
      exact ⟨hV2.out.1, rfl, _, _, hV2.out.2, hfin.out⟩
    have t1 : ¬ (8192 : Int) < (pre.length : Int) + 1 := by omega
    have hly : Hid (∀ W, Calls Try.prog 66 #[.int .i64 x.k.op] W fun e w' => e = .returned (.int .i64 (lay x.k.op)) ∧ w' = W) := fun W => lay_any x.k.op W
    have hdp : Hid (∀ W, Calls Try.prog 65 #[.int .i64 (lay x.k.op), .int .i64 x.k.deep] W fun e w' => e = .returned (.bool (decide ((lay x.k.op = 2 ∨ lay x.k.op = 3) ∧ 32 ≤ x.k.deep))) ∧ w' = W) := fun W => deep_any _ _ W
    by_cases hdeep : (lay x.k.op = 2 ∨ lay x.k.op = 3) ∧ 32 ≤ x.k.deep
    · rw [decide_eq_true hdeep] at hdp
      have hfin : Hid (∀ t, fe ((pre ++ [x]).map key ++ t) 0 = 1402) := by rw [hnd.out.2]; exact fe_2 hpre.out (by omega) ((deep_iff _ _).1 hdeep)
      have hV2 : Hid (KeptAt (fun k => k < p) w2.heap.size W (V.setCell ⟨p, 0, none⟩ (.int .i64 1402)) ∧ Fi w p 1402 ((pre.length : Int) + 1) (V.setCell ⟨p, 0, none⟩ (.int .i64 1402))) := ⟨kept_cell kV _ (Nat.le_refl _) (by omega), fV.setE _⟩
      clear hmb hpre hfi fV kV hful hdeep
      generalize lay x.k.op = ly at *
      gi_wp2
      refine ⟨trivial, ?_⟩
      refine (CallsIn.inRound l (callsIn_wide.2 (hly.out _))).mono ?_
      rintro e V1 ⟨rfl, rfl⟩
      gi_wp2
      refine ⟨trivial, ?_⟩
      refine (CallsIn.inRound l (callsIn_wide.2 (hdp.out _))).mono ?_
      rintro e V2 ⟨rfl, rfl⟩
      gi_wp2
      exact ⟨hV2.out.1, rfl, _, _, hV2.out.2, hfin.out⟩
    rw [decide_eq_false hdeep] at hdp
    have hnm : Hid (¬ ((fo x.k.op = 1 ∨ fo x.k.op = 2) ∧ x.k.deep ≥ 32)) := fun h => hdeep ((deep_iff _ _).2 h)
    replace fV : Hid (Fi w p 0 ((pre.length : Int) + 1) V) := fV
    replace kV : Hid (KeptAt (fun k => k < p) w2.heap.size W V) := kV
    have hsz : Hid (p + 2 < w2.heap.size) := show p + 2 < w2.heap.size by omega
    clear hfi hful hdeep
    generalize lay x.k.op = ly at *
    gi_wp2
    refine ⟨trivial, ?_⟩
    refine (CallsIn.inRound l (callsIn_wide.2 (hly.out _))).mono ?_
    rintro e V1 ⟨rfl, rfl⟩
    gi_wp2
    refine ⟨trivial, ?_⟩
    refine (CallsIn.inRound l (callsIn_wide.2 (hdp.out _))).mono ?_
    rintro e V2 ⟨rfl, rfl⟩
    gi_wp2
    refine ⟨trivial, ?_⟩
    refine (CallsIn.inRound l (callsIn_wide.2 hmb.out)).mono ?_
    rintro e V3 ⟨r, rfl, hr, hl3⟩
    have b3 : Boxed V3 p 53 (.int .i64 0) := (hl3.out.block fV.out.b0.lt).trans fV.out.b0
    have h0 := b3.cell
    have h1 := b3.frozen
    have h2 := b3.lt
    clear d0 d1 g0 m0 m1 i0 c1 f1 l1 b3
    have fV3 : Hid (Fi w p 0 ((pre.length : Int) + 1) V3) := fV.out.bel (bel_later hl3.out) (by have := fV.out.b1.lt; omega)
    have kV3 : Hid (KeptAt (fun k => k < p) w2.heap.size W V3) := kept_later kV.out hl3.out
    cases r with
    | false =>
      have hfin : Hid (∀ t, fe ((pre ++ [x]).map key ++ t) 0 = 1400) := by rw [hnd.out.2]; exact fe_3 hpre.out (by omega) hnm.out (fun h => by have := hr.out.2 h; cases this)
      have hV2 : Hid (KeptAt (fun k => k < p) w2.heap.size W (V3.setCell ⟨p, 0, none⟩ (.int .i64 1400)) ∧ Fi w p 1400 ((pre.length : Int) + 1) (V3.setCell ⟨p, 0, none⟩ (.int .i64 1400))) := ⟨kept_cell kV3.out _ (Nat.le_refl _) (by have := hsz.out; omega), fV3.out.setE _⟩
      gi_wp2
      exact ⟨hV2.out.1, rfl, _, _, hV2.out.2, hfin.out⟩
    | true =>
      have hfin : Hid (∀ t, fe ((pre ++ [x]).map key ++ t) 0 = fe t ((pre ++ [x]).length : Nat)) := by
        have hq := fe_more (k := x.k) hpre.out (by omega) hnm.out (hr.out.1 rfl)
        rw [hnd.out.2, ← hnd.out.1]
        exact hq
      gi_wp2
      refine ⟨kV3.out, ?_, hfin.out⟩
      rw [← hnd.out.1]
      exact fV3.out
  · rintro Dd xs W hDd hS ⟨hfi, hpre⟩ hK
    have c0 := hfi.b0.cell
    have f0 := hfi.b0.frozen
    have l0 := hfi.b0.lt
    have he : Hid (fe ((sq f 0).take 8193) 0 = 0) := by
      have := hpre []
      rw [List.append_nil, show xs.map key = _ from hS] at this
      rw [this]
      rfl
    replace hfi : Hid (Fi w p 0 (xs.length : Nat) W) := hfi
    replace hS : Hid _ := hS
    replace hpre : Hid _ := hpre
    gi_wp2
    exact fin_any f w p Dd 0 _ _ _ (by omega) hp he.out (hfi.out.setE 0) ((Below.heap_setCell W ⟨p, 0, none⟩ _ Dd (show Dd ≠ p by omega)).trans hK) _ rfl rfl
  · rintro Dd c' pre W hDd hSp ⟨rfl, E, k, hfi, hpre⟩ hK
    have he : Hid (fe ((sq f 0).take 8193) 0 = E) := by
      obtain ⟨t, ht⟩ := hSp
      rw [← ht]
      exact hpre t
    clear hSp hpre
    gi_wp2
    exact fin_any f w p Dd E _ _ _ (by omega) hp he.out hfi hK _ rfl rfl
end Go.Proofs.Ytngciahmoenkiac.gi
