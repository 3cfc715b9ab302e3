/- Package ftype: typeAt, Func, Global, Counts. -/
import Derived.Test.YtonnmbmdmkmhmaaTYA
import Derived.Test.YtonnmbmdmkmhmaaTYC
import Derived.Test.YtonnmbmdmkmhmaaTYD
import Derived.Test.YtonnmbmdmkmhmaaMV
import Derived.Deep.RegionHeld3
set_option linter.unusedVariables false
set_option linter.unusedSimpArgs false
set_option maxRecDepth 100000
set_option maxHeartbeats 8000000
namespace Go.Proofs.Ytonnmbmdmkmhmaa.ty
open Go.RowKit
/-- the type at a place -/
def tyAt (m : Md) (t : Int) : Option (List Int × List Int) := if t < 0 then none else m.ty[t.toNat]?
/-- how a type is told -/
def FtR (r : Option (List Int × List Int)) (w w' : World) (e : Ending) : Prop := match r with
  | none => e = .returned (.tuple #[.agg #[.slice none 0 0, .slice none 0 0], .int .i64 1701])
  | some x => ∃ A a B b, e = .returned (.tuple #[.agg #[.slice A x.1.length a, .slice B x.2.length b], .int .i64 0]) ∧ Lq (Zf w.heap.size w') w' A x.1 ∧ Lq (Zf w.heap.size w') w' B x.2
theorem lq_zl {B : Nat} {W W' : World} {A : Option Addr} {ls : List Int} (h : Lq (Zf B W) W A ls) (hl : Later W W') : Lq (Zf B W') W' A ls := h.move (zflt (Nat.le_refl _) hl)
theorem lq_low {B B' : Nat} {W : World} {A : Option Addr} {ls : List Int} (hB : B' ≤ B) (h : Lq (Zf B W) W A ls) : Lq (Zf B' W) W A ls := h.mono (fun k hk => ⟨Nat.le_trans hB hk.1, hk.2⟩)
theorem lq_zset {B p : Nat} {W : World} {A : Option Addr} {ls : List Int} (h : Lq (Zf B W) W A ls) (hp : p < B) (i : Nat) (v : Value) : Lq (Zf B (W.setCell ⟨p, i, none⟩ v)) (W.setCell ⟨p, i, none⟩ v) A ls :=
  h.move (zfmv (Nat.le_refl _) (fun k hk hl => Below.heap_setCell W ⟨p, i, none⟩ v k (fun e => by have e : k = p := e; omega)))
theorem typeAt_any {Z : Nat → Prop} {m : Md} (hm : MdV m) {w : World} {LA : List Value} (hA : ModC Z w m LA) (t : Int) :
    Calls Try.prog 23 #[.agg LA.toArray, .int .i64 t] w fun e w' => FtR (tyAt m t) w w' e ∧ Hid (Later w w') := by
  obtain ⟨v0, v1, v2, v3, v4, v5, v6, v8, v9, v10, eA, ⟨A0, a0, rfl, r0⟩, _⟩ := hA
  subst eA
  obtain ⟨n, hn⟩ : ∃ n, n = m.ty.length := ⟨_, rfl⟩
  have hb : n ≤ 140737488351232 := by have := hm.ty.2; omega
  rw [← hn]
  by_cases h1 : t < 0
  · have hr : tyAt m t = none := if_pos h1
    rw [hr]
    go_enter Try.func23, Try.ntmps23
    go_wp2_with fail
    refine ⟨rfl, .tuple #[.agg #[.slice none 0 0, .slice none 0 0], .int .i64 1701], by simp [results, Try.results23, go_sem], rfl, La (La (Lz _))⟩
  by_cases h2 : (n : Int) ≤ t
  · have hr : tyAt m t = none := by
      rw [tyAt, if_neg h1]
      exact List.getElem?_eq_none (by omega)
    rw [hr]
    go_enter Try.func23, Try.ntmps23
    go_wp2_with fail
    refine ⟨rfl, .tuple #[.agg #[.slice none 0 0, .slice none 0 0], .int .i64 1701], by simp [results, Try.results23, go_sem], rfl, La (La (Lz _))⟩
  · obtain ⟨i, rfl⟩ := Int.eq_ofNat_of_zero_le (show 0 ≤ t by omega)
    have hi : i < m.ty.length := by omega
    obtain ⟨g, o, c, eA, hz, hc, hit⟩ := Rt.at (f := fTy) 2 (fun _ => rfl) r0 i hi
    have hx := hm.ty.1 _ (List.getElem_mem hi)
    have hr : tyAt m (i : Int) = some m.ty[i] := by
      rw [tyAt, if_neg (by omega)]
      simp [hi]
    rw [hr]
    generalize m.ty[i] = x at *
    obtain ⟨x0, x1⟩ := x
    obtain ⟨y0, c0, rfl, ⟨P0, p0, rfl, hP0⟩, y1, c1, rfl, ⟨P1, p1, rfl, hP1⟩, hnil⟩ := hit
    have e0 := hc 0 _ rfl
    have e1 := hc 1 _ rfl
    simp only [Nat.add_zero] at e0
    have lg := cell_lt e0
    have hl1 : ¬ (i : Int) < 0 := by omega
    have hl2 : (i : Int) < (n : Int) := by omega
    rw [eA]
    clear hc hnil hz r0 hr h1 h2 hi
    go_enter Try.func23, Try.ntmps23
    go_wp2_with fail
    rw [← hn]
    obtain ⟨W2, hW2⟩ : ∃ W2, W2 = (((w.alloc (.cells #[.slice (some ⟨g, o, none⟩) n a0, v1, v2, v3, v4, v5, v6, .int .i64 m.st, v8, v9, v10] 32)).alloc (.cells #[.slice none 0 0, .slice none 0 0] 34)).alloc (.cells #[.slice P0 x0.length p0, .slice P1 x1.length p1] 34)) := ⟨_, rfl⟩
    rw [← hW2]
    obtain ⟨q1, hq1⟩ : ∃ q, q = w.heap.size + 1 := ⟨_, rfl⟩
    have L2 : Later w W2 := by rw [hW2]; exact La (La (La (Lz _)))
    have z2 : W2.heap.size = w.heap.size + 3 := by rw [hW2]; simp
    have d0 : W2.cell? ⟨w.heap.size + 1 + 1, 0, none⟩ = some (.slice P0 x0.length p0) := by rw [hW2]; simp [go_sem]
    have d1 : W2.cell? ⟨w.heap.size + 1 + 1, 1, none⟩ = some (.slice P1 x1.length p1) := by rw [hW2]; simp [go_sem]
    have f0 : Rl W2 q1 34 [.slice none 0 0, .slice none 0 0] := by
      rw [hW2, hq1]
      have := (rl_new (w.alloc (.cells #[.slice (some ⟨g, o, none⟩) n a0, v1, v2, v3, v4, v5, v6, .int .i64 m.st, v8, v9, v10] 32)) 34 [.slice none 0 0, .slice none 0 0]).later (La (c := #[.slice P0 x0.length p0, .slice P1 x1.length p1]) (t := 34) (Lz _))
      simpa using this
    have s0 : Hid (∀ W, Later W2 W → ∃ r w', (Builtin.append_ #[24, 24] 24 #[.slice none 0 0, .slice P0 x0.length p0]).run Try.prog W = .ok r w' ∧ ∃ A' cap, r = .slice A' x0.length cap ∧ Hid (Lq (Zf W2.heap.size w') w' A' x0) ∧ Later W w') := fun W hW => by
      obtain ⟨r, w', h1, A', cap, h2, h3, h4⟩ := app_nilq P0 x0 p0 24 _ W hx.1.2 (hP0.later (L2.trans hW))
      exact ⟨r, w', h1, A', cap, h2, h3.mono (fun k hk => ⟨Nat.le_trans hW.size hk.1, hk.2⟩), h4⟩
    have s1 : Hid (∀ W, Later W2 W → ∃ r w', (Builtin.append_ #[24, 24] 24 #[.slice none 0 0, .slice P1 x1.length p1]).run Try.prog W = .ok r w' ∧ ∃ A' cap, r = .slice A' x1.length cap ∧ Hid (Lq (Zf W2.heap.size w') w' A' x1) ∧ Later W w' ∧ Hid (Later W2 w') ∧ w'.cell? ⟨w.heap.size + 1, 0, none⟩ = some (.slice none 0 0) ∧ w'.cell? ⟨w.heap.size + 1, 1, none⟩ = some (.slice none 0 0) ∧ w'.frozen? ⟨w.heap.size + 1, 0, none⟩ = false ∧ w'.frozen? ⟨w.heap.size + 1, 1, none⟩ = false ∧ w.heap.size + 1 < w'.heap.size ∧ Hid (Rl w' (w.heap.size + 1) 34 [.slice none 0 0, .slice none 0 0])) := fun W hW => by
      obtain ⟨r, w', h1, A', cap, h2, h3, h4⟩ := app_nilq P1 x1 p1 24 _ W hx.2.2 (hP1.later (L2.trans hW))
      have f1 := f0.later (hW.trans h4)
      rw [hq1] at f1
      exact ⟨r, w', h1, A', cap, h2, h3.mono (fun k hk => ⟨Nat.le_trans hW.size hk.1, hk.2⟩), h4, hW.trans h4, f1.cell 0 rfl, f1.cell 1 rfl, f1.frozen 0, f1.frozen 1, f1.lt, f1⟩
    have hkeep : Hid (∀ W, Wr (fun k => k = w.heap.size + 1) W2 W → (Wr (fun k => k = w.heap.size + 1) W2 W ∧ W.cell? ⟨w.heap.size + 1 + 1, 0, none⟩ = some (.slice P0 x0.length p0) ∧ W.cell? ⟨w.heap.size + 1 + 1, 1, none⟩ = some (.slice P1 x1.length p1) ∧ w.heap.size + 1 + 1 < W.heap.size)) := fun W hW => by
      have u1 : ¬ (w.heap.size + 1 + 1 = w.heap.size + 1) := by omega
      have u3 := hW.size
      exact ⟨hW, hW.cell u1 d0, hW.cell u1 d1, by omega⟩
    have L2' : Hid (Later w W2) := L2
    have z2' : Hid (W2.heap.size = w.heap.size + 3) := z2
    clear hP0 hP1 hx hW2 f0 hq1 L2 z2 d0 d1 hn eA
    go_region_held3 (fun W => Wr (fun k => k = w.heap.size + 1) W2 W ∧ W.cell? ⟨w.heap.size + 1 + 1, 0, none⟩ = some (.slice P0 x0.length p0) ∧ W.cell? ⟨w.heap.size + 1 + 1, 1, none⟩ = some (.slice P1 x1.length p1) ∧ w.heap.size + 1 + 1 < W.heap.size) (refine hkeep.out _ ?_ <;> (repeat first | assumption | exact Wr.refl _ _ | refine Wr.ltr ?_ (La (Lz _)) | refine Wr.ltr ?_ (Ld (Lz _)) | refine Wr.set ?_ _ _ (Or.inl rfl) | refine Wr.ltr ?_ (by assumption))) (first | (refine step_app_ex (by rfl) _ _ 24 (by rfl) _ _ (by rfl) (by rfl) (s0.out _ (by repeat first | exact Lz _ | apply La | apply Ld | refine Later.trans ?_ (by assumption))) ?_; rintro _ w5 ⟨A5, m5, rfl, q5, l5⟩) | (refine step_app_ex (by rfl) _ _ 24 (by rfl) _ _ (by rfl) (by rfl) (s1.out _ (by repeat first | exact Lz _ | apply La | apply Ld | refine Later.trans ?_ (by assumption))) ?_; rintro _ w6 ⟨A6, m6, rfl, q6, l6, l7, t0, t1, t2, t3, t4, t5⟩))
    all_goals
      clear s0 s1 hkeep
      have l56 : Later w5 w6 := l6
      have hfin : Hid (Lq (Zf w.heap.size ((w6.setCell ⟨w.heap.size + 1, 0, none⟩ (.slice A5 x0.length m5)).setCell ⟨w.heap.size + 1, 1, none⟩ (.slice A6 x1.length m6))) ((w6.setCell ⟨w.heap.size + 1, 0, none⟩ (.slice A5 x0.length m5)).setCell ⟨w.heap.size + 1, 1, none⟩ (.slice A6 x1.length m6)) A5 x0 ∧ Lq (Zf w.heap.size ((w6.setCell ⟨w.heap.size + 1, 0, none⟩ (.slice A5 x0.length m5)).setCell ⟨w.heap.size + 1, 1, none⟩ (.slice A6 x1.length m6))) ((w6.setCell ⟨w.heap.size + 1, 0, none⟩ (.slice A5 x0.length m5)).setCell ⟨w.heap.size + 1, 1, none⟩ (.slice A6 x1.length m6)) A6 x1 ∧ Later w ((w6.setCell ⟨w.heap.size + 1, 0, none⟩ (.slice A5 x0.length m5)).setCell ⟨w.heap.size + 1, 1, none⟩ (.slice A6 x1.length m6))) := by
        have hB : w.heap.size + 1 < W2.heap.size := by rw [z2'.out]; omega
        have hB2 : w.heap.size ≤ W2.heap.size := by omega
        exact ⟨lq_low hB2 (lq_zset (lq_zset (lq_zl q5.out l56) hB _ _) hB _ _), lq_low hB2 (lq_zset (lq_zset q6.out hB _ _) hB _ _), later_set (later_set (L2'.out.trans l7.out) (by omega) _ _) (by omega) _ _⟩
      have f9 := (t5.out.set 0 (.slice A5 x0.length m5)).set 1 (.slice A6 x1.length m6)
      have f90 := f9.cell 0 rfl
      have f91 := f9.cell 1 rfl
      clear l56 q5 q6 l7 l5 l6 f9
      go_wp2_with fail
      refine ⟨rfl, .tuple #[.agg #[.slice A5 x0.length m5, .slice A6 x1.length m6], .int .i64 0], by simp [results, Try.results23, go_sem, f90, f91], ⟨A5, m5, A6, m6, rfl, hfin.out.1, hfin.out.2.1⟩, hfin.out.2.2⟩
theorem FtR.form {r : Option (List Int × List Int)} {W w1 : World} {e : Ending} (h : FtR r W w1 e) : ∃ A n a B k b c, e = .returned (.tuple #[.agg #[.slice A n a, .slice B k b], .int .i64 c]) ∧ ∀ w0 w2 : World, w0.heap.size ≤ W.heap.size → (∀ j, W.heap.size ≤ j → j < w1.heap.size → w2.heap[j]? = w1.heap[j]?) → FtR r w0 w2 e := by
  cases r with
  | none => exact ⟨none, 0, 0, none, 0, 0, 1701, h, fun _ _ _ _ => h⟩
  | some x =>
    obtain ⟨A, a, B, b, he, hA, hB⟩ := h
    exact ⟨A, _, a, B, _, b, 0, he, fun w0 w2 h0 hs => ⟨A, a, B, b, he, hA.move (zfmv h0 hs), hB.move (zfmv h0 hs)⟩⟩
/-- the type of function k -/
def fnT (m : Md) (k : Int) : Option (List Int × List Int) :=
  if k < 0 then none else
  match (if k.toNat < (imk m.im 0).length then (imk m.im 0)[k.toNat]?.map (fun x => x.2.2.2.1) else m.fu[(k - (imk m.im 0).length).toNat]?) with
  | none => none
  | some t => tyAt m t
theorem func_any {Z : Nat → Prop} {m : Md} (hm : MdV m) {w : World} {LA : List Value} (hZ : ∀ j, Z j → j < w.heap.size) (hA : ModC Z w m LA) (k : Int) (hk : k ≤ 9223372036854775807) :
    Calls Try.prog 6 #[.agg LA.toArray, .int .i64 k] w fun e w' => FtR (fnT m k) w w' e ∧ Hid (Later w w') := by
  have ht : Hid (∀ t W, Later w W → Calls Try.prog 23 #[.agg LA.toArray, .int .i64 t] W fun e w' => ∃ A n a B k b c, e = .returned (.tuple #[.agg #[.slice A n a, .slice B k b], .int .i64 c]) ∧ Later W w' ∧ Hid (∀ w0 w2 : World, w0.heap.size ≤ W.heap.size → (∀ j, W.heap.size ≤ j → j < w'.heap.size → w2.heap[j]? = w'.heap[j]?) → FtR (tyAt m t) w0 w2 e)) := fun t W hW => (typeAt_any hm (hA.move fun k hk hl => ⟨hk, hW.block hl⟩) t).mono (by
    rintro e w' ⟨h1, h2⟩
    obtain ⟨A, n, a, B, k, b, c, he, h3⟩ := h1.form
    exact ⟨A, n, a, B, k, b, c, he, h2.out, h3⟩)
  obtain ⟨v0, v1, v2, v3, v4, v5, v6, v8, v9, v10, eA, ⟨A0, a0, rfl, r0⟩, ⟨A1, a1, rfl, r1⟩, ⟨A2, a2, rfl, r2⟩, _⟩ := hA
  subst eA
  have hi := hm.im.2
  have hf := hm.fu.2
  have ham : 0 ≤ k → Hid (∀ W, Later w W → Calls Try.prog 22 #[.agg #[.slice A0 m.ty.length a0, .slice A1 m.im.length a1, .slice A2 m.fu.length a2, v3, v4, v5, v6, .int .i64 m.st, v8, v9, v10], .int .i64 0, .int .i64 k] W fun e w' => AmR (imk m.im 0) k e ∧ Hid (Later W w')) := fun h0 W hW => among_any a1 (fun j hj => Nat.lt_of_lt_of_le (hZ j hj) hW.size) (Rt.later (fun _ => Nat.succ_pos _) hW r1) (by omega) h0 hk
  obtain ⟨fu, hfu⟩ : ∃ n, n = m.fu.length := ⟨_, rfl⟩
  obtain ⟨R, hR⟩ : ∃ R, R = fnT m k := ⟨_, rfl⟩
  rw [← hR]
  rw [← hfu] at ht ham ⊢
  by_cases h1 : k < 0
  · have hR0 : R = none := by rw [hR]; exact if_pos h1
    subst hR0
    clear hR ham ht
    go_enter Try.func6, Try.ntmps6
    go_wp2_with fail
    refine ⟨rfl, .tuple #[.agg #[.slice none 0 0, .slice none 0 0], .int .i64 1701], by simp [results, Try.results6, go_sem], rfl, La (La (Lz _))⟩
  have ham := ham (by omega)
  replace hR : R = match (if k.toNat < (imk m.im 0).length then (imk m.im 0)[k.toNat]?.map (fun x => x.2.2.2.1) else m.fu[(k - (imk m.im 0).length).toNat]?) with
    | none => none
    | some t => tyAt m t := by rw [hR, fnT, if_neg h1]
  replace hR : Hid _ := hR
  replace hfu : Hid (fu = m.fu.length) := hfu
  have R2 : Hid (Rt f1 Z w A2 m.fu) := r2
  have R0 : Hid (Rl ((w.alloc (.cells #[.slice A0 m.ty.length a0, .slice A1 m.im.length a1, .slice A2 fu a2, v3, v4, v5, v6, .int .i64 m.st, v8, v9, v10] 32)).alloc (.cells #[.slice none 0 0, .slice none 0 0] 34)) w.heap.size 32 [.slice A0 m.ty.length a0, .slice A1 m.im.length a1, .slice A2 fu a2, v3, v4, v5, v6, .int .i64 m.st, v8, v9, v10]) := by
    have := (rl_new w 32 [.slice A0 m.ty.length a0, .slice A1 m.im.length a1, .slice A2 fu a2, v3, v4, v5, v6, .int .i64 m.st, v8, v9, v10]).later (La (c := #[.slice none 0 0, .slice none 0 0]) (t := 34) (Lz _))
    exact this
  have R1 : Hid (Rl ((w.alloc (.cells #[.slice A0 m.ty.length a0, .slice A1 m.im.length a1, .slice A2 fu a2, v3, v4, v5, v6, .int .i64 m.st, v8, v9, v10] 32)).alloc (.cells #[.slice none 0 0, .slice none 0 0] 34)) (w.heap.size + 1) 34 [.slice none 0 0, .slice none 0 0]) := by
    have := rl_new (w.alloc (.cells #[.slice A0 m.ty.length a0, .slice A1 m.im.length a1, .slice A2 fu a2, v3, v4, v5, v6, .int .i64 m.st, v8, v9, v10] 32)) 34 [.slice none 0 0, .slice none 0 0]
    rw [World.size_alloc] at this
    exact this
  clear r0 r1 r2 hi hZ
  go_enter Try.func6, Try.ntmps6
  go_wp2_with fail
  refine (ham.out _ (La (La (Lz _)))).mono ?_
  rintro e w1 ⟨(⟨hlt, rfl⟩ | ⟨hge, rfl⟩), l1⟩
  · have M1 := R0.out.later l1.out
    have N1 := R1.out.later l1.out
    have L1 : Hid (Later w w1) := (La (La (Lz _))).trans l1.out
    have z1 : w.heap.size + 1 < w1.heap.size := N1.lt
    have c0 := M1.cell 0 rfl
    have c1 := M1.cell 1 rfl
    have c2 := M1.cell 2 rfl
    have c3 := M1.cell 3 rfl
    have c4 := M1.cell 4 rfl
    have c5 := M1.cell 5 rfl
    have c6 := M1.cell 6 rfl
    have c7 := M1.cell 7 rfl
    have c8 := M1.cell 8 rfl
    have c9 := M1.cell 9 rfl
    have c10 := M1.cell 10 rfl
    have lp := M1.lt
    obtain ⟨x, hx⟩ : ∃ x, x = (imk m.im 0)[k.toNat] := ⟨_, rfl⟩
    have hRx : R = tyAt m x.2.2.2.1 := by
      rw [hR.out, if_pos hlt, List.getElem?_eq_getElem hlt, ← hx]
      rfl
    rw [← hx]
    replace hRx : Hid _ := hRx
    replace N1 : Hid (Rl w1 (w.heap.size + 1) 34 [.slice none 0 0, .slice none 0 0]) := N1
    clear hR hx hlt ham R0 R1 l1 M1
    obtain ⟨x0, x1, x2, x3, x4, x5, x6⟩ := x
    simp only [impA] at hRx ⊢
    go_wp2_with fail
    refine (ht.out x3 _ (La L1.out)).mono ?_
    rintro e w3 ⟨A, n, a, B, kk, b, cc, rfl, l3, hF⟩
    have N3 := (N1.out.later (La (Lz _))).later l3
    have d0 := N3.cell 0 rfl
    have d1 := N3.cell 1 rfl
    have f0 := N3.frozen 0
    have f1 := N3.frozen 1
    have n9 := (N3.set 0 (.slice A n a)).set 1 (.slice B kk b)
    have d2 := n9.cell 0 rfl
    have d3 := n9.cell 1 rfl
    have d4 := N3.lt
    have hfin : Hid (FtR R w ((w3.setCell ⟨w.heap.size + 1, 0, none⟩ (.slice A n a)).setCell ⟨w.heap.size + 1, 1, none⟩ (.slice B kk b)) (.returned (.tuple #[.agg #[.slice A n a, .slice B kk b], .int .i64 cc])) ∧ Later w ((w3.setCell ⟨w.heap.size + 1, 0, none⟩ (.slice A n a)).setCell ⟨w.heap.size + 1, 1, none⟩ (.slice B kk b))) := by
      refine ⟨?_, later_set (later_set ((La L1.out).trans l3) (by omega) _ _) (by omega) _ _⟩
      rw [hRx.out]
      refine hF.out w _ (by have := L1.out.size; simp; omega) (fun j h1 h2 => ?_)
      have hne : j ≠ w.heap.size + 1 := by simp at h1; omega
      exact (Below.heap_setCell _ ⟨w.heap.size + 1, 1, none⟩ _ j hne).trans (Below.heap_setCell _ ⟨w.heap.size + 1, 0, none⟩ _ j hne)
    clear hF N3 n9 hRx l3
    go_wp2_with fail
    refine ⟨rfl, .tuple #[.agg #[.slice A n a, .slice B kk b], .int .i64 cc], by simp [results, Try.results6, go_sem, d2, d3], hfin.out.1, hfin.out.2⟩
  · have M1 := R0.out.later l1.out
    have N1 := R1.out.later l1.out
    have L1 : Hid (Later w w1) := (La (La (Lz _))).trans l1.out
    have z1 : w.heap.size + 1 < w1.heap.size := N1.lt
    have c0 := M1.cell 0 rfl
    have c1 := M1.cell 1 rfl
    have c2 := M1.cell 2 rfl
    have c3 := M1.cell 3 rfl
    have c4 := M1.cell 4 rfl
    have c5 := M1.cell 5 rfl
    have c6 := M1.cell 6 rfl
    have c7 := M1.cell 7 rfl
    have c8 := M1.cell 8 rfl
    have c9 := M1.cell 9 rfl
    have c10 := M1.cell 10 rfl
    have lp := M1.lt
    obtain ⟨o, ho⟩ : ∃ o, o = k - ((imk m.im 0).length : Int) := ⟨_, rfl⟩
    have hR1 : R = match m.fu[o.toNat]? with
      | none => none
      | some t => tyAt m t := by
      rw [hR.out, if_neg (by omega), ← ho]
    rw [← ho]
    have ho0 : 0 ≤ o := by omega
    have ho1 : o ≤ 9223372036854775807 := by omega
    have hfu1 := hfu.out
    replace N1 : Hid (Rl w1 (w.heap.size + 1) 34 [.slice none 0 0, .slice none 0 0]) := N1
    clear hR ham R0 R1 l1 M1 ho hge
    simp only [impA, impZ]
    by_cases h2 : (fu : Int) ≤ o
    · have hRx : R = none := by rw [hR1, List.getElem?_eq_none (by omega)]
      subst hRx
      have hN := N1.out
      have f9 := hN.cell 0 rfl
      have f8 := hN.cell 1 rfl
      have f7 := hN.frozen 0
      have f6 := hN.frozen 1
      have n9 := (hN.set 0 (.slice none 0 0)).set 1 (.slice none 0 0)
      have m9 := n9.later (La (c := #[.string ⟨#[]⟩, .string ⟨#[]⟩, .int .i64 0, .int .i64 0, .bool false, .int .i64 0, .int .i64 0]) (t := 58) (Lz _))
      have d2 := m9.cell 0 rfl
      have d3 := m9.cell 1 rfl
      clear hR1 ht hN hfu1 n9 m9
      go_wp2_with fail
      refine ⟨rfl, .tuple #[.agg #[.slice none 0 0, .slice none 0 0], .int .i64 1701], by simp [results, Try.results6, go_sem, d2, d3, f9, f8], rfl, by repeat first | exact La L1.out | exact L1.out | refine later_set ?_ (by omega) _ _ | apply La⟩
    · obtain ⟨i, rfl⟩ := Int.eq_ofNat_of_zero_le ho0
      have hi : i < m.fu.length := by omega
      obtain ⟨t, htt⟩ : ∃ t, t = m.fu[i] := ⟨_, rfl⟩
      have hRx : R = tyAt m t := by
        rw [hR1, htt]
        simp [hi]
      obtain ⟨g, o, cl, eA, hz, hc, hit⟩ := Rt.at (f := f1) 1 (fun _ => rfl) R2.out i hi
      obtain ⟨y0, c0', rfl, e0, hnil⟩ := hit
      have e0 : y0 = .int .i64 m.fu[i] := e0
      subst e0
      rw [← htt] at hc
      have q0 := hc 0 _ rfl
      simp only [Nat.add_zero, Nat.mul_one] at q0
      have lgw := cell_lt q0
      replace q0 := L1.out.cell_of q0
      have lg := cell_lt q0
      have hl1 : (i : Int) < (fu : Int) := by omega
      rw [eA]
      rw [eA] at c2
      replace hRx : Hid (R = tyAt m t) := hRx
      clear hR1 hc hz hnil hfu1
      generalize m.fu[i] = tt at *
      subst htt
      clear hi
      go_wp2_with fail
      obtain ⟨W3, hW3⟩ : ∃ W3, W3 = w1.alloc (.cells #[.string ⟨#[]⟩, .string ⟨#[]⟩, .int .i64 0, .int .i64 0, .bool false, .int .i64 0, .int .i64 0] 58) := ⟨_, rfl⟩
      rw [← hW3]
      have l13 : Later w1 W3 := by rw [hW3]; exact La (Lz _)
      have L3 : Hid (Later w W3) := L1.out.trans l13
      have N3 : Hid (Rl W3 (w.heap.size + 1) 34 [.slice none 0 0, .slice none 0 0]) := N1.out.later l13
      replace c0 := l13.cell_of c0
      replace c1 := l13.cell_of c1
      replace c2 := l13.cell_of c2
      replace c3 := l13.cell_of c3
      replace c4 := l13.cell_of c4
      replace c5 := l13.cell_of c5
      replace c6 := l13.cell_of c6
      replace c7 := l13.cell_of c7
      replace c8 := l13.cell_of c8
      replace c9 := l13.cell_of c9
      replace c10 := l13.cell_of c10
      have q0' : W3.cell? ⟨g, o + i, none⟩ = some (.int .i64 t) := l13.cell_of q0
      have hkeep : Hid (∀ W, Wr (fun k => k = w.heap.size + 1) W3 W → (Wr (fun k => k = w.heap.size + 1) W3 W ∧ W.cell? ⟨w.heap.size, 0, none⟩ = some (.slice A0 m.ty.length a0) ∧ W.cell? ⟨w.heap.size, 1, none⟩ = some (.slice A1 m.im.length a1) ∧ W.cell? ⟨w.heap.size, 2, none⟩ = some (.slice (some ⟨g, o, none⟩) fu a2) ∧ W.cell? ⟨w.heap.size, 3, none⟩ = some (v3) ∧ W.cell? ⟨w.heap.size, 4, none⟩ = some (v4) ∧ W.cell? ⟨w.heap.size, 5, none⟩ = some (v5) ∧ W.cell? ⟨w.heap.size, 6, none⟩ = some (v6) ∧ W.cell? ⟨w.heap.size, 7, none⟩ = some (.int .i64 m.st) ∧ W.cell? ⟨w.heap.size, 8, none⟩ = some (v8) ∧ W.cell? ⟨w.heap.size, 9, none⟩ = some (v9) ∧ W.cell? ⟨w.heap.size, 10, none⟩ = some (v10) ∧ W.cell? ⟨g, o + i, none⟩ = some (.int .i64 t) ∧ w.heap.size < W.heap.size ∧ g < W.heap.size)) := fun W hW => by
        have u1 : ¬ (w.heap.size = w.heap.size + 1) := by omega
        have u2 : ¬ (g = w.heap.size + 1) := by omega
        have u3 := hW.size
        have u4 := cell_lt c0
        have u5 := cell_lt q0'
        exact ⟨hW, hW.cell u1 c0, hW.cell u1 c1, hW.cell u1 c2, hW.cell u1 c3, hW.cell u1 c4, hW.cell u1 c5, hW.cell u1 c6, hW.cell u1 c7, hW.cell u1 c8, hW.cell u1 c9, hW.cell u1 c10, hW.cell u2 q0', by omega, by omega⟩
      have s0 : Hid (∀ W, Later W3 W → Calls Try.prog 23 #[.agg #[.slice A0 m.ty.length a0, .slice A1 m.im.length a1, .slice (some ⟨g, o, none⟩) fu a2, v3, v4, v5, v6, .int .i64 m.st, v8, v9, v10], .int .i64 t] W fun e w3 => ∃ A n a B kk b cc, e = .returned (.tuple #[.agg #[.slice A n a, .slice B kk b], .int .i64 cc]) ∧ Later W w3 ∧ w3.cell? ⟨w.heap.size + 1, 0, none⟩ = some (.slice none 0 0) ∧ w3.cell? ⟨w.heap.size + 1, 1, none⟩ = some (.slice none 0 0) ∧ w3.frozen? ⟨w.heap.size + 1, 0, none⟩ = false ∧ w3.frozen? ⟨w.heap.size + 1, 1, none⟩ = false ∧ w.heap.size + 1 < w3.heap.size ∧
          ((w3.setCell ⟨w.heap.size + 1, 0, none⟩ (.slice A n a)).setCell ⟨w.heap.size + 1, 1, none⟩ (.slice B kk b)).cell? ⟨w.heap.size + 1, 0, none⟩ = some (.slice A n a) ∧ ((w3.setCell ⟨w.heap.size + 1, 0, none⟩ (.slice A n a)).setCell ⟨w.heap.size + 1, 1, none⟩ (.slice B kk b)).cell? ⟨w.heap.size + 1, 1, none⟩ = some (.slice B kk b) ∧
          Hid (FtR R w ((w3.setCell ⟨w.heap.size + 1, 0, none⟩ (.slice A n a)).setCell ⟨w.heap.size + 1, 1, none⟩ (.slice B kk b)) (.returned (.tuple #[.agg #[.slice A n a, .slice B kk b], .int .i64 cc])) ∧ Later w ((w3.setCell ⟨w.heap.size + 1, 0, none⟩ (.slice A n a)).setCell ⟨w.heap.size + 1, 1, none⟩ (.slice B kk b)))) := fun W hW => by
        rw [← eA]
        refine (ht.out t W (L3.out.trans hW)).mono ?_
        rintro e w3 ⟨A, n, a, B, kk, b, cc, rfl, l3, hF⟩
        have N5 := N3.out.later (hW.trans l3)
        have n9 := (N5.set 0 (.slice A n a)).set 1 (.slice B kk b)
        have hz := (L3.out.trans hW).size
        have hz2 : w.heap.size + 1 < W.heap.size := by have := N3.out.lt; have := hW.size; omega
        refine ⟨A, n, a, B, kk, b, cc, rfl, l3, N5.cell 0 rfl, N5.cell 1 rfl, N5.frozen 0, N5.frozen 1, N5.lt, n9.cell 0 rfl, n9.cell 1 rfl, ?_, later_set (later_set ((L3.out.trans hW).trans l3) (by omega) _ _) (by omega) _ _⟩
        rw [hRx.out]
        refine hF.out w _ hz (fun j h1 h2 => ?_)
        have hne : j ≠ w.heap.size + 1 := by omega
        exact (Below.heap_setCell _ ⟨w.heap.size + 1, 1, none⟩ _ j hne).trans (Below.heap_setCell _ ⟨w.heap.size + 1, 0, none⟩ _ j hne)
      clear ht hRx q0 N1 N3 hW3 eA ham
      go_region_held3 (fun W => Wr (fun k => k = w.heap.size + 1) W3 W ∧ W.cell? ⟨w.heap.size, 0, none⟩ = some (.slice A0 m.ty.length a0) ∧ W.cell? ⟨w.heap.size, 1, none⟩ = some (.slice A1 m.im.length a1) ∧ W.cell? ⟨w.heap.size, 2, none⟩ = some (.slice (some ⟨g, o, none⟩) fu a2) ∧ W.cell? ⟨w.heap.size, 3, none⟩ = some (v3) ∧ W.cell? ⟨w.heap.size, 4, none⟩ = some (v4) ∧ W.cell? ⟨w.heap.size, 5, none⟩ = some (v5) ∧ W.cell? ⟨w.heap.size, 6, none⟩ = some (v6) ∧ W.cell? ⟨w.heap.size, 7, none⟩ = some (.int .i64 m.st) ∧ W.cell? ⟨w.heap.size, 8, none⟩ = some (v8) ∧ W.cell? ⟨w.heap.size, 9, none⟩ = some (v9) ∧ W.cell? ⟨w.heap.size, 10, none⟩ = some (v10) ∧ W.cell? ⟨g, o + i, none⟩ = some (.int .i64 t) ∧ w.heap.size < W.heap.size ∧ g < W.heap.size) (refine hkeep.out _ ?_ <;> (repeat first | assumption | exact Wr.refl _ _ | refine Wr.ltr ?_ (La (Lz _)) | refine Wr.ltr ?_ (Ld (Lz _)) | refine Wr.set ?_ _ _ (Or.inl rfl) | refine Wr.ltr ?_ (by assumption))) (first | (go_at_call 23; refine (s0.out _ (by repeat first | exact Lz _ | apply La | apply Ld)).mono ?_; rintro e w3 ⟨A, n, a, B, kk, b, cc, rfl, l3, t0, t1, t2, t3, t4, d2, d3, hfin⟩))
      all_goals
        clear s0 hkeep l3
        go_wp2_with fail
        refine ⟨rfl, .tuple #[.agg #[.slice A n a, .slice B kk b], .int .i64 cc], by simp [results, Try.results6, go_sem, d2, d3], hfin.out.1, hfin.out.2⟩
end Go.Proofs.Ytonnmbmdmkmhmaa.ty
