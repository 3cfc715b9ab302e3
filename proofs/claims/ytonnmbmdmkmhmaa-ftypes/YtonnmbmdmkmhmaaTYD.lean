/- Package ftype's among: number k of the imports of a kind. -/
import Derived.Test.YtonnmbmdmkmhmaaTYB
set_option linter.unusedVariables false
set_option linter.unusedSimpArgs false
set_option maxRecDepth 100000
set_option maxHeartbeats 8000000
namespace Go.Proofs.Ytonnmbmdmkmhmaa.ty
open Go.RowKit Go.Shelf
attribute [local go_sem] Oper.semAt_some
def impL (x : Imp) : List Value := [.string x.1, .string x.2.1, .int .i64 x.2.2.1, .int .i64 x.2.2.2.1, .bool x.2.2.2.2.1, .int .i64 x.2.2.2.2.2.1, .int .i64 x.2.2.2.2.2.2]
def impZ : Imp := (⟨#[]⟩, ⟨#[]⟩, 0, 0, false, 0, 0)
/-- how among answers -/
def AmR (ys : List Imp) (q : Int) (e : Ending) : Prop := (∃ h : q.toNat < ys.length, e = .returned (.tuple #[impA ys[q.toNat], .int .i64 0, .bool true])) ∨ ((ys.length : Int) ≤ q ∧ e = .returned (.tuple #[impA impZ, .int .i64 (q - ys.length), .bool false]))
/-- what lies while the imports are gone over -/
def AmI (w : World) (q : Int) (pre : List Imp) (W : World) : Prop := Bel w.heap.size w W ∧ (pre.length : Int) ≤ q ∧ Boxed W (w.heap.size + 1) 3 (.int .i64 (q - pre.length)) ∧ Rl W (w.heap.size + 2) 58 (impL impZ) ∧ Rl W (w.heap.size + 3) 3 [.int .i64 0] ∧ Rl W (w.heap.size + 4) 4 [.bool false]
/-- what lies when it is found -/
def AmX (w : World) (q : Int) (c : Code) (pre : List Imp) (W : World) : Prop := c = .ret ∧ Bel w.heap.size w W ∧ ∃ pr x, pre = pr ++ [x] ∧ (pr.length : Int) = q ∧ Rl W (w.heap.size + 2) 58 (impL x) ∧ Rl W (w.heap.size + 3) 3 [.int .i64 0] ∧ Rl W (w.heap.size + 4) 4 [.bool true]
theorem kept_set {D : Nat → Prop} {B : Nat} {X Y : World} {p : Nat} (h : KeptAt D B X Y) (hd : ¬ D p) (hp : p < B) (i : Nat) (v : Value) : KeptAt D B X (Y.setCell ⟨p, i, none⟩ v) :=
  ⟨by have := h.size; simpa [World.setCell] using this, fun k hk hl => (Below.heap_setCell Y ⟨p, i, none⟩ v k (fun e => by have e : k = p := e; subst e; rcases hk with h1 | h1; exact hd h1; omega)).trans (h.same k hk hl)⟩
theorem _root_.Go.Proofs.Ytonnmbmdmkmhmaa.Rl.of_blk {W W' : World} {p : Nat} {T : TypeId} {L : List Value} (h : Rl W p T L) (e : W'.heap[p]? = W.heap[p]?) : Rl W' p T L := World.rowIs.of_block h e
theorem bel_drew {B : Nat} {X Y : World} (h : Bel B X Y) : Bel B X Y.drew := ⟨⟨h.b.os, h.b.tape, h.b.output, h.b.size, h.b.block⟩, Nat.le_succ_of_le h.d⟩
theorem res_am (tmps : Array Value) (W : World) (p2 p3 p4 : Nat) (x : Imp) (o : Int) (f : Bool) (h2 : tmps.getD 6 undef = .pointer (some ⟨p2, 0, none⟩)) (h3 : tmps.getD 7 undef = .pointer (some ⟨p3, 0, none⟩)) (h4 : tmps.getD 8 undef = .pointer (some ⟨p4, 0, none⟩))
    (r2 : Rl W p2 58 (impL x)) (r3 : Rl W p3 3 [.int .i64 o]) (r4 : Rl W p4 4 [.bool f]) : (results Try.f22 tmps).run Try.prog W = .ok (.tuple #[impA x, .int .i64 o, .bool f]) W := by
  have c0 := r2.cell 0 rfl
  have c1 := r2.cell 1 rfl
  have c2 := r2.cell 2 rfl
  have c3 := r2.cell 3 rfl
  have c4 := r2.cell 4 rfl
  have c5 := r2.cell 5 rfl
  have c6 := r2.cell 6 rfl
  have c7 := r3.cell 0 rfl
  have c8 := r4.cell 0 rfl
  clear r2 r3 r4
  simp only [Array.getD_eq_getD_getElem?] at h2 h3 h4
  simp [results, Try.results22, go_sem, h2, h3, h4, c0, c1, c2, c3, c4, c5, c6, c7, c8, impA]
theorem among_any {Z : Nat → Prop} {w : World} {A : Option Addr} {xs : List Imp} {v0 v2 v3 v4 v5 v6 v7 v8 v9 v10 : Value} {k q : Int} (c : Nat) (hZ : ∀ j, Z j → j < w.heap.size) (hR : Rt fIm Z w A xs) (hlen : xs.length ≤ 140737488351232) (hq : 0 ≤ q) (hq2 : q ≤ 9223372036854775807) :
    Calls Try.prog 22 #[.agg #[v0, .slice A xs.length c, v2, v3, v4, v5, v6, v7, v8, v9, v10], .int .i64 k, .int .i64 q] w fun e w' => AmR (imk xs k) q e ∧ Hid (Later w w') := by
  obtain ⟨LA, hLA⟩ : ∃ LA : List Value, LA = [v0, .slice A xs.length c, v2, v3, v4, v5, v6, v7, v8, v9, v10] := ⟨_, rfl⟩
  obtain ⟨W0, hW0⟩ : ∃ W0, ((((w.alloc (.cells #[v0, .slice A xs.length c, v2, v3, v4, v5, v6, v7, v8, v9, v10] 32)).alloc (.cells #[.int .i64 q] 3)).alloc (.cells #[.string ⟨#[]⟩, .string ⟨#[]⟩, .int .i64 0, .int .i64 0, .bool false, .int .i64 0, .int .i64 0] 58)).alloc (.cells #[.int .i64 0] 3)).alloc (.cells #[.bool false] 4) = W0 := ⟨_, rfl⟩
  obtain ⟨W1, hW1⟩ : ∃ W1, (W0.alloc (.cells #[v0, .slice A xs.length c, v2, v3, v4, v5, v6, v7, v8, v9, v10] 32)).alloc (.cells #[.int .i64 k] 3) = W1 := ⟨_, rfl⟩
  have hs0 : W0.heap.size = w.heap.size + 5 := by rw [← hW0]; simp
  have hb0 : Later w W0 := by rw [← hW0]; exact La (La (La (La (La (Lz _)))))
  have hb1 : Bel w.heap.size w W1 := bel_later (by rw [← hW1]; exact La (La hb0))
  have hs1 : W1.heap.size = w.heap.size + 7 := by rw [← hW1]; simp [hs0]
  have h01 : Later W0 W1 := by rw [← hW1]; exact La (La (Lz _))
  have bq : Boxed W1 (w.heap.size + 1) 3 (.int .i64 q) := by
    refine (h01.block (by omega)).trans ?_
    rw [← hW0]
    have := heap_alloc_new (w.alloc (.cells #[v0, .slice A xs.length c, v2, v3, v4, v5, v6, v7, v8, v9, v10] 32)) (.cells #[.int .i64 q] 3)
    rw [World.size_alloc] at this
    exact ((La (La (La (Lz ((w.alloc (.cells #[v0, .slice A xs.length c, v2, v3, v4, v5, v6, v7, v8, v9, v10] 32)).alloc (.cells #[.int .i64 q] 3))))) : Later _ _).block (by simp)).trans this
  have br : Rl W1 (w.heap.size + 2) 58 (impL impZ) := by
    refine Rl.later ?_ h01
    rw [← hW0]
    have := (rl_new ((w.alloc (.cells #[v0, .slice A xs.length c, v2, v3, v4, v5, v6, v7, v8, v9, v10] 32)).alloc (.cells #[.int .i64 q] 3)) 58 (impL impZ)).later (La (c := #[.bool false]) (t := 4) (La (c := #[.int .i64 0]) (t := 3) (Lz _)))
    simpa [impL, impZ] using this
  have bo : Rl W1 (w.heap.size + 3) 3 [.int .i64 0] := by
    refine Rl.later ?_ h01
    rw [← hW0]
    have := (rl_new (((w.alloc (.cells #[v0, .slice A xs.length c, v2, v3, v4, v5, v6, v7, v8, v9, v10] 32)).alloc (.cells #[.int .i64 q] 3)).alloc (.cells #[.string ⟨#[]⟩, .string ⟨#[]⟩, .int .i64 0, .int .i64 0, .bool false, .int .i64 0, .int .i64 0] 58)) 3 [.int .i64 0]).later (La (c := #[.bool false]) (t := 4) (Lz _))
    simpa using this
  have bf : Rl W1 (w.heap.size + 4) 4 [.bool false] := by
    refine Rl.later ?_ h01
    rw [← hW0]
    have := rl_new ((((w.alloc (.cells #[v0, .slice A xs.length c, v2, v3, v4, v5, v6, v7, v8, v9, v10] 32)).alloc (.cells #[.int .i64 q] 3)).alloc (.cells #[.string ⟨#[]⟩, .string ⟨#[]⟩, .int .i64 0, .int .i64 0, .bool false, .int .i64 0, .int .i64 0] 58)).alloc (.cells #[.int .i64 0] 3)) 4 [.bool false]
    simpa using this
  have bm : Rl W1 (w.heap.size + 5) 32 LA := by
    rw [← hW1, hLA]
    have := (rl_new W0 32 [v0, .slice A xs.length c, v2, v3, v4, v5, v6, v7, v8, v9, v10]).later (La (c := #[.int .i64 k]) (t := 3) (Lz _))
    simpa [hs0] using this
  have bk : W1.cell? ⟨w.heap.size + 6, 0, none⟩ = some (.int .i64 k) := by
    rw [← hW1]
    have := (rl_new (W0.alloc (.cells #[v0, .slice A xs.length c, v2, v3, v4, v5, v6, v7, v8, v9, v10] 32)) 3 [.int .i64 k]).cell 0 rfl
    simpa [hs0] using this
  have hsq : Hid (SeqBel Fence.wide 8 Try.prog 35 #[.pointer (some ⟨w.heap.size + 5, 0, none⟩), .pointer (some ⟨w.heap.size + 6, 0, none⟩)] enc1 (fun j => j < w.heap.size ∨ j = w.heap.size + 6) (fun ys => ys = imk xs k) (fun pre => pre <+: imk xs k) (xs.length + 1) W1) :=
    imp_below 8 (w.heap.size + 5) (w.heap.size + 6) c hR hlen (later_bel hb1) _ (fun j hj => Or.inl (hZ j hj)) (Or.inr rfl) bm (by rw [hLA]; rfl) bk
  clear hR hZ bm bk h01 hb0
  generalize hys : imk xs k = ys at *
  replace hys : Hid (imk xs k = ys) := hys
  generalize hn0 : xs.length = n at *
  replace hn0 : Hid (xs.length = n) := hn0
  clear hLA
  replace hW0 : Hid _ := hW0
  replace hW1 : Hid _ := hW1
  refine (callsIn_wide (n := 9)).1 ?_
  refine callsIn_of_wp_marks Try.func22 rfl trivial ?_ rfl
  simp only [Try.ntmps22, List.size_toArray, List.length_cons, List.length_nil, Nat.reduceAdd, Nat.reduceSub, Array.replicate_succ, Array.replicate_zero, List.push_toArray, List.append_toArray, List.nil_append, List.cons_append]
  gi_wp2
  refine ⟨trivial, ?_⟩
  refine (callsIn_wide.2 (imported_any [v0, .slice A n c, v2, v3, v4, v5, v6, v7, v8, v9, v10] k _)).mono ?_
  rintro e w2 ⟨rfl, h2⟩
  obtain rfl : w2 = W1 := by rw [h2, ← hW1.out, ← hW0.out]
  clear h2 hW1 hW0
  simp only [World.size_alloc]
  gi_wp2
  refine wpIn_range_below (α := Imp) (w := w2) rfl (by decide) rfl trivial (enters_of Try.func35 (by kernel_rfl) rfl) hsq.out (fun k hk => by omega) (Bel.refl _ _) (fun x => rfl)
    (AmI w q)
    (AmX w q)
    (fun s X Y h hb => ⟨h.1.trans (hb.mono (by omega)), h.2.1, (hb.block _ (by omega)).trans h.2.2.1, h.2.2.2.1.of_blk (hb.block _ (by omega)), h.2.2.2.2.1.of_blk (hb.block _ (by omega)), h.2.2.2.2.2.of_blk (hb.block _ (by omega))⟩)
    (fun c s X Y h hb => by
      obtain ⟨h0, h1, pr, x, h2, h3, h4, h5, h6⟩ := h
      exact ⟨h0, h1.trans (hb.mono (by omega)), pr, x, h2, h3, h4.of_blk (hb.block _ (by omega)), h5.of_blk (hb.block _ (by omega)), h6.of_blk (hb.block _ (by omega))⟩)
    ⟨hb1, hq, by simpa using bq, br, bo, bf⟩
    (fun x a' W => ∃ b, w2.heap.size + 2 ≤ b ∧ Rl W b 58 (impL x) ∧ a' = { tmps := #[.agg #[v0, .slice A n c, v2, v3, v4, v5, v6, v7, v8, v9, v10], .int .i64 k, .int .i64 q, .pointer (some ⟨w.heap.size, 0, none⟩), undef, .pointer (some ⟨w.heap.size + 1, 0, none⟩), .pointer (some ⟨w.heap.size + 1 + 1, 0, none⟩), .pointer (some ⟨w.heap.size + 1 + 1 + 1, 0, none⟩), .pointer (some ⟨w.heap.size + 1 + 1 + 1 + 1, 0, none⟩), .pointer (some ⟨b, 0, none⟩), .agg #[v0, .slice A n c, v2, v3, v4, v5, v6, v7, v8, v9, v10], .int .i64 k, .func (.func 35) #[] #[.pointer (some ⟨w.heap.size + 1 + 1 + 1 + 1 + 1, 0, none⟩), .pointer (some ⟨w.heap.size + 1 + 1 + 1 + 1 + 1 + 1, 0, none⟩)], impA x, undef, undef, undef, undef, undef, undef, undef], defers := [] })
    (fun x a' W r h => by
      obtain ⟨b, h1, h2, h3⟩ := h
      exact ⟨b, h1, h2.of_blk (World.putObj_heap_other (by omega)), h3⟩)
    ?_ ?_ ?_ ?_
  · intro l pre x W K hi hz hK
    simp only [enc1, impA]
    gi_wp2
    refine hK _ _ ((Bel.refl _ W).alloc (Nat.le_refl _) _) ⟨W.heap.size, hz, by have := rl_new W 58 (impL x); simpa [impL] using this, ?_⟩
    simp [impA]
  · rintro l pre x a' W ⟨hlo, hpq, hbx, hr2, hr3, hr4⟩ hz ⟨b, hb, hrb, rfl⟩ hlt
    have hc := hbx.cell
    have hf := hbx.frozen
    have hl := hbx.lt
    have lr2 := hr2.lt
    have lr3 := hr3.lt
    have lr4 := hr4.lt
    have lrb := hrb.lt
    by_cases he : (pre.length : Int) = q
    · rw [show q - (pre.length : Int) = 0 by omega] at hc
      obtain ⟨x0, x1, x2, x3, x4, x5, x6⟩ := x
      have r0 := hrb.cell 0 rfl
      have r1 := hrb.cell 1 rfl
      have r2 := hrb.cell 2 rfl
      have r3 := hrb.cell 3 rfl
      have r4 := hrb.cell 4 rfl
      have r5 := hrb.cell 5 rfl
      have r6 := hrb.cell 6 rfl
      have s0 := hr2.cell 0 rfl
      have s1 := hr2.cell 1 rfl
      have s2 := hr2.cell 2 rfl
      have s3 := hr2.cell 3 rfl
      have s4 := hr2.cell 4 rfl
      have s5 := hr2.cell 5 rfl
      have s6 := hr2.cell 6 rfl
      have t0 := hr2.frozen 0
      have t1 := hr2.frozen 1
      have t2 := hr2.frozen 2
      have t3 := hr2.frozen 3
      have t4 := hr2.frozen 4
      have t5 := hr2.frozen 5
      have t6 := hr2.frozen 6
      have o0 := hr3.cell 0 rfl
      have o1 := hr3.frozen 0
      have p0 := hr4.cell 0 rfl
      have p1 := hr4.frozen 0
      simp only [impA]
      replace hbx : Hid _ := hbx
      have hfin : Hid (KeptAt (fun j => j < w.heap.size ∨ j = w.heap.size + 6) (w.heap.size + 7) W (((((((((W.setCell ⟨w.heap.size + 2, 0, none⟩ (.string x0)).setCell ⟨w.heap.size + 2, 1, none⟩ (.string x1)).setCell ⟨w.heap.size + 2, 2, none⟩ (.int .i64 x2)).setCell ⟨w.heap.size + 2, 3, none⟩ (.int .i64 x3)).setCell ⟨w.heap.size + 2, 4, none⟩ (.bool x4)).setCell ⟨w.heap.size + 2, 5, none⟩ (.int .i64 x5)).setCell ⟨w.heap.size + 2, 6, none⟩ (.int .i64 x6)).setCell ⟨w.heap.size + 3, 0, none⟩ (.int .i64 0)).setCell ⟨w.heap.size + 4, 0, none⟩ (.bool true)) ∧
          AmX w q .ret (pre ++ [(x0, x1, x2, x3, x4, x5, x6)]) (((((((((W.setCell ⟨w.heap.size + 2, 0, none⟩ (.string x0)).setCell ⟨w.heap.size + 2, 1, none⟩ (.string x1)).setCell ⟨w.heap.size + 2, 2, none⟩ (.int .i64 x2)).setCell ⟨w.heap.size + 2, 3, none⟩ (.int .i64 x3)).setCell ⟨w.heap.size + 2, 4, none⟩ (.bool x4)).setCell ⟨w.heap.size + 2, 5, none⟩ (.int .i64 x5)).setCell ⟨w.heap.size + 2, 6, none⟩ (.int .i64 x6)).setCell ⟨w.heap.size + 3, 0, none⟩ (.int .i64 0)).setCell ⟨w.heap.size + 4, 0, none⟩ (.bool true))) := by
        refine ⟨?_, rfl, ?_, pre, _, rfl, he, ?_, ?_, ?_⟩
        · repeat refine kept_set ?_ (by rintro (h | h) <;> omega) (by omega) _ _
          exact KeptAt.refl _ _ _
        · repeat refine Bel.setCell ?_ (by simp; try omega) _
          exact hlo
        · exact ((((((((hr2.set 0 (.string x0)).set 1 (.string x1)).set 2 (.int .i64 x2)).set 3 (.int .i64 x3)).set 4 (.bool x4)).set 5 (.int .i64 x5)).set 6 (.int .i64 x6)).off 0 _ (by omega)).off 0 _ (by omega)
        · refine Rl.off ?_ 0 _ (by omega)
          refine (((((((((hr3.off 0 (.string x0) (by omega)).off 1 (.string x1) (by omega)).off 2 (.int .i64 x2) (by omega)).off 3 (.int .i64 x3) (by omega)).off 4 (.bool x4) (by omega)).off 5 (.int .i64 x5) (by omega)).off 6 (.int .i64 x6) (by omega)).set 0 (.int .i64 0)))
        · exact ((((((((hr4.off 0 (.string x0) (by omega)).off 1 (.string x1) (by omega)).off 2 (.int .i64 x2) (by omega)).off 3 (.int .i64 x3) (by omega)).off 4 (.bool x4) (by omega)).off 5 (.int .i64 x5) (by omega)).off 6 (.int .i64 x6) (by omega)).off 0 (.int .i64 0) (by omega)).set 0 (.bool true)
      clear hlt
      gi_wp2
      first | exact hfin.out | (rw [hs1]; exact hfin.out)
    · have hne : ¬ q - (pre.length : Int) = 0 := by omega
      have hp : (pre.length : Int) ≤ 140737488351233 := by omega
      have hp1 : -9223372036854775808 ≤ q - (pre.length : Int) - 1 := by omega
      have hp2 : q - (pre.length : Int) - 1 ≤ 9223372036854775807 := by omega
      have hfin : Hid (KeptAt (fun j => j < w.heap.size ∨ j = w.heap.size + 6) (w.heap.size + 7) W (W.setCell ⟨w.heap.size + 1, 0, none⟩ (.int .i64 (q - (pre.length : Int) - 1))) ∧ AmI w q (pre ++ [x]) (W.setCell ⟨w.heap.size + 1, 0, none⟩ (.int .i64 (q - (pre.length : Int) - 1)))) := by
        refine ⟨kept_set (KeptAt.refl _ _ _) (by rintro (h | h) <;> omega) (by omega) _ _, hlo.setCell (p := ⟨w.heap.size + 1, 0, none⟩) (Nat.le_succ _) _, by simp; omega, ?_, hr2.off 0 _ (by omega), hr3.off 0 _ (by omega), hr4.off 0 _ (by omega)⟩
        rw [List.length_append, List.length_singleton, show q - ((pre.length + 1 : Nat) : Int) = q - (pre.length : Int) - 1 by omega]
        exact Boxed.set _ hbx
      generalize hv : q - (pre.length : Int) = v at *
      replace hv : Hid _ := hv
      have hb0 : (v == 0) = false := beq_eq_false_iff_ne.2 hne
      simp only [impA]
      clear hlt hbx hr2 hr3 hr4 hrb hlo
      gi_wp2
      first | exact hfin.out | (rw [hs1]; exact hfin.out)
  · rintro Dd zs W hDd rfl ⟨hlo, hpq, hbx, hr2, hr3, hr4⟩ hK
    have hc := hbx.cell
    have lr1 := hbx.lt
    have lr2 := hr2.lt
    have lr3 := hr3.lt
    have lr4 := hr4.lt
    have s0 := hr2.cell 0 rfl
    have s1 := hr2.cell 1 rfl
    have s2 := hr2.cell 2 rfl
    have s3 := hr2.cell 3 rfl
    have s4 := hr2.cell 4 rfl
    have s5 := hr2.cell 5 rfl
    have s6 := hr2.cell 6 rfl
    have t0 := hr2.frozen 0
    have t1 := hr2.frozen 1
    have t2 := hr2.frozen 2
    have t3 := hr2.frozen 3
    have t4 := hr2.frozen 4
    have t5 := hr2.frozen 5
    have t6 := hr2.frozen 6
    have o0 := hr3.cell 0 rfl
    have o1 := hr3.frozen 0
    have p0 := hr4.cell 0 rfl
    have p1 := hr4.frozen 0
    have hfin : Hid (∃ Wf, (((((((((W.setCell ⟨w.heap.size + 2, 0, none⟩ (.string ⟨#[]⟩)).setCell ⟨w.heap.size + 2, 1, none⟩ (.string ⟨#[]⟩)).setCell ⟨w.heap.size + 2, 2, none⟩ (.int .i64 0)).setCell ⟨w.heap.size + 2, 3, none⟩ (.int .i64 0)).setCell ⟨w.heap.size + 2, 4, none⟩ (.bool false)).setCell ⟨w.heap.size + 2, 5, none⟩ (.int .i64 0)).setCell ⟨w.heap.size + 2, 6, none⟩ (.int .i64 0)).setCell ⟨w.heap.size + 3, 0, none⟩ (.int .i64 (q - zs.length))).setCell ⟨w.heap.size + 4, 0, none⟩ (.bool false)).drew = Wf ∧ Bel w.heap.size w Wf ∧ Wf.heap[Dd]? = some (.deferred (some [])) ∧ Dd < Wf.heap.size ∧ Rl Wf (w.heap.size + 2) 58 (impL impZ) ∧ Rl Wf (w.heap.size + 3) 3 [.int .i64 (q - zs.length)] ∧ Rl Wf (w.heap.size + 4) 4 [.bool false]) := by
      refine ⟨_, rfl, ?_, ?_, ?_, ?_, ?_, ?_⟩
      · refine bel_drew ?_
        repeat refine Bel.setCell ?_ (by simp; try omega) _
        exact hlo
      · have hst : ∀ (Y : World) (p i : Nat) (v : Value), p ≠ Dd → (Y.setCell ⟨p, i, none⟩ v).heap[Dd]? = Y.heap[Dd]? := fun Y p i v hp => Below.heap_setCell Y ⟨p, i, none⟩ v Dd (fun e => hp e.symm)
        have hdr : ∀ Y : World, Y.drew.heap = Y.heap := fun _ => rfl
        have h2 : w.heap.size + 2 ≠ Dd := by omega
        have h3 : w.heap.size + 3 ≠ Dd := by omega
        have h4 : w.heap.size + 4 ≠ Dd := by omega
        rw [hdr, hst _ _ _ _ h4, hst _ _ _ _ h3, hst _ _ _ _ h2, hst _ _ _ _ h2, hst _ _ _ _ h2, hst _ _ _ _ h2, hst _ _ _ _ h2, hst _ _ _ _ h2, hst _ _ _ _ h2]
        exact hK
      · have := (Array.getElem?_eq_some_iff.1 hK).1
        simpa [World.drew, World.setCell] using this
      · exact (((((((((hr2.set 0 (.string ⟨#[]⟩)).set 1 (.string ⟨#[]⟩)).set 2 (.int .i64 0)).set 3 (.int .i64 0)).set 4 (.bool false)).set 5 (.int .i64 0)).set 6 (.int .i64 0)).off 0 _ (by omega)).off 0 _ (by omega)).later (Ld (Lz _))
      · refine Rl.later ?_ (Ld (Lz _))
        refine Rl.off ?_ 0 _ (by omega)
        exact (((((((((hr3.off 0 (.string ⟨#[]⟩) (by omega)).off 1 (.string ⟨#[]⟩) (by omega)).off 2 (.int .i64 0) (by omega)).off 3 (.int .i64 0) (by omega)).off 4 (.bool false) (by omega)).off 5 (.int .i64 0) (by omega)).off 6 (.int .i64 0) (by omega)).set 0 (.int .i64 (q - zs.length))))
      · exact (((((((((hr4.off 0 (.string ⟨#[]⟩) (by omega)).off 1 (.string ⟨#[]⟩) (by omega)).off 2 (.int .i64 0) (by omega)).off 3 (.int .i64 0) (by omega)).off 4 (.bool false) (by omega)).off 5 (.int .i64 0) (by omega)).off 6 (.int .i64 0) (by omega)).off 0 (.int .i64 (q - zs.length)) (by omega)).set 0 (.bool false)).later (Ld (Lz _))
    obtain ⟨Wf, hWf, hF1, hF2, hF3, hF4, hF5, hF6⟩ := hfin.out
    replace hWf : Hid _ := hWf
    gi_wp2
    gi_region
    all_goals
      gi_wp2
      rw [hWf.out]
      refine ⟨by simp, .inl ⟨_, _, rfl, run_takeDeferred hF2, ?_⟩⟩
      exact ⟨_, res_am _ _ _ _ _ impZ _ false rfl rfl rfl (hF4.of_blk (World.putObj_heap_other (by omega))) (hF5.of_blk (World.putObj_heap_other (by omega))) (hF6.of_blk (World.putObj_heap_other (by omega))), Or.inr ⟨hpq, rfl⟩, later_bel (hF1.trans (below_put (by omega) _))⟩
  · rintro Dd c pre W hDd hpre ⟨rfl, hlo, pr, x, rfl, hpq, hr2, hr3, hr4⟩ hK
    have hr : Hid (AmR ys q (.returned (.tuple #[impA x, .int .i64 0, .bool true]))) := by
      obtain ⟨t, ht⟩ := hpre
      have hl : pr.length < ys.length := by rw [← ht]; simp
      refine Or.inl ⟨by omega, ?_⟩
      have e : q.toNat = pr.length := by omega
      have : ys[q.toNat]'(by omega) = x := by simp [e, ← ht]
      rw [this]
    have hlo2 : Hid (Bel w.heap.size w (W.putObj Dd (.deferred none))) := hlo.trans (below_put (by omega) _)
    clear hpre
    gi_wp2
    refine ⟨by simp, .inl ⟨_, _, rfl, run_takeDeferred hK, ?_⟩⟩
    exact ⟨_, res_am _ _ _ _ _ x _ true rfl rfl rfl (hr2.of_blk (World.putObj_heap_other (by omega))) (hr3.of_blk (World.putObj_heap_other (by omega))) (hr4.of_blk (World.putObj_heap_other (by omega))), hr.out, later_bel hlo2.out⟩
end Go.Proofs.Ytonnmbmdmkmhmaa.ty
