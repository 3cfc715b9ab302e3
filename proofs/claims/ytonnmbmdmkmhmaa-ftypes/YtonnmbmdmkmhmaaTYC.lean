/- Package ftype's count and among: ranges over the imports of a kind. -/
import Derived.Test.YtonnmbmdmkmhmaaTYB
set_option linter.unusedVariables false
set_option linter.unusedSimpArgs false
set_option maxRecDepth 100000
set_option maxHeartbeats 8000000
namespace Go.Proofs.Ytonnmbmdmkmhmaa.ty
open Go.RowKit Go.Shelf
attribute [local go_sem] Oper.semAt_some
theorem count_any {Z : Nat → Prop} {w : World} {A : Option Addr} {xs : List Imp} {v0 v2 v3 v4 v5 v6 v7 v8 v9 v10 : Value} {k : Int} (c : Nat) (hZ : ∀ j, Z j → j < w.heap.size) (hR : Rt fIm Z w A xs) (hlen : xs.length ≤ 140737488351232) :
    Calls Try.prog 25 #[.agg #[v0, .slice A xs.length c, v2, v3, v4, v5, v6, v7, v8, v9, v10], .int .i64 k] w fun e w' => e = .returned (.int .i64 ((imk xs k).length : Nat)) ∧ Hid (Later w w') := by
  obtain ⟨LA, hLA⟩ : ∃ LA : List Value, LA = [v0, .slice A xs.length c, v2, v3, v4, v5, v6, v7, v8, v9, v10] := ⟨_, rfl⟩
  obtain ⟨W1, hW1⟩ : ∃ W1, (((w.alloc (.cells #[v0, .slice A xs.length c, v2, v3, v4, v5, v6, v7, v8, v9, v10] 32)).alloc (.cells #[.int .i64 0] 3)).alloc (.cells #[v0, .slice A xs.length c, v2, v3, v4, v5, v6, v7, v8, v9, v10] 32)).alloc (.cells #[.int .i64 k] 3) = W1 := ⟨_, rfl⟩
  have hb1 : Bel w.heap.size w W1 := by rw [← hW1]; exact ((((Bel.refl _ w).alloc (Nat.le_refl _) _).alloc (by simp) _).alloc (by simp; omega) _).alloc (by simp; omega) _
  have hs1 : W1.heap.size = w.heap.size + 4 := by rw [← hW1]; simp
  have bn : Boxed W1 (w.heap.size + 1) 3 (.int .i64 0) := by
    rw [← hW1]
    have := ((Boxed.new (w.alloc (.cells #[v0, .slice A xs.length c, v2, v3, v4, v5, v6, v7, v8, v9, v10] 32)) 3 (.int .i64 0)).alloc (.cells #[v0, .slice A xs.length c, v2, v3, v4, v5, v6, v7, v8, v9, v10] 32)).alloc (.cells #[.int .i64 k] 3)
    simpa using this
  have bm : Rl W1 (w.heap.size + 2) 32 LA := by
    rw [← hW1, hLA]
    have := (rl_new ((w.alloc (.cells #[v0, .slice A xs.length c, v2, v3, v4, v5, v6, v7, v8, v9, v10] 32)).alloc (.cells #[.int .i64 0] 3)) 32 [v0, .slice A xs.length c, v2, v3, v4, v5, v6, v7, v8, v9, v10]).later (La (c := #[.int .i64 k]) (t := 3) (Lz _))
    simpa using this
  have bk : W1.cell? ⟨w.heap.size + 3, 0, none⟩ = some (.int .i64 k) := by rw [← hW1]; simp [go_sem]
  have hsq : Hid (SeqBel Fence.wide 8 Try.prog 35 #[.pointer (some ⟨w.heap.size + 2, 0, none⟩), .pointer (some ⟨w.heap.size + 3, 0, none⟩)] enc1 (fun j => j < w.heap.size ∨ j = w.heap.size + 3) (fun ys => ys = imk xs k) (fun pre => pre <+: imk xs k) (xs.length + 1) W1) :=
    imp_below 8 (w.heap.size + 2) (w.heap.size + 3) c hR hlen (later_bel hb1) _ (fun j hj => Or.inl (hZ j hj)) (Or.inr rfl) bm (by rw [hLA]; rfl) bk
  clear hR hZ bm bk
  generalize hn0 : xs.length = n at *
  replace hn0 : Hid (xs.length = n) := hn0
  clear hLA
  refine (callsIn_wide (n := 9)).1 ?_
  refine callsIn_of_wp_marks Try.func25 rfl trivial ?_ rfl
  simp only [Try.ntmps25, List.size_toArray, List.length_cons, List.length_nil, Nat.reduceAdd, Nat.reduceSub, Array.replicate_succ, Array.replicate_zero, List.push_toArray, List.append_toArray, List.nil_append, List.cons_append]
  gi_wp2
  refine ⟨trivial, ?_⟩
  refine (callsIn_wide.2 (imported_any [v0, .slice A n c, v2, v3, v4, v5, v6, v7, v8, v9, v10] k _)).mono ?_
  rintro e w2 ⟨rfl, h2⟩
  obtain rfl : w2 = W1 := by rw [h2]; exact hW1
  clear h2 hW1
  simp only [World.size_alloc]
  gi_wp2
  refine wpIn_range_below (α := Imp) (w := w2) rfl (by decide) rfl trivial (enters_of Try.func35 (by kernel_rfl) rfl) hsq.out (fun k hk => by omega) (Bel.refl _ _) (fun x => rfl)
    (fun pre W => Bel w.heap.size w W ∧ Boxed W (w.heap.size + 1) 3 (.int .i64 (pre.length : Nat)))
    (fun c pre W => False)
    (fun s X Y h hb => ⟨h.1.trans (hb.mono (by omega)), (hb.block _ (by omega)).trans h.2⟩)
    (fun c s X Y h hb => h)
    ⟨hb1, bn⟩
    (fun x a' W => a' = { tmps := #[.agg #[v0, .slice A n c, v2, v3, v4, v5, v6, v7, v8, v9, v10], .int .i64 k, .pointer (some ⟨w.heap.size, 0, none⟩), undef, .int .i64 0, .pointer (some ⟨w.heap.size + 1, 0, none⟩), .agg #[v0, .slice A n c, v2, v3, v4, v5, v6, v7, v8, v9, v10], .int .i64 k, .func (.func 35) #[] #[.pointer (some ⟨w.heap.size + 1 + 1, 0, none⟩), .pointer (some ⟨w.heap.size + 1 + 1 + 1, 0, none⟩)], impA x, undef, undef, undef], defers := [] })
    (fun x a' W r h => h)
    ?_ ?_ ?_ ?_
  · intro l pre x W K hi hz hK
    simp only [enc1]
    gi_wp2
    exact hK _ _ (Bel.refl _ _) (by simp)
  · rintro l pre x a' W ⟨hlo, hbx⟩ hz rfl hlt
    have hc := hbx.cell
    have hf := hbx.frozen
    have hl := hbx.lt
    have hp : (pre.length : Int) ≤ 140737488351233 := by omega
    have hfin : Hid (∀ v, KeptAt (fun j => j < w.heap.size ∨ j = w.heap.size + 3) w2.heap.size W (W.setCell ⟨w.heap.size + 1, 0, none⟩ v)) := fun v => ⟨by simp, fun k hk hl => Below.heap_setCell W ⟨w.heap.size + 1, 0, none⟩ _ k (by intro e; rw [show k = w.heap.size + 1 from e] at hk; rcases hk with (h | h) | h <;> omega)⟩
    replace hbx : Hid _ := hbx
    clear hlt
    simp only [impA]
    gi_wp2
    refine ⟨hfin.out _, hlo.setCell (p := ⟨w.heap.size + 1, 0, none⟩) (Nat.le_succ _) _, ?_⟩
    rw [List.length_append, List.length_singleton, Int.natCast_add]
    exact Boxed.set _ hbx.out
  · rintro Dd ys W hDd rfl ⟨hlo, hbx⟩ hK
    have hc := hbx.cell
    have hl := hbx.lt
    have hlo2 : Hid (Bel w.heap.size w (W.putObj Dd (.deferred none))) := hlo.trans (below_put (by omega) _)
    gi_wp2
    refine ⟨by simp, .inl ⟨_, _, rfl, run_takeDeferred hK, ?_⟩⟩
    exact ⟨_, results_tmp rfl _ _ _, rfl, later_bel hlo2.out⟩
  · intro Dd c pre W _ _ h
    exact h.elim
end Go.Proofs.Ytonnmbmdmkmhmaa.ty
