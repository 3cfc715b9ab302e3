/- 'Applies' of package peloruslaw7 returns true at every int and every list of values: each operation has the document's type and answers as the document says, and the list stays as it was. No condition. -/
import Derived.Test.YtdfgcagbpndabaaGreatDoorVP
import Derived.LoopTactic
import Derived.OpenShut
import Derived.Laws.OwnMore
import Derived.Test.YtdfgcagbpndabaaGreatDoorCards
import Derived.Test.YtdfgcagbpndabaaGreatDoorTie
import Derived.Carry
import Derived.Deep.SlicePairs
set_option linter.unusedVariables false
set_option linter.unusedSimpArgs false
set_option maxRecDepth 100000
set_option maxHeartbeats 60000000
namespace Go.Proofs.YtdfgcagbpndabaaGreatDoor.applies
open Go.ChangeShapes Go.WideShapes Go.ChangeAt Go.RowKit Go.AM
def xs (V : Nat → Int) (n : Nat) : List Value := (List.range (n * 2)).map fun j => Value.int .i64 (V j)
theorem xs_len (V : Nat → Int) (n : Nat) : (xs V n).length = n * 2 := by simp [xs]
theorem xs_get (V : Nat → Int) (n j : Nat) (h : j < n * 2) : (xs V n)[j]? = some (.int .i64 (V j)) := by simp [xs, h]
theorem xs_one (V : Nat → Int) (n : Nat) : ∀ u ∈ xs V n, u.oneCell' = true := by
  intro u hu
  simp only [xs, List.mem_map] at hu
  obtain ⟨j, _, rfl⟩ := hu
  rfl
theorem own_lit0 (W : World) (b : Nat) (hb : b = W.heap.size) : (W.alloc (.cells #[] 33)).ownsRow W.heap.size 33 2 (.slice (some ⟨b, 0, none⟩) 0 0) 0 [] := by
  subst hb
  exact ⟨rfl, Or.inr ⟨W.heap.size, 0, #[], rfl, Nat.le_refl _, heap_alloc_new W _, Nat.le_refl _, Nat.zero_le _, rfl, rfl⟩⟩
theorem own_cap {w : World} {base g c cap : Nat} {xs : List Value} (ho : w.ownsRow base 33 2 (.slice (some ⟨g, 0, none⟩) c cap) c xs) : c ≤ cap := by
  rcases ho.2 with ⟨h, _⟩ | ⟨b, cap', cur, h, hb, hbb, h2, _⟩
  · cases h
  · simp only [Value.slice.injEq] at h
    omega
def mk4 : List Value := [.int .i64 77777, .int .i64 0, .int .i64 77777, .int .i64 0]
theorem news4 {X : World} {b : Nat} (hb : b = X.heap.size) : ∀ (j : Nat) (u : Value), mk4[j]? = some u → (X.alloc (.cells #[.int .i64 77777, .int .i64 0, .int .i64 77777, .int .i64 0] 33)).cell? ((⟨b, 0, none⟩ : Addr).add j) = some u := by
  subst hb
  intro j u h
  rw [add_lit, cell_of_row _ _ _ _ _ _ (heap_alloc_new X _)]
  match j, h with
  | 0, h => simpa [mk4] using h
  | 1, h => simpa [mk4] using h
  | 2, h => simpa [mk4] using h
  | 3, h => simpa [mk4] using h
theorem one4 : ∀ u ∈ mk4, u.oneCell' = true := by
  intro u hu
  simp only [mk4, List.mem_cons, List.not_mem_nil, or_false] at hu
  rcases hu with rfl | rfl | rfl | rfl <;> rfl
theorem copy_some (bb oo n c : Nat) (V : Nat → Int) (w : World) (hn : 0 < n) (hr : n * 16 ≤ 140737488351232) (hV : Hid (∀ j, j < n * 2 → w.cell? ⟨bb, oo + j, none⟩ = some (.int .i64 (V j)))) :
    Calls Tryz.prog 17 #[.slice (some ⟨bb, oo, none⟩) n c] w fun e w' => ∃ g cap, e = .returned (.slice (some ⟨g, 0, none⟩) n cap) ∧ Hid (w'.ownsRow w.heap.size 33 2 (.slice (some ⟨g, 0, none⟩) n cap) n (xs V n)) ∧ Hid (Later w w') := by
  obtain ⟨i0, hi, hz0, hz1, hz2⟩ := info_parts info_val
  go_enter Tryz.func17, Tryz.ntmps17
  go_wp2_with (at_builtin; refine wpList_append_later (La (Lz _)) rfl _ _ 22 rfl 33 i0 (.agg #[.int .i64 0, .int .i64 0]) 2 16 Tryz.underlying22 hi hz0 hz1 hz2 rfl (by decide) _ 0 [] rfl (own_lit0 _ _ (by simp)) _ n _ (xs V n) rfl (xs_len V n) (fun j u h => by have hj : j < n * 2 := (by have := (List.getElem?_eq_some_iff.1 h).1; rwa [xs_len] at this); rw [xs_get V n j hj] at h; rw [add_plain, (La (Lz _)).cell_of (hV.out j hj)]; exact h) (xs_one V n) (by unfold maxLen; omega) (by omega) hn ?_; intro g cap w2 hown hL2; simp only [Nat.zero_add, List.nil_append] at hown; replace hown : Hid (w2.ownsRow w.heap.size 33 2 (.slice (some ⟨g, 0, none⟩) n cap) n (xs V n)) := hown)
  go_ret
  exact ⟨g, cap, rfl, hown, hL2⟩
theorem app0 (A : Option Addr) (c b : Nat) (ty : TypeId) (W : World) (hb : W.heap[b]? = some (.cells #[] 33 (0, 0))) : (Builtin.append_ #[22, 22] ty #[.slice (some ⟨b, 0, none⟩) 0 0, .slice A 0 c]).run Tryz.prog W = .ok (.slice (some ⟨b, 0, none⟩) 0 0) W := by
  obtain ⟨i0, hi, hz0, hz1, hz2⟩ := info_parts info_val
  cases A with
  | some a =>
    have h := run_append_room (P := Tryz.prog) W 22 ty 33 i0 Tryz.underlying22 hi b 0 0 #[] hb a 0 c [] (by simp) (by simp) (by simp) (by decide) (by simp)
    simpa [setRow_self W b #[] _ _ hb] using h
  | none =>
    simp [Builtin.append_, run_underlying Tryz.underlying22, sizeOf, typeInfo, hi, Builtin.lenOf, Builtin.firstCells, storeCells]
theorem wpList_app {w w' : World} {ops : Array Oper} {rest : List Oper} {o : Oper} {a : Act} {Q : Exit → Act → World → Prop} (hgd : o.guard = none) (s x : Operand) (t : TypeId)
    (ho : o.op = .call { callee := .builtin .append, args := #[s, x], argTypes := #[t, t] }) (v u r : Value) (hs : a.eval s = v) (hx : a.eval x = u) (hr : (Builtin.append_ #[t, t] o.type #[v, u]).run Tryz.prog w = .ok r w')
    (h : wpList Tryz.prog ops Q rest (a.put o.dst r) w') : wpList Tryz.prog ops Q (o :: rest) a w := by
  refine wpList_plain hgd fun K hK => ?_
  unfold Oper.wp execOp
  simp only [ho, resolve, invoke, builtin, Sem.run_bind, Sem.run_pure, Result.andThen_ok, List.map_toArray, List.map_cons, List.map_nil, hs, hx, hr]
  exact hK _ _ h
theorem copy_zero (A : Option Addr) (c : Nat) (w : World) :
    Calls Tryz.prog 17 #[.slice A 0 c] w fun e w' => ∃ g cap, e = .returned (.slice (some ⟨g, 0, none⟩) 0 cap) ∧ Hid (w'.ownsRow w.heap.size 33 2 (.slice (some ⟨g, 0, none⟩) 0 cap) 0 []) ∧ Hid (Later w w') := by
  have ha : Hid _ := app0 A c w.heap.size 22 (w.alloc (.cells #[] 33)) (heap_alloc_new w _)
  have hown : Hid ((w.alloc (.cells #[] 33)).ownsRow w.heap.size 33 2 (.slice (some ⟨w.heap.size, 0, none⟩) 0 0) 0 []) := own_lit0 w _ rfl
  go_enter Tryz.func17, Tryz.ntmps17
  go_wp2_with (at_builtin; refine wpList_app rfl _ _ 22 rfl _ _ _ rfl rfl ha.out ?_)
  go_ret
  exact ⟨_, _, rfl, hown, La (Lz _)⟩
/-- lent: the values, and two marks behind them -/
theorem lend_any (A : Option Addr) (n c : Nat) (V : Nat → Int) (w : World) (hr : n * 16 ≤ 140737488351232) (hcp : Hid (∀ w', Later w w' → Calls Tryz.prog 17 #[.slice A n c] w' fun e w2 => ∃ g cap, e = .returned (.slice (some ⟨g, 0, none⟩) n cap) ∧ Hid (w2.ownsRow w'.heap.size 33 2 (.slice (some ⟨g, 0, none⟩) n cap) n (xs V n)) ∧ Hid (Later w' w2))) :
    Calls Tryz.prog 6 #[.slice A n c] w fun e w' => ∃ g cap, e = .returned (.slice (some ⟨g, 0, none⟩) n cap) ∧ n + 2 ≤ cap ∧ Hid (∀ j u, (xs V n ++ mk4)[j]? = some u → w'.cell? ⟨g, j, none⟩ = some u) ∧ Hid (Later w w') := by
  obtain ⟨i0, hi, hz0, hz1, hz2⟩ := info_parts info_val
  go_enter Tryz.func6, Tryz.ntmps6
  go_wp2_with fail
  refine (hcp.out _ (by repeat first | exact Lz _ | apply La | apply Ld)).mono ?_
  rintro e w2 ⟨g, cap, rfl, hown, hL⟩
  go_wp2_with (at_builtin; refine wpList_append_later (La (later_of hL)) rfl _ _ 22 rfl 33 i0 (.agg #[.int .i64 0, .int .i64 0]) 2 16 Tryz.underlying22 hi hz0 hz1 hz2 rfl (by decide) _ n (xs V n) rfl (hown.out.alloc _) _ 2 _ mk4 rfl rfl (news4 (by simp)) one4 (by unfold maxLen; omega) (by omega) (by decide) ?_; intro g2 cap2 w3 hown3 hL3; have hc2 := own_cap hown3; replace hown3 : Hid (w3.ownsRow w.heap.size 33 2 (.slice (some ⟨g2, 0, none⟩) (n + 2) cap2) (n + 2) (xs V n ++ mk4)) := hown3)
  go_ret
  exact ⟨g2, cap2, rfl, hc2, fun j u h => owns_cell hown3.out h, hL3⟩
/-- the lent values as they were, and the marks -/
theorem samev_any (g cap bb oo n c : Nat) (V : Nat → Int) (A : Option Addr) (hA : n = 0 ∨ A = some ⟨bb, oo, none⟩) (hn : n ≤ 9223372036854775807) (w : World) (h1 : Hid (∀ j, j < n * 2 → w.cell? ⟨g, j, none⟩ = some (.int .i64 (V j)))) (h2 : Hid (∀ j, j < n * 2 → w.cell? ⟨bb, oo + j, none⟩ = some (.int .i64 (V j)))) :
    Calls Tryz.prog 27 #[.slice (some ⟨g, 0, none⟩) n cap, .slice A n c] w fun e w' => e = .returned (.bool true) ∧ Hid (Later w w') := by
  rcases hA with rfl | rfl
  · go_enter Tryz.func27, Tryz.ntmps27
    go_wp2_with fail
    refine wp_loop_rounds 1 ?_
    rw [rounds_succ]
    go_wp2
    go_ret
    exact ⟨rfl, Lz _⟩
  · go_enter Tryz.func27, Tryz.ntmps27
    go_wp2_with fail
    go_loopw [5] (fun i wr => ∃ j d : Nat, j ≤ n ∧ i = .int .i64 (j : Nat) ∧ wr = w.drewN d) (fun i _ => n - (intOf i).toNat)
    case atStart => exact ⟨0, 0, Nat.zero_le _, rfl, by simp [World.drewN]⟩
    case round =>
      obtain ⟨j, d, hj, rfl, rfl⟩ := hrel
      by_cases hlt : j < n
      · have a0 := h1.out (j * 2) (by omega)
        have a1 := h1.out (j * 2 + 1) (by omega)
        have b0 := h2.out (j * 2) (by omega)
        have b1 := h2.out (j * 2 + 1) (by omega)
        rw [← Nat.add_assoc] at b1
        have hl1 : (j : Int) < (n : Int) := by omega
        go_wp2
        go_quiet (fail)
        go_wp2
        go_roundw
        case rel => exact ⟨j + 1, _, by omega, by go_num, rfl⟩
        case measure => simp [intOf]; omega
      · have hje : j = n := by omega
        subst hje
        go_wp2
        go_ret
        exact ⟨rfl, Ln (Lz _)⟩
theorem kept_any (g cap bb oo n c : Nat) (V : Nat → Int) (A : Option Addr) (hA : n = 0 ∨ A = some ⟨bb, oo, none⟩) (hn : n ≤ 140737488351232) (hc2 : n + 2 ≤ cap) (w : World) (h1 : Hid (∀ j u, (xs V n ++ mk4)[j]? = some u → w.cell? ⟨g, j, none⟩ = some u)) (h2 : Hid (∀ j, j < n * 2 → w.cell? ⟨bb, oo + j, none⟩ = some (.int .i64 (V j)))) :
    Calls Tryz.prog 13 #[.slice (some ⟨g, 0, none⟩) n cap, .slice A n c] w fun e w' => e = .returned (.bool true) ∧ Later w w' := by
  have hs : Hid (∀ w', Later w w' → Calls Tryz.prog 27 #[.slice (some ⟨g, 0, none⟩) n cap, .slice A n c] w' fun e w2 => e = .returned (.bool true) ∧ Later w' w2) := fun w' hl => samev_any g cap bb oo n c V A hA (by omega) w' (fun j hj => hl.cell_of (h1.out j _ (by rw [List.getElem?_append_left (by rw [xs_len]; exact hj)]; exact xs_get V n j hj))) (fun j hj => hl.cell_of (h2.out j hj))
  have q0 := h1.out (n * 2) (.int .i64 77777) (by rw [List.getElem?_append_right (by rw [xs_len]; omega), xs_len]; simp [mk4])
  have q1 := h1.out (n * 2 + 1) (.int .i64 0) (by rw [List.getElem?_append_right (by rw [xs_len]; omega), xs_len, Nat.add_sub_cancel_left]; rfl)
  have q2 := h1.out (n * 2 + 2) (.int .i64 77777) (by rw [List.getElem?_append_right (by rw [xs_len]; omega), xs_len, Nat.add_sub_cancel_left]; rfl)
  have q3 := h1.out (n * 2 + 3) (.int .i64 0) (by rw [List.getElem?_append_right (by rw [xs_len]; omega), xs_len, Nat.add_sub_cancel_left]; rfl)
  have lg := cell_lt q0
  clear h1 h2
  rw [show n * 2 + 2 = (n + 1) * 2 by omega] at q2
  rw [show n * 2 + 3 = (n + 1) * 2 + 1 by omega] at q3
  go_enter Tryz.func13, Tryz.ntmps13
  go_wp2_with fail
  refine (hs.out _ (Lz _)).mono ?_
  rintro e w2 ⟨rfl, bs, m, rfl⟩
  go_wp2
  go_ret
  exact ⟨rfl, Lv (Lz _)⟩
/-- one block written over -/
def Spoilt (B : Nat) (w w' : World) : Prop := (∀ W : World, Later W w → W.heap.size ≤ B → Later W w') ∧ ∀ k i v, k ≠ B → w.cell? ⟨k, i, none⟩ = some v → w'.cell? ⟨k, i, none⟩ = some v
theorem spoil0 (A : Option Addr) (c B : Nat) (w : World) : Calls Tryz.prog 14 #[.slice A 0 c] w fun e w' => e = .returned (.tuple #[]) ∧ Spoilt B w w' := by
  go_enter Tryz.func14, Tryz.ntmps14
  go_wp2_with fail
  refine wp_loop_rounds 1 ?_
  rw [rounds_succ]
  go_wp2
  go_end0
  exact ⟨rfl, fun W h _ => h, fun k i v _ h => h⟩
theorem ints_frozen {w : World} {B i : Nat} {l : List Int} (h : IntsAt w B l) : w.frozen? ⟨B, i, none⟩ = false := by
  obtain ⟨cur, h1, _⟩ := h
  simp [World.frozen?, h1]
theorem ints_set {w : World} {B : Nat} {l : List Int} (h : IntsAt w B l) (i : Nat) (v : Value) : Spoilt B w (w.setCell ⟨B, i, none⟩ v) ∧ IntsAt (w.setCell ⟨B, i, none⟩ v) B [] := by
  obtain ⟨cur, h1, _⟩ := h
  refine ⟨⟨fun W hl hb => hl.setCell v hb h1, fun k j u hk hc => (World.cell?_setCell_other _ _ _ _ (fun e => hk (by simp only [Addr.mk.injEq] at e; exact e.1.symm))).trans hc⟩, cur.setIfInBounds i v, by simp [World.setCell, Array.getElem?_modify, h1], fun j x hx => by simp at hx⟩
theorem spoil1 (B cap : Nat) (p : Int) (hp : 124 ≤ p ∧ p ≤ 127) (w : World) (hB : Hid (IntsAt w B [p])) : Calls Tryz.prog 14 #[.slice (some ⟨B, 0, none⟩) 1 cap] w fun e w' => e = .returned (.tuple #[]) ∧ Spoilt B w w' := by
  have b0 := hB.out.cell (j := 0) (x := p) rfl
  have lB := hB.out.lt
  have fz := ints_frozen (i := 0) hB.out
  go_enter Tryz.func14, Tryz.ntmps14
  go_wp2_with fail
  refine wp_loop_rounds 2 ?_
  rw [rounds_succ]
  go_wp2
  rw [rounds_succ]
  go_wp2
  go_end0
  exact ⟨rfl, (ints_set hB.out _ _).1⟩
theorem spoil2 (B cap : Nat) (p : Int) (hp : 124 ≤ p ∧ p ≤ 127) (w : World) (hB : Hid (IntsAt w B [p, p])) : Calls Tryz.prog 14 #[.slice (some ⟨B, 0, none⟩) 2 cap] w fun e w' => e = .returned (.tuple #[]) ∧ Spoilt B w w' := by
  have b0 := hB.out.cell (j := 0) (x := p) rfl
  have b1 := hB.out.cell (j := 1) (x := p) rfl
  have lB := hB.out.lt
  have fz := ints_frozen (i := 0) hB.out
  have fz1 := ints_frozen (i := 1) hB.out
  have S1 := ints_set hB.out 0 (.int .i64 (-9 - p))
  have S2 := ints_set S1.2 1 (.int .i64 (-9 - p))
  have fz2 := ints_frozen (i := 1) S1.2
  have b2 : (w.setCell ⟨B, 0, none⟩ (.int .i64 (-9 - p))).cell? ⟨B, 1, none⟩ = some (.int .i64 p) := (World.cell?_setCell_other _ _ _ _ (fun e => by simp at e)).trans b1
  replace S1 : Hid _ := S1
  replace S2 : Hid _ := S2
  go_enter Tryz.func14, Tryz.ntmps14
  go_wp2_with fail
  refine wp_loop_rounds 3 ?_
  rw [rounds_succ]
  go_wp2
  rw [rounds_succ]
  go_wp2
  rw [rounds_succ]
  go_wp2
  go_end0
  exact ⟨rfl, fun W hl hb => S2.out.1.1 W (S1.out.1.1 W hl hb) hb, fun k i v hk hc => S2.out.1.2 k i v hk (S1.out.1.2 k i v hk hc)⟩
theorem core0 (op p r : Int) (A : Option Addr) (n ca : Nat) (V : Nat → Int) (w : World) (hR : ∀ w : World, Calls Tryz.prog 8 #[.int .i64 op] w fun e w2 => e = .returned (.tuple #[.agg #[.slice none 0 0, .slice none 0 0], .int .i64 700]) ∧ Later w w2) (hA : ∀ w : World, Calls Tryz.prog 7 #[.int .i64 op] w fun e w2 => e = .returned (.tuple #[.agg #[.slice none 0 0, .slice none 0 0], .int .i64 700]) ∧ Later w w2)
    (hlend : ∀ w', Later w w' → Calls Tryz.prog 6 #[.slice A n ca] w' fun e w2 => ∃ g cap, e = .returned (.slice (some ⟨g, 0, none⟩) n cap) ∧ n + 2 ≤ cap ∧ Hid (∀ j u, (xs V n ++ mk4)[j]? = some u → w2.cell? ⟨g, j, none⟩ = some u) ∧ Hid (Later w' w2))
    (hboth : ∀ (wv : World) (g cap : Nat), Later w wv → (∀ j u, (xs V n ++ mk4)[j]? = some u → wv.cell? ⟨g, j, none⟩ = some u) → ∃ A4 B4 C4 E4, OfC wv op (.slice (some ⟨g, 0, none⟩) n cap) (A4, B4, C4, E4) ∧ ApC wv op (.slice A n ca) (A4, B4, C4, E4))
    (hkept : ∀ (wv : World) (g cap : Nat), Later w wv → n + 2 ≤ cap → (∀ j u, (xs V n ++ mk4)[j]? = some u → wv.cell? ⟨g, j, none⟩ = some u) → Calls Tryz.prog 13 #[.slice (some ⟨g, 0, none⟩) n cap, .slice A n ca] wv fun e w2 => e = .returned (.bool true) ∧ Later wv w2) :
    Calls Tryz.prog 3 #[.int .i64 op, .slice A n ca] w fun e w' => e = .returned (.bool true) ∧ Later w w' := by
  replace hlend : Hid _ := hlend
  replace hboth : Hid _ := hboth
  replace hkept : Hid _ := hkept
  go_enter Tryz.func3, Tryz.ntmps3
  go_wp2_with fail
  refine (hlend.out _ (by repeat first | exact Lz _ | apply La | apply Lp | apply Lv | apply Ln | apply Ld)).mono ?_
  rintro e w1 ⟨g, cap, rfl, hc2, hcells, hl1⟩
  replace hl1 : Hid (Later w w1) := Later.trans (by repeat first | exact Lz _ | apply La | apply Lp | apply Lv | apply Ln | apply Ld) hl1.out
  clear hlend
  go_wp2_with fail
  refine (hA _).mono ?_
  rintro e w2 ⟨rfl, h2⟩
  have L2 : Hid (Later w1 w2) := Later.trans (by repeat first | exact Lz _ | apply La | apply Lp | apply Lv | apply Ln | apply Ld) h2
  replace h2 : Hid True := trivial
  go_wp2_with fail
  refine (hR _).mono ?_
  rintro e w3 ⟨rfl, h3⟩
  have L3 : Hid (Later w2 w3) := Later.trans (by repeat first | exact Lz _ | apply La | apply Lp | apply Lv | apply Ln | apply Ld) h3
  have t0 : w3.cell? ⟨w2.heap.size, 0, none⟩ = some (.slice none 0 0) := h3.cell_of (by simp [go_sem])
  have t1 : w3.cell? ⟨w2.heap.size, 1, none⟩ = some (.slice none 0 0) := h3.cell_of (by simp [go_sem])
  replace h3 : Hid True := trivial
  have lT := cell_lt t0
  have LV : Hid (Later w w3) := (hl1.out.trans (later_of L2)).trans (later_of L3)
  replace hcells : Hid (∀ j u, (xs V n ++ mk4)[j]? = some u → w3.cell? ⟨g, j, none⟩ = some u) := fun j u h => ((later_of L2).trans (later_of L3)).cell_of (hcells.out j u h)
  obtain ⟨A4, B4, C4, E4, hof, hap⟩ := hboth.out w3 g cap LV.out hcells.out
  clear hboth hl1 L2 L3
  go_wp2_with fail
  refine (hof _ (by repeat first | exact Lz _ | apply La | apply Lp | apply Lv | apply Ln | apply Ld)).mono ?_
  rintro e w4 ⟨rfl, h4⟩
  have L4 : Hid (Later w3 w4) := Later.trans (by repeat first | exact Lz _ | apply La | apply Lp | apply Lv | apply Ln | apply Ld) h4
  have u0 : w4.cell? ⟨w3.heap.size, 0, none⟩ = some (.slice none 0 0) := h4.cell_of (by simp [go_sem])
  have u1 : w4.cell? ⟨w3.heap.size, 1, none⟩ = some (.slice none 0 0) := h4.cell_of (by simp [go_sem])
  replace h4 : Hid True := trivial
  replace t0 := (later_of L4).cell_of t0
  replace t1 := (later_of L4).cell_of t1
  clear lT
  have lT := cell_lt t0
  have lU := cell_lt u0
  go_wp2_with fail
  refine (hap _ (Later.trans (later_of L4) (by repeat first | exact Lz _ | apply La | apply Lp | apply Lv | apply Ln | apply Ld))).mono ?_
  rintro e w5 ⟨rfl, h5⟩
  have L5 : Hid (Later w4 w5) := Later.trans (by repeat first | exact Lz _ | apply La | apply Lp | apply Lv | apply Ln | apply Ld) h5
  have r0 : w5.cell? ⟨w4.heap.size, 0, none⟩ = some (.int .i64 A4) := h5.cell_of (by simp [go_sem])
  have r1 : w5.cell? ⟨w4.heap.size, 1, none⟩ = some (.int .i64 B4) := h5.cell_of (by simp [go_sem])
  replace h5 : Hid True := trivial
  replace t0 := (later_of L5).cell_of t0
  replace t1 := (later_of L5).cell_of t1
  replace u0 := (later_of L5).cell_of u0
  replace u1 := (later_of L5).cell_of u1
  clear lT lU
  have lT := cell_lt t0
  have lU := cell_lt u0
  have lr := cell_lt r0
  have L35 : Hid (Later w3 w5) := (later_of L4).trans (later_of L5)
  have LW : Hid (Later w w5) := LV.out.trans L35.out
  have hkp : Hid (∀ w', Later w5 w' → Calls Tryz.prog 13 #[.slice (some ⟨g, 0, none⟩) n cap, .slice A n ca] w' fun e w2 => e = .returned (.bool true) ∧ Later w' w2) := fun w' hl => hkept.out w' g cap (LW.out.trans hl) hc2 (fun j u h => (L35.out.trans hl).cell_of (hcells.out j u h))
  have hST : Hid (∀ w', Later w5 w' → Calls Tryz.prog 11 #[.agg #[.slice none 0 0, .slice none 0 0], .agg #[.slice none 0 0, .slice none 0 0]] w' fun e w2 => e = .returned (.bool true) ∧ Later w' w2) := fun w' hh => stype _ _ _ _ _ _ _ _ _ _ _ _ w' (fun w7 h7 => by
    replace h7 := Later.trans hh h7
    exact same0 w7) (fun w7 h7 => by
    replace h7 := Later.trans hh h7
    exact same0 w7)
  clear hcells hkept LV L4 L5 hof hap L35
  go_wp2_with fail
  go_wp2_with (first | (go_at_call 11; refine (hST.out _ (by repeat first | exact Lz _ | apply La | apply Lp | apply Lv | apply Ln | apply Ld)).mono ?_; rintro e wx ⟨rfl, bs1, m1, rfl⟩) | (go_at_call 12; refine (num_any _ _).mono ?_; rintro e wy ⟨rfl, rfl⟩) | (go_at_call 13; refine (hkp.out _ (by repeat first | exact Lz _ | apply La | apply Lp | apply Lv | apply Ln | apply Ld)).mono ?_; rintro e wz ⟨rfl, bs3, m3, rfl⟩))
  refine (spoil0 _ _ (w5.heap.size + 1) _).mono ?_
  rintro e w8 ⟨rfl, S8⟩
  have L8 : Hid (Later w w8) := S8.1 w (LW.out.trans (by repeat first | exact Lz _ | apply La | apply Lp | apply Lv | apply Ln | apply Ld)) (by have := LW.out.size; omega)
  replace u0 := S8.2 _ _ _ (by omega) (Later.cell_of (by repeat first | exact Lz _ | apply La | apply Lp | apply Lv | apply Ln | apply Ld) u0)
  replace u1 := S8.2 _ _ _ (by omega) (Later.cell_of (by repeat first | exact Lz _ | apply La | apply Lp | apply Lv | apply Ln | apply Ld) u1)
  replace S8 : Hid True := trivial
  clear t0 t1 lT lU r0 r1 lr hST hkp LW
  have lU := cell_lt u0
  go_wp2_with fail
  refine (hA _).mono ?_
  rintro e w9 ⟨rfl, h9⟩
  have L9 : Hid (Later w8 w9) := Later.trans (by repeat first | exact Lz _ | apply La | apply Lp | apply Lv | apply Ln | apply Ld) h9
  replace h9 : Hid True := trivial
  replace u0 := (later_of L9).cell_of u0
  replace u1 := (later_of L9).cell_of u1
  clear lU
  have lU := cell_lt u0
  have LX : Hid (Later w w9) := L8.out.trans L9.out
  have hST : Hid (∀ w', Later w9 w' → Calls Tryz.prog 11 #[.agg #[.slice none 0 0, .slice none 0 0], .agg #[.slice none 0 0, .slice none 0 0]] w' fun e w2 => e = .returned (.bool true) ∧ Later w' w2) := fun w' hh => stype _ _ _ _ _ _ _ _ _ _ _ _ w' (fun w7 h7 => by
    replace h7 := Later.trans hh h7
    exact same0 w7) (fun w7 h7 => by
    replace h7 := Later.trans hh h7
    exact same0 w7)
  clear L8 L9
  go_wp2_with (first | (go_at_call 11; refine (hST.out _ (by repeat first | exact Lz _ | apply La | apply Lp | apply Lv | apply Ln | apply Ld)).mono ?_; rintro e wx ⟨rfl, bs1, m1, rfl⟩) | (go_at_call 15; refine (awake_any _).mono ?_; rintro e wy ⟨rfl, bs2, m2, rfl⟩))
  go_ret
  exact ⟨rfl, LX.out.trans (by repeat first | exact Lz _ | apply La | apply Lp | apply Lv | apply Ln | apply Ld)⟩
theorem core1 (op p r : Int) (A : Option Addr) (n ca : Nat) (V : Nat → Int) (w : World) (hR : RT1 op p r) (hA : AT1 op p r) (hp : 124 ≤ p ∧ p ≤ 127)
    (hlend : ∀ w', Later w w' → Calls Tryz.prog 6 #[.slice A n ca] w' fun e w2 => ∃ g cap, e = .returned (.slice (some ⟨g, 0, none⟩) n cap) ∧ n + 2 ≤ cap ∧ Hid (∀ j u, (xs V n ++ mk4)[j]? = some u → w2.cell? ⟨g, j, none⟩ = some u) ∧ Hid (Later w' w2))
    (hboth : ∀ (wv : World) (g cap : Nat), Later w wv → (∀ j u, (xs V n ++ mk4)[j]? = some u → wv.cell? ⟨g, j, none⟩ = some u) → ∃ A4 B4 C4 E4, OfC wv op (.slice (some ⟨g, 0, none⟩) n cap) (A4, B4, C4, E4) ∧ ApC wv op (.slice A n ca) (A4, B4, C4, E4))
    (hkept : ∀ (wv : World) (g cap : Nat), Later w wv → n + 2 ≤ cap → (∀ j u, (xs V n ++ mk4)[j]? = some u → wv.cell? ⟨g, j, none⟩ = some u) → Calls Tryz.prog 13 #[.slice (some ⟨g, 0, none⟩) n cap, .slice A n ca] wv fun e w2 => e = .returned (.bool true) ∧ Later wv w2) :
    Calls Tryz.prog 3 #[.int .i64 op, .slice A n ca] w fun e w' => e = .returned (.bool true) ∧ Later w w' := by
  replace hlend : Hid _ := hlend
  replace hboth : Hid _ := hboth
  replace hkept : Hid _ := hkept
  go_enter Tryz.func3, Tryz.ntmps3
  go_wp2_with fail
  refine (hlend.out _ (by repeat first | exact Lz _ | apply La | apply Lp | apply Lv | apply Ln | apply Ld)).mono ?_
  rintro e w1 ⟨g, cap, rfl, hc2, hcells, hl1⟩
  replace hl1 : Hid (Later w w1) := Later.trans (by repeat first | exact Lz _ | apply La | apply Lp | apply Lv | apply Ln | apply Ld) hl1.out
  clear hlend
  go_wp2_with fail
  refine (hA _).mono ?_
  rintro e w2 ⟨B, C, cp, rfl, h2, hB0, hC0, hBC, hB, hC⟩
  have L2 : Hid (Later w1 w2) := Later.trans (by repeat first | exact Lz _ | apply La | apply Lp | apply Lv | apply Ln | apply Ld) h2.out
  have hBw : Hid (w.heap.size ≤ B) := (show w.heap.size ≤ B by have := hl1.out.size; (try simp at hB0); omega)
  have lB := hB.out.lt
  have lC := hC.out.lt
  replace h2 : Hid True := trivial
  clear hB0 hC0
  go_wp2_with fail
  refine (hR _).mono ?_
  rintro e w3 ⟨B2, C2, cp2, rfl, h3, hB20, hC20, hBC2, hB2, hC2⟩
  have L3 : Hid (Later w2 w3) := Later.trans (by repeat first | exact Lz _ | apply La | apply Lp | apply Lv | apply Ln | apply Ld) h3.out
  have t0 : w3.cell? ⟨w2.heap.size, 0, none⟩ = some (.slice (some ⟨B, 0, none⟩) 1 cp) := h3.out.cell_of (by simp [go_sem])
  have t1 : w3.cell? ⟨w2.heap.size, 1, none⟩ = some (.slice (some ⟨C, 0, none⟩) 1 1) := h3.out.cell_of (by simp [go_sem])
  replace h3 : Hid True := trivial
  have nB : Hid (¬ B2 = B ∧ ¬ C2 = B ∧ ¬ w3.heap.size = B) := by have := (later_of L3).size; (try simp at hB20); (try simp at hC20); exact ⟨by omega, by omega, by omega⟩
  clear hB20 hC20 hBC hBC2 lB lC
  have b0 := (hB.out.later (later_of L3)).cell (j := 0) (x := p) rfl
  have e0 := hB2.out.cell (j := 0) (x := p) rfl
  have q0 := (hC.out.later (later_of L3)).cell (j := 0) (x := r) rfl
  have f0 := hC2.out.cell (j := 0) (x := r) rfl
  have iB : Hid (IntsAt w3 B [p]) := hB.out.later (later_of L3)
  clear hB hC hB2 hC2
  have lT := cell_lt t0
  have lB := cell_lt b0
  have lC := cell_lt q0
  have le := cell_lt e0
  have lf := cell_lt f0
  have LV : Hid (Later w w3) := (hl1.out.trans (later_of L2)).trans (later_of L3)
  replace hcells : Hid (∀ j u, (xs V n ++ mk4)[j]? = some u → w3.cell? ⟨g, j, none⟩ = some u) := fun j u h => ((later_of L2).trans (later_of L3)).cell_of (hcells.out j u h)
  obtain ⟨A4, B4, C4, E4, hof, hap⟩ := hboth.out w3 g cap LV.out hcells.out
  clear hboth hl1 L2 L3
  go_wp2_with fail
  refine (hof _ (by repeat first | exact Lz _ | apply La | apply Lp | apply Lv | apply Ln | apply Ld)).mono ?_
  rintro e w4 ⟨rfl, h4⟩
  have L4 : Hid (Later w3 w4) := Later.trans (by repeat first | exact Lz _ | apply La | apply Lp | apply Lv | apply Ln | apply Ld) h4
  have u0 : w4.cell? ⟨w3.heap.size, 0, none⟩ = some (.slice (some ⟨B2, 0, none⟩) 1 cp2) := h4.cell_of (by simp [go_sem])
  have u1 : w4.cell? ⟨w3.heap.size, 1, none⟩ = some (.slice (some ⟨C2, 0, none⟩) 1 1) := h4.cell_of (by simp [go_sem])
  replace h4 : Hid True := trivial
  replace t0 := (later_of L4).cell_of t0
  replace t1 := (later_of L4).cell_of t1
  replace b0 := (later_of L4).cell_of b0
  replace e0 := (later_of L4).cell_of e0
  replace q0 := (later_of L4).cell_of q0
  replace f0 := (later_of L4).cell_of f0
  clear lT lB lC le lf
  have lT := cell_lt t0
  have lB := cell_lt b0
  have lC := cell_lt q0
  have le := cell_lt e0
  have lf := cell_lt f0
  have lU := cell_lt u0
  go_wp2_with fail
  refine (hap _ (Later.trans (later_of L4) (by repeat first | exact Lz _ | apply La | apply Lp | apply Lv | apply Ln | apply Ld))).mono ?_
  rintro e w5 ⟨rfl, h5⟩
  have L5 : Hid (Later w4 w5) := Later.trans (by repeat first | exact Lz _ | apply La | apply Lp | apply Lv | apply Ln | apply Ld) h5
  have r0 : w5.cell? ⟨w4.heap.size, 0, none⟩ = some (.int .i64 A4) := h5.cell_of (by simp [go_sem])
  have r1 : w5.cell? ⟨w4.heap.size, 1, none⟩ = some (.int .i64 B4) := h5.cell_of (by simp [go_sem])
  replace h5 : Hid True := trivial
  replace t0 := (later_of L5).cell_of t0
  replace t1 := (later_of L5).cell_of t1
  replace b0 := (later_of L5).cell_of b0
  replace e0 := (later_of L5).cell_of e0
  replace q0 := (later_of L5).cell_of q0
  replace f0 := (later_of L5).cell_of f0
  replace u0 := (later_of L5).cell_of u0
  replace u1 := (later_of L5).cell_of u1
  clear lT lB lC le lf lU
  have lT := cell_lt t0
  have lB := cell_lt b0
  have lC := cell_lt q0
  have le := cell_lt e0
  have lf := cell_lt f0
  have lU := cell_lt u0
  have lr := cell_lt r0
  have L35 : Hid (Later w3 w5) := (later_of L4).trans (later_of L5)
  have LW : Hid (Later w w5) := LV.out.trans L35.out
  replace iB : Hid (IntsAt w5 B [p]) := iB.out.later L35.out
  have hkp : Hid (∀ w', Later w5 w' → Calls Tryz.prog 13 #[.slice (some ⟨g, 0, none⟩) n cap, .slice A n ca] w' fun e w2 => e = .returned (.bool true) ∧ Later w' w2) := fun w' hl => hkept.out w' g cap (LW.out.trans hl) hc2 (fun j u h => (L35.out.trans hl).cell_of (hcells.out j u h))
  have hST : Hid (∀ w', Later w5 w' → Calls Tryz.prog 11 #[.agg #[.slice (some ⟨B, 0, none⟩) 1 cp, .slice (some ⟨C, 0, none⟩) 1 1], .agg #[.slice (some ⟨B2, 0, none⟩) 1 cp2, .slice (some ⟨C2, 0, none⟩) 1 1]] w' fun e w2 => e = .returned (.bool true) ∧ Later w' w2) := fun w' hh => stype _ _ _ _ _ _ _ _ _ _ _ _ w' (fun w7 h7 => by
    replace h7 := Later.trans hh h7
    exact same1 p _ _ _ _ w7 (h7.cell_of b0) (h7.cell_of e0) (cell_lt (h7.cell_of b0)) (cell_lt (h7.cell_of e0))) (fun w7 h7 => by
    replace h7 := Later.trans hh h7
    exact same1 r _ _ _ _ w7 (h7.cell_of q0) (h7.cell_of f0) (cell_lt (h7.cell_of q0)) (cell_lt (h7.cell_of f0)))
  clear hcells hkept LV L4 L5 hof hap L35 b0 q0 lB lC
  go_wp2_with fail
  go_wp2_with (first | (go_at_call 11; refine (hST.out _ (by repeat first | exact Lz _ | apply La | apply Lp | apply Lv | apply Ln | apply Ld)).mono ?_; rintro e wx ⟨rfl, bs1, m1, rfl⟩) | (go_at_call 12; refine (num_any _ _).mono ?_; rintro e wy ⟨rfl, rfl⟩) | (go_at_call 13; refine (hkp.out _ (by repeat first | exact Lz _ | apply La | apply Lp | apply Lv | apply Ln | apply Ld)).mono ?_; rintro e wz ⟨rfl, bs3, m3, rfl⟩))
  refine (spoil1 B cp p hp _ (iB.out.later (by repeat first | exact Lz _ | apply La | apply Lp | apply Lv | apply Ln | apply Ld))).mono ?_
  rintro e w8 ⟨rfl, S8⟩
  have L8 : Hid (Later w w8) := S8.1 w (LW.out.trans (by repeat first | exact Lz _ | apply La | apply Lp | apply Lv | apply Ln | apply Ld)) hBw.out
  replace u0 := S8.2 _ _ _ nB.out.2.2 (Later.cell_of (by repeat first | exact Lz _ | apply La | apply Lp | apply Lv | apply Ln | apply Ld) u0)
  replace u1 := S8.2 _ _ _ nB.out.2.2 (Later.cell_of (by repeat first | exact Lz _ | apply La | apply Lp | apply Lv | apply Ln | apply Ld) u1)
  replace e0 := S8.2 _ _ _ nB.out.1 (Later.cell_of (by repeat first | exact Lz _ | apply La | apply Lp | apply Lv | apply Ln | apply Ld) e0)
  replace f0 := S8.2 _ _ _ nB.out.2.1 (Later.cell_of (by repeat first | exact Lz _ | apply La | apply Lp | apply Lv | apply Ln | apply Ld) f0)
  replace S8 : Hid True := trivial
  clear t0 t1 lT lU r0 r1 lr hST hkp LW le lf iB nB hBw
  have lU := cell_lt u0
  have le := cell_lt e0
  have lf := cell_lt f0
  go_wp2_with fail
  refine (hA _).mono ?_
  rintro e w9 ⟨B9, C9, cp9, rfl, h9, hB0, hC0, hBC, hB, hC⟩
  have L9 : Hid (Later w8 w9) := Later.trans (by repeat first | exact Lz _ | apply La | apply Lp | apply Lv | apply Ln | apply Ld) h9.out
  replace h9 : Hid True := trivial
  replace u0 := (later_of L9).cell_of u0
  replace u1 := (later_of L9).cell_of u1
  replace e0 := (later_of L9).cell_of e0
  replace f0 := (later_of L9).cell_of f0
  clear lU le lf hB0 hC0 hBC
  have lU := cell_lt u0
  have le := cell_lt e0
  have lf := cell_lt f0
  have b0 := hB.out.cell (j := 0) (x := p) rfl
  have q0 := hC.out.cell (j := 0) (x := r) rfl
  have lB := cell_lt b0
  have lC := cell_lt q0
  have LX : Hid (Later w w9) := L8.out.trans L9.out
  have hST : Hid (∀ w', Later w9 w' → Calls Tryz.prog 11 #[.agg #[.slice (some ⟨B9, 0, none⟩) 1 cp9, .slice (some ⟨C9, 0, none⟩) 1 1], .agg #[.slice (some ⟨B2, 0, none⟩) 1 cp2, .slice (some ⟨C2, 0, none⟩) 1 1]] w' fun e w2 => e = .returned (.bool true) ∧ Later w' w2) := fun w' hh => stype _ _ _ _ _ _ _ _ _ _ _ _ w' (fun w7 h7 => by
    replace h7 := Later.trans hh h7
    exact same1 p _ _ _ _ w7 (h7.cell_of b0) (h7.cell_of e0) (cell_lt (h7.cell_of b0)) (cell_lt (h7.cell_of e0))) (fun w7 h7 => by
    replace h7 := Later.trans hh h7
    exact same1 r _ _ _ _ w7 (h7.cell_of q0) (h7.cell_of f0) (cell_lt (h7.cell_of q0)) (cell_lt (h7.cell_of f0)))
  clear L8 L9 b0 e0 q0 f0 lB lC le lf hB hC
  go_wp2_with (first | (go_at_call 11; refine (hST.out _ (by repeat first | exact Lz _ | apply La | apply Lp | apply Lv | apply Ln | apply Ld)).mono ?_; rintro e wx ⟨rfl, bs1, m1, rfl⟩) | (go_at_call 15; refine (awake_any _).mono ?_; rintro e wy ⟨rfl, bs2, m2, rfl⟩))
  go_ret
  exact ⟨rfl, LX.out.trans (by repeat first | exact Lz _ | apply La | apply Lp | apply Lv | apply Ln | apply Ld)⟩
theorem core2 (op p r : Int) (A : Option Addr) (n ca : Nat) (V : Nat → Int) (w : World) (hR : RT2 op p r) (hA : AT2 op p r) (hp : 124 ≤ p ∧ p ≤ 127)
    (hlend : ∀ w', Later w w' → Calls Tryz.prog 6 #[.slice A n ca] w' fun e w2 => ∃ g cap, e = .returned (.slice (some ⟨g, 0, none⟩) n cap) ∧ n + 2 ≤ cap ∧ Hid (∀ j u, (xs V n ++ mk4)[j]? = some u → w2.cell? ⟨g, j, none⟩ = some u) ∧ Hid (Later w' w2))
    (hboth : ∀ (wv : World) (g cap : Nat), Later w wv → (∀ j u, (xs V n ++ mk4)[j]? = some u → wv.cell? ⟨g, j, none⟩ = some u) → ∃ A4 B4 C4 E4, OfC wv op (.slice (some ⟨g, 0, none⟩) n cap) (A4, B4, C4, E4) ∧ ApC wv op (.slice A n ca) (A4, B4, C4, E4))
    (hkept : ∀ (wv : World) (g cap : Nat), Later w wv → n + 2 ≤ cap → (∀ j u, (xs V n ++ mk4)[j]? = some u → wv.cell? ⟨g, j, none⟩ = some u) → Calls Tryz.prog 13 #[.slice (some ⟨g, 0, none⟩) n cap, .slice A n ca] wv fun e w2 => e = .returned (.bool true) ∧ Later wv w2) :
    Calls Tryz.prog 3 #[.int .i64 op, .slice A n ca] w fun e w' => e = .returned (.bool true) ∧ Later w w' := by
  replace hlend : Hid _ := hlend
  replace hboth : Hid _ := hboth
  replace hkept : Hid _ := hkept
  go_enter Tryz.func3, Tryz.ntmps3
  go_wp2_with fail
  refine (hlend.out _ (by repeat first | exact Lz _ | apply La | apply Lp | apply Lv | apply Ln | apply Ld)).mono ?_
  rintro e w1 ⟨g, cap, rfl, hc2, hcells, hl1⟩
  replace hl1 : Hid (Later w w1) := Later.trans (by repeat first | exact Lz _ | apply La | apply Lp | apply Lv | apply Ln | apply Ld) hl1.out
  clear hlend
  go_wp2_with fail
  refine (hA _).mono ?_
  rintro e w2 ⟨B, C, cp, rfl, h2, hB0, hC0, hBC, hB, hC⟩
  have L2 : Hid (Later w1 w2) := Later.trans (by repeat first | exact Lz _ | apply La | apply Lp | apply Lv | apply Ln | apply Ld) h2.out
  have hBw : Hid (w.heap.size ≤ B) := (show w.heap.size ≤ B by have := hl1.out.size; (try simp at hB0); omega)
  have lB := hB.out.lt
  have lC := hC.out.lt
  replace h2 : Hid True := trivial
  clear hB0 hC0
  go_wp2_with fail
  refine (hR _).mono ?_
  rintro e w3 ⟨B2, C2, cp2, rfl, h3, hB20, hC20, hBC2, hB2, hC2⟩
  have L3 : Hid (Later w2 w3) := Later.trans (by repeat first | exact Lz _ | apply La | apply Lp | apply Lv | apply Ln | apply Ld) h3.out
  have t0 : w3.cell? ⟨w2.heap.size, 0, none⟩ = some (.slice (some ⟨B, 0, none⟩) 2 cp) := h3.out.cell_of (by simp [go_sem])
  have t1 : w3.cell? ⟨w2.heap.size, 1, none⟩ = some (.slice (some ⟨C, 0, none⟩) 1 1) := h3.out.cell_of (by simp [go_sem])
  replace h3 : Hid True := trivial
  have nB : Hid (¬ B2 = B ∧ ¬ C2 = B ∧ ¬ w3.heap.size = B) := by have := (later_of L3).size; (try simp at hB20); (try simp at hC20); exact ⟨by omega, by omega, by omega⟩
  clear hB20 hC20 hBC hBC2 lB lC
  have b0 := (hB.out.later (later_of L3)).cell (j := 0) (x := p) rfl
  have e0 := hB2.out.cell (j := 0) (x := p) rfl
  have b1 := (hB.out.later (later_of L3)).cell (j := 1) (x := p) rfl
  have e1 := hB2.out.cell (j := 1) (x := p) rfl
  have q0 := (hC.out.later (later_of L3)).cell (j := 0) (x := r) rfl
  have f0 := hC2.out.cell (j := 0) (x := r) rfl
  have iB : Hid (IntsAt w3 B [p, p]) := hB.out.later (later_of L3)
  clear hB hC hB2 hC2
  have lT := cell_lt t0
  have lB := cell_lt b0
  have lC := cell_lt q0
  have le := cell_lt e0
  have lf := cell_lt f0
  have LV : Hid (Later w w3) := (hl1.out.trans (later_of L2)).trans (later_of L3)
  replace hcells : Hid (∀ j u, (xs V n ++ mk4)[j]? = some u → w3.cell? ⟨g, j, none⟩ = some u) := fun j u h => ((later_of L2).trans (later_of L3)).cell_of (hcells.out j u h)
  obtain ⟨A4, B4, C4, E4, hof, hap⟩ := hboth.out w3 g cap LV.out hcells.out
  clear hboth hl1 L2 L3
  go_wp2_with fail
  refine (hof _ (by repeat first | exact Lz _ | apply La | apply Lp | apply Lv | apply Ln | apply Ld)).mono ?_
  rintro e w4 ⟨rfl, h4⟩
  have L4 : Hid (Later w3 w4) := Later.trans (by repeat first | exact Lz _ | apply La | apply Lp | apply Lv | apply Ln | apply Ld) h4
  have u0 : w4.cell? ⟨w3.heap.size, 0, none⟩ = some (.slice (some ⟨B2, 0, none⟩) 2 cp2) := h4.cell_of (by simp [go_sem])
  have u1 : w4.cell? ⟨w3.heap.size, 1, none⟩ = some (.slice (some ⟨C2, 0, none⟩) 1 1) := h4.cell_of (by simp [go_sem])
  replace h4 : Hid True := trivial
  replace t0 := (later_of L4).cell_of t0
  replace t1 := (later_of L4).cell_of t1
  replace b0 := (later_of L4).cell_of b0
  replace b1 := (later_of L4).cell_of b1
  replace e0 := (later_of L4).cell_of e0
  replace e1 := (later_of L4).cell_of e1
  replace q0 := (later_of L4).cell_of q0
  replace f0 := (later_of L4).cell_of f0
  clear lT lB lC le lf
  have lT := cell_lt t0
  have lB := cell_lt b0
  have lC := cell_lt q0
  have le := cell_lt e0
  have lf := cell_lt f0
  have lU := cell_lt u0
  go_wp2_with fail
  refine (hap _ (Later.trans (later_of L4) (by repeat first | exact Lz _ | apply La | apply Lp | apply Lv | apply Ln | apply Ld))).mono ?_
  rintro e w5 ⟨rfl, h5⟩
  have L5 : Hid (Later w4 w5) := Later.trans (by repeat first | exact Lz _ | apply La | apply Lp | apply Lv | apply Ln | apply Ld) h5
  have r0 : w5.cell? ⟨w4.heap.size, 0, none⟩ = some (.int .i64 A4) := h5.cell_of (by simp [go_sem])
  have r1 : w5.cell? ⟨w4.heap.size, 1, none⟩ = some (.int .i64 B4) := h5.cell_of (by simp [go_sem])
  replace h5 : Hid True := trivial
  replace t0 := (later_of L5).cell_of t0
  replace t1 := (later_of L5).cell_of t1
  replace b0 := (later_of L5).cell_of b0
  replace b1 := (later_of L5).cell_of b1
  replace e0 := (later_of L5).cell_of e0
  replace e1 := (later_of L5).cell_of e1
  replace q0 := (later_of L5).cell_of q0
  replace f0 := (later_of L5).cell_of f0
  replace u0 := (later_of L5).cell_of u0
  replace u1 := (later_of L5).cell_of u1
  clear lT lB lC le lf lU
  have lT := cell_lt t0
  have lB := cell_lt b0
  have lC := cell_lt q0
  have le := cell_lt e0
  have lf := cell_lt f0
  have lU := cell_lt u0
  have lr := cell_lt r0
  have L35 : Hid (Later w3 w5) := (later_of L4).trans (later_of L5)
  have LW : Hid (Later w w5) := LV.out.trans L35.out
  replace iB : Hid (IntsAt w5 B [p, p]) := iB.out.later L35.out
  have hkp : Hid (∀ w', Later w5 w' → Calls Tryz.prog 13 #[.slice (some ⟨g, 0, none⟩) n cap, .slice A n ca] w' fun e w2 => e = .returned (.bool true) ∧ Later w' w2) := fun w' hl => hkept.out w' g cap (LW.out.trans hl) hc2 (fun j u h => (L35.out.trans hl).cell_of (hcells.out j u h))
  have hST : Hid (∀ w', Later w5 w' → Calls Tryz.prog 11 #[.agg #[.slice (some ⟨B, 0, none⟩) 2 cp, .slice (some ⟨C, 0, none⟩) 1 1], .agg #[.slice (some ⟨B2, 0, none⟩) 2 cp2, .slice (some ⟨C2, 0, none⟩) 1 1]] w' fun e w2 => e = .returned (.bool true) ∧ Later w' w2) := fun w' hh => stype _ _ _ _ _ _ _ _ _ _ _ _ w' (fun w7 h7 => by
    replace h7 := Later.trans hh h7
    exact same2 p _ _ _ _ w7 (h7.cell_of b0) (h7.cell_of e0) (h7.cell_of b1) (h7.cell_of e1) (cell_lt (h7.cell_of b0)) (cell_lt (h7.cell_of e0))) (fun w7 h7 => by
    replace h7 := Later.trans hh h7
    exact same1 r _ _ _ _ w7 (h7.cell_of q0) (h7.cell_of f0) (cell_lt (h7.cell_of q0)) (cell_lt (h7.cell_of f0)))
  clear hcells hkept LV L4 L5 hof hap L35 b0 b1 q0 lB lC
  go_wp2_with fail
  go_wp2_with (first | (go_at_call 11; refine (hST.out _ (by repeat first | exact Lz _ | apply La | apply Lp | apply Lv | apply Ln | apply Ld)).mono ?_; rintro e wx ⟨rfl, bs1, m1, rfl⟩) | (go_at_call 12; refine (num_any _ _).mono ?_; rintro e wy ⟨rfl, rfl⟩) | (go_at_call 13; refine (hkp.out _ (by repeat first | exact Lz _ | apply La | apply Lp | apply Lv | apply Ln | apply Ld)).mono ?_; rintro e wz ⟨rfl, bs3, m3, rfl⟩))
  refine (spoil2 B cp p hp _ (iB.out.later (by repeat first | exact Lz _ | apply La | apply Lp | apply Lv | apply Ln | apply Ld))).mono ?_
  rintro e w8 ⟨rfl, S8⟩
  have L8 : Hid (Later w w8) := S8.1 w (LW.out.trans (by repeat first | exact Lz _ | apply La | apply Lp | apply Lv | apply Ln | apply Ld)) hBw.out
  replace u0 := S8.2 _ _ _ nB.out.2.2 (Later.cell_of (by repeat first | exact Lz _ | apply La | apply Lp | apply Lv | apply Ln | apply Ld) u0)
  replace u1 := S8.2 _ _ _ nB.out.2.2 (Later.cell_of (by repeat first | exact Lz _ | apply La | apply Lp | apply Lv | apply Ln | apply Ld) u1)
  replace e0 := S8.2 _ _ _ nB.out.1 (Later.cell_of (by repeat first | exact Lz _ | apply La | apply Lp | apply Lv | apply Ln | apply Ld) e0)
  replace e1 := S8.2 _ _ _ nB.out.1 (Later.cell_of (by repeat first | exact Lz _ | apply La | apply Lp | apply Lv | apply Ln | apply Ld) e1)
  replace f0 := S8.2 _ _ _ nB.out.2.1 (Later.cell_of (by repeat first | exact Lz _ | apply La | apply Lp | apply Lv | apply Ln | apply Ld) f0)
  replace S8 : Hid True := trivial
  clear t0 t1 lT lU r0 r1 lr hST hkp LW le lf iB nB hBw
  have lU := cell_lt u0
  have le := cell_lt e0
  have lf := cell_lt f0
  go_wp2_with fail
  refine (hA _).mono ?_
  rintro e w9 ⟨B9, C9, cp9, rfl, h9, hB0, hC0, hBC, hB, hC⟩
  have L9 : Hid (Later w8 w9) := Later.trans (by repeat first | exact Lz _ | apply La | apply Lp | apply Lv | apply Ln | apply Ld) h9.out
  replace h9 : Hid True := trivial
  replace u0 := (later_of L9).cell_of u0
  replace u1 := (later_of L9).cell_of u1
  replace e0 := (later_of L9).cell_of e0
  replace e1 := (later_of L9).cell_of e1
  replace f0 := (later_of L9).cell_of f0
  clear lU le lf hB0 hC0 hBC
  have lU := cell_lt u0
  have le := cell_lt e0
  have lf := cell_lt f0
  have b0 := hB.out.cell (j := 0) (x := p) rfl
  have b1 := hB.out.cell (j := 1) (x := p) rfl
  have q0 := hC.out.cell (j := 0) (x := r) rfl
  have lB := cell_lt b0
  have lC := cell_lt q0
  have LX : Hid (Later w w9) := L8.out.trans L9.out
  have hST : Hid (∀ w', Later w9 w' → Calls Tryz.prog 11 #[.agg #[.slice (some ⟨B9, 0, none⟩) 2 cp9, .slice (some ⟨C9, 0, none⟩) 1 1], .agg #[.slice (some ⟨B2, 0, none⟩) 2 cp2, .slice (some ⟨C2, 0, none⟩) 1 1]] w' fun e w2 => e = .returned (.bool true) ∧ Later w' w2) := fun w' hh => stype _ _ _ _ _ _ _ _ _ _ _ _ w' (fun w7 h7 => by
    replace h7 := Later.trans hh h7
    exact same2 p _ _ _ _ w7 (h7.cell_of b0) (h7.cell_of e0) (h7.cell_of b1) (h7.cell_of e1) (cell_lt (h7.cell_of b0)) (cell_lt (h7.cell_of e0))) (fun w7 h7 => by
    replace h7 := Later.trans hh h7
    exact same1 r _ _ _ _ w7 (h7.cell_of q0) (h7.cell_of f0) (cell_lt (h7.cell_of q0)) (cell_lt (h7.cell_of f0)))
  clear L8 L9 b0 b1 e0 e1 q0 f0 lB lC le lf hB hC
  go_wp2_with (first | (go_at_call 11; refine (hST.out _ (by repeat first | exact Lz _ | apply La | apply Lp | apply Lv | apply Ln | apply Ld)).mono ?_; rintro e wx ⟨rfl, bs1, m1, rfl⟩) | (go_at_call 15; refine (awake_any _).mono ?_; rintro e wy ⟨rfl, bs2, m2, rfl⟩))
  go_ret
  exact ⟨rfl, LX.out.trans (by repeat first | exact Lz _ | apply La | apply Lp | apply Lv | apply Ln | apply Ld)⟩
theorem xs_at {V : Nat → Int} {n g : Nat} {wv : World} (h : ∀ j u, (xs V n ++ mk4)[j]? = some u → wv.cell? ⟨g, j, none⟩ = some u) (j : Nat) (hj : j < n * 2) : wv.cell? ⟨g, j, none⟩ = some (.int .i64 (V j)) :=
  h j _ (by rw [List.getElem?_append_left (by rw [xs_len]; exact hj)]; exact xs_get V n j hj)
/-- both sides answer the same -/
theorem both (op : Int) (A : Option Addr) (n ca bb oo : Nat) (V : Nat → Int) (w : World) (hT : Tabs w) (hA : n = 0 ∨ A = some ⟨bb, oo, none⟩) (hV : ∀ j, j < n * 2 → w.cell? ⟨bb, oo + j, none⟩ = some (.int .i64 (V j)) ∧ inI (V j)) (wv : World) (g cap : Nat) (hl : Later w wv) (hc : ∀ j u, (xs V n ++ mk4)[j]? = some u → wv.cell? ⟨g, j, none⟩ = some u) :
    ∃ r : R4, OfC wv op (.slice (some ⟨g, 0, none⟩) n cap) r ∧ ApC wv op (.slice A n ca) r := by
  by_cases h : 69 ≤ op ∧ op ≤ 191
  · by_cases hn : (n : Int) = kC op
    · have hAs : 0 < n → A = some ⟨bb, oo, none⟩ := fun h0 => by
        rcases hA with h1 | h1
        · omega
        · exact h1
      rcases kC_or op with hk | hk
      · obtain rfl : n = 1 := by omega
        obtain rfl := hAs (by decide)
        have d0 := hl.cell_of (hV 0 (by decide)).1
        have d1 := hl.cell_of (hV 1 (by decide)).1
        have c0 := xs_at hc 0 (by decide)
        have c1 := xs_at hc 1 (by decide)
        by_cases hx : V 0 = kP op ∧ okX (kP op) (V 1) = true
        · rw [hx.1] at d0 c0
          exact ⟨_, of_fit1 (g := g) (o := 0) (cap := cap) (h := h) (hc := hk) (hT := hT.later hl) (c0 := c0) (c1 := c1) (hx := hx.2), ap_fit1 (g := bb) (o := oo) (cap := ca) (h := h) (hc := hk) (hi := (hV 1 (by decide)).2) (c0 := d0) (c1 := d1) (hx := hx.2)⟩
        · exact ⟨_, of_bad1 (g := g) (o := 0) (cap := cap) (h := h) (hc := hk) (c0 := c0) (c1 := c1) (hx := hx), ap_bad1 (g := bb) (o := oo) (cap := ca) (h := h) (hc := hk) (c0 := d0) (c1 := d1) (hx := hx)⟩
      · obtain rfl : n = 2 := by omega
        obtain rfl := hAs (by decide)
        have d0 := hl.cell_of (hV 0 (by decide)).1
        have d1 := hl.cell_of (hV 1 (by decide)).1
        have d2 := hl.cell_of (hV 2 (by decide)).1
        have d3 := hl.cell_of (hV 3 (by decide)).1
        have c0 := xs_at hc 0 (by decide)
        have c1 := xs_at hc 1 (by decide)
        have c2 := xs_at hc 2 (by decide)
        have c3 := xs_at hc 3 (by decide)
        by_cases hx : V 0 = kP op ∧ okX (kP op) (V 1) = true ∧ V 2 = kP op ∧ okX (kP op) (V 3) = true
        · rw [hx.1] at d0 c0
          rw [hx.2.2.1] at d2 c2
          exact ⟨_, of_fit2 (g := g) (o := 0) (cap := cap) (h := h) (hc := hk) (hi := (hV 1 (by decide)).2) (hj := (hV 3 (by decide)).2) (c0 := c0) (c1 := c1) (c2 := c2) (c3 := c3) (hx := hx.2.1) (hy := hx.2.2.2), ap_fit2 (g := bb) (o := oo) (cap := ca) (h := h) (hc := hk) (hi := (hV 1 (by decide)).2) (hj := (hV 3 (by decide)).2) (c0 := d0) (c1 := d1) (c2 := d2) (c3 := d3) (hx := hx.2.1) (hy := hx.2.2.2)⟩
        · exact ⟨_, of_bad2 (g := g) (o := 0) (cap := cap) (h := h) (hc := hk) (c0 := c0) (c1 := c1) (c2 := c2) (c3 := c3) (hx := hx), ap_bad2 (g := bb) (o := oo) (cap := ca) (h := h) (hc := hk) (c0 := d0) (c1 := d1) (c2 := d2) (c3 := d3) (hx := hx)⟩
    · exact ⟨_, of_len wv op _ n cap h hn, ap_len wv op _ n ca h hn⟩
  · exact ⟨_, of_op wv op _ h, ap_op wv op _ h⟩
theorem whole (op : Int) (A : Option Addr) (n ca bb oo : Nat) (V : Nat → Int) (w : World) (hT : Tabs w) (hA : n = 0 ∨ A = some ⟨bb, oo, none⟩) (hV : ∀ j, j < n * 2 → w.cell? ⟨bb, oo + j, none⟩ = some (.int .i64 (V j)) ∧ inI (V j)) (hr : n * 16 ≤ 140737488351232) : Calls Tryz.prog 3 #[.int .i64 op, .slice A n ca] w fun e w' => e = .returned (.bool true) ∧ Later w w' := by
  have hlend := fun w' (hl : Later w w') => lend_any A n ca V w' hr (fun w2 h2 => by
    by_cases h0 : n = 0
    · subst h0
      rw [show xs V 0 = [] from rfl]
      exact copy_zero A ca w2
    · rcases hA with h1 | rfl
      · exact absurd h1 h0
      · exact copy_some bb oo n ca V w2 (by omega) hr (fun j hj => (hl.trans h2).cell_of (hV j hj).1))
  have hboth := fun wv g cap hl hc => let ⟨⟨a, b, c, d⟩, h⟩ := both op A n ca bb oo V w hT hA hV wv g cap hl hc; (⟨a, b, c, d, h⟩ : ∃ A4 B4 C4 E4, OfC wv op (.slice (some ⟨g, 0, none⟩) n cap) (A4, B4, C4, E4) ∧ ApC wv op (.slice A n ca) (A4, B4, C4, E4))
  have hkept := fun (wv : World) (g cap : Nat) (hl : Later w wv) hc2 hc => kept_any g cap bb oo n ca V A hA (by omega) hc2 wv hc (fun j hj => hl.cell_of (hV j hj).1)
  by_cases h : 69 ≤ op ∧ op ≤ 191
  · have hp : 124 ≤ kP op ∧ kP op ≤ 127 := by rcases kP_or op h.1 h.2 with e | e | e | e <;> rw [e] <;> decide
    rcases kC_or op with hk | hk
    · exact core1 op _ _ A n ca V w (rt1 op h hk) (at1 op h hk) hp hlend hboth hkept
    · exact core2 op _ _ A n ca V w (rt2 op h hk).2 (at2 op h hk) hp hlend hboth hkept
  · exact core0 op 0 0 A n ca V w (rtype_bad op h) (atype_bad op h) hlend hboth hkept
theorem view_vals {H : Type} {enc : TypeId × Value → H} {W : World} {A : Option Addr} {n cap : Nat} {d : DataW H} {ps : List MemPlace} (h : DataW.Trod enc Tryz.prog W 0 (fun _ => true) true 22 (.slice A n cap) d ps) :
    ∃ (bb oo : Nat) (V : Nat → Int), (n = 0 ∨ A = some ⟨bb, oo, none⟩) ∧ (∀ j, j < n * 2 → W.cell? ⟨bb, oo + j, none⟩ = some (.int .i64 (V j)) ∧ inI (V j)) ∧ (n = 0 ∨ ∃ el sp, d = .slice el sp ∧ el.length = n) := by
  obtain ⟨fuel, hf⟩ := h
  have ci : Tryz.prog.cellsOf 3 = 1 := by kernel_rfl
  rcases Go.Deep.open_slice_pairs Tryz.underlying22 Tryz.underlying33 (by kernel_rfl) rfl rfl ci ci hf with ⟨hcs, _⟩ | ⟨a, len', cap', m, k, V0, V1, D0, D1, P0, P1, hcs, _, hl, hm, hmm, hx, hel⟩
  · simp [Value.cells] at hcs
    exact ⟨0, 0, fun _ => 0, Or.inl hcs.2.1, fun j hj => by omega, Or.inl hcs.2.1⟩
  · simp [Value.cells] at hcs
    obtain ⟨rfl, rfl, rfl⟩ := hcs
    simp only [if_true] at hmm
    by_cases h0 : n = 0
    · exact ⟨0, 0, fun _ => 0, Or.inl h0, fun j hj => by omega, Or.inl h0⟩
    · obtain ⟨b, off, spot⟩ := a
      have hspot : spot = none := by simpa [Addr.add] using World.cell?_spot (hel 0 (by omega)).1
      subst hspot
      have each : ∀ j, ∃ x, j < n * 2 → W.cell? ⟨b, off + j, none⟩ = some (.int .i64 x) ∧ inI x := by
        intro j
        by_cases hj : j < n * 2
        · obtain ⟨e0, e1, t0, t1⟩ := hel (j / 2) (by omega)
          obtain ⟨x0, f0, _, w0⟩ := DataW.trod_int Tryz.underlying3 t0
          obtain ⟨x1, f1, _, w1⟩ := DataW.trod_int Tryz.underlying3 t1
          simp only [List.cons.injEq, and_true] at f0 f1
          rw [add_plain, f0] at e0
          rw [add_plain, f1] at e1
          by_cases h2 : j % 2 = 0
          · rw [show j / 2 * 2 = j by omega] at e0
            exact ⟨x0, fun _ => ⟨e0, bounds_i64 w0⟩⟩
          · rw [show j / 2 * 2 + 1 = j by omega] at e1
            exact ⟨x1, fun _ => ⟨e1, bounds_i64 w1⟩⟩
        · exact ⟨0, fun h => absurd h hj⟩
      obtain ⟨V, hV⟩ := Classical.axiomOfChoice each
      exact ⟨b, off, V, Or.inr rfl, hV, Or.inr ⟨_, _, (Prod.mk.inj hx).1, by simp⟩⟩
theorem walk (op : Int) (A : Option Addr) (n ca : Nat) (w : World) (hv : ∃ (bb oo : Nat) (V : Nat → Int), (n = 0 ∨ A = some ⟨bb, oo, none⟩) ∧ (∀ j, j < n * 2 → w.cell? ⟨bb, oo + j, none⟩ = some (.int .i64 (V j)) ∧ inI (V j)) ∧ n * 16 ≤ 140737488351232) (hT : Tabs w) :
    Calls Tryz.prog 3 #[.int .i64 op, .slice A n ca] w fun e w' => e = .returned (.bool true) ∧ Later w w' := by
  obtain ⟨bb, oo, V, hA, hV, hr⟩ := hv
  exact whole op A n ca bb oo V w hT hA hV hr

set_option maxRecDepth 100000 in
theorem lifted (os : Os) (started : os.Started) (H : Type) (enc : TypeId × Value → H) :
    ReturnsInHanded {} Tryz.checked os 3 .any (fun w args => (Rows.appliesSpec.pre enc Tryz.prog Tryz.f3 [] false w args ∧ laidMetH Tryz.prog tabs w) ∧ sizedMet enc Tryz.prog Tryz.f3 (OpenSpec.ofChange Rows.appliesSpec) false w args)
      (Rows.appliesSpec.post enc Tryz.prog Tryz.f3 false true false false) := by
  refine returnsInHanded_of_change_and (C := Tryz.checked) (X := fun w _ => laidMetH Tryz.prog tabs w) (fun _ _ _ hh h => h.of_heap hh) own started (by kernel_rfl) Tryz.func3
    (ChangeSpec.witness_shaped (enc := enc) (C := Tryz.checked) (os := os) (X := fun w _ => laidMetH Tryz.prog tabs w) false (World.doorLaid Tryz.prog 400 os) #[.int .i64 0, .slice none 0 0] 8 rfl (World.shaped_of_RefB (by kernel_rfl) (by kernel_rfl)) (by kernel_rfl) (by kernel_rfl) (by kernel_rfl) (door_met os _)) ?_
  intro W base args ds gs before hval0 hW _ hsz0 hL _
  have hval : ∀ (j : Nat) t v, Tryz.f3.params[j]? = some t → args[j]? = some v → Value.okWide Tryz.prog W .any base t v := hval0
  have hW' := hW
  obtain ⟨p, q, hA0, hV, rfl, hfz, hnd⟩ := hW
  have hA : DataW.TrodAll enc Tryz.prog W 0 (fun _ => true) true Tryz.f3.params.toList args.toList ds p := hA0
  rw [Tryz.params3] at hA hval
  obtain ⟨v0, vs0, d0, ds0, p0, q0, hargs, rfl, rfl, h0, r0⟩ := trodAll_cons hA
  obtain ⟨v1, vs1, d1, ds1, p1, q1, rfl, rfl, rfl, h1, r1⟩ := trodAll_cons r0
  obtain ⟨rfl, rfl, rfl⟩ := trodAll_nil r1
  obtain rfl : args = #[v0, v1] := by cases args; simp_all
  obtain ⟨rfl, rfl⟩ := trodVars_none hV
  obtain ⟨a0, rfl, rfl, rfl, w0⟩ := open_int Tryz.underlying3 (hval 0 3 v0 rfl rfl) h0
  obtain ⟨A1, n1, c1, rfl⟩ := okWide_slice Tryz.underlying22 (hval 1 22 v1 rfl rfl)
  obtain ⟨bb1, oo1, V1, hv1, hu1, hy1⟩ := view_vals h1
  have hr1 : n1 * 16 ≤ 140737488351232 := by
    rcases hy1 with h0 | ⟨el, sp, hd, hln⟩
    · omega
    · have hs : (el.length + sp.length) * Tryz.prog.bytesOf 33 ≤ reachBytes := sized_slice hsz0 (j := 1) (t := 22) (e := 33) (elems := el) (spare := sp) rfl (by rw [hd]; rfl) Tryz.underlying22
      rw [show Tryz.prog.bytesOf 33 = 16 by kernel_rfl] at hs
      unfold reachBytes at hs
      omega
  clear hA0 hval0
  simp only [List.append_nil, List.nil_append] at hW'
  have hlt : ∀ x ∈ p1, x.block < W.heap.size := fun x hx => by simpa using hW'.lt x hx
  refine (walk a0 A1 n1 c1 W ⟨bb1, oo1, V1, hv1, hu1, hr1⟩ (of_laid hL)).mono fun e W' ⟨he, hl⟩ => ?_
  subst he
  have hg := hl.grown
  have hbel : Below W.heap.size W W' := by obtain ⟨bs, nn, rfl⟩ := hl; exact ⟨rfl, rfl, rfl, by rw [World.far_size]; omega, fun k hk => World.far_block W bs nn k hk⟩
  have hx : ∀ sp : Nat → Bool, (∀ p ∈ p1, sp p.block = true) → DataW.TrodAll enc Tryz.prog W' 0 sp true [3, 22] [.int .i64 a0, .slice A1 n1 c1] [.lit (.int .i64 a0), d1] (p1) := fun sp hsp => by simpa using (trodAll_cons_mk (shut_int Tryz.underlying3 w0) (trodAll_cons_mk (WideElems.Trod_stays (by kernel_rfl) (by kernel_rfl) (of_decide_eq_true (by kernel_rfl)) h1 (fun x hx => hbel.same (hlt x (by simp [hx]))) (fun x hx => hsp x (by simp [hx]))) trodAll_mk0))
  exact ⟨_, rfl, post_of_same (pa := p1) (pv := []) hW' (fun _ _ _ => (trodAll_cons_mk (shut_bool Tryz.underlying4 _) trodAll_mk0)) (fun sp hsp => hx sp hsp) (fun _ _ => rfl) (by simp)
    (hg.frame _) hg.2.1 (ok_one (by kernel_rfl) rfl (okWide_bool_mk Tryz.underlying4 _))⟩

theorem over : Rows.appliesRow.holds Tryz.pinned (OpenSpec.ofChange Rows.appliesSpec) :=
  OpenClaim.holds_of_wide 3 Tryz.f3 rfl rfl rfl rfl rfl rfl rfl ⟨rfl, rfl, rfl, rfl, rfl⟩ rfl rfl rfl rfl rfl (by kernel_rfl) Tryz.func3 (by kernel_rfl)
    (of_decide_eq_true (by kernel_rfl)) (by unfold Func.isWrapper; first | (rw [if_pos (by decide +kernel)]; kernel_rfl) | (rw [if_neg (by decide +kernel)]; exact ⟨rfl, rfl⟩))
    (fun os started H enc _ => lifted os started H enc)


theorem row_holds : Rows.AppliesSaid := over

theorem card_holds : Rows.AppliesCardSaid :=
  Claim7.holds_tied_plain_at .later [] [.data, .data] true (true, "858e6e0648fcb45bf74692b8baf86f4e36d11ad85089584bc713cf3883128cf4") false
    row_holds (fun _ h => by cases h) (by kernel_rfl) (fun _ h => by cases h) applies_row_tie rfl ⟨rfl, rfl⟩ (by kernel_rfl) rfl
    (fun f fn hf hfn => by
      obtain rfl : f = 3 := Option.some.inj ((show Tryz.prog.funcNamed Rows.appliesRow.func = some 3 by kernel_rfl).symm.trans hf) |>.symm
      obtain rfl : fn = Tryz.f3 := (Option.some.inj (Tryz.func3.symm.trans hfn)).symm
      exact ⟨by kernel_rfl, fun j t ht => by
        rw [Tryz.params3] at ht
        have hm : t ∈ [3, 22] := by simpa using Array.mem_of_getElem? ht
        have hall : ([3, 22].all fun u => !Tryz.prog.wantsStandIn u) = true := by kernel_rfl
        exact (show Tryz.prog.wantsStandIn t = false by simpa using List.all_eq_true.1 hall t hm)⟩)
    (by kernel_rfl)
end Go.Proofs.YtdfgcagbpndabaaGreatDoor.applies
namespace Go.Proofs.YtdfgcagbpndabaaGreatDoor
theorem applies_holds : Rows.AppliesCardSaid := applies.card_holds
#print axioms applies_holds
end Go.Proofs.YtdfgcagbpndabaaGreatDoor
