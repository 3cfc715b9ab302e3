/- package instr: what a writer holds; numbers, signed, lowest. -/
import Derived.Test.YtngciahmoenkiacXT
import Derived.Test.YtngciahmoenkiacXJ
import Derived.Test.YtngciahmoenkiacXR
import Derived.Test.YtngciahmoenkiacXK
set_option linter.unusedVariables false
set_option linter.unusedSimpArgs false
set_option maxRecDepth 100000
set_option maxHeartbeats 8000000
namespace Go.Proofs.Ytngciahmoenkiac.gi
open Go.RowKit
theorem step_app2 {P : Program} {ops : Array Oper} {o : Oper} {a : Act} {w w' : World} {K : Act → World → Prop} {Q : Exit → Act → World → Prop} {E : Prop} (hgd : o.guard = none) (s x : Operand) (t t2 : TypeId)
    (ho : o.op = .call { callee := .builtin .append, args := #[s, x], argTypes := #[t, t2] }) (v u r : Value) (hs : a.eval s = v) (hx : a.eval x = u) (hr : (Builtin.append_ #[t, t2] o.type #[v, u]).run P w = .ok r w')
    (h : K (a.put o.dst r) w') : if Region.wanted o (yielded ops a.tmps) = true then Oper.wp P o a w K Q else E := by
  have hw : Region.wanted o (yielded ops a.tmps) = true := by simp [Region.wanted, hgd]
  rw [if_pos hw]
  unfold Oper.wp execOp
  simp only [ho, resolve, invoke, builtin, Sem.run_bind, Sem.run_pure, Result.andThen_ok, List.map_toArray, List.map_cons, List.map_nil, hs, hx, hr]
  exact h
/-- what a writer turns: its block and its bytes -/
def S07 (t : Nat) : Prop := t = 0 ∨ t = 7
/-- a writer in a block of its own, its bytes in a row of their own -/
def Wr (w0 : World) (lab : Nat → Nat) (W : World) (q : Nat) (d : List Int) : Prop := Later w0 W ∧ (∃ v, Fld lab 0 W w0.heap.size 5 1 v d.length (bys d) ∧ Str lab 7 W w0.heap.size q 112 1 (fun _ => v)) ∧ ∀ k, k < w0.heap.size → lab k = 99
variable {w0 W W' : World} {lab : Nat → Nat} {q : Nat} {d : List Int}
theorem Wr.out (h : Wr w0 lab W q d) : ∃ A cap, W.cell? ⟨q, 0, none⟩ = some (.slice A d.length cap) ∧ W.frozen? ⟨q, 0, none⟩ = false ∧ q < W.heap.size := by
  obtain ⟨_, ⟨v, h1, h2⟩, _⟩ := h
  rcases h1.1.2 with ⟨e, h0⟩ | ⟨g, cap', cur, e, _⟩
  · subst e
    exact ⟨none, 0, by rw [h2.1.cell (i := 0) (by decide), h0], h2.1.frozen 0, h2.1.lt⟩
  · subst e
    exact ⟨_, _, h2.1.cell (i := 0) (by decide), h2.1.frozen 0, h2.1.lt⟩
theorem Wr.later (h : Wr w0 lab W q d) (hl : Later W W') : ∃ lab', Wr w0 lab' W' q d ∧ Chg lab S07 W W' lab' ∧ ∀ k, W.heap.size ≤ k → lab' k = 5 := by
  obtain ⟨h1, ⟨v, h2, h3⟩, h4⟩ := h
  obtain ⟨lab', C, hz⟩ := Chg.fresh (lab := lab) (S := fun _ => False) hl 5
  refine ⟨lab', ⟨h1.trans hl, ⟨v, h2.chg C (fun x => x), h3.chg C (fun x => x)⟩, fun k hk => ?_⟩, C.wide (fun _ x => x.elim), hz⟩
  rw [(C.2 k (Nat.lt_of_lt_of_le hk h1.size) (fun x => x)).1]
  exact h4 k hk
/-- bytes behind those of a writer, stored -/
theorem Wr.stored {l : List Int} {w' : World} {lab' : Nat → Nat} {v v' : Value} (h1 : Later w0 W) (h3 : Str lab 7 W w0.heap.size q 112 1 (fun _ => v)) (h4 : ∀ k, k < w0.heap.size → lab k = 99)
    (hF : Fld lab' 0 w' w0.heap.size 5 1 v' (d ++ l).length (bys (d ++ l))) (hL : Later w0 w') (C : Chg lab (· = 0) W w' lab') :
    w'.cell? ⟨q, 0, none⟩ = some v ∧ w'.frozen? ⟨q, 0, none⟩ = false ∧ q < w'.heap.size ∧ Wr w0 lab' (w'.setCell ⟨q, 0, none⟩ v') q (d ++ l) ∧ Chg lab S07 W (w'.setCell ⟨q, 0, none⟩ v') lab' := by
  have h3' := h3.chg C (by decide)
  obtain ⟨u0, C3⟩ := h3'.set 0 v'
  refine ⟨h3'.1.cell (i := 0) (by decide), h3'.1.frozen 0, h3'.1.lt, ⟨h3'.ltr hL 0 v', ⟨v', hF.chg C3 (by decide), ?_⟩, fun k hk => ?_⟩, (C.wide (fun _ x => Or.inl x)).trans (C3.wide (fun _ x => Or.inr x))⟩
  · refine ⟨?_, u0.2.1, u0.2.2⟩
    obtain ⟨cs, e1, e2, e3⟩ := u0.1
    exact ⟨cs, e1, e2, fun i hi => by rw [e3 i hi]; simp; omega⟩
  · rw [(C.2 k (Nat.lt_of_lt_of_le hk h1.size) (by rw [h4 k hk]; decide)).1]
    exact h4 k hk
theorem Wr.more (h : Wr w0 lab W q d) (x : Int) (hd : d.length < 100000000000000) : ∃ A cap g c' w' lab', W.cell? ⟨q, 0, none⟩ = some (.slice A d.length cap) ∧ (Builtin.append_ #[50, 50] 50 #[.slice A d.length cap, .slice (some ⟨W.heap.size, 0, none⟩) 1 1]).run Try.prog (W.alloc (.cells #[.int .u8 x] 5)) = .ok (.slice (some ⟨g, 0, none⟩) (d.length + 1) c') w' ∧
    w'.cell? ⟨q, 0, none⟩ = some (.slice A d.length cap) ∧ w'.frozen? ⟨q, 0, none⟩ = false ∧ q < w'.heap.size ∧ Wr w0 lab' (w'.setCell ⟨q, 0, none⟩ (.slice (some ⟨g, 0, none⟩) (d.length + 1) c')) q (d ++ [x]) ∧ Chg lab S07 W (w'.setCell ⟨q, 0, none⟩ (.slice (some ⟨g, 0, none⟩) (d.length + 1) c')) lab' := by
  obtain ⟨A, cap, e0, _, _⟩ := h.out
  obtain ⟨i, hi1, hi2, hi3, hi4⟩ := byte_parts
  obtain ⟨h1, ⟨v, h2, h3⟩, h4⟩ := h
  obtain rfl : v = .slice A d.length cap := by
    have := h3.1.cell (i := 0) (by decide)
    rw [e0] at this
    exact (Option.some.inj this).symm
  obtain ⟨g, c', w', lab', r, G, l, C⟩ := fld_more (P := Try.prog) h1 50 50 5 i (.int .u8 0) 1 1 Try.underlying50 hi1 hi2 hi3 hi4 rfl (by decide) h2 [.int .u8 x] rfl (one_byte x) (by unfold maxLen; omega) (by omega)
  obtain ⟨k1, k2, k3, k4, k5⟩ := Wr.stored (d := d) (l := [x]) (v' := .slice (some ⟨g, 0, none⟩) (d.length + 1) c') h1 h3 h4 (by rw [List.length_append, List.length_singleton, show bys (d ++ [x]) = bys d ++ [.int .u8 x] by simp [bys]]; exact G) l C
  exact ⟨A, cap, g, c', w', lab', e0, r, k1, k2, k3, k4, k5⟩
theorem Wr.str (h : Wr w0 lab W q d) (l : List Int) (hl : l ≠ []) (hb : ∀ x ∈ l, 0 ≤ x ∧ x < 256) (hd : d.length + l.length < 100000000000000) : ∃ A cap g c' w' lab', W.cell? ⟨q, 0, none⟩ = some (.slice A d.length cap) ∧ (Builtin.append_ #[50, 9] 50 #[.slice A d.length cap, .string (strOfNums l)]).run Try.prog W = .ok (.slice (some ⟨g, 0, none⟩) (d.length + l.length) c') w' ∧
    w'.cell? ⟨q, 0, none⟩ = some (.slice A d.length cap) ∧ w'.frozen? ⟨q, 0, none⟩ = false ∧ q < w'.heap.size ∧ Wr w0 lab' (w'.setCell ⟨q, 0, none⟩ (.slice (some ⟨g, 0, none⟩) (d.length + l.length) c')) q (d ++ l) ∧ Chg lab S07 W (w'.setCell ⟨q, 0, none⟩ (.slice (some ⟨g, 0, none⟩) (d.length + l.length) c')) lab' := by
  obtain ⟨A, cap, e0, _, _⟩ := h.out
  obtain ⟨i, hi1, hi2, hi3, hi4⟩ := byte_parts
  obtain ⟨h1, ⟨v, h2, h3⟩, h4⟩ := h
  obtain rfl : v = .slice A d.length cap := by
    have := h3.1.cell (i := 0) (by decide)
    rw [e0] at this
    exact (Option.some.inj this).symm
  have hsz := strOfNums_size l
  obtain ⟨g, c', w', lab', r, G, l2, C⟩ := fld_str (P := Try.prog) h1 50 9 50 5 i Try.underlying50 Try.underlying9 hi1 hi2 hi3 hi4 h2 (strOfNums l) (by rw [hsz]; unfold maxLen; omega) (by rw [hsz]; omega) (by rw [hsz]; exact List.length_pos_iff.2 hl)
  rw [hsz, str_cells l hb] at G
  rw [hsz] at r
  obtain ⟨k1, k2, k3, k4, k5⟩ := Wr.stored (d := d) (l := l) (v' := .slice (some ⟨g, 0, none⟩) (d.length + l.length) c') h1 h3 h4 (by rw [List.length_append, show bys (d ++ l) = bys d ++ bys l by simp [bys]]; exact G) l2 C
  exact ⟨A, cap, g, c', w', lab', e0, r, k1, k2, k3, k4, k5⟩
/-- what a method of a writer makes: so many bytes more -/
def Wm (w0 : World) (lab : Nat → Nat) (W : World) (q : Nat) (d : List Int) (e : Ending) (W' : World) : Prop := e = .returned (.tuple #[]) ∧ ∃ lab', Hid (Wr w0 lab' W' q d) ∧ Hid (Chg lab S07 W W' lab')
theorem sleb_ne (x : Int) : slebL x ≠ [] := by
  unfold slebL
  generalize (9 : Nat) = n
  cases n <;> (unfold slebF; (try split) <;> simp)
theorem leb_ne (x : Int) : lebL x ≠ [] := by
  unfold lebL
  generalize (9 : Nat) = n
  cases n <;> (unfold lebF; (try split) <;> simp)
theorem sleb_byte (x : Int) : ∀ b ∈ slebL x, 0 ≤ b ∧ b < 256 := slebF_byte 9 x
theorem signed_any (x : Int) (hx : -9223372036854775808 ≤ x ∧ x ≤ 9223372036854775807) (hd : d.length + (slebL x).length < 1000000000000) (h : Wr w0 lab W q d) :
    Calls Try.prog 82 #[.pointer (some ⟨q, 0, none⟩), .int .i64 x] W (Wm w0 lab W q (d ++ slebL x)) := by
  have hp : Hid (∀ w : World, Calls Try.prog 86 #[.int .i64 x] w fun e w' => e = .returned (.string (strOfNums (slebL x))) ∧ Later w w') := fun w => puts_any x hx w
  obtain ⟨A, cap, c0, f0, l0⟩ := h.out
  have hst : Hid (∀ w3, Later W w3 → ∃ g c' w' lab', (Builtin.append_ #[50, 9] 50 #[.slice A d.length cap, .string (strOfNums (slebL x))]).run Try.prog w3 = .ok (.slice (some ⟨g, 0, none⟩) (d.length + (slebL x).length) c') w' ∧ w3.cell? ⟨q, 0, none⟩ = some (.slice A d.length cap) ∧ q < w3.heap.size ∧
      w'.cell? ⟨q, 0, none⟩ = some (.slice A d.length cap) ∧ w'.frozen? ⟨q, 0, none⟩ = false ∧ q < w'.heap.size ∧ Wm w0 lab W q (d ++ slebL x) (.returned (.tuple #[])) (w'.setCell ⟨q, 0, none⟩ (.slice (some ⟨g, 0, none⟩) (d.length + (slebL x).length) c'))) := fun w3 hl => by
    obtain ⟨lab3, h3, C3, _⟩ := h.later hl
    obtain ⟨A3, cap3, g, c', w', lab', e0, r, k1, k2, k3, k4, k5⟩ := h3.str (slebL x) (sleb_ne x) (sleb_byte x) (by omega)
    have e1 := hl.cell_of c0
    rw [e1] at e0
    obtain ⟨rfl, rfl⟩ : A = A3 ∧ cap = cap3 := by
      injection e0 with e0
      injection e0 with q1 _ q2
      exact ⟨q1, q2⟩
    exact ⟨g, c', w', lab', r, e1, Nat.lt_of_lt_of_le l0 hl.size, k1, k2, k3, rfl, lab', k4, C3.trans k5⟩
  generalize slebL x = s at *
  clear h hx hd
  go_enter Try.func82, Try.ntmps82
  go_wp2_with fail
  go_region_law (first | (refine step_app2 (by rfl) _ _ 50 9 (by rfl) _ _ _ (by rfl) (by rfl) r2.out ?_) | (go_simp; go_at_call 86; refine (hp.out _).mono ?_; rintro e w3 ⟨rfl, l3⟩; obtain ⟨g, c', w', lab', r2, t0, t1, t2, t3, t4, hfin⟩ := hst.out w3 ((Ld (Lz _)).trans l3); replace r2 : Hid _ := r2; replace hfin : Hid _ := hfin; replace l3 : Hid _ := l3))
  all_goals
    go_end0
    exact hfin.out
/-- the bytes of numbers, one behind the other -/
theorem labB_app : ∀ a b : List Int, labB (a ++ b) = labB a ++ labB b
  | [], b => rfl
  | x :: a, b => by simp only [List.cons_append, labB]; rw [labB_app a b, List.append_assoc]
theorem numbers_any (xs : List Int) (hx : ∀ x ∈ xs, i64 x) (b o c : Nat) (hn : xs.length ≤ 1024) (hd : d.length < 100000000000) (h : Wr w0 lab W q d) (hb : ¬ S07 (lab b)) (hX : ∀ j, j < xs.length → W.cell? ⟨b, o + j, none⟩ = some (.int .i64 (xs.getD j 0))) :
    Calls Try.prog 81 #[.pointer (some ⟨q, 0, none⟩), .slice (some ⟨b, o, none⟩) xs.length c] W (Wm w0 lab W q (d ++ labB xs)) := by
  replace h : Hid (Wr w0 lab W q d) := h
  replace hb : Hid (¬ S07 (lab b)) := hb
  replace hX : Hid (∀ j, j < xs.length → W.cell? ⟨b, o + j, none⟩ = some (.int .i64 (xs.getD j 0))) := hX
  replace hx : Hid (∀ x ∈ xs, i64 x) := hx
  obtain ⟨n, hn2⟩ : ∃ n, n = xs.length := ⟨_, rfl⟩
  rw [← hn2] at hn ⊢
  replace hn2 : Hid (n = xs.length) := hn2
  replace hd : Hid (d.length < 100000000000) := hd
  go_enter Try.func81, Try.ntmps81
  go_wp2_with fail
  go_loopw [8] (fun i wr => ∃ (j : Nat) (lab' : Nat → Nat), i = .int .i64 (j : Nat) ∧ j ≤ n ∧ Wr w0 lab' wr q (d ++ labB (xs.take j)) ∧ Chg lab S07 W wr lab') (fun i _ => n - (intOf i).toNat)
  case atStart => exact ⟨0, lab, rfl, Nat.zero_le _, by simpa [labB] using h.out, Chg.of_later (Lz _)⟩
  case round =>
    obtain ⟨j, lab1, rfl, hj, hW, hC⟩ := hrel
    by_cases hlt : j < n
    · have hl1 : (j : Int) < (n : Int) := by omega
      have a0 : wr.cell? ⟨b, o + j, none⟩ = some (.int .i64 (xs.getD j 0)) := hC.cell hb.out (hX.out j (by have := hn2.out; omega))
      have al := cell_lt a0
      have hxs : xs.take (j + 1) = xs.take j ++ [xs.getD j 0] := by
        have hjl : j < xs.length := by have := hn2.out; omega
        rw [List.take_add_one, List.getElem?_eq_getElem hjl, List.getD_eq_getElem?_getD, List.getElem?_eq_getElem hjl]
        rfl
      have hxi : i64 (xs.getD j 0) := by
        have hjl : j < xs.length := by have := hn2.out; omega
        rw [List.getD_eq_getElem?_getD, List.getElem?_eq_getElem hjl]
        exact hx.out _ (List.getElem_mem hjl)
      have hlB : labB (xs.take (j + 1)) = labB (xs.take j) ++ lebL (xs.getD j 0) := by rw [hxs, labB_app]; simp [labB]
      have hlen : (labB (xs.take j)).length ≤ 10 * j := by have := labB_len (xs.take j); rw [List.length_take] at this; omega
      generalize xs.getD j 0 = x at *
      have hp : Hid (∀ w : World, Calls Try.prog 51 #[.int .i64 x] w fun e w' => e = .returned (.string (strOfNums (lebL x))) ∧ Later w w') := fun w => put_any x hxi w
      obtain ⟨A, cap, c0, f0, l0⟩ := hW.out
      generalize hdd : d ++ labB (xs.take j) = dd at *
      have hst : Hid (∀ w3, Later wr w3 → ∃ g c' w' lab', (Builtin.append_ #[50, 9] 50 #[.slice A dd.length cap, .string (strOfNums (lebL x))]).run Try.prog w3 = .ok (.slice (some ⟨g, 0, none⟩) (dd.length + (lebL x).length) c') w' ∧ w3.cell? ⟨q, 0, none⟩ = some (.slice A dd.length cap) ∧ q < w3.heap.size ∧
          w'.cell? ⟨q, 0, none⟩ = some (.slice A dd.length cap) ∧ w'.frozen? ⟨q, 0, none⟩ = false ∧ q < w'.heap.size ∧ Wr w0 lab' (w'.setCell ⟨q, 0, none⟩ (.slice (some ⟨g, 0, none⟩) (dd.length + (lebL x).length) c')) q (dd ++ lebL x) ∧ Chg lab S07 W (w'.setCell ⟨q, 0, none⟩ (.slice (some ⟨g, 0, none⟩) (dd.length + (lebL x).length) c')) lab') := fun w3 hl => by
        obtain ⟨lab3, h3, C3, _⟩ := hW.later hl
        obtain ⟨A3, cap3, g, c', w', lab', e0, r, k1, k2, k3, k4, k5⟩ := h3.str (lebL x) (leb_ne x) (lebL_byte x) (by have := lebL_len x; have := hd.out; rw [← hdd, List.length_append]; omega)
        have e1 := hl.cell_of c0
        rw [e1] at e0
        obtain ⟨rfl, rfl⟩ : A = A3 ∧ cap = cap3 := by
          injection e0 with e0
          injection e0 with q1 _ q2
          exact ⟨q1, q2⟩
        exact ⟨g, c', w', lab', r, e1, Nat.lt_of_lt_of_le l0 hl.size, k1, k2, k3, k4, (hC.trans C3).trans k5⟩
      replace hlB : Hid (dd ++ lebL x = d ++ labB (xs.take (j + 1))) := by show _ = _; rw [hlB, ← hdd, List.append_assoc]
      replace hdd : Hid _ := hdd
      generalize lebL x = s at *
      clear hW hC hxs hxi hlen
      go_wp2_with fail
      go_region_law (first | (refine step_app2 (by rfl) _ _ 50 9 (by rfl) _ _ _ (by rfl) (by rfl) r2.out ?_) | (go_simp; go_at_call 51; refine (hp.out _).mono ?_; rintro e w3 ⟨rfl, l3⟩; obtain ⟨g, c', w', lab', r2, t0, t1, t2, t3, t4, hfin, hfC⟩ := hst.out w3 ((Ld (Lz _)).trans l3); replace r2 : Hid _ := r2; replace hfin : Hid _ := hfin; replace hfC : Hid _ := hfC; replace l3 : Hid _ := l3))
      all_goals
        go_wp2_with fail
        refine ⟨⟨j + 1, lab', by go_num, by omega, ?_, hfC.out⟩, ?_⟩
        · rw [← hlB.out]
          exact hfin.out
        · simp [intOf]
          omega
    · have hje : j = n := by omega
      have hl1 : ¬ (j : Int) < (n : Int) := by omega
      have hfin : Hid (Wm w0 lab W q (d ++ labB xs) (.returned (.tuple #[])) wr) := ⟨rfl, lab1, by rwa [hje, hn2.out, List.take_length] at hW, hC⟩
      clear hW hC
      go_wp2_with fail
      go_end0
      exact hfin.out
/-- one byte more, in a region that draws -/
theorem Wr.moreD (h : Wr w0 lab W q d) (x : Int) (hd : d.length < 100000000000000) : ∃ A cap g c' w' lab', W.cell? ⟨q, 0, none⟩ = some (.slice A d.length cap) ∧ (Builtin.append_ #[50, 50] 50 #[.slice A d.length cap, .slice (some ⟨W.heap.size, 0, none⟩) 1 1]).run Try.prog (W.alloc (.cells #[.int .u8 x] 5)).drew = .ok (.slice (some ⟨g, 0, none⟩) (d.length + 1) c') w' ∧
    w'.cell? ⟨q, 0, none⟩ = some (.slice A d.length cap) ∧ w'.frozen? ⟨q, 0, none⟩ = false ∧ q < w'.heap.size ∧ Wr w0 lab' (w'.setCell ⟨q, 0, none⟩ (.slice (some ⟨g, 0, none⟩) (d.length + 1) c')) q (d ++ [x]) ∧ Chg lab S07 W (w'.setCell ⟨q, 0, none⟩ (.slice (some ⟨g, 0, none⟩) (d.length + 1) c')) lab' := by
  obtain ⟨lab1, h1, C1, _⟩ := h.later (Ld (Lz W))
  obtain ⟨A, cap, g, c', w', lab', e0, r, k1, k2, k3, k4, k5⟩ := h1.more x hd
  exact ⟨A, cap, g, c', w', lab', e0, r, k1, k2, k3, k4, C1.trans k5⟩
theorem lowest_any (x : Int) (m : Nat) (hm : m ≤ 8) (hd : d.length < 1000000000000) (h : Wr w0 lab W q d) :
    Calls Try.prog 84 #[.pointer (some ⟨q, 0, none⟩), .int .i64 x, .int .i64 (m : Int)] W (Wm w0 lab W q (d ++ lowB x m)) := by
  replace h : Hid (Wr w0 lab W q d) := h
  replace hd : Hid (d.length < 1000000000000) := hd
  go_enter Try.func84, Try.ntmps84
  go_wp2_with fail
  go_loopw [8] (fun i wr => ∃ (j : Nat) (lab' : Nat → Nat), i = .int .i64 (j : Nat) ∧ j ≤ m ∧ Wr w0 lab' wr q (d ++ lowB x j) ∧ Chg lab S07 W wr lab') (fun i _ => m - (intOf i).toNat)
  case atStart => exact ⟨0, lab, rfl, Nat.zero_le _, by simpa [lowB] using h.out, Chg.of_later (Lz _)⟩
  case round =>
    obtain ⟨j, lab1, rfl, hj, hW, hC⟩ := hrel
    by_cases hlt : j < m
    · have hl1 : (j : Int) < (m : Int) := by omega
      have h8 : 8 * (j : Int) < 64 := by omega
      obtain ⟨A, cap, g, c', w', lab', c0, r2, k1, k2, k3, k4, k5⟩ := hW.moreD (x / 2 ^ (8 * j) % 256) (by have := hd.out; rw [List.length_append, lowB_len]; omega)
      have hl0 := cell_lt c0
      have hlB : Hid ((d ++ lowB x j) ++ [x / 2 ^ (8 * j) % 256] = d ++ lowB x (j + 1)) := by show _ = _; rw [lowB_succ, List.append_assoc]
      have hw : IntKind.u8.wrap (x / 2 ^ (8 * j)) = x / 2 ^ (8 * j) % 256 := IntKind.wrap_u8 _
      have hwr : IntKind.i64.wrap (8 * (j : Int)) = 8 * (j : Int) := by rw [IntKind.wrap_i64]; omega
      generalize d ++ lowB x j = dd at *
      replace r2 : Hid _ := r2
      replace k4 : Hid _ := k4
      replace k5 : Hid (Chg lab S07 W _ lab') := hC.trans k5
      clear hW hC
      go_wp2_with fail
      go_region_law (refine step_app (by rfl) _ _ 50 (by rfl) _ _ _ (by rfl) (by rfl) r2.out ?_)
      all_goals
        go_wp2_with fail
        refine ⟨⟨j + 1, lab', by go_num, by omega, ?_, k5.out⟩, ?_⟩
        · rw [← hlB.out]
          exact k4.out
        · simp [intOf]
          omega
    · have hje : j = m := by omega
      have hl1 : ¬ (j : Int) < (m : Int) := by omega
      have hfin : Hid (Wm w0 lab W q (d ++ lowB x m) (.returned (.tuple #[])) wr) := ⟨rfl, lab1, by rwa [hje] at hW, hC⟩
      clear hW hC
      go_wp2_with fail
      go_end0
      exact hfin.out
end Go.Proofs.Ytngciahmoenkiac.gi
