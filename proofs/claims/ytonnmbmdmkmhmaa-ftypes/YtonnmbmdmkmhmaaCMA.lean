/- Over this seat's translation: rows appended to an empty literal: the same rows in new blocks; a module being copied. -/
import Derived.Test.YtonnmbmdmkmhmaaEA
import Derived.Test.YtonnmbmdmkmhmaaEQ
set_option linter.unusedVariables false
set_option linter.unusedSimpArgs false
set_option maxRecDepth 100000
set_option maxHeartbeats 4000000
namespace Go.Proofs.Ytonnmbmdmkmhmaa
open Go.RowKit
/-- a field that names no row -/
def Flat : Fd → Prop
  | .inl _ => True
  | .inr (.inl _) => True
  | .inr (.inr (.inl _)) => True
  | .inr (.inr (.inr _)) => False
section
variable {Z Z' : Nat → Prop} {w w' : World}
theorem fdc.flat : ∀ {x : Fd} {v : Value}, Flat x → fdc Z w x v → fdc Z' w' x v
  | .inl _, _, _, h => h
  | .inr (.inl _), _, _, h => h
  | .inr (.inr (.inl _)), _, _, h => h
  | .inr (.inr (.inr _)), _, hf, _ => hf.elim
theorem itc.flat : ∀ {l : List Fd} {L : List Value}, (∀ x ∈ l, Flat x) → itc Z w l L → itc Z' w' l L
  | [], _, _, h => h
  | _ :: _, _, hf, ⟨v, L', e, h1, h2⟩ => ⟨v, L', e, fdc.flat (hf _ List.mem_cons_self) h1, itc.flat (fun x hx => hf x (List.mem_cons_of_mem _ hx)) h2⟩
end
theorem owns_nf {w : World} {base : Nat} {e : TypeId} {size : Nat} {g n cap : Nat} {L : List Value} (h : w.ownsRow base e size (.slice (some ⟨g, 0, none⟩) n cap) n L) : Zf base w g := by
  rcases h.2 with ⟨h, _⟩ | ⟨b, cap', cur, h, hb, hbb, _⟩
  · cases h
  · simp only [Value.slice.injEq, Option.some.injEq, Addr.mk.injEq] at h
    obtain ⟨⟨rfl, _⟩, _⟩ := h
    exact ⟨hb, nfrow hbb⟩
/-- 'append' to an empty literal is 'append' to nothing -/
theorem app_lit {t ty e : TypeId} {i : TypeInfo} {z : Value} (ht : Try.prog.underlying t = some (.slice e)) (hi : Try.prog.info? e = some i) (hz : i.zero = some z) (b : Nat) (a : Addr) (m c : Nat) (news : List Value) (w : World) (hl : news.length = m * i.size) (hnews : ∀ j v, news[j]? = some v → w.cell? (a.add j) = some v) (hm : 0 < m) (hb : m * i.bytes ≤ 140737488355328) (h63 : m ≤ 9223372036854775807) :
    (Builtin.append_ #[t, t] ty #[.slice (some ⟨b, 0, none⟩) 0 0, .slice (some a) m c]).run Try.prog w = (Builtin.append_ #[t, t] ty #[.slice none 0 0, .slice (some a) m c]).run Try.prog w := by
  rw [run_append_grow (P := Try.prog) w t ty e i z ht hi hz ⟨b, 0, none⟩ 0 0 [] (by simp) (by simp) a m c news hl hnews (by omega) (by omega) (growslice_fits (by omega) (by rw [Nat.zero_add]; exact hb)), run_append_nil (P := Try.prog) w t ty e i z ht hi hz a m c news hl hnews hm (by omega) (by omega)]
  simp
theorem app_none {t ty e : TypeId} {i : TypeInfo} (ht : Try.prog.underlying t = some (.slice e)) (hi : Try.prog.info? e = some i) (A : Option Addr) (b c : Nat) (w : World) :
    (Builtin.append_ #[t, t] ty #[.slice (some ⟨b, 0, none⟩) 0 0, .slice A 0 c]).run Try.prog w = .ok (.slice (some ⟨b, 0, none⟩) 0 0) w := by
  cases A <;> simp [Builtin.append_, run_underlying ht, sizeOf, typeInfo, hi, Builtin.lenOf, Builtin.firstCells, storeCells, loadCells, loadCellsFrom]
/-- structs without rows of their own, appended to an empty literal -/
theorem app_rows {α : Type} (f : α → List Fd) {t e : TypeId} {k by_ : Nat} (hT : Ti t e k by_) (hf : ∀ x, (f x).length = k) (hfl : ∀ x, ∀ y ∈ f x, Flat y) (A : Option Addr) (xs : List α) (b c : Nat) (ty : TypeId) (Z : Nat → Prop) (w : World) (hb : 0 < by_) (hr : xs.length * by_ ≤ 140737488351232) (h : Rt f Z w A xs) :
    ∃ r w', (Builtin.append_ #[t, t] ty #[.slice (some ⟨b, 0, none⟩) 0 0, .slice A xs.length c]).run Try.prog w = .ok r w' ∧ ∃ g cap, r = .slice (some ⟨g, 0, none⟩) xs.length cap ∧ Rt f (Zf w.heap.size w') w' (some ⟨g, 0, none⟩) xs ∧ Later w w' := by
  obtain ⟨ht, h0, i, z, hi, hz, hi1, hi2, hz1⟩ := hT
  by_cases hx : xs = []
  · subst hx
    exact ⟨_, _, app_none ht hi A b c w, _, _, rfl, Or.inl rfl, Lz _⟩
  · obtain ⟨g, o, L, rfl, hz', hc, hi'⟩ := h.resolve_left hx
    have hl : L.length = xs.length * k := by rw [hi'.length, flat_len f k hf]
    have hpos : 0 < xs.length := List.length_pos_iff.2 hx
    have hlen : xs.length ≤ 140737488351232 := Nat.le_trans (Nat.le_mul_of_pos_right _ hb) hr
    have hnews : ∀ (j : Nat) (u : Value), L[j]? = some u → w.cell? ((⟨g, o, none⟩ : Addr).add j) = some u := fun j u hu => by rw [add_of]; exact hc j u hu
    obtain ⟨g', cap, w', r, ow, hL⟩ := run_append_later (P := Try.prog) (Lz w) t ty e i z k by_ ht hi hz hi1 hi2 hz1 h0 _ 0 [] (World.ownsRow_nil _ _ _ _) ⟨g, o, none⟩ xs.length c L hl hnews hi'.one (by unfold maxLen; omega) (by rw [Nat.zero_add]; omega) hpos
    rw [Nat.zero_add] at r ow
    rw [List.nil_append] at ow
    rw [← app_lit (b := b) ht hi hz ⟨g, o, none⟩ xs.length c L w (by rw [hi1]; exact hl) hnews hpos (by rw [hi2]; omega) (by omega)] at r
    exact ⟨_, w', r, g', cap, rfl, Or.inr ⟨g', 0, L, rfl, owns_nf ow, fun j u hu => by rw [Nat.zero_add]; exact owns_cell ow hu, itc.flat (fun x hx => by obtain ⟨a, _, hy⟩ := List.mem_flatMap.1 hx; exact hfl a x hy) hi'⟩, hL⟩
theorem lq_zf {w : World} {base n cap : Nat} {A : Option Addr} {ls : List Int} (hn : n = ls.length) (h : w.ownsRow base 3 1 (.slice A n cap) n (xs (fun j => ls.getD j 0) ls.length)) : Lq (Zf base w) w A ls := by
  rcases h.2 with ⟨e, h0⟩ | ⟨g, c', cur, e, _⟩
  · have : ls = [] := List.length_eq_zero_iff.1 (hn ▸ h0)
    subst this
    exact ⟨Or.inl rfl, fun x => absurd rfl x⟩
  · injection e with e1 e2 e3
    subst e1
    refine ⟨Or.inr ⟨g, 0, rfl, fun j hj => ?_⟩, fun _ a ha => ?_⟩
    · rw [Nat.zero_add]
      exact owns_cell h (xs_get _ _ _ hj)
    · cases ha
      exact owns_nf h
/-- numbers appended to nothing -/
theorem app_nilq (A : Option Addr) (ls : List Int) (c : Nat) (ty : TypeId) (Z : Nat → Prop) (w : World) (hr : ls.length * 8 ≤ 140737488351232) (h : Lq Z w A ls) :
    ∃ r w', (Builtin.append_ #[24, 24] ty #[.slice none 0 0, .slice A ls.length c]).run Try.prog w = .ok r w' ∧ ∃ A' cap, r = .slice A' ls.length cap ∧ Lq (Zf w.heap.size w') w' A' ls ∧ Later w w' := by
  obtain ⟨i0, hi, hz0, hz1, hz2⟩ := int_parts
  by_cases hx : ls = []
  · subst hx
    refine ⟨.slice none 0 0, w, ?_, none, 0, rfl, ⟨Or.inl rfl, fun x => absurd rfl x⟩, Lz _⟩
    have hu := run_underlying (P := Try.prog) (w := w) Try.underlying24
    cases A <;> simp [Builtin.append_, hu, sizeOf, typeInfo, hi, hz1, Builtin.lenOf, Builtin.firstCells, storeCells, loadCells, loadCellsFrom]
  · have hpos : 0 < ls.length := List.length_pos_iff.2 hx
    obtain ⟨g, o, rfl, hc⟩ := h.1.resolve_left (by omega)
    obtain ⟨g', cap, w', r, ow, hL⟩ := run_append_later (P := Try.prog) (Lz w) 24 ty 3 i0 (.int .i64 0) 1 8 Try.underlying24 hi hz0 hz1 hz2 rfl (by decide) _ 0 [] (World.ownsRow_nil _ _ _ _) ⟨g, o, none⟩ ls.length c (xs (fun j => ls.getD j 0) ls.length) (by rw [xs_len]; omega) (news_at hc) (xs_one _ _) (by unfold maxLen; omega) (by omega) hpos
    rw [Nat.zero_add] at r ow
    rw [List.nil_append] at ow
    exact ⟨_, w', r, some ⟨g', 0, none⟩, cap, rfl, lq_zf rfl ow, hL⟩
/-- numbers appended to an empty literal -/
theorem app_lq (A : Option Addr) (ls : List Int) (b c : Nat) (ty : TypeId) (Z : Nat → Prop) (w : World) (hr : ls.length * 8 ≤ 140737488351232) (h : Lq Z w A ls) :
    ∃ r w', (Builtin.append_ #[24, 24] ty #[.slice (some ⟨b, 0, none⟩) 0 0, .slice A ls.length c]).run Try.prog w = .ok r w' ∧ ∃ g cap, r = .slice (some ⟨g, 0, none⟩) ls.length cap ∧ Lq (Zf w.heap.size w') w' (some ⟨g, 0, none⟩) ls ∧ Later w w' := by
  obtain ⟨i0, hi, hz0, hz1, hz2⟩ := int_parts
  by_cases hx : ls = []
  · subst hx
    exact ⟨_, _, app_none Try.underlying24 hi A b c w, _, _, rfl, ⟨Or.inl rfl, fun x => absurd rfl x⟩, Lz _⟩
  · have hpos : 0 < ls.length := List.length_pos_iff.2 hx
    obtain ⟨g, o, rfl, hc⟩ := h.1.resolve_left (by omega)
    obtain ⟨g', cap, w', r, ow, hL⟩ := run_append_later (P := Try.prog) (Lz w) 24 ty 3 i0 (.int .i64 0) 1 8 Try.underlying24 hi hz0 hz1 hz2 rfl (by decide) _ 0 [] (World.ownsRow_nil _ _ _ _) ⟨g, o, none⟩ ls.length c (xs (fun j => ls.getD j 0) ls.length) (by rw [xs_len]; omega) (news_at hc) (xs_one _ _) (by unfold maxLen; omega) (by omega) hpos
    rw [Nat.zero_add] at r ow
    rw [List.nil_append] at ow
    rw [← app_lit (b := b) Try.underlying24 hi hz0 ⟨g, o, none⟩ ls.length c _ w (by rw [xs_len, hz1, Nat.mul_one]) (news_at hc) hpos (by rw [hz2]; omega) (by omega)] at r
    exact ⟨_, w', r, g', cap, rfl, lq_zf rfl ow, hL⟩
/-- 'append' at a step, by what its run makes -/
theorem step_app_ex {ops : Array Oper} {o : Oper} {a : Act} {w : World} {K : Act → World → Prop} {Q : Exit → Act → World → Prop} {E : Prop} {G : Value → World → Prop} (hgd : o.guard = none) (s x : Operand) (t : TypeId)
    (ho : o.op = .call { callee := .builtin .append, args := #[s, x], argTypes := #[t, t] }) (v u : Value) (hs : a.eval s = v) (hx : a.eval x = u) (hr : ∃ r w', (Builtin.append_ #[t, t] o.type #[v, u]).run Try.prog w = .ok r w' ∧ G r w')
    (h : ∀ r w', G r w' → K (a.put o.dst r) w') : if Region.wanted o (yielded ops a.tmps) = true then Oper.wp Try.prog o a w K Q else E := by
  obtain ⟨r, w', e, hG⟩ := hr
  exact step_app hgd s x t ho v u r hs hx e (h r w' hG)
theorem wpList_app_ex {w : World} {ops : Array Oper} {rest : List Oper} {o : Oper} {a : Act} {Q : Exit → Act → World → Prop} {G : Value → World → Prop} (hgd : o.guard = none) (s x : Operand) (t : TypeId)
    (ho : o.op = .call { callee := .builtin .append, args := #[s, x], argTypes := #[t, t] }) (v u : Value) (hs : a.eval s = v) (hx : a.eval x = u) (hr : ∃ r w', (Builtin.append_ #[t, t] o.type #[v, u]).run Try.prog w = .ok r w' ∧ G r w')
    (h : ∀ r w', G r w' → wpList Try.prog ops Q rest (a.put o.dst r) w') : wpList Try.prog ops Q (o :: rest) a w := by
  obtain ⟨r, w', e, hG⟩ := hr
  exact wpList_app hgd s x t ho v u r hs hx e (h r w' hG)
/-- a module being copied: of the blocks that were there only the copy's struct turned -/
def Cq (pa q : Nat) (LA : List Value) (w wr : World) (L : List Value) : Prop := Wr (fun k => k = q) w wr ∧ Rl wr pa 32 LA ∧ Rl wr q 32 L
/-- one of its rows being made -/
def Lc {α : Type} (f : α → List Fd) (e : TypeId) (k pa q j : Nat) (LA : List Value) (w wr : World) (L : List Value) (v : Value) (d : List α) : Prop := Cq pa q LA w wr (L.set j v) ∧ Mk f w.heap.size e k wr v d
section
variable {pa q j k by_ : Nat} {LA L : List Value} {w wr w3 : World} {e t : TypeId} {v : Value}
theorem Cq.later (h : Cq pa q LA w wr L) (hl : Later wr w3) : Cq pa q LA w w3 L := ⟨h.1.ltr hl, h.2.1.later hl, h.2.2.later hl⟩
theorem Cq.set (h : Cq pa q LA w wr L) (hpq : pa ≠ q) (i : Nat) (u : Value) : Cq pa q LA w (wr.setCell ⟨q, i, none⟩ u) (L.set i u) := ⟨h.1.set i u (Or.inl rfl), h.2.1.off i u hpq, h.2.2.set i u⟩
theorem Cq.cell (h : Cq pa q LA w wr L) (i : Nat) {u : Value} (hu : L[i]? = some u) : wr.cell? ⟨q, i, none⟩ = some u ∧ wr.frozen? ⟨q, i, none⟩ = false ∧ q < wr.heap.size := ⟨h.2.2.cell i hu, h.2.2.frozen i, h.2.2.lt⟩
theorem Cq.arg (h : Cq pa q LA w wr L) (i : Nat) {u : Value} (hu : LA[i]? = some u) : wr.cell? ⟨pa, i, none⟩ = some u := h.2.1.cell i hu
theorem Lc.start {α : Type} {f : α → List Fd} (h : Cq pa q LA w w L) (hj : L[j]? = some (.slice none 0 0)) : Lc f e k pa q j LA w w L (.slice none 0 0) ([] : List α) := by
  refine ⟨?_, Mk.start _⟩
  rwa [show L.set j (.slice none 0 0) = L from ?_]
  apply List.ext_getElem?
  intro i
  rw [List.getElem?_set]
  split
  · rename_i e
    subst e
    rw [if_pos (List.getElem?_eq_some_iff.1 hj).1, hj]
  · rfl
theorem Lc.cell {α : Type} {f : α → List Fd} {d : List α} (h : Lc f e k pa q j LA w wr L v d) (hj : j < L.length) : wr.cell? ⟨q, j, none⟩ = some v ∧ q < wr.heap.size := ⟨h.1.2.2.cell j (by simp [hj]), h.1.2.2.lt⟩
/-- one struct more -/
theorem Lc.more {α : Type} {f : α → List Fd} {d : List α} (h : Lc f e k pa q j LA w wr L v d) (hpa : pa < w.heap.size) (hq : q < w.heap.size) (hpq : pa ≠ q) (hj : j < L.length) (hT : Ti t e k by_) (ty : TypeId) (x : α) (hf : (f x).length = k) (c : List Value) (hn : (d.length + 1) * by_ ≤ 140737488355328) (h63 : d.length + 1 ≤ 9000000000000000000) (hl : Later wr w3) (hc : itc (wr.heap.size ≤ ·) w3 (f x) c) :
    ∃ g cap w', (Builtin.append_ #[t, t] ty #[v, .slice (some ⟨w3.heap.size, 0, none⟩) 1 1]).run Try.prog (w3.alloc (.cells c.toArray e)) = .ok (.slice (some ⟨g, 0, none⟩) (d.length + 1) cap) w' ∧ (w'.cell? ⟨q, j, none⟩ = some v ∧ w'.frozen? ⟨q, j, none⟩ = false ∧ q < w'.heap.size) ∧ Wr (w.heap.size ≤ ·) w3 w' ∧ Lc f e k pa q j LA w (w'.setCell ⟨q, j, none⟩ (.slice (some ⟨g, 0, none⟩) (d.length + 1) cap)) L (.slice (some ⟨g, 0, none⟩) (d.length + 1) cap) (d ++ [x]) := by
  obtain ⟨⟨hW, hP, hL⟩, hM⟩ := h
  obtain ⟨g, cap, w', r, M', V'⟩ := hM.more (w := w3) hT ty hW.size hl.size (fun i hi hl2 => hl.block hl2) x hf c hc hn h63
  have hv : (L.set j v)[j]? = some v := by simp [hj]
  have L4 := (hL.later hl).wr V' (fun e => by have e : w.heap.size ≤ q := e; omega)
  have P4 := (hP.later hl).wr V' (fun e => by have e : w.heap.size ≤ pa := e; omega)
  refine ⟨g, cap, w', r, ⟨L4.cell j hv, L4.frozen j, L4.lt⟩, V', ⟨?_, P4.off j _ hpq, ?_⟩, ?_⟩
  · exact Wr.set ((hW.ltr hl).above V' (Nat.le_refl _)) j _ (Or.inl rfl)
  · have := L4.set j (.slice (some ⟨g, 0, none⟩) (d.length + 1) cap)
    rwa [List.set_set] at this
  · exact M'.wr ((Wr.refl (fun i => i < w.heap.size) w').set j _ (Or.inl hq)) (fun _ e => e)
/-- a row that is done -/
theorem Lc.done {α : Type} {f : α → List Fd} {d : List α} {A : Option Addr} {cap : Nat} (h : Lc f e k pa q j LA w wr L (.slice A d.length cap) d) : Cq pa q LA w wr (L.set j (.slice A d.length cap)) ∧ Fc f (w.heap.size ≤ ·) wr d (.slice A d.length cap) := ⟨h.1, A, cap, rfl, h.2.rt⟩
theorem rl_new (w : World) (T : TypeId) (L : List Value) : Rl (w.alloc (.cells L.toArray T)) w.heap.size T L := ⟨_, heap_alloc_new w _, by simp, fun i hi => by simp [List.getD, hi]⟩
/-- what was there when a module began to be copied lies there still -/
theorem Cq.low (h : Cq pa q LA w wr L) {w0 : World} (hl : Later w0 w) (hq : w0.heap.size ≤ q) : Later w0 wr := by
  have h1 : Wr (fun k => k = q) w0 wr := (Wr.of_later hl).trans h.1
  exact h1.later fun k e => by have e : k = q := e; omega
theorem later_set {w W : World} {q : Nat} (h : Later w W) (hq : w.heap.size ≤ q) (i : Nat) (v : Value) : Later w (W.setCell ⟨q, i, none⟩ v) := ((Wr.of_later (S := fun _ => False) h).set i v (Or.inr hq)).later (fun _ e => e.elim)
end
end Go.Proofs.Ytonnmbmdmkmhmaa
