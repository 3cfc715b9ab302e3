/- XQ: ITV, PK, joined. -/
import Derived.Test.YtonnmbmdmkmhmaaXD
import Derived.LoopTactic
import Derived.OpenShut
import Derived.ChangeMaps5
import Derived.ShutString
import Derived.SizedLaws
import Derived.Deep.Slices
import Derived.ChangeSame
import Derived.Below
/- A list of instructions as it is handed in: what the datum says of the memory. -/
set_option linter.unusedVariables false
set_option linter.unusedSimpArgs false
set_option maxRecDepth 100000
set_option maxHeartbeats 4000000
namespace Go.Proofs.Ytonnmbmdmkmhmaa
open Go.ChangeShapes Go.WideShapes Go.ChangeAt Go.RowKit
theorem iadd_of (b off i : Nat) : (⟨b, off, none⟩ : Addr).add i = ⟨b, off + i, none⟩ := by unfold Addr.add; split <;> simp_all
theorem iwf {a : Int} (h : (Lit.int .i64 a).wf = true) : i64 a := by
  simp only [Lit.wf, IntKind.min, IntKind.max, IntKind.signed, IntKind.bits, Bool.and_eq_true, decide_eq_true_eq, if_true] at h
  unfold i64
  omega
theorem iweights_mem {H : Type} {P : Program} {e : TypeId} : ∀ {l : List (DataW H)} {d : DataW H}, d ∈ l → ∀ n ∈ d.weights P e, n ∈ DataW.weightsAll P e l
  | d' :: r, d, hd, n, hn => by
    simp only [DataW.weightsAll, List.mem_append]
    rcases List.mem_cons.1 hd with rfl | h
    · exact Or.inl hn
    · exact Or.inr (iweights_mem h n hn)
/-- labels as they are handed in -/
theorem view_labels {H : Type} {enc : TypeId × Value → H} {W : World} {fuel : Nat} {u : Value} {y : DataW H × List MemPlace} (h : DataW.trod enc Try.prog W 0 (fun _ => true) true fuel 24 [u] = some y) (hw : ∀ x ∈ y.1.weights Try.prog 24, x ≤ reachBytes) :
    ∃ S c ls, u = .slice S ls.length c ∧ Lq (· < W.heap.size) W S ls ∧ (∀ x ∈ ls, i64 x) ∧ ls.length * 8 ≤ 140737488351232 := by
  have ci : Try.prog.cellsOf 3 = 1 := by kernel_rfl
  have hby : Try.prog.bytesOf 3 = 8 := by kernel_rfl
  rcases Go.Deep.open_slice1 Try.underlying24 ci h with ⟨hcs, _⟩ | ⟨a, len, cap, m, k, V, D, Pl, hcs, _, hl, hm, hmm, hx, hel⟩
  · simp only [List.cons.injEq, and_true] at hcs
    exact ⟨none, 0, [], hcs, ⟨Or.inl rfl, fun x => absurd rfl x⟩, by simp, by decide⟩
  · simp only [List.cons.injEq, and_true] at hcs
    simp only [if_true] at hmm
    by_cases h0 : len = 0
    · subst h0
      exact ⟨_, _, [], hcs, ⟨Or.inl rfl, fun x => absurd rfl x⟩, by simp, by decide⟩
    · obtain ⟨b, off, spot⟩ := a
      have hspot : spot = none := by
        have h1 := (hel 0 (by omega)).1
        simpa [Addr.add] using World.cell?_spot h1
      subst hspot
      have each : ∀ i, i < len → ∃ z : Int, W.cell? ⟨b, off + i, none⟩ = some (.int .i64 z) ∧ i64 z := by
        intro i hi
        obtain ⟨h1, h2⟩ := hel i (by omega)
        obtain ⟨z, e0, _, hz⟩ := DataW.trod_int Try.underlying3 h2
        simp only [List.cons.injEq, and_true] at e0
        rw [iadd_of, e0] at h1
        exact ⟨z, h1, iwf hz⟩
      obtain ⟨f, hf⟩ := Go.Deep.choose_lt each
      have hln : ((List.range len).map f).length = len := by simp
      refine ⟨_, _, (List.range len).map f, by rw [hln]; exact hcs, ⟨Or.inr ⟨b, off, rfl, fun j hj => ?_⟩, fun _ a ha => ?_⟩, fun x hx' => ?_, ?_⟩
      · rw [hln] at hj
        rw [(hf j hj).1]
        simp [List.getD, hj]
      · cases ha
        exact cell_lt (hf 0 (by omega)).1
      · obtain ⟨j, hj, rfl⟩ := List.mem_map.1 hx'
        exact (hf j (List.mem_range.1 hj)).2
      · rw [hln]
        have hdd := congrArg Prod.fst hx
        simp only at hdd
        have hall := hw ((((List.range len).map D).length + ((List.range (m - len)).map fun j => D (len + j)).length) * 8) (by
          rw [hdd]
          simp only [DataW.weights, Try.underlying24, List.mem_cons, hby]
          exact Or.inl trivial)
        unfold reachBytes at hall
        simp at hall
        omega
variable {Z : Nat → Prop} {W : World}
theorem At.cons {g o : Nat} {op a b bi ty : Int} {ls : List Int} {bo el r : Fs} {LA B E : Option Addr} {lc bc ec : Nat}
    (c0 : W.cell? ⟨g, o, none⟩ = some (.int .i64 op)) (c1 : W.cell? ⟨g, o + 1, none⟩ = some (.int .i64 a)) (c2 : W.cell? ⟨g, o + 2, none⟩ = some (.int .i64 b)) (c3 : W.cell? ⟨g, o + 3, none⟩ = some (.int .i64 bi)) (c4 : W.cell? ⟨g, o + 4, none⟩ = some (.int .i64 ty)) (c5 : W.cell? ⟨g, o + 5, none⟩ = some (.slice LA ls.length lc)) (c6 : W.cell? ⟨g, o + 6, none⟩ = some (.slice B bo.len bc)) (c7 : W.cell? ⟨g, o + 7, none⟩ = some (.slice E el.len ec))
    (h1 : Lq Z W LA ls) (h2 : Tr Z W B bo) (h3 : Tr Z W E el) (h4 : At Z W g (o + 8) r) : At Z W g o (.cons op a b bi ty ls bo el r) := by
  obtain ⟨M, hc, hR⟩ := h4
  obtain ⟨LA', lc', B', bc', E', ec', L', hL, q1, q2, q3, q4⟩ := Rp.mk (op := op) (a := a) (b := b) (bi := bi) (ty := ty) (lc := lc) (bc := bc) (ec := ec) h1 h2 h3
  simp only [List.cons.injEq, Value.slice.injEq] at hL
  obtain ⟨_, _, _, _, _, ⟨rfl, _, rfl⟩, ⟨rfl, _, rfl⟩, ⟨rfl, _, rfl⟩, _⟩ := hL
  refine ⟨.int .i64 op :: .int .i64 a :: .int .i64 b :: .int .i64 bi :: .int .i64 ty :: .slice LA ls.length lc :: .slice B bo.len bc :: .slice E el.len ec :: M, fun j u hu => ?_, LA, lc, B, bc, E, ec, M, rfl, q1, q2, q3, hR⟩
  match j, hu with
  | 0, hu => simp at hu; subst hu; exact c0
  | 1, hu => simp at hu; subst hu; exact c1
  | 2, hu => simp at hu; subst hu; exact c2
  | 3, hu => simp at hu; subst hu; exact c3
  | 4, hu => simp at hu; subst hu; exact c4
  | 5, hu => simp at hu; subst hu; exact c5
  | 6, hu => simp at hu; subst hu; exact c6
  | 7, hu => simp at hu; subst hu; exact c7
  | j + 8, hu =>
    have := hc j u (by simpa using hu)
    rwa [show o + 8 + j = o + (j + 8) by omega] at this
/-- one instruction at a place -/
def Elt (W : World) (g o : Nat) : Prop := ∃ (op a b bi ty : Int) (ls : List Int) (bo el : Fs) (LA B E : Option Addr) (lc bc ec : Nat),
  W.cell? ⟨g, o, none⟩ = some (.int .i64 op) ∧ W.cell? ⟨g, o + 1, none⟩ = some (.int .i64 a) ∧ W.cell? ⟨g, o + 2, none⟩ = some (.int .i64 b) ∧ W.cell? ⟨g, o + 3, none⟩ = some (.int .i64 bi) ∧ W.cell? ⟨g, o + 4, none⟩ = some (.int .i64 ty) ∧ W.cell? ⟨g, o + 5, none⟩ = some (.slice LA ls.length lc) ∧ W.cell? ⟨g, o + 6, none⟩ = some (.slice B bo.len bc) ∧ W.cell? ⟨g, o + 7, none⟩ = some (.slice E el.len ec) ∧
  Lq (· < W.heap.size) W LA ls ∧ Tr (· < W.heap.size) W B bo ∧ Tr (· < W.heap.size) W E el ∧ (i64 op ∧ i64 a ∧ i64 b ∧ i64 bi ∧ i64 ty ∧ ∀ x ∈ ls, i64 x) ∧ ls.length * 8 ≤ 140737488351232 ∧ bo.len * 112 ≤ 140737488351232 ∧ el.len * 112 ≤ 140737488351232 ∧ bo.Ok ∧ el.Ok
theorem elts_at (g o n : Nat) (h : ∀ i, i < n → Elt W g (o + i * 8)) : ∀ j : Nat, j ≤ n → ∃ f : Fs, f.len = j ∧ At (· < W.heap.size) W g (o + (n - j) * 8) f ∧ f.Ok
  | 0, hj => ⟨.nil, rfl, ⟨[], fun j u hu => by simp at hu, rfl⟩, trivial⟩
  | j + 1, hj => by
    obtain ⟨f, hl, hA, hok⟩ := elts_at g o n h j (by omega)
    obtain ⟨op, a, b, bi, ty, ls, bo, el, LA, B, E, lc, bc, ec, c0, c1, c2, c3, c4, c5, c6, c7, h1, h2, h3, k1, k2, k3, k4, k5, k6⟩ := h (n - (j + 1)) (by omega)
    refine ⟨.cons op a b bi ty ls bo el f, by simp [Fs.len, hl], At.cons c0 c1 c2 c3 c4 c5 c6 c7 h1 h2 h3 ?_, k1, k2, k3, k4, k5, k6, hok⟩
    rwa [show o + (n - (j + 1)) * 8 + 8 = o + (n - j) * 8 by omega]
/-- a list of instructions as it is handed in -/
theorem view_tree {H : Type} {enc : TypeId × Value → H} {W : World} : ∀ (fuel : Nat) (u : Value) (y : DataW H × List MemPlace), DataW.trod enc Try.prog W 0 (fun _ => true) true fuel 59 [u] = some y → (∀ x ∈ y.1.weights Try.prog 59, x ≤ reachBytes) →
    ∃ A c f, u = .slice A f.len c ∧ Tr (· < W.heap.size) W A f ∧ f.Ok ∧ f.len * 112 ≤ 140737488351232 := by
  intro fuel
  induction fuel using Nat.strongRecOn with
  | ind fuel IH =>
  intro u y h hw
  have c1 : Try.prog.cellsOf 3 = 1 := by kernel_rfl
  have c2 : Try.prog.cellsOf 24 = 1 := by kernel_rfl
  have c3 : Try.prog.cellsOf 59 = 1 := by kernel_rfl
  have c8 : Try.prog.cellsOf 82 = 8 := by kernel_rfl
  have hby : Try.prog.bytesOf 82 = 112 := by kernel_rfl
  rcases DataW.trod_slice Try.underlying59 h with ⟨hcs, _⟩ | ⟨a, len, cap, elems, rest, n, hfu, hcs, hx, _, hl, hm, hlen, hel, _, _⟩
  · simp only [List.cons.injEq, and_true] at hcs
    exact ⟨none, 0, .nil, hcs, Or.inl rfl, trivial, by decide⟩
  · simp only [List.cons.injEq, and_true] at hcs
    have hdd := congrArg Prod.fst hx
    simp only at hdd
    by_cases h0 : len = 0
    · subst h0
      exact ⟨_, _, .nil, hcs, Or.inl rfl, trivial, by decide⟩
    · rw [c8] at hel
      have hown : len * 112 ≤ 140737488351232 := by
        have hall := hw (((elems.map (·.1)).length + (rest.map (·.1)).length) * 112) (by
          rw [hdd]
          simp only [DataW.weights, Try.underlying59, List.mem_cons, hby]
          exact Or.inl trivial)
        unfold reachBytes at hall
        simp only [List.length_map] at hall
        omega
      have hel2 : ∀ i, i < len → ∃ cs' y', W.cells? 0 (a.add (i * 8)) 8 = some cs' ∧ DataW.trod enc Try.prog W 0 (fun _ => true) true n 82 cs' = some y' ∧ y'.1 ∈ elems.map (·.1) := by
        intro i hi
        have h1 := hel i hi
        have hi' : i < elems.length := by omega
        rw [List.getElem?_eq_getElem hi'] at h1
        obtain ⟨cs', e1, e2⟩ := Option.bind_eq_some_iff.1 h1
        exact ⟨cs', elems[i], e1, e2, List.mem_map.2 ⟨elems[i], List.getElem_mem hi', rfl⟩⟩
      obtain ⟨b, off, spot⟩ := a
      have hspot : spot = none := by
        obtain ⟨cs', _, h1, _⟩ := hel2 0 (by omega)
        obtain ⟨_, hlen', hcell⟩ := World.cells?_some h1
        have h2 := hcell 0 (by decide)
        have h3 : 0 < cs'.length := by omega
        rw [List.getElem?_eq_getElem h3] at h2
        simpa [Addr.add] using World.cell?_spot h2
      subst hspot
      have each : ∀ i, i < len → Elt W b (off + i * 8) := by
        intro i hi
        obtain ⟨cs', y', h1, h2, hmem⟩ := hel2 i hi
        obtain ⟨_, hlen', hcell⟩ := World.cells?_some h1
        obtain ⟨xs, n', hn', hxy, _, hxl, hfl⟩ := DataW.trod_struct Try.underlying82 h2
        have hwi : ∀ x ∈ y'.1.weights Try.prog 82, x ≤ reachBytes := fun x hx' => hw x (by
          rw [hdd]
          simp only [DataW.weights, Try.underlying59, List.mem_cons, List.mem_append]
          exact Or.inr (Or.inl (iweights_mem hmem _ hx')))
        match xs, hxl, cs', hlen' with
        | [y0, y1, y2, y3, y4, y5, y6, y7], _, [u0, u1, u2, u3, u4, u5, u6, u7], _ =>
          have hD : y'.1 = .agg [y0.1, y1.1, y2.1, y3.1, y4.1, y5.1, y6.1, y7.1] := by
            have := congrArg Prod.fst hxy
            simpa using this
          have hwj : ∀ (j : Nat) (t : TypeId) (d : DataW H), [3, 3, 3, 3, 3, 24, 59, 59][j]? = some t → [y0.1, y1.1, y2.1, y3.1, y4.1, y5.1, y6.1, y7.1][j]? = some d → ∀ x ∈ d.weights Try.prog t, x ≤ reachBytes := fun j t d ht hd x hx' => hwi x (by
            rw [hD]
            simp only [DataW.weights, Try.underlying82]
            exact DataW.weights_mem_each (j := j) (t := t) (d := d) ht hd _ hx')
          have g0 := hfl 0 _ rfl
          have g1 := hfl 1 _ rfl
          have g2 := hfl 2 _ rfl
          have g3 := hfl 3 _ rfl
          have g4 := hfl 4 _ rfl
          have g5 := hfl 5 _ rfl
          have g6 := hfl 6 _ rfl
          have g7 := hfl 7 _ rfl
          simp [c1, c2, c3] at g0 g1 g2 g3 g4 g5 g6 g7
          obtain ⟨z0, e0, _, w0⟩ := DataW.trod_int Try.underlying3 g0
          obtain ⟨z1, e1, _, w1⟩ := DataW.trod_int Try.underlying3 g1
          obtain ⟨z2, e2, _, w2⟩ := DataW.trod_int Try.underlying3 g2
          obtain ⟨z3, e3, _, w3⟩ := DataW.trod_int Try.underlying3 g3
          obtain ⟨z4, e4, _, w4⟩ := DataW.trod_int Try.underlying3 g4
          simp only [List.cons.injEq, and_true] at e0 e1 e2 e3 e4
          subst e0 e1 e2 e3 e4
          obtain ⟨LA, lc, ls, rfl, q1, q2, q3⟩ := view_labels g5 (hwj 5 _ _ rfl rfl)
          obtain ⟨B, bc, bo, rfl, t1, t2, t3⟩ := IH n' (by omega) u6 y6 g6 (hwj 6 _ _ rfl rfl)
          obtain ⟨E, ec, el, rfl, v1, v2, v3⟩ := IH n' (by omega) u7 y7 g7 (hwj 7 _ _ rfl rfl)
          have k0 := hcell 0 (by decide)
          have k1 := hcell 1 (by decide)
          have k2 := hcell 2 (by decide)
          have k3 := hcell 3 (by decide)
          have k4 := hcell 4 (by decide)
          have k5 := hcell 5 (by decide)
          have k6 := hcell 6 (by decide)
          have k7 := hcell 7 (by decide)
          rw [iadd_of, iadd_of] at k0 k1 k2 k3 k4 k5 k6 k7
          exact ⟨z0, z1, z2, z3, z4, ls, bo, el, LA, B, E, lc, bc, ec, k0, k1, k2, k3, k4, k5, k6, k7, q1, t1, v1, ⟨iwf w0, iwf w1, iwf w2, iwf w3, iwf w4, q2⟩, q3, t3, v3, t2, v2⟩
      obtain ⟨f, hfl, hA, hok⟩ := elts_at b off len each len (Nat.le_refl _)
      rw [Nat.sub_self, Nat.zero_mul, Nat.add_zero] at hA
      refine ⟨_, _, f, by rw [hfl]; exact hcs, ?_, hok, by rw [hfl]; exact hown⟩
      by_cases hf0 : f = .nil
      · exact Or.inl hf0
      · refine Or.inr ⟨b, off, rfl, ?_, hA⟩
        obtain ⟨op, _, _, _, _, _, _, _, _, _, _, _, _, _, k0, _⟩ := each 0 (by omega)
        exact cell_lt k0
theorem view_trees {H : Type} {enc : TypeId × Value → H} {W : World} {A : Option Addr} {n cap : Nat} {d : DataW H} {ps : List MemPlace} (h : DataW.Trod enc Try.prog W 0 (fun _ => true) true 59 (.slice A n cap) d ps) (hw : ∀ x ∈ d.weights Try.prog 59, x ≤ reachBytes) :
    ∃ f : Fs, n = f.len ∧ Tr (· < W.heap.size) W A f ∧ f.Ok ∧ n * 112 ≤ 140737488351232 := by
  obtain ⟨fuel, hf⟩ := h
  obtain ⟨A', c', f, e, h1, h2, h3⟩ := view_tree fuel (.slice A n cap) (d, ps) hf hw
  simp only [Value.slice.injEq] at e
  obtain ⟨rfl, rfl, rfl⟩ := e
  exact ⟨f, rfl, h1, h2, h3⟩
end Go.Proofs.Ytonnmbmdmkmhmaa


/- A frame's end: nothing that was there has changed; what is new may be of whatever kind, marked rows too. -/
namespace Go.Proofs.Ytonnmbmdmkmhmaa
open Go.ChangeShapes Go.WideShapes Go.RowKit
theorem post_kept {H : Type} {enc : TypeId × Value → H} {P : Program} {f : Func} {s : ChangeSpec} {apart fresh handsOn again : Bool} {W W' : World} {args : Array Value} {v : Value} {ds gs : List (DataW H)} {before pa pv : List MemPlace}
    (hW : DataW.Whole enc P f.params.toList s.vars apart W args.toList ds gs before)
    (hres : ∀ (b : Nat) (sp : Nat → Bool) (hd : Bool), DataW.TrodAll enc P W' b sp hd f.resultTypes.toList (v.resultList f.resultTypes.size) (s.fn H (ds ++ gs)).results [])
    (hargs : ∀ sp : Nat → Bool, (∀ p ∈ before, sp p.block = true) → DataW.TrodAll enc P W' 0 sp true f.params.toList args.toList (s.fn H (ds ++ gs)).args pa)
    (hvars : ∀ sp : Nat → Bool, (∀ p ∈ before, sp p.block = true) → DataW.TrodVars enc P W' sp s.vars (s.fn H (ds ++ gs)).vars pv)
    (hps : before = pa ++ pv) (hk : W.keptBut W' (· ∈ before)) (hbl : ∀ k, k < W.heap.size → W'.heap[k]? = W.heap[k]?)
    (hok : ∀ (j : Nat) (t : TypeId) (r : Value), f.resultTypes[j]? = some t → (v.resultList f.resultTypes.size)[j]? = some r → Value.okWide P W' .any 0 t r) :
    s.post enc P f apart fresh handsOn again W args v W' := by
  have hold : ∀ p ∈ before, (fun b => decide (b < W.heap.size)) p.block = true := fun p hp => by simpa using hW.lt p hp
  have hlt := hW.lt
  refine ⟨ds, gs, before, [], pa, pv, hW, hres _ _ _, hargs _ hold, hvars _ hold, World.keptBut_mono (fun p hp => ⟨hp, ?_⟩) hk, fun _ => ?_⟩
  · rw [hps, List.mem_append] at hp
    exact Or.inr hp
  · obtain ⟨_, _, _, _, _, hz, hn⟩ := hW
    refine ⟨hok, _, _, ([] ++ pa) ++ pv, ⟨[] ++ pa, pv, ChangeShapes.trodAll_append (hargs _ (fun _ _ => rfl)) (hres _ _ _), hvars _ (fun _ _ => rfl), rfl, ?_, ?_⟩, ?_⟩
    · intro b off hp
      have hp2 := hp
      rw [List.nil_append, ← hps] at hp2
      have hb : b < W.heap.size := hlt _ hp2
      have := World.frozen?_of_block (w := W) (w' := W') (a := ⟨b, off, none⟩) (hbl b hb)
      rw [this]
      exact hz b off hp2
    · intro ha
      have := hn ha
      rw [hps] at this
      simpa using this
    · intro p hp _
      rw [hps]
      simpa using hp
end Go.Proofs.Ytonnmbmdmkmhmaa

