/- A module as it is handed in: what the datum says of the memory. -/
import Derived.Test.YtonnmbmdmkmhmaaEA
import Derived.Test.YtonnmbmdmkmhmaaXQ
set_option linter.unusedVariables false
set_option linter.unusedSimpArgs false
set_option maxRecDepth 100000
set_option maxHeartbeats 4000000
namespace Go.Proofs.Ytonnmbmdmkmhmaa
open Go.ChangeShapes Go.WideShapes Go.ChangeAt Go.RowKit
/-- numbers that may be handed in -/
def vI (ls : List Int) : Prop := (∀ x ∈ ls, i64 x) ∧ ls.length * 8 ≤ 140737488351232
section
variable {H : Type} (enc : TypeId × Value → H) (W : World)
/-- what is known of the cells of a type -/
def ViewS (t : TypeId) (Q : List Value → Prop) : Prop := ∀ (fuel : Nat) (cs : List Value) (y : DataW H × List MemPlace), DataW.trod enc Try.prog W 0 (fun _ => true) true fuel t cs = some y → (∀ x ∈ y.1.weights Try.prog t, x ≤ reachBytes) → Q cs
theorem view_int : ViewS enc W 3 (fun cs => ∃ z : Int, cs = [.int .i64 z] ∧ i64 z) := fun fuel cs y h _ => by
  obtain ⟨z, e, _, hz⟩ := DataW.trod_int Try.underlying3 h
  exact ⟨z, e, iwf hz⟩
theorem view_bool : ViewS enc W 4 (fun cs => ∃ z : Bool, cs = [.bool z]) := fun fuel cs y h _ => by
  obtain ⟨z, e, _⟩ := DataW.trod_bool Try.underlying4 h
  exact ⟨z, e⟩
theorem view_str : ViewS enc W 9 (fun cs => ∃ z : ByteArray, cs = [.string z] ∧ z.size ≤ 140737488351232) := fun fuel cs y h hw => by
  obtain ⟨z, e, hy, _⟩ := DataW.trod_string Try.underlying9 h
  refine ⟨z, e, ?_⟩
  have := hw z.data.toList.length (by rw [hy]; simp [DataW.weights])
  unfold reachBytes at this
  simpa using this
theorem view_ints : ViewS enc W 24 (fun cs => ∃ v ls, cs = [v] ∧ fdc (· < W.heap.size) W (fL ls) v ∧ vI ls) := fun fuel cs y h hw => by
  have c1 : Try.prog.cellsOf 24 = 1 := by kernel_rfl
  have : ∃ u, cs = [u] := by
    rcases DataW.trod_slice Try.underlying24 h with ⟨hcs, _⟩ | ⟨a, len, cap, elems, rest, n, hfu, hcs, _⟩
    · exact ⟨_, hcs⟩
    · exact ⟨_, hcs⟩
  obtain ⟨u, rfl⟩ := this
  obtain ⟨S, c, ls, rfl, h1, h2, h3⟩ := view_labels h hw
  exact ⟨_, ls, rfl, ⟨S, c, rfl, h1⟩, h2, h3⟩
theorem view_ins : ViewS enc W 59 (fun cs => ∃ v f, cs = [v] ∧ fdc (· < W.heap.size) W (fI f) v ∧ Fok f) := fun fuel cs y h hw => by
  have : ∃ u, cs = [u] := by
    rcases DataW.trod_slice Try.underlying59 h with ⟨hcs, _⟩ | ⟨a, len, cap, elems, rest, n, hfu, hcs, _⟩
    · exact ⟨_, hcs⟩
    · exact ⟨_, hcs⟩
  obtain ⟨u, rfl⟩ := this
  obtain ⟨A, c, f, rfl, h1, h2, h3⟩ := view_tree fuel u y h hw
  exact ⟨_, f, rfl, ⟨A, c, rfl, h1⟩, h2, h3⟩
theorem rows_at {α : Type} (f : α → List Fd) {P : α → Prop} {k : Nat} (hf : ∀ x, (f x).length = k) (b off len : Nat)
    (each : ∀ i, i < len → ∃ c x, (∀ (j : Nat) (u : Value), c[j]? = some u → W.cell? ⟨b, off + i * k + j, none⟩ = some u) ∧ itc (· < W.heap.size) W (f x) c ∧ P x) :
    ∀ j, j ≤ len → ∃ (xs : List α) (L : List Value), xs.length = j ∧ (∀ (t : Nat) (u : Value), L[t]? = some u → W.cell? ⟨b, off + (len - j) * k + t, none⟩ = some u) ∧ itc (· < W.heap.size) W (xs.flatMap f) L ∧ ∀ x ∈ xs, P x
  | 0, _ => ⟨[], [], rfl, fun t u hu => by simp at hu, rfl, by simp⟩
  | j + 1, hj => by
    obtain ⟨xs, L, h1, h2, h3, h4⟩ := rows_at f hf b off len each j (by omega)
    obtain ⟨c, x, e1, e2, e3⟩ := each (len - (j + 1)) (by omega)
    have hc : c.length = k := by rw [e2.length, hf]
    refine ⟨x :: xs, c ++ L, by simp [h1], fun t u hu => ?_, ?_, fun z hz => ?_⟩
    · rcases Nat.lt_or_ge t k with ht | ht
      · rw [List.getElem?_append_left (by omega)] at hu
        exact e1 t u hu
      · rw [List.getElem?_append_right (by omega)] at hu
        have := h2 _ u hu
        have he : off + (len - j) * k + (t - c.length) = off + (len - (j + 1)) * k + t := by
          rw [show len - j = len - (j + 1) + 1 by omega, Nat.add_mul, hc]
          omega
        rwa [he] at this
    · rw [List.flatMap_cons]
      exact itc.app e2 h3
    · rcases List.mem_cons.1 hz with rfl | hz
      · exact e3
      · exact h4 z hz
/-- a row of structs as it is handed in -/
theorem view_rows {α : Type} (f : α → List Fd) {P : α → Prop} {e t : TypeId} {k by_ : Nat} (ht : Try.prog.underlying t = some (.slice e)) (hk : Try.prog.cellsOf e = k) (h0 : 0 < k) (hf : ∀ x, (f x).length = k) (hb : Try.prog.bytesOf e = by_)
    (hS : ViewS enc W e (fun cs => ∃ x, itc (· < W.heap.size) W (f x) cs ∧ P x)) :
    ViewS enc W t (fun cs => ∃ v xs, cs = [v] ∧ Fc f (· < W.heap.size) W xs v ∧ (∀ x ∈ xs, P x) ∧ xs.length * by_ ≤ 140737488351232) := by
  intro fuel cs y h hw
  rcases DataW.trod_slice ht h with ⟨hcs, _⟩ | ⟨a, len, cap, elems, rest, n, hfu, hcs, hx, _, hl, hm, hlen, hel, _, _⟩
  · exact ⟨_, [], hcs, Fc.nil, by simp, by simp⟩
  · have hdd := congrArg Prod.fst hx
    simp only at hdd
    by_cases hl0 : len = 0
    · subst hl0
      exact ⟨_, [], hcs, ⟨_, _, rfl, Or.inl rfl⟩, by simp, by simp⟩
    · rw [hk] at hel
      have hown : len * by_ ≤ 140737488351232 := by
        have hall := hw (((elems.map (·.1)).length + (rest.map (·.1)).length) * by_) (by
          rw [hdd]
          simp only [DataW.weights, ht, List.mem_cons, hb]
          exact Or.inl trivial)
        unfold reachBytes at hall
        simp only [List.length_map] at hall
        rw [hlen] at hall
        exact Nat.le_trans (Nat.mul_le_mul_right _ (Nat.le_add_right _ _)) hall
      have hel2 : ∀ i, i < len → ∃ cs' y', W.cells? 0 (a.add (i * k)) k = some cs' ∧ DataW.trod enc Try.prog W 0 (fun _ => true) true n e cs' = some y' ∧ y'.1 ∈ elems.map (·.1) := by
        intro i hi
        have h1 := hel i hi
        have hi' : i < elems.length := by omega
        rw [List.getElem?_eq_getElem hi'] at h1
        obtain ⟨cs', e1, e2⟩ := Option.bind_eq_some_iff.1 h1
        exact ⟨cs', elems[i], e1, e2, List.mem_map.2 ⟨elems[i], List.getElem_mem hi', rfl⟩⟩
      obtain ⟨b, off, spot⟩ := a
      have hspot : spot = none := by
        obtain ⟨cs', _, h1, _⟩ := hel2 0 (by omega)
        obtain ⟨_, hlen', hcell⟩ := World.cells?_some h1
        have h2 := hcell 0 h0
        have h3 : 0 < cs'.length := by omega
        rw [List.getElem?_eq_getElem h3] at h2
        simpa [Addr.add] using World.cell?_spot h2
      subst hspot
      have each : ∀ i, i < len → ∃ c x, (∀ (j : Nat) (u : Value), c[j]? = some u → W.cell? ⟨b, off + i * k + j, none⟩ = some u) ∧ itc (· < W.heap.size) W (f x) c ∧ P x := by
        intro i hi
        obtain ⟨cs', y', h1, h2, hmem⟩ := hel2 i hi
        obtain ⟨_, hlen', hcell⟩ := World.cells?_some h1
        obtain ⟨x, i1, i2⟩ := hS n cs' y' h2 (fun x hx' => hw x (by
          rw [hdd]
          simp only [DataW.weights, ht, List.mem_cons, List.mem_append]
          exact Or.inr (Or.inl (iweights_mem hmem _ hx'))))
        refine ⟨cs', x, fun j u hu => ?_, i1, i2⟩
        have hj : j < k := by
          have := (List.getElem?_eq_some_iff.1 hu).1
          omega
        have := hcell j hj
        rw [iadd_of, iadd_of, hu] at this
        exact this
      obtain ⟨xs, L, hxl, hc, hi, hP⟩ := rows_at W f hf b off len each len (Nat.le_refl _)
      rw [Nat.sub_self, Nat.zero_mul, Nat.add_zero] at hc
      refine ⟨_, xs, hcs, ⟨_, _, by rw [hxl], Or.inr ⟨b, off, L, rfl, ?_, hc, hi⟩⟩, hP, by rw [hxl]; exact hown⟩
      obtain ⟨c, x, k0, i1, _⟩ := each 0 (by omega)
      have hc0 : 0 < c.length := by rw [i1.length, hf]; exact h0
      exact cell_lt (k0 0 _ (List.getElem?_eq_getElem hc0))

theorem view_fty : ViewS enc W 34 (fun cs => ∃ x, itc (· < W.heap.size) W (fTy x) cs ∧ (vI x.1 ∧ vI x.2)) := by
  intro fuel cs y h hw
  have c0 : Try.prog.cellsOf 3 = 1 := by kernel_rfl
  have c1 : Try.prog.cellsOf 4 = 1 := by kernel_rfl
  have c2 : Try.prog.cellsOf 9 = 1 := by kernel_rfl
  have c3 : Try.prog.cellsOf 24 = 1 := by kernel_rfl
  have c4 : Try.prog.cellsOf 59 = 1 := by kernel_rfl
  obtain ⟨xs, n, hn, hxy, hlen, hxl, hfl⟩ := DataW.trod_struct Try.underlying34 h
  have hlen : cs.length = 2 := hlen.trans (by kernel_rfl)
  match xs, hxl, cs, hlen with
  | [y0, y1], _, [u0, u1], _ =>
    have hD : y.1 = .agg [y0.1, y1.1] := by
      have := congrArg Prod.fst hxy
      simpa using this
    have hwj : ∀ (j : Nat) (t : TypeId) (d : DataW H), ([24, 24] : List TypeId)[j]? = some t → [y0.1, y1.1][j]? = some d → ∀ x ∈ d.weights Try.prog t, x ≤ reachBytes := fun j t d ht hd x hx' => hw x (by
      rw [hD]
      simp only [DataW.weights, Try.underlying34]
      exact DataW.weights_mem_each (j := j) (t := t) (d := d) ht hd _ hx')
    have g0 := hfl 0 _ rfl
    have g1 := hfl 1 _ rfl
    simp [c0, c1, c2, c3, c4] at g0 g1
    obtain ⟨v0, z0, e0, p0, q0⟩ := view_ints enc W _ _ _ g0 (hwj 0 _ _ rfl rfl)
    simp only [List.cons.injEq, and_true] at e0
    subst e0
    obtain ⟨v1, z1, e1, p1, q1⟩ := view_ints enc W _ _ _ g1 (hwj 1 _ _ rfl rfl)
    simp only [List.cons.injEq, and_true] at e1
    subst e1
    exact ⟨(z0, z1), ⟨_, _, rfl, p0, ⟨_, _, rfl, p1, rfl⟩⟩, q0, q1⟩

theorem view_lim : ViewS enc W 56 (fun cs => ∃ x, itc (· < W.heap.size) W (fLi x) cs ∧ (i64 x.1 ∧ i64 x.2)) := by
  intro fuel cs y h hw
  have c0 : Try.prog.cellsOf 3 = 1 := by kernel_rfl
  have c1 : Try.prog.cellsOf 4 = 1 := by kernel_rfl
  have c2 : Try.prog.cellsOf 9 = 1 := by kernel_rfl
  have c3 : Try.prog.cellsOf 24 = 1 := by kernel_rfl
  have c4 : Try.prog.cellsOf 59 = 1 := by kernel_rfl
  obtain ⟨xs, n, hn, hxy, hlen, hxl, hfl⟩ := DataW.trod_struct Try.underlying56 h
  have hlen : cs.length = 2 := hlen.trans (by kernel_rfl)
  match xs, hxl, cs, hlen with
  | [y0, y1], _, [u0, u1], _ =>
    have hD : y.1 = .agg [y0.1, y1.1] := by
      have := congrArg Prod.fst hxy
      simpa using this
    have hwj : ∀ (j : Nat) (t : TypeId) (d : DataW H), ([3, 3] : List TypeId)[j]? = some t → [y0.1, y1.1][j]? = some d → ∀ x ∈ d.weights Try.prog t, x ≤ reachBytes := fun j t d ht hd x hx' => hw x (by
      rw [hD]
      simp only [DataW.weights, Try.underlying56]
      exact DataW.weights_mem_each (j := j) (t := t) (d := d) ht hd _ hx')
    have g0 := hfl 0 _ rfl
    have g1 := hfl 1 _ rfl
    simp [c0, c1, c2, c3, c4] at g0 g1
    obtain ⟨z0, e0, q0⟩ := view_int enc W _ _ _ g0 (hwj 0 _ _ rfl rfl)
    simp only [List.cons.injEq, and_true] at e0
    subst e0
    obtain ⟨z1, e1, q1⟩ := view_int enc W _ _ _ g1 (hwj 1 _ _ rfl rfl)
    simp only [List.cons.injEq, and_true] at e1
    subst e1
    exact ⟨(z0, z1), ⟨_, _, rfl, rfl, ⟨_, _, rfl, rfl, rfl⟩⟩, q0, q1⟩

theorem view_imp : ViewS enc W 58 (fun cs => ∃ x, itc (· < W.heap.size) W (fIm x) cs ∧ (x.1.size ≤ 140737488351232 ∧ x.2.1.size ≤ 140737488351232 ∧ i64 x.2.2.1 ∧ i64 x.2.2.2.1 ∧ i64 x.2.2.2.2.2.1 ∧ i64 x.2.2.2.2.2.2)) := by
  intro fuel cs y h hw
  have c0 : Try.prog.cellsOf 3 = 1 := by kernel_rfl
  have c1 : Try.prog.cellsOf 4 = 1 := by kernel_rfl
  have c2 : Try.prog.cellsOf 9 = 1 := by kernel_rfl
  have c3 : Try.prog.cellsOf 56 = 2 := by kernel_rfl
  obtain ⟨xs, n, hn, hxy, hlen, hxl, hfl⟩ := DataW.trod_struct Try.underlying58 h
  have hlen : cs.length = 7 := hlen.trans (by kernel_rfl)
  match xs, hxl, cs, hlen with
  | [y0, y1, y2, y3, y4, y5], _, [u0, u1, u2, u3, u4, u5, u6], _ =>
    have hD : y.1 = .agg [y0.1, y1.1, y2.1, y3.1, y4.1, y5.1] := by
      have := congrArg Prod.fst hxy
      simpa using this
    have hwj : ∀ (j : Nat) (t : TypeId) (d : DataW H), ([9, 9, 3, 3, 4, 56] : List TypeId)[j]? = some t → [y0.1, y1.1, y2.1, y3.1, y4.1, y5.1][j]? = some d → ∀ x ∈ d.weights Try.prog t, x ≤ reachBytes := fun j t d ht hd x hx' => hw x (by
      rw [hD]
      simp only [DataW.weights, Try.underlying58]
      exact DataW.weights_mem_each (j := j) (t := t) (d := d) ht hd _ hx')
    have g0 := hfl 0 _ rfl
    have g1 := hfl 1 _ rfl
    have g2 := hfl 2 _ rfl
    have g3 := hfl 3 _ rfl
    have g4 := hfl 4 _ rfl
    have g5 := hfl 5 _ rfl
    simp [c0, c1, c2, c3] at g0 g1 g2 g3 g4 g5
    obtain ⟨z0, e0, q0⟩ := view_str enc W _ _ _ g0 (hwj 0 _ _ rfl rfl)
    obtain ⟨z1, e1, q1⟩ := view_str enc W _ _ _ g1 (hwj 1 _ _ rfl rfl)
    obtain ⟨z2, e2, q2⟩ := view_int enc W _ _ _ g2 (hwj 2 _ _ rfl rfl)
    obtain ⟨z3, e3, q3⟩ := view_int enc W _ _ _ g3 (hwj 3 _ _ rfl rfl)
    obtain ⟨z4, e4⟩ := view_bool enc W _ _ _ g4 (hwj 4 _ _ rfl rfl)
    obtain ⟨⟨z5, z6⟩, e5, q5, q6⟩ := view_lim enc W _ _ _ g5 (hwj 5 _ _ rfl rfl)
    simp only [List.cons.injEq, and_true] at e0 e1 e2 e3 e4
    subst e0 e1 e2 e3 e4
    exact ⟨(z0, z1, z2, z3, z4, z5, z6), ⟨_, _, rfl, rfl, _, _, rfl, rfl, _, _, rfl, rfl, _, _, rfl, rfl, _, _, rfl, rfl, e5⟩, q0, q1, q2, q3, q5, q6⟩

theorem view_glo : ViewS enc W 61 (fun cs => ∃ x, itc (· < W.heap.size) W (fGl x) cs ∧ (i64 x.1 ∧ Fok x.2.2)) := by
  intro fuel cs y h hw
  have c0 : Try.prog.cellsOf 3 = 1 := by kernel_rfl
  have c1 : Try.prog.cellsOf 4 = 1 := by kernel_rfl
  have c2 : Try.prog.cellsOf 9 = 1 := by kernel_rfl
  have c3 : Try.prog.cellsOf 24 = 1 := by kernel_rfl
  have c4 : Try.prog.cellsOf 59 = 1 := by kernel_rfl
  obtain ⟨xs, n, hn, hxy, hlen, hxl, hfl⟩ := DataW.trod_struct Try.underlying61 h
  have hlen : cs.length = 3 := hlen.trans (by kernel_rfl)
  match xs, hxl, cs, hlen with
  | [y0, y1, y2], _, [u0, u1, u2], _ =>
    have hD : y.1 = .agg [y0.1, y1.1, y2.1] := by
      have := congrArg Prod.fst hxy
      simpa using this
    have hwj : ∀ (j : Nat) (t : TypeId) (d : DataW H), ([3, 4, 59] : List TypeId)[j]? = some t → [y0.1, y1.1, y2.1][j]? = some d → ∀ x ∈ d.weights Try.prog t, x ≤ reachBytes := fun j t d ht hd x hx' => hw x (by
      rw [hD]
      simp only [DataW.weights, Try.underlying61]
      exact DataW.weights_mem_each (j := j) (t := t) (d := d) ht hd _ hx')
    have g0 := hfl 0 _ rfl
    have g1 := hfl 1 _ rfl
    have g2 := hfl 2 _ rfl
    simp [c0, c1, c2, c3, c4] at g0 g1 g2
    obtain ⟨z0, e0, q0⟩ := view_int enc W _ _ _ g0 (hwj 0 _ _ rfl rfl)
    simp only [List.cons.injEq, and_true] at e0
    subst e0
    obtain ⟨z1, e1⟩ := view_bool enc W _ _ _ g1 (hwj 1 _ _ rfl rfl)
    simp only [List.cons.injEq, and_true] at e1
    subst e1
    obtain ⟨v2, z2, e2, p2, q2⟩ := view_ins enc W _ _ _ g2 (hwj 2 _ _ rfl rfl)
    simp only [List.cons.injEq, and_true] at e2
    subst e2
    exact ⟨(z0, z1, z2), ⟨_, _, rfl, rfl, ⟨_, _, rfl, rfl, ⟨_, _, rfl, p2, rfl⟩⟩⟩, q0, q2⟩

theorem view_exp : ViewS enc W 78 (fun cs => ∃ x, itc (· < W.heap.size) W (fEx x) cs ∧ (x.1.size ≤ 140737488351232 ∧ i64 x.2.1 ∧ i64 x.2.2)) := by
  intro fuel cs y h hw
  have c0 : Try.prog.cellsOf 3 = 1 := by kernel_rfl
  have c1 : Try.prog.cellsOf 4 = 1 := by kernel_rfl
  have c2 : Try.prog.cellsOf 9 = 1 := by kernel_rfl
  have c3 : Try.prog.cellsOf 24 = 1 := by kernel_rfl
  have c4 : Try.prog.cellsOf 59 = 1 := by kernel_rfl
  obtain ⟨xs, n, hn, hxy, hlen, hxl, hfl⟩ := DataW.trod_struct Try.underlying78 h
  have hlen : cs.length = 3 := hlen.trans (by kernel_rfl)
  match xs, hxl, cs, hlen with
  | [y0, y1, y2], _, [u0, u1, u2], _ =>
    have hD : y.1 = .agg [y0.1, y1.1, y2.1] := by
      have := congrArg Prod.fst hxy
      simpa using this
    have hwj : ∀ (j : Nat) (t : TypeId) (d : DataW H), ([9, 3, 3] : List TypeId)[j]? = some t → [y0.1, y1.1, y2.1][j]? = some d → ∀ x ∈ d.weights Try.prog t, x ≤ reachBytes := fun j t d ht hd x hx' => hw x (by
      rw [hD]
      simp only [DataW.weights, Try.underlying78]
      exact DataW.weights_mem_each (j := j) (t := t) (d := d) ht hd _ hx')
    have g0 := hfl 0 _ rfl
    have g1 := hfl 1 _ rfl
    have g2 := hfl 2 _ rfl
    simp [c0, c1, c2, c3, c4] at g0 g1 g2
    obtain ⟨z0, e0, q0⟩ := view_str enc W _ _ _ g0 (hwj 0 _ _ rfl rfl)
    simp only [List.cons.injEq, and_true] at e0
    subst e0
    obtain ⟨z1, e1, q1⟩ := view_int enc W _ _ _ g1 (hwj 1 _ _ rfl rfl)
    simp only [List.cons.injEq, and_true] at e1
    subst e1
    obtain ⟨z2, e2, q2⟩ := view_int enc W _ _ _ g2 (hwj 2 _ _ rfl rfl)
    simp only [List.cons.injEq, and_true] at e2
    subst e2
    exact ⟨(z0, z1, z2), ⟨_, _, rfl, rfl, ⟨_, _, rfl, rfl, ⟨_, _, rfl, rfl, rfl⟩⟩⟩, q0, q1, q2⟩

theorem view_elm : ViewS enc W 65 (fun cs => ∃ x, itc (· < W.heap.size) W (fEl x) cs ∧ (Fok x.1 ∧ vI x.2)) := by
  intro fuel cs y h hw
  have c0 : Try.prog.cellsOf 3 = 1 := by kernel_rfl
  have c1 : Try.prog.cellsOf 4 = 1 := by kernel_rfl
  have c2 : Try.prog.cellsOf 9 = 1 := by kernel_rfl
  have c3 : Try.prog.cellsOf 24 = 1 := by kernel_rfl
  have c4 : Try.prog.cellsOf 59 = 1 := by kernel_rfl
  obtain ⟨xs, n, hn, hxy, hlen, hxl, hfl⟩ := DataW.trod_struct Try.underlying65 h
  have hlen : cs.length = 2 := hlen.trans (by kernel_rfl)
  match xs, hxl, cs, hlen with
  | [y0, y1], _, [u0, u1], _ =>
    have hD : y.1 = .agg [y0.1, y1.1] := by
      have := congrArg Prod.fst hxy
      simpa using this
    have hwj : ∀ (j : Nat) (t : TypeId) (d : DataW H), ([59, 24] : List TypeId)[j]? = some t → [y0.1, y1.1][j]? = some d → ∀ x ∈ d.weights Try.prog t, x ≤ reachBytes := fun j t d ht hd x hx' => hw x (by
      rw [hD]
      simp only [DataW.weights, Try.underlying65]
      exact DataW.weights_mem_each (j := j) (t := t) (d := d) ht hd _ hx')
    have g0 := hfl 0 _ rfl
    have g1 := hfl 1 _ rfl
    simp [c0, c1, c2, c3, c4] at g0 g1
    obtain ⟨v0, z0, e0, p0, q0⟩ := view_ins enc W _ _ _ g0 (hwj 0 _ _ rfl rfl)
    simp only [List.cons.injEq, and_true] at e0
    subst e0
    obtain ⟨v1, z1, e1, p1, q1⟩ := view_ints enc W _ _ _ g1 (hwj 1 _ _ rfl rfl)
    simp only [List.cons.injEq, and_true] at e1
    subst e1
    exact ⟨(z0, z1), ⟨_, _, rfl, p0, ⟨_, _, rfl, p1, rfl⟩⟩, q0, q1⟩

theorem view_cod : ViewS enc W 67 (fun cs => ∃ x, itc (· < W.heap.size) W (fCo x) cs ∧ (vI x.1 ∧ Fok x.2)) := by
  intro fuel cs y h hw
  have c0 : Try.prog.cellsOf 3 = 1 := by kernel_rfl
  have c1 : Try.prog.cellsOf 4 = 1 := by kernel_rfl
  have c2 : Try.prog.cellsOf 9 = 1 := by kernel_rfl
  have c3 : Try.prog.cellsOf 24 = 1 := by kernel_rfl
  have c4 : Try.prog.cellsOf 59 = 1 := by kernel_rfl
  obtain ⟨xs, n, hn, hxy, hlen, hxl, hfl⟩ := DataW.trod_struct Try.underlying67 h
  have hlen : cs.length = 2 := hlen.trans (by kernel_rfl)
  match xs, hxl, cs, hlen with
  | [y0, y1], _, [u0, u1], _ =>
    have hD : y.1 = .agg [y0.1, y1.1] := by
      have := congrArg Prod.fst hxy
      simpa using this
    have hwj : ∀ (j : Nat) (t : TypeId) (d : DataW H), ([24, 59] : List TypeId)[j]? = some t → [y0.1, y1.1][j]? = some d → ∀ x ∈ d.weights Try.prog t, x ≤ reachBytes := fun j t d ht hd x hx' => hw x (by
      rw [hD]
      simp only [DataW.weights, Try.underlying67]
      exact DataW.weights_mem_each (j := j) (t := t) (d := d) ht hd _ hx')
    have g0 := hfl 0 _ rfl
    have g1 := hfl 1 _ rfl
    simp [c0, c1, c2, c3, c4] at g0 g1
    obtain ⟨v0, z0, e0, p0, q0⟩ := view_ints enc W _ _ _ g0 (hwj 0 _ _ rfl rfl)
    simp only [List.cons.injEq, and_true] at e0
    subst e0
    obtain ⟨v1, z1, e1, p1, q1⟩ := view_ins enc W _ _ _ g1 (hwj 1 _ _ rfl rfl)
    simp only [List.cons.injEq, and_true] at e1
    subst e1
    exact ⟨(z0, z1), ⟨_, _, rfl, p0, ⟨_, _, rfl, p1, rfl⟩⟩, q0, q1⟩

theorem view_dat : ViewS enc W 69 (fun cs => ∃ x, itc (· < W.heap.size) W (fDa x) cs ∧ (Fok x.1 ∧ x.2.size ≤ 140737488351232)) := by
  intro fuel cs y h hw
  have c0 : Try.prog.cellsOf 3 = 1 := by kernel_rfl
  have c1 : Try.prog.cellsOf 4 = 1 := by kernel_rfl
  have c2 : Try.prog.cellsOf 9 = 1 := by kernel_rfl
  have c3 : Try.prog.cellsOf 24 = 1 := by kernel_rfl
  have c4 : Try.prog.cellsOf 59 = 1 := by kernel_rfl
  obtain ⟨xs, n, hn, hxy, hlen, hxl, hfl⟩ := DataW.trod_struct Try.underlying69 h
  have hlen : cs.length = 2 := hlen.trans (by kernel_rfl)
  match xs, hxl, cs, hlen with
  | [y0, y1], _, [u0, u1], _ =>
    have hD : y.1 = .agg [y0.1, y1.1] := by
      have := congrArg Prod.fst hxy
      simpa using this
    have hwj : ∀ (j : Nat) (t : TypeId) (d : DataW H), ([59, 9] : List TypeId)[j]? = some t → [y0.1, y1.1][j]? = some d → ∀ x ∈ d.weights Try.prog t, x ≤ reachBytes := fun j t d ht hd x hx' => hw x (by
      rw [hD]
      simp only [DataW.weights, Try.underlying69]
      exact DataW.weights_mem_each (j := j) (t := t) (d := d) ht hd _ hx')
    have g0 := hfl 0 _ rfl
    have g1 := hfl 1 _ rfl
    simp [c0, c1, c2, c3, c4] at g0 g1
    obtain ⟨v0, z0, e0, p0, q0⟩ := view_ins enc W _ _ _ g0 (hwj 0 _ _ rfl rfl)
    simp only [List.cons.injEq, and_true] at e0
    subst e0
    obtain ⟨z1, e1, q1⟩ := view_str enc W _ _ _ g1 (hwj 1 _ _ rfl rfl)
    simp only [List.cons.injEq, and_true] at e1
    subst e1
    exact ⟨(z0, z1), ⟨_, _, rfl, p0, ⟨_, _, rfl, rfl, rfl⟩⟩, q0, q1⟩

theorem view_num : ViewS enc W 3 (fun cs => ∃ x, itc (· < W.heap.size) W (f1 x) cs ∧ i64 x) := fun fuel cs y h hw => by
  obtain ⟨z, rfl, hz⟩ := view_int enc W fuel cs y h hw
  exact ⟨z, ⟨_, _, rfl, rfl, rfl⟩, hz⟩
end
/-- what is known of a module that is handed in -/
structure MdV (m : Md) : Prop where
  ty : (∀ x ∈ m.ty, vI x.1 ∧ vI x.2) ∧ m.ty.length * 48 ≤ 140737488351232
  im : (∀ x ∈ m.im, x.1.size ≤ 140737488351232 ∧ x.2.1.size ≤ 140737488351232 ∧ i64 x.2.2.1 ∧ i64 x.2.2.2.1 ∧ i64 x.2.2.2.2.2.1 ∧ i64 x.2.2.2.2.2.2) ∧ m.im.length * 72 ≤ 140737488351232
  fu : (∀ x ∈ m.fu, i64 x) ∧ m.fu.length * 8 ≤ 140737488351232
  ta : (∀ x ∈ m.ta, i64 x.1 ∧ i64 x.2) ∧ m.ta.length * 16 ≤ 140737488351232
  me : (∀ x ∈ m.me, i64 x.1 ∧ i64 x.2) ∧ m.me.length * 16 ≤ 140737488351232
  gl : (∀ x ∈ m.gl, i64 x.1 ∧ Fok x.2.2) ∧ m.gl.length * 40 ≤ 140737488351232
  ex : (∀ x ∈ m.ex, x.1.size ≤ 140737488351232 ∧ i64 x.2.1 ∧ i64 x.2.2) ∧ m.ex.length * 32 ≤ 140737488351232
  st : i64 m.st
  el : (∀ x ∈ m.el, Fok x.1 ∧ vI x.2) ∧ m.el.length * 48 ≤ 140737488351232
  co : (∀ x ∈ m.co, vI x.1 ∧ Fok x.2) ∧ m.co.length * 48 ≤ 140737488351232
  da : (∀ x ∈ m.da, Fok x.1 ∧ x.2.size ≤ 140737488351232) ∧ m.da.length * 40 ≤ 140737488351232
theorem MdV.big {m : Md} (h : MdV m) : MdBig m := by
  constructor
  · exact ⟨by have := h.ty.2; omega, fun x hx => ⟨by have := (h.ty.1 x hx).1.2; omega, by have := (h.ty.1 x hx).2.2; omega⟩⟩
  · have := h.im.2; omega
  · have := h.fu.2; omega
  · have := h.ta.2; omega
  · have := h.me.2; omega
  · exact ⟨by have := h.gl.2; omega, fun x hx => (h.gl.1 x hx).2⟩
  · have := h.ex.2; omega
  · exact ⟨by have := h.el.2; omega, fun x hx => ⟨(h.el.1 x hx).1, by have := (h.el.1 x hx).2.2; omega⟩⟩
  · exact ⟨by have := h.co.2; omega, fun x hx => ⟨by have := (h.co.1 x hx).1.2; omega, (h.co.1 x hx).2⟩⟩
  · exact ⟨by have := h.da.2; omega, fun x hx => (h.da.1 x hx).1⟩

/-- a module as it is handed in -/
theorem view_mod {H : Type} {enc : TypeId × Value → H} {W : World} {L : List Value} {d : DataW H} {ps : List MemPlace} (h0 : DataW.Trod enc Try.prog W 0 (fun _ => true) true 32 (.agg L.toArray) d ps) (hw : ∀ x ∈ d.weights Try.prog 32, x ≤ reachBytes) :
    ∃ m : Md, ModC (· < W.heap.size) W m L ∧ MdV m := by
  obtain ⟨fuel, h⟩ := h0
  have hcs : (Value.agg L.toArray).cells.toList = L := by simp [Value.cells]
  rw [hcs] at h
  have c0 : Try.prog.cellsOf 22 = 1 := by kernel_rfl
  have c1 : Try.prog.cellsOf 23 = 1 := by kernel_rfl
  have c2 : Try.prog.cellsOf 24 = 1 := by kernel_rfl
  have c3 : Try.prog.cellsOf 25 = 1 := by kernel_rfl
  have c4 : Try.prog.cellsOf 25 = 1 := by kernel_rfl
  have c5 : Try.prog.cellsOf 26 = 1 := by kernel_rfl
  have c6 : Try.prog.cellsOf 27 = 1 := by kernel_rfl
  have c7 : Try.prog.cellsOf 3 = 1 := by kernel_rfl
  have c8 : Try.prog.cellsOf 28 = 1 := by kernel_rfl
  have c9 : Try.prog.cellsOf 29 = 1 := by kernel_rfl
  have c10 : Try.prog.cellsOf 30 = 1 := by kernel_rfl
  obtain ⟨xs, n, hn, hxy, hlen, hxl, hfl⟩ := DataW.trod_struct Try.underlying32 h
  have hlen : L.length = 11 := hlen.trans (by kernel_rfl)
  match xs, hxl, L, hlen with
  | [y0, y1, y2, y3, y4, y5, y6, y7, y8, y9, y10], _, [u0, u1, u2, u3, u4, u5, u6, u7, u8, u9, u10], _ =>
    have hD : d = .agg [y0.1, y1.1, y2.1, y3.1, y4.1, y5.1, y6.1, y7.1, y8.1, y9.1, y10.1] := by
      have := congrArg Prod.fst hxy
      simpa using this
    have hwj : ∀ (j : Nat) (t : TypeId) (e : DataW H), ([22, 23, 24, 25, 25, 26, 27, 3, 28, 29, 30] : List TypeId)[j]? = some t → [y0.1, y1.1, y2.1, y3.1, y4.1, y5.1, y6.1, y7.1, y8.1, y9.1, y10.1][j]? = some e → ∀ x ∈ e.weights Try.prog t, x ≤ reachBytes := fun j t e ht hd x hx' => hw x (by
      rw [hD]
      simp only [DataW.weights, Try.underlying32]
      exact DataW.weights_mem_each (j := j) (t := t) (d := e) ht hd _ hx')
    have g0 := hfl 0 _ rfl
    have g1 := hfl 1 _ rfl
    have g2 := hfl 2 _ rfl
    have g3 := hfl 3 _ rfl
    have g4 := hfl 4 _ rfl
    have g5 := hfl 5 _ rfl
    have g6 := hfl 6 _ rfl
    have g7 := hfl 7 _ rfl
    have g8 := hfl 8 _ rfl
    have g9 := hfl 9 _ rfl
    have g10 := hfl 10 _ rfl
    simp [c0, c1, c2, c3, c4, c5, c6, c7, c8, c9, c10] at g0 g1 g2 g3 g4 g5 g6 g7 g8 g9 g10
    obtain ⟨v0, z0, e0, p0, q0, s0⟩ := view_rows enc W fTy Try.underlying22 (k := 2) (by kernel_rfl) (by decide) (fun _ => rfl) (by_ := 48) (by kernel_rfl) (view_fty enc W) _ _ _ g0 (hwj 0 _ _ rfl rfl)
    simp only [List.cons.injEq, and_true] at e0
    subst e0
    obtain ⟨v1, z1, e1, p1, q1, s1⟩ := view_rows enc W fIm Try.underlying23 (k := 7) (by kernel_rfl) (by decide) (fun _ => rfl) (by_ := 72) (by kernel_rfl) (view_imp enc W) _ _ _ g1 (hwj 1 _ _ rfl rfl)
    simp only [List.cons.injEq, and_true] at e1
    subst e1
    obtain ⟨v2, z2, e2, p2, q2, s2⟩ := view_rows enc W f1 Try.underlying24 (k := 1) (by kernel_rfl) (by decide) (fun _ => rfl) (by_ := 8) (by kernel_rfl) (view_num enc W) _ _ _ g2 (hwj 2 _ _ rfl rfl)
    simp only [List.cons.injEq, and_true] at e2
    subst e2
    obtain ⟨v3, z3, e3, p3, q3, s3⟩ := view_rows enc W fLi Try.underlying25 (k := 2) (by kernel_rfl) (by decide) (fun _ => rfl) (by_ := 16) (by kernel_rfl) (view_lim enc W) _ _ _ g3 (hwj 3 _ _ rfl rfl)
    simp only [List.cons.injEq, and_true] at e3
    subst e3
    obtain ⟨v4, z4, e4, p4, q4, s4⟩ := view_rows enc W fLi Try.underlying25 (k := 2) (by kernel_rfl) (by decide) (fun _ => rfl) (by_ := 16) (by kernel_rfl) (view_lim enc W) _ _ _ g4 (hwj 4 _ _ rfl rfl)
    simp only [List.cons.injEq, and_true] at e4
    subst e4
    obtain ⟨v5, z5, e5, p5, q5, s5⟩ := view_rows enc W fGl Try.underlying26 (k := 3) (by kernel_rfl) (by decide) (fun _ => rfl) (by_ := 40) (by kernel_rfl) (view_glo enc W) _ _ _ g5 (hwj 5 _ _ rfl rfl)
    simp only [List.cons.injEq, and_true] at e5
    subst e5
    obtain ⟨v6, z6, e6, p6, q6, s6⟩ := view_rows enc W fEx Try.underlying27 (k := 3) (by kernel_rfl) (by decide) (fun _ => rfl) (by_ := 32) (by kernel_rfl) (view_exp enc W) _ _ _ g6 (hwj 6 _ _ rfl rfl)
    simp only [List.cons.injEq, and_true] at e6
    subst e6
    obtain ⟨z7, e7, q7⟩ := view_int enc W _ _ _ g7 (hwj 7 _ _ rfl rfl)
    simp only [List.cons.injEq, and_true] at e7
    subst e7
    obtain ⟨v8, z8, e8, p8, q8, s8⟩ := view_rows enc W fEl Try.underlying28 (k := 2) (by kernel_rfl) (by decide) (fun _ => rfl) (by_ := 48) (by kernel_rfl) (view_elm enc W) _ _ _ g8 (hwj 8 _ _ rfl rfl)
    simp only [List.cons.injEq, and_true] at e8
    subst e8
    obtain ⟨v9, z9, e9, p9, q9, s9⟩ := view_rows enc W fCo Try.underlying29 (k := 2) (by kernel_rfl) (by decide) (fun _ => rfl) (by_ := 48) (by kernel_rfl) (view_cod enc W) _ _ _ g9 (hwj 9 _ _ rfl rfl)
    simp only [List.cons.injEq, and_true] at e9
    subst e9
    obtain ⟨v10, z10, e10, p10, q10, s10⟩ := view_rows enc W fDa Try.underlying30 (k := 2) (by kernel_rfl) (by decide) (fun _ => rfl) (by_ := 40) (by kernel_rfl) (view_dat enc W) _ _ _ g10 (hwj 10 _ _ rfl rfl)
    simp only [List.cons.injEq, and_true] at e10
    subst e10
    exact ⟨⟨z0, z1, z2, z3, z4, z5, z6, z7, z8, z9, z10⟩, ⟨_, _, _, _, _, _, _, _, _, _, rfl, p0, p1, p2, p3, p4, p5, p6, p8, p9, p10⟩, ⟨⟨q0, s0⟩, ⟨q1, s1⟩, ⟨q2, s2⟩, ⟨q3, s3⟩, ⟨q4, s4⟩, ⟨q5, s5⟩, ⟨q6, s6⟩, q7, ⟨q8, s8⟩, ⟨q9, s9⟩, ⟨q10, s10⟩⟩⟩

/-- a function's type as it is handed in -/
theorem view_type {H : Type} {enc : TypeId × Value → H} {W : World} {L : List Value} {d : DataW H} {ps : List MemPlace} (h0 : DataW.Trod enc Try.prog W 0 (fun _ => true) true 34 (.agg L.toArray) d ps) (hw : ∀ x ∈ d.weights Try.prog 34, x ≤ reachBytes) :
    ∃ x : List Int × List Int, itc (· < W.heap.size) W (fTy x) L ∧ vI x.1 ∧ vI x.2 := by
  obtain ⟨fuel, h⟩ := h0
  have hcs : (Value.agg L.toArray).cells.toList = L := by simp [Value.cells]
  rw [hcs] at h
  exact view_fty enc W _ _ _ h hw
end Go.Proofs.Ytonnmbmdmkmhmaa
