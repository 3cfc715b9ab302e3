/- Bytes of a text that is turned: '[]byte(s)', one byte set, one byte appended, 'string(b)'; worlds in which only blocks from a number on may differ. -/
import Derived.Test.YthbagkaodcplmaaLA
import Derived.Below
import Derived.ArgAppend
import Derived.Laws.IdiomCopy
import Derived.Laws.IdiomStrings
import Derived.ChangeSame
set_option linter.unusedVariables false
set_option linter.unusedSimpArgs false
set_option maxRecDepth 100000
set_option maxHeartbeats 4000000
namespace Go.Proofs.Ythbagkaodcplmaa
open Go.RowKit
theorem below_later {B : Nat} {w w' : World} (h : Later w w') (hB : B ≤ w.heap.size) : Below B w w' := by
  obtain ⟨bs, n, rfl⟩ := h
  exact ⟨rfl, rfl, rfl, by rw [World.far_size]; omega, fun k hk => World.far_block w bs n k (by omega)⟩
/-- a list of bytes in a row from its first cell on, with room up to cap -/
def Bw (w : World) (B g cap : Nat) (d : List Int) : Prop := B ≤ g ∧ d.length ≤ cap ∧ (∀ i u, (bys d)[i]? = some u → w.cell? ⟨g, i, none⟩ = some u) ∧ ∀ i, i < cap → (w.cell? ⟨g, i, none⟩).isSome = true ∧ w.frozen? ⟨g, i, none⟩ = false
theorem Bw.later {w w' : World} {B g cap : Nat} {d : List Int} (h : Bw w B g cap d) (hl : Later w w') (hc : 0 < cap) : Bw w' B g cap d := by
  obtain ⟨h1, h2, h3, h4⟩ := h
  have hg : g < w.heap.size := by
    have := (h4 0 hc).1
    obtain ⟨v, hv⟩ := Option.isSome_iff_exists.1 this
    exact cell_lt hv
  refine ⟨h1, h2, fun i u hu => hl.cell_of (h3 i u hu), fun i hi => ?_⟩
  rw [hl.cell hg, World.frozen?_of_block (w := w) (a := ⟨g, i, none⟩) (hl.block hg)]
  exact h4 i hi
theorem bys_get {d : List Int} {i : Nat} (hi : i < d.length) : (bys d)[i]? = some (.int .u8 d[i]) := by simp [bys, hi]
theorem Bw.at_ {w : World} {B g cap : Nat} {d : List Int} (h : Bw w B g cap d) {i : Nat} (hi : i < d.length) : w.cell? ⟨g, i, none⟩ = some (.int .u8 d[i]) ∧ w.frozen? ⟨g, i, none⟩ = false ∧ g < w.heap.size := by
  have h1 := h.2.2.1 i _ (bys_get hi)
  exact ⟨h1, (h.2.2.2 i (by have := h.2.1; omega)).2, cell_lt h1⟩
theorem bw_conv (B : Nat) (d : List Int) (hd : ∀ b ∈ d, 0 ≤ b ∧ b < 256) (w : World) (hB : B ≤ w.heap.size) :
    ∃ cap w', (convert 9 36 (.string (strOfNums d))).run Try.prog w = .ok (.slice (some ⟨w.heap.size, 0, none⟩) d.length cap) w' ∧ Below B w w' ∧ Bw w' B w.heap.size cap d ∧ w'.heap.size = w.heap.size + 1 := by
  have hr := run_bytes_of_string (P := Try.prog) w 9 36 5 (strOfNums d) Try.underlying9 Try.underlying36 Try.underlying5
  have hge := grownCap_ge w (strOfNums d).size 0 5
  rw [strOfNums_size] at hr hge
  generalize grownCap w d.length 0 5 = cap at *
  have hsz : (bytesRow (strOfNums d) cap).size = cap := by
    have : (strOfNums d).data.size = d.length := strOfNums_size d
    simp [bytesRow, this, strOfNums_size]
    omega
  rw [hsz] at hr
  have hh : (w.drew.alloc (.cells (bytesRow (strOfNums d) cap) 5 (cap, cap + 1))).heap[w.heap.size]? = some (.cells (bytesRow (strOfNums d) cap) 5 (cap, cap + 1)) := heap_alloc_new w.drew _
  refine ⟨cap, _, hr, (Below.refl B w).drew.alloc hB _, ⟨hB, hge, fun i u hu => ?_, fun i hi => ⟨?_, ?_⟩⟩, by show (w.heap.push _).size = _; simp⟩
  · rw [cell_of_row _ _ _ _ _ _ hh]
    have hi : i < d.length := by have := (List.getElem?_eq_some_iff.1 hu).1; rwa [bys_len] at this
    rw [bys_get hi] at hu
    have hm := hd d[i] (List.getElem_mem hi)
    rw [← hu]
    unfold bytesRow
    rw [Array.getElem?_append_left (by simp [strOfNums, hi])]
    simp [strOfNums, hi]
    omega
  · rw [cell_of_row _ _ _ _ _ _ hh, Array.getElem?_eq_getElem (by omega)]
    rfl
  · simp only [World.frozen?, hh]
    simp
    omega
theorem Bw.set {w : World} {B g cap : Nat} {d : List Int} (h : Bw w B g cap d) (k : Nat) (hk : k < d.length) (x : Int) : Bw (w.setCell ⟨g, k, none⟩ (.int .u8 x)) B g cap (d.set k x) ∧ Below B w (w.setCell ⟨g, k, none⟩ (.int .u8 x)) := by
  have h0 := (h.at_ hk).1
  refine ⟨⟨h.1, by rw [List.length_set]; exact h.2.1, fun i u hu => ?_, fun i hi => ?_⟩, (Below.refl B w).setCell h.1 _⟩
  · have hi : i < d.length := by have := (List.getElem?_eq_some_iff.1 hu).1; rwa [bys_len, List.length_set] at this
    rw [bys_get (by rw [List.length_set]; exact hi), List.getElem_set] at hu
    by_cases hik : k = i
    · subst hik
      rw [if_pos rfl] at hu
      rw [← hu]
      have := World.cell?_setCells_in g [.int .u8 x] k w (fun j hj => by obtain rfl : j = 0 := (by simpa using hj); rw [Nat.add_zero, h0]; rfl) 0 (by simp)
      simpa [World.setCells] using this
    · rw [if_neg hik] at hu
      have := World.cell?_setCells_out g [.int .u8 x] k w ⟨g, i, none⟩ (fun _ _ => by show i < k ∨ k + 1 ≤ i; omega)
      rw [show w.setCells g k [.int .u8 x] = w.setCell ⟨g, k, none⟩ (.int .u8 x) from rfl] at this
      rw [this, ← hu]
      exact h.2.2.1 i _ (bys_get hi)
  · have hf := World.frozen?_setCells g [.int .u8 x] k w ⟨g, i, none⟩
    rw [show w.setCells g k [.int .u8 x] = w.setCell ⟨g, k, none⟩ (.int .u8 x) from rfl] at hf
    refine ⟨?_, hf.trans (h.2.2.2 i hi).2⟩
    by_cases hik : k = i
    · subst hik
      have := World.cell?_setCells_in g [.int .u8 x] k w (fun j hj => by obtain rfl : j = 0 := (by simpa using hj); rw [Nat.add_zero, h0]; rfl) 0 (by simp)
      rw [show w.setCells g k [.int .u8 x] = w.setCell ⟨g, k, none⟩ (.int .u8 x) from rfl] at this
      rw [Nat.add_zero] at this
      rw [this]
      rfl
    · have := World.cell?_setCells_out g [.int .u8 x] k w ⟨g, i, none⟩ (fun _ _ => by show i < k ∨ k + 1 ≤ i; omega)
      rw [show w.setCells g k [.int .u8 x] = w.setCell ⟨g, k, none⟩ (.int .u8 x) from rfl] at this
      rw [this]
      exact (h.2.2.2 i hi).1
theorem below_cells {B : Nat} (b : Nat) (hb : B ≤ b) : ∀ (vs : List Value) (o : Nat) (w : World), Below B w (w.setCells b o vs)
  | [], o, w => Below.refl B w
  | v :: vs, o, w => ((Below.refl B w).setCell hb v).trans (below_cells b hb vs (o + 1) _)
theorem setCells_size (b : Nat) : ∀ (vs : List Value) (o : Nat) (w : World), (w.setCells b o vs).heap.size = w.heap.size
  | [], o, w => rfl
  | v :: vs, o, w => by
    show ((w.setCell ⟨b, o, none⟩ v).setCells b (o + 1) vs).heap.size = w.heap.size
    rw [setCells_size b vs (o + 1)]
    simp [World.setCell]
theorem setCells_other (b k : Nat) (hk : k ≠ b) : ∀ (vs : List Value) (o : Nat) (w : World), (w.setCells b o vs).heap[k]? = w.heap[k]?
  | [], o, w => rfl
  | v :: vs, o, w => by
    show ((w.setCell ⟨b, o, none⟩ v).setCells b (o + 1) vs).heap[k]? = w.heap[k]?
    rw [setCells_other b k hk vs (o + 1)]
    exact Below.heap_setCell w ⟨b, o, none⟩ v k hk
theorem Bw.keep {w w' : World} {B g cap : Nat} {d : List Int} (h : Bw w B g cap d) (hb : w'.heap[g]? = w.heap[g]?) : Bw w' B g cap d :=
  ⟨h.1, h.2.1, fun i u hu => (World.cell?_of_block (a := ⟨g, i, none⟩) hb).trans (h.2.2.1 i u hu), fun i hi => by
    rw [World.cell?_of_block (w := w) (a := ⟨g, i, none⟩) hb, World.frozen?_of_block (w := w) (a := ⟨g, i, none⟩) hb]
    exact h.2.2.2 i hi⟩
/-- one byte more -/
theorem Bw.more {w : World} {B g cap : Nat} {d : List Int} (h : Bw w B g cap d) (hB : B ≤ w.heap.size) (x : Int) (hl : d.length < 1000000) (hg : g < w.heap.size) :
    ∃ g2 cap2 w2, (Builtin.append_ #[36, 36] 36 #[.slice (some ⟨g, 0, none⟩) d.length cap, .slice (some ⟨w.heap.size, 0, none⟩) 1 1]).run Try.prog (w.alloc (.cells #[.int .u8 x] 5)) = .ok (.slice (some ⟨g2, 0, none⟩) (d.length + 1) cap2) w2 ∧ Below B w w2 ∧ Bw w2 B g2 cap2 (d ++ [x]) ∧ g2 < w2.heap.size ∧ (g2 = g ∨ w.heap.size ≤ g2) ∧ ∀ k, k < w.heap.size → k ≠ g → w2.heap[k]? = w.heap[k]? := by
  obtain ⟨i, hi1, hi2, hi3, hi4⟩ := byte_parts
  have hA : Later w (w.alloc (.cells #[.int .u8 x] 5)) := La (Lz w)
  have hBA : Below B w (w.alloc (.cells #[.int .u8 x] 5)) := below_later hA hB
  have hnew : ∀ j u, [Value.int .u8 x][j]? = some u → (w.alloc (.cells #[.int .u8 x] 5)).cell? ((⟨w.heap.size, 0, none⟩ : Addr).add j) = some u := fun j u hu => by
    have hj : j = 0 := by have := (List.getElem?_eq_some_iff.1 hu).1; simpa using this
    subst hj
    rw [show (⟨w.heap.size, 0, none⟩ : Addr).add 0 = ⟨w.heap.size, 0, none⟩ from by unfold Addr.add; split <;> simp_all, cell_of_row _ _ _ _ _ _ (heap_alloc_new w _)]
    simpa using hu
  have hbl : bys (d ++ [x]) = bys d ++ [.int .u8 x] := by simp [bys]
  by_cases hr : d.length + 1 ≤ cap
  · have hold : ∀ k, k < cap → (w.alloc (.cells #[.int .u8 x] 5)).cell? ⟨g, k, none⟩ = w.cell? ⟨g, k, none⟩ ∧ (w.alloc (.cells #[.int .u8 x] 5)).frozen? ⟨g, k, none⟩ = w.frozen? ⟨g, k, none⟩ := fun k hk => ⟨hA.cell hg, World.frozen?_of_block (w := w) (a := ⟨g, k, none⟩) (hA.block hg)⟩
    have hrun := run_append_room_cells (P := Try.prog) (w.alloc (.cells #[.int .u8 x] 5)) 36 36 5 i Try.underlying36 hi1 g 0 d.length cap ⟨w.heap.size, 0, none⟩ 1 1 [.int .u8 x] (by rw [hi3]; rfl) hnew (one_byte x) hr (fun j hj => by
      obtain rfl : j = 0 := by simpa using hj
      rw [hi3, (hold _ (by omega)).1]
      exact (h.2.2.2 _ (by omega)).1) (fun j hj => by
      obtain rfl : j = 0 := by simpa using hj
      rw [hi3, (hold _ (by omega)).2]
      exact (h.2.2.2 _ (by omega)).2)
    rw [hi3, Nat.zero_add, Nat.mul_one] at hrun
    refine ⟨g, cap, _, hrun, hBA.trans (below_cells g h.1 _ _ _), ⟨h.1, by simpa using hr, fun k u hu => ?_, fun k hk => ⟨?_, ?_⟩⟩, by rw [setCells_size]; simp; omega, Or.inl rfl, fun k hk hkg => (setCells_other g k hkg _ _ _).trans (hA.block hk)⟩
    · rw [hbl] at hu
      by_cases hk : k < d.length
      · rw [List.getElem?_append_left (by rw [bys_len]; exact hk)] at hu
        rw [World.cell?_setCells_out g _ _ _ ⟨g, k, none⟩ (fun _ _ => Or.inl hk), (hold k (by have := h.2.1; omega)).1]
        exact h.2.2.1 k u hu
      · rw [List.getElem?_append_right (by rw [bys_len]; omega), bys_len] at hu
        have hk0 : k - d.length = 0 := by have := (List.getElem?_eq_some_iff.1 hu).1; simpa using this
        obtain rfl : k = d.length := by omega
        have hin := World.cell?_setCells_in g [.int .u8 x] d.length (w.alloc (.cells #[.int .u8 x] 5)) (fun j hj => by
          obtain rfl : j = 0 := by simpa using hj
          rw [Nat.add_zero, (hold _ (by omega)).1]
          exact (h.2.2.2 _ (by omega)).1) 0 (by simp)
        rw [Nat.add_zero] at hin
        rw [hin, ← hu, hk0]
        rfl
    · by_cases hkd : k = d.length
      · subst hkd
        have hin := World.cell?_setCells_in g [.int .u8 x] d.length (w.alloc (.cells #[.int .u8 x] 5)) (fun j hj => by
          obtain rfl : j = 0 := by simpa using hj
          rw [Nat.add_zero, (hold _ (by omega)).1]
          exact (h.2.2.2 _ (by omega)).1) 0 (by simp)
        rw [Nat.add_zero] at hin
        rw [hin]
        rfl
      · rw [World.cell?_setCells_out g _ _ _ ⟨g, k, none⟩ (fun _ _ => by show k < d.length ∨ d.length + 1 ≤ k; omega), (hold k hk).1]
        exact (h.2.2.2 k hk).1
    · rw [World.frozen?_setCells, (hold k hk).2]
      exact (h.2.2.2 k hk).2
  · have hcd : cap = d.length := by have := h.2.1; omega
    have hrun := run_append_grow (P := Try.prog) (w.alloc (.cells #[.int .u8 x] 5)) 36 36 5 i (.int .u8 0) Try.underlying36 hi1 hi2 ⟨g, 0, none⟩ d.length cap (bys d) (by rw [hi3, bys_len]; omega) (fun j v hv => by
      rw [show (⟨g, 0, none⟩ : Addr).add j = ⟨g, j, none⟩ from by unfold Addr.add; split <;> simp_all]
      exact hA.cell_of (h.2.2.1 j v hv)) ⟨w.heap.size, 0, none⟩ 1 1 [.int .u8 x] (by rw [hi3]; rfl) hnew (by omega) (by omega) (growslice_fits (by omega) (by rw [hi4]; omega))
    have hge := grownCap_ge (w.alloc (.cells #[.int .u8 x] 5)) (d.length + 1) cap 5
    generalize grownCap (w.alloc (.cells #[.int .u8 x] 5)) (d.length + 1) cap 5 = cap2 at *
    have hzl : (Builtin.zeroCells (Value.int .u8 0).cells (cap2 - (d.length + 1))).size = cap2 - (d.length + 1) := by simp [Builtin.zeroCells, Value.cells]
    have hrow : ((bys d).toArray ++ [Value.int .u8 x].toArray ++ Builtin.zeroCells (Value.int .u8 0).cells (cap2 - (d.length + 1))).size = cap2 := by
      simp only [Array.size_append, hzl]
      simp [bys_len]
      omega
    have hh : ((w.alloc (.cells #[.int .u8 x] 5)).drew.alloc (.cells ((bys d).toArray ++ [Value.int .u8 x].toArray ++ Builtin.zeroCells (Value.int .u8 0).cells (cap2 - (d.length + 1))) 5)).heap[(w.alloc (.cells #[.int .u8 x] 5)).heap.size]? = some (.cells ((bys d).toArray ++ [Value.int .u8 x].toArray ++ Builtin.zeroCells (Value.int .u8 0).cells (cap2 - (d.length + 1))) 5) := heap_alloc_new (w.alloc (.cells #[.int .u8 x] 5)).drew _
    refine ⟨_, cap2, _, hrun, (hBA.drew).alloc (by show B ≤ (w.heap.push _).size; simp; omega) _, ⟨by simp; omega, by simpa using hge, fun k u hu => ?_, fun k hk => ⟨?_, ?_⟩⟩, (Array.getElem?_eq_some_iff.1 hh).1, Or.inr (by simp), fun k hk _ => ((La (Ld hA) : Later w _).block hk)⟩
    · rw [cell_of_row _ _ _ _ _ _ hh]
      have hk : k < (bys (d ++ [x])).length := (List.getElem?_eq_some_iff.1 hu).1
      rw [hbl] at hu hk
      rw [Array.getElem?_append_left (by simpa using hk)]
      simpa using hu
    · rw [cell_of_row _ _ _ _ _ _ hh, Array.getElem?_eq_getElem (by omega)]
      rfl
    · simp only [World.frozen?, hh]
      simp
/-- nothing handed in but numbers and texts: what a walk leaves that touched no old block -/
theorem post_none {H : Type} {enc : TypeId × Value → H} {P : Program} {f : Func} {s : ChangeSpec} {apart fresh handsOn again : Bool} {W W' : World} {args : Array Value} {v : Value} {ds gs : List (DataW H)}
    (hW : DataW.Whole enc P f.params.toList s.vars apart W args.toList ds gs [])
    (hres : ∀ (b : Nat) (sp : Nat → Bool) (hd : Bool), DataW.TrodAll enc P W' b sp hd f.resultTypes.toList (v.resultList f.resultTypes.size) (s.fn H (ds ++ gs)).results [])
    (hargs : ∀ sp : Nat → Bool, DataW.TrodAll enc P W' 0 sp true f.params.toList args.toList (s.fn H (ds ++ gs)).args [])
    (hvars : ∀ sp : Nat → Bool, DataW.TrodVars enc P W' sp s.vars (s.fn H (ds ++ gs)).vars [])
    (hk : W.keptBut W' (· ∈ ([] : List MemPlace)))
    (hok : ∀ (j : Nat) (t : TypeId) (r : Value), f.resultTypes[j]? = some t → (v.resultList f.resultTypes.size)[j]? = some r → Value.okWide P W' .any 0 t r) :
    s.post enc P f apart fresh handsOn again W args v W' := by
  refine ⟨ds, gs, [], [], [], [], hW, hres _ _ _, hargs _, hvars _, World.keptBut_mono (fun p hp => absurd hp List.not_mem_nil) hk, fun _ => ⟨hok, _, _, [], ⟨[], [], ChangeShapes.trodAll_append (hargs _) (hres _ _ _), hvars _, rfl, fun b off hp => ?_, fun _ => List.nodup_nil⟩, fun p hp _ => hp⟩⟩
  simp at hp
theorem slice_bytes (A : Option Addr) (n cap h : Nat) (hh : h ≤ cap) (w : World) : (Instr.slice 36 (.slice A n cap) none (some (.int .i64 (h : Int))) none).run Try.prog w = .ok (.slice A h cap) w := by
  obtain ⟨i0, hi, hz0, hz1, hz2⟩ := byte_parts
  have h1 : (h : Int) ≤ (cap : Int) := by omega
  have hA : (A.map fun x => x.add 0) = A := by
    cases A with
    | none => rfl
    | some a => simp [Addr.add]
  simp [Instr.slice, run_underlying Try.underlying36, Instr.sliceBounds, run_sliceBound, sizeOf, typeInfo, hi, hz1, h1, hA]
/-- the first m of them as a text -/
theorem Bw.str {w : World} {B g cap m c : Nat} {d : List Int} (h : Bw w B g cap d) (hm : m ≤ d.length) (hb : ∀ x ∈ d, 0 ≤ x ∧ x < 256) : (convert 36 9 (.slice (some ⟨g, 0, none⟩) m c)).run Try.prog w = .ok (.string (strOfNums (d.take m))) w := by
  have hlen : (d.take m).length = m := by simp; omega
  have hB : Lib.Bytes w g 0 (strOfNums (d.take m)) := Lib.bytes_of_nums hlen (fun x hx => hb x (List.mem_of_mem_take hx)) (fun i hi => by
    rw [Nat.zero_add]
    refine h.2.2.1 i _ ?_
    rw [bys_get (by omega)]
    simp [List.getD, List.getElem?_take, hi, show i < d.length by omega])
  have := Lib.run_convert_whole (P := Try.prog) w 36 5 9 Try.underlying36 Try.underlying5 Try.underlying9 g 0 _ hB c
  rwa [strOfNums_size, hlen] at this
end Go.Proofs.Ythbagkaodcplmaa
