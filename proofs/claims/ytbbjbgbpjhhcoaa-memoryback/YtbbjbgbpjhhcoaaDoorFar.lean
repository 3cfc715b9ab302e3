/- A world with whatever new blocks laid behind it, and whatever draws made: what the walk needs of it. -/
import Derived.WalkKit
import Derived.RowKit3
import Derived.Laws.NewBlocks
import Derived.Deep.Draws
import Derived.Deep.QuietTactic
import Derived.BigQuiet
import Derived.Deep.RegionWith
namespace Go
open Go.RowKit

/-- new blocks -/
abbrev FarBs : Type := Array (Array Value × TypeId)
def World.far (w : World) (bs : Array (Array Value × TypeId)) (n : Nat) : World := { w with heap := w.heap ++ bs.map (fun p => Obj.cells p.1 p.2), drawn := w.drawn + n }
variable (w : World) (bs cs : Array (Array Value × TypeId)) (n m k i : Nat) (v : Value)
theorem World.far_size : (w.far bs n).heap.size = w.heap.size + bs.size := by simp [World.far]
theorem World.far_block (h : k < w.heap.size) : (w.far bs n).heap[k]? = w.heap[k]? := by
  simp only [World.far]; exact Array.getElem?_append_left h
theorem World.cell?_far (h : k < w.heap.size) : (w.far bs n).cell? ⟨k, i, none⟩ = w.cell? ⟨k, i, none⟩ := by
  simp only [World.cell?]; rw [World.far_block w bs n k h]
theorem World.frozen?_far (h : k < w.heap.size) : (w.far bs n).frozen? ⟨k, i, none⟩ = w.frozen? ⟨k, i, none⟩ := by
  simp only [World.frozen?]; rw [World.far_block w bs n k h]
theorem World.shape?_far (h : k < w.heap.size) : (w.far bs n).shape? k = w.shape? k := by
  simp only [World.shape?]; rw [World.far_block w bs n k h]
theorem World.setCell_far (h : k < w.heap.size) : (w.far bs n).setCell ⟨k, i, none⟩ v = (w.setCell ⟨k, i, none⟩ v).far bs n := by
  unfold World.setCell World.far
  congr 1
  apply Array.ext_getElem?
  intro j
  simp only [Array.getElem?_modify]
  rcases Nat.lt_or_ge j w.heap.size with hj | hj
  · rw [Array.getElem?_append_left hj, Array.getElem?_append_left (by simpa using hj), Array.getElem?_modify]
  · rw [Array.getElem?_append_right hj, Array.getElem?_append_right (by simpa using hj)]
    have : ¬ k = j := by omega
    simp [this]
theorem World.far_far : (w.far bs n).far cs m = w.far (bs ++ cs) (n + m) := by
  simp [World.far, Array.append_assoc, Nat.add_assoc]
theorem World.drew_far : (w.far bs n).drew = w.far bs (n + 1) := rfl
theorem World.drewN_far : (w.far bs n).drewN m = w.far bs (n + m) := by
  simp [World.far, World.drewN, Nat.add_assoc]
theorem World.lt_one (h : k < w.heap.size) : k < w.heap.size + 1 := by omega
theorem World.lt_two (h : k < w.heap.size) : k < w.heap.size + 1 + 1 := by omega
theorem World.lt_far (h : k < w.heap.size) : k < (w.far bs n).heap.size := by rw [World.far_size]; omega
theorem i64_id (x : Int) (h : -9223372036854775808 ≤ x) (h' : x ≤ 9223372036854775807) : IntKind.i64.wrap x = x := by rw [IntKind.wrap_i64]; omega
theorem u64_id (x : Int) (h : 0 ≤ x) (h' : x ≤ 18446744073709551615) : IntKind.u64.wrap x = x := by rw [IntKind.wrap_u64]; omega
attribute [go_sem] i64_id u64_id
attribute [go_sem] World.cell?_far World.frozen?_far World.shape?_far World.setCell_far World.far_far World.drew_far World.drewN_far World.lt_far World.lt_one World.lt_two
/-- what a call leaves that only lays new blocks and draws -/
def Later (w w' : World) : Prop := ∃ bs n, w' = w.far bs n
variable {w}
theorem Later.refl (w : World) : Later w w := ⟨#[], 0, by simp [World.far]⟩
theorem Later.alloc {w w' : World} {c : Array Value} {t : TypeId} (h : Later w w') : Later w (w'.alloc (.cells c t)) := by
  obtain ⟨bs, n, rfl⟩ := h
  exact ⟨bs.push (c, t), n, by simp [World.far, World.alloc]⟩
theorem Later.far {w w' : World} {bs : Array (Array Value × TypeId)} {n : Nat} (h : Later w w') : Later w (w'.far bs n) := by
  obtain ⟨cs, m, rfl⟩ := h
  exact ⟨_, _, World.far_far _ _ _ _ _⟩
theorem Later.drew {w w' : World} (h : Later w w') : Later w w'.drew := by
  obtain ⟨cs, m, rfl⟩ := h
  exact ⟨_, _, World.drew_far _ _ _⟩
theorem Later.drewN {w w' : World} {n : Nat} (h : Later w w') : Later w (w'.drewN n) := by
  obtain ⟨cs, m, rfl⟩ := h
  exact ⟨_, _, World.drewN_far _ _ _ _⟩
theorem Later.trans {a b c : World} (h : Later a b) (h' : Later b c) : Later a c := by
  obtain ⟨cs, m, rfl⟩ := h'
  exact h.far
theorem Later.grown {w w' : World} (h : Later w w') : Grown w w' := by
  obtain ⟨bs, n, rfl⟩ := h
  refine ⟨⟨rfl, rfl, fun i hi => ?_⟩, fun a => ?_, ?_⟩
  · rw [World.far_block w bs n i hi]
    exact (World.keptBut_refl w (fun _ => False)).2.2 i hi
  · rcases Nat.lt_or_ge a.block w.heap.size with h | h
    · simp only [World.frozen?]; rw [World.far_block w bs n _ h]
    · have e : w.heap[a.block]? = none := Array.getElem?_eq_none h
      have e' : (w.far bs n).heap[a.block]? = (bs[a.block - w.heap.size]?).map (fun p => Obj.cells p.1 p.2) := by
        simp only [World.far]; rw [Array.getElem?_append_right h, Array.getElem?_map]
      simp only [World.frozen?]
      rw [e, e']
      cases bs[a.block - w.heap.size]? <;> simp
  · rw [World.far_size]; omega
theorem Later.turn {w w' : World} (h : Later w w') {g : Nat} {cur cs : Array Value} {t : TypeId} (hg : w.heap.size ≤ g) (hb : w'.heap[g]? = some (.cells cur t (0, 0))) (w2 : World)
    (h2 : w2 = { w' with heap := w2.heap }) (hs : w2.heap.size = w'.heap.size) (hk : w2.heap[g]? = some (.cells cs t (0, 0))) (ho : ∀ k, k ≠ g → w2.heap[k]? = w'.heap[k]?) : Later w w2 := by
  obtain ⟨bs, n, rfl⟩ := h
  have hlt : g < (w.far bs n).heap.size := (Array.getElem?_eq_some_iff.1 hb).1
  rw [World.far_size] at hlt
  refine ⟨bs.set (g - w.heap.size) (cs, t) (by omega), n, ?_⟩
  rw [h2]
  unfold World.far
  congr 1
  apply Array.ext_getElem?
  intro k
  rcases Nat.lt_or_ge k w.heap.size with hkk | hkk
  · rw [ho k (by omega), World.far_block w bs n k hkk, Array.getElem?_append_left hkk]
  · rw [Array.getElem?_append_right hkk, Array.getElem?_map, Array.getElem?_set]
    by_cases he : k = g
    · subst he
      rw [hk, if_pos rfl]; rfl
    · rw [ho k he, if_neg (by omega)]
      show (w.heap ++ bs.map _)[k]? = _
      rw [Array.getElem?_append_right hkk, Array.getElem?_map]
/-- how far a world of the class is from w -/
abbrev FarBy : Type := PProd (Array (Array Value × TypeId)) Nat
theorem wp_region_quiet_far {P : Program} {id : Nat} {Q : Exit → Act → World → Prop} {a : Act} {w : World} {l : List Oper} (hm : P.follows .mixedOrders = true) (hB : Region.lexB .any l.toArray = true)
    (h : wpQuiet P l.toArray (fun w' => ∃ p : FarBy, w' = w.far p.1 p.2) (fun a' => ∀ w', (∃ p : FarBy, w' = w.far p.1 p.2) → Q .normal a' w') l a) : (Code.region id l.toArray true).wp P Q a w :=
  wp_region_quiet (C := fun w' => ∃ p : FarBy, w' = w.far p.1 p.2) hm hB ⟨⟨#[], 1⟩, by simp [World.far]⟩ (by simpa using h)
theorem wp_region_quiet_far2 {P : Program} {id : Nat} {Q : Exit → Act → World → Prop} {a : Act} {w : World} {B : Array (Array Value × TypeId)} {N : Nat} {l : List Oper} (hm : P.follows .mixedOrders = true) (hB : Region.lexB .any l.toArray = true)
    (h : wpQuiet P l.toArray (fun w' => ∃ p : FarBy, w' = w.far p.1 p.2) (fun a' => ∀ w', (∃ p : FarBy, w' = w.far p.1 p.2) → Q .normal a' w') l a) : (Code.region id l.toArray true).wp P Q a (w.far B N) :=
  wp_region_quiet (C := fun w' => ∃ p : FarBy, w' = w.far p.1 p.2) hm hB ⟨⟨B, N + 1⟩, rfl⟩ (by simpa using h)
/-- a callee's contract, met in a world of the class -/
theorem Calls.far_of {P : Program} {f : FuncId} {args : Array Value} {w : World} {n : Nat} {bs : Array (Array Value × TypeId)} {v : Value}
    (h : Calls P f args (w.far bs n) fun e w' => e = .returned v ∧ Later (w.far bs n) w') : Calls P f args (w.far bs n) fun e w'' => e = .returned v ∧ ∃ p : FarBy, w'' = w.far p.1 p.2 :=
  h.mono fun _ _ ⟨he, cs, m, hq⟩ => ⟨he, ⟨bs ++ cs, n + m⟩, by rw [hq, World.far_far]⟩
theorem Calls.far_of_same {P : Program} {f : FuncId} {args : Array Value} {w : World} {n : Nat} {bs : Array (Array Value × TypeId)} {v : Value}
    (h : Calls P f args (w.far bs n) fun e w' => e = .returned v ∧ w' = w.far bs n) : Calls P f args (w.far bs n) fun e w'' => e = .returned v ∧ ∃ p : FarBy, w'' = w.far p.1 p.2 :=
  h.mono fun _ _ ⟨he, hq⟩ => ⟨he, ⟨bs, n⟩, hq⟩
end Go
