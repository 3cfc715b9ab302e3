/- XM: IV, IW, joined. -/
import Derived.Test.YtngciahmoenkiacXL
import Derived.Deep.RegionHeldLaw
/- Over this seat's translation: the document's reader: labels of one instruction: what is laid. -/
set_option linter.unusedVariables false
set_option linter.unusedSimpArgs false
set_option maxRecDepth 100000
set_option maxHeartbeats 4000000
namespace Go.Proofs.Ytngciahmoenkiac
open Go.RowKit
variable {q : Nat} {s : ByteArray} {st st' : Rst} {w W W' : World} {F : Nat → Value} {lab : Nat → Nat} {l : List Int}
def ints (l : List Int) : List Value := l.map fun x => Value.int .i64 x
theorem bk_res {V : World} {r : Nat} {T : TypeId} {n : Nat} (h : (∀ k, k ≠ r → k < V.heap.size → W.heap[k]? = V.heap[k]?) ∧ V.heap.size ≤ W.heap.size ∧ ∃ G, W.rowIs r T n G) (i : Nat) (u : Value) : (∀ k, k ≠ r → k < V.heap.size → (W.setCell ⟨r, i, none⟩ u).heap[k]? = V.heap[k]?) ∧ V.heap.size ≤ (W.setCell ⟨r, i, none⟩ u).heap.size ∧ ∃ G, (W.setCell ⟨r, i, none⟩ u).rowIs r T n G := by
  obtain ⟨h1, h2, G, h3⟩ := h
  have ht : Turned r W (W.setCell ⟨r, i, none⟩ u) := (Turned.refl h3).set h3 i u
  exact ⟨fun k hk hl => (ht.block hk (by omega)).trans (h1 k hk hl), Nat.le_trans h2 ht.size, _, h3.set i u⟩
end Go.Proofs.Ytngciahmoenkiac


/- Over this seat's translation: the document's reader: one instruction with labels. -/
set_option linter.unusedVariables false
set_option linter.unusedSimpArgs false
set_option maxRecDepth 100000
set_option maxHeartbeats 40000000
namespace Go.Proofs.Ytngciahmoenkiac
open Go.RowKit
variable {q : Nat} {s : ByteArray} {st : Rst}
theorem five {op : Int} : ∀ j, j < 8 → (fun j => [.int .i64 op, .int .i64 0, .int .i64 0, .int .i64 0, .int .i64 0, .slice none 0 0, .slice none 0 0, .slice none 0 0].getD j undef) j = (fun j => if j = 5 then .slice none 0 0 else (fun j => [.int .i64 op, .int .i64 0, .int .i64 0, .int .i64 0, .int .i64 0, .slice none 0 0, .slice none 0 0, .slice none 0 0].getD j undef) j) j := fun j hj => by
  match j, hj with
  | 0, _ => rfl
  | 1, _ => rfl
  | 2, _ => rfl
  | 3, _ => rfl
  | 4, _ => rfl
  | 5, _ => rfl
  | 6, _ => rfl
  | 7, _ => rfl
theorem rfail_code (st : Rst) (e : Int) (he : ¬ e = 0) : ¬ (rfail st e).code = 0 := by
  unfold rfail
  split
  · exact he
  · assumption
end Go.Proofs.Ytngciahmoenkiac

