/- Over this seat's translation: the document's reader: one instruction with blocks. -/
import Derived.Test.YtngciahmoenkiacXL
import Derived.Test.YtngciahmoenkiacXE
set_option linter.unusedVariables false
set_option linter.unusedSimpArgs false
set_option maxRecDepth 100000
set_option maxHeartbeats 40000000
namespace Go.Proofs.Ytngciahmoenkiac
open Go.RowKit
variable {q : Nat} {s : ByteArray} {st : Rst} {w W W' : World}
theorem set_other {W : World} {p : Nat} {T : TypeId} {n : Nat} {F : Nat → Value} (hr : W.rowIs p T n F) (i : Nat) (u : Value) {k : Nat} (hk : k ≠ p) (hl : k < W.heap.size) : (W.setCell ⟨p, i, none⟩ u).heap[k]? = W.heap[k]? := ((Turned.refl hr).set hr i u).block hk hl
theorem Tr.setp {B p : Nat} {A : Option Addr} {f : Fs} {T : TypeId} {n : Nat} {F : Nat → Value} (h : Tr (B ≤ ·) W A f) (hr : W.rowIs p T n F) (hp : p < B) (i : Nat) (u : Value) : Tr (B ≤ ·) (W.setCell ⟨p, i, none⟩ u) A f := h.keep fun k hk hl => set_other hr i u (by omega) hl
theorem Tr.res {B p : Nat} {A : Option Addr} {f : Fs} {T : TypeId} {n : Nat} (h : Tr (B ≤ ·) W A f ∧ ∃ G, W.rowIs p T n G) (hp : p < B) (i : Nat) (u : Value) : Tr (B ≤ ·) (W.setCell ⟨p, i, none⟩ u) A f ∧ ∃ G, (W.setCell ⟨p, i, none⟩ u).rowIs p T n G := by
  obtain ⟨h1, G, h2⟩ := h
  exact ⟨h1.setp h2 hp i u, _, h2.set i u⟩
end Go.Proofs.Ytngciahmoenkiac
