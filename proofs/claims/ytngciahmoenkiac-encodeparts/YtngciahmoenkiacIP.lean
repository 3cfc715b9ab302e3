/- Over this seat's translation: the document's All: each instruction with its depth. -/
import Derived.Test.YtngciahmoenkiacXJ
set_option linter.unusedVariables false
set_option linter.unusedSimpArgs false
set_option maxRecDepth 100000
set_option maxHeartbeats 4000000
namespace Go.Proofs.Ytngciahmoenkiac
open Go.RowKit
/-- an instruction met: its depth, its Op, its A, how long its Body is -/
abbrev Stp := Int × Int × Int × Nat
def al : Fs → Int → List Stp → List Stp
  | ⟨none⟩, _, out => out
  | ⟨some (op, a, b, bi, ty, ls, bo, el, r)⟩, deep, out => if out.length ≤ 8192 then al r deep (al el (deep + 1) (al bo (deep + 1) (out ++ [(deep, op, a, bo.len)]))) else out
theorem al_full : ∀ (f : Fs) (deep : Int) (out : List Stp), 8192 < out.length → al f deep out = out
  | ⟨none⟩, deep, out, h => rfl
  | ⟨some (op, a, b, bi, ty, ls, bo, el, r)⟩, deep, out, h => by unfold al; rw [if_neg (by omega)]
theorem al_len : ∀ (f : Fs) (deep : Int) (out : List Stp), out.length ≤ 8193 → out.length ≤ (al f deep out).length ∧ (al f deep out).length ≤ 8193
  | ⟨none⟩, deep, out, h => ⟨Nat.le_refl _, h⟩
  | ⟨some (op, a, b, bi, ty, ls, bo, el, r)⟩, deep, out, h => by
    unfold al
    split
    · have h1 := al_len bo (deep + 1) (out ++ [(deep, op, a, bo.len)]) (by simp; omega)
      have h2 := al_len el (deep + 1) _ h1.2
      have h3 := al_len r deep _ h2.2
      simp only [List.length_append, List.length_singleton] at h1
      omega
    · exact ⟨Nat.le_refl _, h⟩
/-- the cells of what was met -/
def Sr : List Stp → List Value → Prop
  | [], L => L = []
  | s :: t, L => ∃ b bi ty LA ln lc B bc E en ec L', L = .int .i64 s.1 :: .int .i64 s.2.1 :: .int .i64 s.2.2.1 :: .int .i64 b :: .int .i64 bi :: .int .i64 ty :: .slice LA ln lc :: .slice B s.2.2.2 bc :: .slice E en ec :: L' ∧ Sr t L'
theorem Sr.app : ∀ {s t : List Stp} {L M : List Value}, Sr s L → Sr t M → Sr (s ++ t) (L ++ M)
  | [], t, L, M, h, h2 => by rw [h]; exact h2
  | x :: s, t, L, M, h, h2 => by
    obtain ⟨b, bi, ty, LA, ln, lc, B, bc, E, en, ec, L', rfl, h3⟩ := h
    exact ⟨b, bi, ty, LA, ln, lc, B, bc, E, en, ec, L' ++ M, rfl, h3.app h2⟩
variable {w0 w : World} {lab : Nat → Nat} {v : Value} {out : List Stp}
end Go.Proofs.Ytngciahmoenkiac
