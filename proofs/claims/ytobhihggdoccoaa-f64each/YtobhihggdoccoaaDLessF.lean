/- Less, by signs and rungs. -/
import Derived.WalkKit
namespace Go.Proofs.Ytobhihggdoccoaa.D
/-- less, by signs and rungs -/
def lessF (s t : Bool) (p q : Int) : Bool := if p = 0 ∧ q = 0 then false else if s != t then s else if s then decide (q < p) else decide (p < q)
theorem lessF_a (s t : Bool) (p q : Int) (h1 : p = 0) (h2 : q = 0) : lessF s t p q = false := by unfold lessF; rw [if_pos ⟨h1, h2⟩]
theorem lessF_b (s t : Bool) (p q : Int) (h1 : p = 0) (h2 : ¬ q = 0) : lessF s t p q = if s != t then s else if s then decide (q < 0) else decide (0 < q) := by
  unfold lessF; rw [if_neg (fun h => h2 h.2), h1]
theorem lessF_c (s t : Bool) (p q : Int) (h1 : ¬ p = 0) : lessF s t p q = if s != t then s else if s then decide (q < p) else decide (p < q) := by
  unfold lessF; rw [if_neg (fun h => h1 h.1)]
/-- a comparison, by its number: no number, less, greater -/
def cmpF (k : Int) (n l g : Bool) : Bool := if n then k == 1 else if k = 0 then !l && !g else if k = 1 then l || g else if k = 2 then l else if k = 3 then g else if k = 4 then !g else !l
/-- the lesser and the greater -/
def extF (most n l g : Bool) (no x y za zo : Int) : Int := if n then no else if l then (if most then y else x) else if g then (if most then x else y) else if most then za else zo
/-- a truth as a number -/
def tr (b : Bool) : Int := if b then 1 else 0
/-- an operation on two floats, by its number -/
def binF (k z0 z2 z3 z4 z5 z6 : Int) : Int := if k = 0 then z0 else if k = 2 then z2 else if k = 3 then z3 else if k = 4 then z4 else if k = 5 then z5 else z6
end Go.Proofs.Ytobhihggdoccoaa.D
