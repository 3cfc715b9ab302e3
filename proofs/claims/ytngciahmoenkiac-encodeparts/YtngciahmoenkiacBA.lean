/- Package encode: what a module's text is: bytes, or nothing where something may not be. -/
import Derived.Test.YtngciahmoenkiacXY
import Derived.Test.YtngciahmoenkiacXK
set_option linter.unusedVariables false
set_option linter.unusedSimpArgs false
set_option maxRecDepth 100000
set_option maxHeartbeats 4000000
namespace Go.Proofs.Ytngciahmoenkiac
open Go.RowKit
/-- bytes, if they may be -/
abbrev Ob : Type := Option (List Int)
def oB (a b : Ob) : Ob := a.bind fun x => b.map fun y => x ++ y
theorem oB_some (a b : List Int) : oB (some a) (some b) = some (a ++ b) := rfl
theorem oB_none (b : Ob) : oB none b = none := rfl
theorem oB_none2 (a : Ob) : oB a none = none := by cases a <;> rfl
theorem oB_nil (a : Ob) : oB a (some []) = a := by cases a <;> simp [oB]
theorem oB_nil0 (a : Ob) : oB (some []) a = a := by cases a <;> simp [oB]
theorem oB_assoc (a b c : Ob) : oB (oB a b) c = oB a (oB b c) := by cases a <;> cases b <;> cases c <;> simp [oB]
theorem oB_eq {a b : Ob} {d : List Int} (h : oB a b = some d) : ∃ x y, a = some x ∧ b = some y ∧ d = x ++ y := by
  cases a with
  | none => cases h
  | some x =>
    cases b with
    | none => cases h
    | some y => exact ⟨x, y, rfl, rfl, (Option.some.inj h).symm⟩
/-- the bytes of a text -/
def strL (s : ByteArray) : List Int := s.data.toList.map fun b => (b.toNat : Int)
def eC (c : Int) : Ob := some [c]
def eN (x : Int) : Ob := if 0 ≤ x ∧ x ≤ 4294967295 then some (lebL x) else none
def eB (b : Bool) : Ob := some [if b = true then 1 else 0]
def eK (t : Int) : Ob := if 124 ≤ t ∧ t ≤ 127 then some [t] else none
def eT (s : ByteArray) : Ob := if (nmR s).2 = 0 then some (strL (nmR s).1) else none
def eI (f : Fs) : Ob := if (puR f).2 = 0 then some (puR f).1 else none
def eKi (k : Int) : Ob := if 0 ≤ k ∧ k ≤ 3 then some [k] else none
/-- items one behind the other -/
def eA {α : Type} (g : α → Ob) : List α → Ob
  | [] => some []
  | x :: r => oB (g x) (eA g r)
theorem eA_app {α : Type} (g : α → Ob) : ∀ (a b : List α), eA g (a ++ b) = oB (eA g a) (eA g b)
  | [], b => (oB_nil0 _).symm
  | x :: a, b => by
    show oB (g x) (eA g (a ++ b)) = oB (oB (g x) (eA g a)) (eA g b)
    rw [eA_app g a b, oB_assoc]
def eL {α : Type} (most : Nat) (g : α → Ob) (xs : List α) : Ob := if xs.length ≤ most then oB (some (lebL (xs.length : Int))) (eA g xs) else none
/-- how many bytes, then these -/
def eZ (o : Ob) : Ob := o.bind fun b => some (lebL (b.length : Int) ++ b)
def eLi (x : Int × Int) : Ob := if x.2 = -1 then oB (eC 0) (eN x.1) else oB (eC 1) (oB (eN x.1) (eN x.2))
def eTa (x : Int × Int) : Ob := oB (eC 112) (eLi x)
def eTy (x : List Int × List Int) : Ob := oB (eC 96) (oB (eL 1024 eK x.1) (eL 1024 eK x.2))
/-- what an import's kind says -/
def eD (k ty : Int) (mu : Bool) (a b : Int) : Ob :=
  if k = 0 then (if mu = false ∧ a = 0 ∧ b = 0 then eN ty else none) else
  if k = 1 then (if ty = 0 ∧ mu = false then eTa (a, b) else none) else
  if k = 2 then (if ty = 0 ∧ mu = false then eLi (a, b) else none) else
  if a = 0 ∧ b = 0 then oB (eK ty) (eB mu) else none
def eIm (x : Imp) : Ob := oB (eT x.1) (oB (eT x.2.1) (oB (eKi x.2.2.1) (eD x.2.2.1 x.2.2.2.1 x.2.2.2.2.1 x.2.2.2.2.2.1 x.2.2.2.2.2.2)))
def eGl (x : Int × Bool × Fs) : Ob := oB (eK x.1) (oB (eB x.2.1) (eI x.2.2))
def eEx (x : ByteArray × Int × Int) : Ob := oB (eT x.1) (oB (eKi x.2.1) (eN x.2.2))
def eEl (x : Fs × List Int) : Ob := oB (eC 0) (oB (eI x.1) (eL 1024 eN x.2))
def eDa (x : Fs × ByteArray) : Ob := oB (eC 0) (oB (eI x.1) (some (lebL (x.2.size : Int) ++ strL x.2)))
/-- locals as runs -/
def rnS (d : List (Int × Int)) (t : Int) : List (Int × Int) := if (d.getLast?.map Prod.snd) = some t then d.dropLast ++ [((d.getLast?.getD (0, 0)).1 + 1, t)] else d ++ [(1, t)]
def runs (ts : List Int) : List (Int × Int) := ts.foldl rnS []
def eR (x : Int × Int) : Ob := oB (eN x.1) (eK x.2)
def eLo (ts : List Int) : Ob := if ts.length ≤ 256 then oB (some (lebL ((runs ts).length : Int))) (eA eR (runs ts)) else none
def eCo (x : List Int × Fs) : Ob := eZ (oB (eLo x.1) (eI x.2))
/-- a section, if it has content -/
def eS (id : Int) (n : Nat) (o : Ob) : Ob := o.bind fun b => if n = 0 then some [] else some (id :: (lebL (b.length : Int) ++ b))
def eSt (x : Int) : Ob := if x = -1 then some [] else eS 8 1 (eN x)
def eHd : List Int := [0, 97, 115, 109, 1, 0, 0, 0]
/-- all sections -/
def eM (m : Md) : Ob := oB (eS 1 m.ty.length (eL 256 eTy m.ty)) (oB (eS 2 m.im.length (eL 1024 eIm m.im)) (oB (eS 3 m.fu.length (eL 256 eN m.fu)) (oB (eS 4 m.ta.length (eL 1024 eTa m.ta)) (oB (eS 5 m.me.length (eL 1024 eLi m.me)) (oB (eS 6 m.gl.length (eL 1024 eGl m.gl)) (oB (eS 7 m.ex.length (eL 1024 eEx m.ex)) (oB (eSt m.st) (oB (eS 9 m.el.length (eL 1024 eEl m.el)) (oB (eS 10 m.co.length (eL 256 eCo m.co)) (eS 11 m.da.length (eL 1024 eDa m.da)))))))))))
/-- a module's text -/
def enM (m : Md) : ByteArray × Int := match eM m with
  | none => (⟨#[]⟩, 1600)
  | some b => if m.fu.length = m.co.length ∧ b.length + 8 ≤ 65536 then (strOfNums (eHd ++ b), 0) else (⟨#[]⟩, 1600)
end Go.Proofs.Ytngciahmoenkiac
