/- What each operation on floats makes, as plain functions of words (over the model's own words for it); plain facts of them. -/
import Derived.Test.YtibfjlibkaejnaaFConv2
import Derived.Laws.FloatArith
namespace Go.FM
open Ieee
set_option linter.unusedVariables false

variable (f : Format)
/-- the result that is no number -/
def qn : Nat := f.infRung + 2 ^ (f.fractionBits - 1)
abbrev isN (x : Nat) : Prop := f.infRung < rg f x
def fixn (x : Nat) : Nat := if isN f x then qn f else x
def fixo (o : Option Nat) : Nat := o.getD (qn f)
def wholeW (way : Toward) (x : Nat) : Nat := if isN f x then qn f else f.write ((f.read x).integral way)
def rootW (x : Nat) : Nat := fixo f (f.sqrt x)
def minW (x y : Nat) : Nat := if f.order x y = some .lt then x else if f.order x y = some .gt then y else if f.order x y = some .eq then x ||| y else qn f
def maxW (x y : Nat) : Nat := if f.order x y = some .gt then x else if f.order x y = some .lt then y else if f.order x y = some .eq then x &&& y else qn f
/-- a word that is a number or an infinity -/
theorem rg_write (d : Datum) (h : d.isNaN = false) : rg f (f.write d) ≤ f.infRung := by
  have hs := Format.infRung_lt f
  cases d with
  | number s m e =>
    show rg f (f.nearest s m e) ≤ _
    rw [nearest_near, rg_word f s _ (Nat.lt_of_le_of_lt (near_inf f m e) hs)]
    exact near_inf f m e
  | infinity s =>
    show rg f (f.word s f.infRung) ≤ _
    rw [rg_word f s _ hs]; exact Nat.le_refl _
  | nan s t => cases h
theorem fixn_ok (x : Nat) (h : rg f x ≤ f.infRung) : fixn f x = x := by unfold fixn; rw [if_neg (by unfold isN; omega)]
theorem fixn_nan (x : Nat) (h : isN f x) : fixn f x = qn f := by unfold fixn; rw [if_pos h]
theorem fix_some {o : Option Datum} {r : Nat} (hd : ∀ d, o = some d → d.isNaN = false) (h : o.map f.write = some r) : rg f r ≤ f.infRung ∧ fixn f r = r := by
  cases o with
  | none => cases h
  | some d =>
    have : f.write d = r := by simpa using h
    subst this
    have h1 := rg_write f d (hd d rfl)
    exact ⟨h1, fixn_ok f _ h1⟩
theorem sum_num (a b d : Datum) (h : a.sum b = some d) : d.isNaN = false := by
  cases a <;> cases b <;> simp [Datum.sum] at h
  all_goals first
    | (subst h; rfl)
    | (obtain ⟨_, h⟩ := h; subst h; rfl)
theorem product_num (a b d : Datum) (h : a.product b = some d) : d.isNaN = false := by
  cases a <;> cases b <;> simp [Datum.product] at h
  all_goals first
    | (subst h; rfl)
    | (obtain ⟨_, h⟩ := h; subst h; rfl)
theorem quotient_num (k : Nat) (a b d : Datum) (h : a.quotient k b = some d) : d.isNaN = false := by
  cases a <;> cases b <;> simp [Datum.quotient] at h
  all_goals first
    | (subst h; rfl)
    | (obtain ⟨_, h⟩ := h; subst h; rfl)
    | (split at h; (split at h; cases h; (cases h; rfl)); (cases h; rfl))
theorem root_num (k : Nat) (a d : Datum) (h : a.root k = some d) : d.isNaN = false := by
  cases a with
  | number s m i =>
    unfold Datum.root at h
    dsimp only at h
    split at h
    · cases h; rfl
    · split at h
      · cases h
      · cases h; rfl
  | infinity s =>
    unfold Datum.root at h
    dsimp only at h
    split at h
    · cases h
    · cases h; rfl
  | nan s t => cases h
theorem add_ok {x y r : Nat} (h : f.add x y = some r) : fixn f r = r := (fix_some f (fun d hd => sum_num _ _ d hd) h).2
theorem sub_ok {x y r : Nat} (h : f.sub x y = some r) : fixn f r = r := (fix_some f (fun d hd => sum_num _ _ d hd) h).2
theorem mul_ok {x y r : Nat} (h : f.mul x y = some r) : fixn f r = r := (fix_some f (fun d hd => product_num _ _ d hd) h).2
theorem div_ok {x y r : Nat} (h : f.div x y = some r) : fixn f r = r := (fix_some f (fun d hd => quotient_num _ _ _ d hd) h).2
theorem sqrt_ok {x r : Nat} (h : f.sqrt x = some r) : fixn f r = r := (fix_some f (fun d hd => root_num _ _ d hd) h).2
theorem order_self (hf : 2 ≤ f.exponentBits) (x : Nat) (h : ¬ isN f x) : f.order x x = some .eq := by
  unfold isN at h
  rw [order_key f hf x x (by omega) (by omega), cmp_eq rfl]
theorem order_selfN (hf : 2 ≤ f.exponentBits) (x : Nat) (h : isN f x) : f.order x x = none := order_nan_l f hf x x h
/-- what the world draws for no number is none -/
theorem nan_cut32 (t : Nat) : isN Ieee.single ((t % 2) * 2 ^ 31 + 0x7f800000 + 1 + (t / 2) % (2 ^ 23 - 1)) ∧ (t % 2) * 2 ^ 31 + 0x7f800000 + 1 + (t / 2) % (2 ^ 23 - 1) < 4294967296 := by
  have h1 : Ieee.single.infRung = 2139095040 := by decide +kernel
  have h2 : Ieee.single.signWeight = 2147483648 := by decide +kernel
  unfold isN rg
  rw [h1, h2]
  have h3 : t / 2 % (2 ^ 23 - 1) < 2 ^ 23 - 1 := Nat.mod_lt _ (by decide)
  generalize t / 2 % (2 ^ 23 - 1) = z at *
  rcases Nat.mod_two_eq_zero_or_one t with h | h <;> rw [h] <;> omega
theorem nan_cut64 (t : Nat) : isN Ieee.double ((t % 2) * 2 ^ 63 + 0x7ff0000000000000 + 1 + (t / 2) % (2 ^ 52 - 1)) ∧ (t % 2) * 2 ^ 63 + 0x7ff0000000000000 + 1 + (t / 2) % (2 ^ 52 - 1) < 18446744073709551616 := by
  have h1 : Ieee.double.infRung = 9218868437227405312 := by decide +kernel
  have h2 : Ieee.double.signWeight = 9223372036854775808 := by decide +kernel
  unfold isN rg
  rw [h1, h2]
  have h3 : t / 2 % (2 ^ 52 - 1) < 2 ^ 52 - 1 := Nat.mod_lt _ (by decide)
  generalize t / 2 % (2 ^ 52 - 1) = z at *
  rcases Nat.mod_two_eq_zero_or_one t with h | h <;> rw [h] <;> omega
/-- floats of the kind -/
def kf : FloatKind → Format := FloatKind.format
theorem cut_nan (k : FloatKind) (x y t : Nat) : isN k.format ((Question.nanBits k x y).cut t) ∧ (Question.nanBits k x y).cut t < 2 ^ k.format.width := by
  cases k
  · exact nan_cut32 t
  · exact nan_cut64 t
theorem conv_nan (k : FloatKind) (x t : Nat) : isN k.format ((Question.nanConv k x).cut t) ∧ (Question.nanConv k x).cut t < 2 ^ k.format.width := by
  cases k
  · exact nan_cut32 t
  · exact nan_cut64 t
/-- no number: what Go hands back is none -/
theorem run_arith_none {P : Program} (op : BinOp) (t : TypeId) (k : FloatKind) (x y : Nat) (w : World) (ho : op = .add ∨ op = .sub ∨ op = .mul ∨ op = .quo) (h : floatBits op k x y = none) :
    (binOp op t (.float k x) (.float k y)).run P w = .ok (.float k ((Question.nanBits k x y).cut (w.tape w.drawn (.nanBits k x y)))) w.drew := by
  unfold floatBits at h
  rcases ho with rfl | rfl | rfl | rfl <;> simp only at h
  all_goals simp [binOp, Op.floatArith, h, Question.forced]
theorem run_conv_nan {P : Program} (src dst : TypeId) (s k : FloatKind) (b : Nat) (w : World) (hs : (P.underlying src).isSome = true) (hd : P.underlying dst = some (.float k)) (hne : s ≠ k) (sg' : Bool) (fr : Nat) (h : s.decode b = .nan sg' fr) :
    (convert src dst (.float s b)).run P w = .ok (.float k ((Question.nanConv k b).cut (w.tape w.drawn (.nanConv k b)))) w.drew := by
  obtain ⟨u, hs'⟩ := Option.isSome_iff_exists.1 hs
  cases u <;> simp [convert, run_underlying hs', run_underlying hd, Conv.floatToFloat, hne, h, Question.forced]
end Go.FM
