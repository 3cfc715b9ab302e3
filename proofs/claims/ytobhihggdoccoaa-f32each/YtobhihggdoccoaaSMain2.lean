/- Over this seat's translation: the document's comparisons, extremes and operations on two floats are the model's. -/
import Derived.Test.YtobhihggdoccoaaSMain
import Derived.Test.YtobhihggdoccoaaSLessA
import Derived.Test.YtobhihggdoccoaaSCmpA
import Derived.Test.YtobhihggdoccoaaSExtA
import Derived.Test.YtobhihggdoccoaaSBinA
import Derived.Test.YtobhihggdoccoaaSBin1
namespace Go.Proofs.Ytobhihggdoccoaa.S
open Go.RowKit
open Go.FM (W64 two bl lost isN qn)
set_option linter.unusedVariables false

/-- less, by words -/
def lw (x y : Nat) : Bool := lessF (FM.sg ff x) (FM.sg ff y) (FM.rg ff x : Nat) (FM.rg ff y : Nat)
def Lf (u v : Int) : Bool := lw u.toNat v.toNat
def Pr (u : Int) : Prop := ∃ X : Nat, u = (X : Int) ∧ X < 4294967296
theorem rg_mask (x : Nat) (hx : x < 4294967296) : bits .and .u64 (x : Int) 2147483647 = ((FM.rg ff x : Nat) : Int) := by
  have := FM.mask_u x 31 (by simp only [W64]; omega) (by decide)
  rw [show ((2 ^ 31 - 1 : Nat) : Int) = 2147483647 from by decide] at this
  rw [this]
  unfold FM.rg
  rw [ff_sw]
theorem less_ok : Hid (∀ (u v : Int) (w : World), Pr u → Pr v → Calls Try.prog 55 #[fm, .int .u64 u, .int .u64 v] w fun e w' => e = .returned (.bool (Lf u v)) ∧ Later w w') := by
  intro u v w ⟨x, hu, hx⟩ ⟨y, hv, hy⟩
  subst hu
  subst hv
  obtain ⟨i1, n1, m, i, h1, h2, h3⟩ := apart_ex x hx
  obtain ⟨i2, n2, n, j, g1, g2, g3⟩ := apart_ex y hy
  exact less_all _ _ _ _ _ _ _ _ _ _ _ _ _ _ _ h3 g3 (rg_mask x hx) (rg_mask y hy) rfl w
theorem lessF_key (s t : Bool) (r q : Nat) : lessF s t (r : Int) (q : Int) = decide (FM.key s r < FM.key t q) := by
  unfold lessF FM.key
  by_cases h : (r : Int) = 0 ∧ (q : Int) = 0
  · rw [if_pos h]
    symm
    rw [decide_eq_false_iff_not]
    cases s <;> cases t <;> simp only [if_true, if_false, Bool.false_eq_true] <;> omega
  · rw [if_neg h]
    cases s <;> cases t
    · rw [if_neg (by decide), if_neg (by decide), if_neg (by decide), if_neg (by decide)]
    · rw [if_pos (by decide), if_neg (by decide), if_pos rfl]
      symm
      rw [decide_eq_false_iff_not]; omega
    · rw [if_pos (by decide), if_pos rfl, if_neg (by decide)]
      symm
      rw [decide_eq_true_iff]; omega
    · rw [if_neg (by decide), if_pos rfl, if_pos rfl, if_pos rfl]
      exact decide_eq_decide.2 (by omega)
theorem lw_key (x y : Nat) : lw x y = decide (FM.key (FM.sg ff x) (FM.rg ff x) < FM.key (FM.sg ff y) (FM.rg ff y)) := lessF_key _ _ _ _
theorem lw_not (x y : Nat) (h : lw x y = true) : lw y x = false := by
  rw [lw_key] at h ⊢
  rw [decide_eq_true_iff] at h
  rw [decide_eq_false_iff_not]; omega
theorem Lf_nat (x y : Nat) : Lf (x : Int) (y : Int) = lw x y := rfl
/-- the order, by less -/
theorem order_lw (x y : Nat) (hx : ¬ isN ff x) (hy : ¬ isN ff y) :
    (lw x y = true ∧ lw y x = false ∧ ff.order x y = some .lt) ∨ (lw x y = false ∧ lw y x = true ∧ ff.order x y = some .gt) ∨ (lw x y = false ∧ lw y x = false ∧ ff.order x y = some .eq) := by
  have ho := FM.order_key ff hff x y (by unfold isN at hx; omega) (by unfold isN at hy; omega)
  rw [lw_key, lw_key, ho]
  generalize FM.key (FM.sg ff x) (FM.rg ff x) = a
  generalize FM.key (FM.sg ff y) (FM.rg ff y) = b
  rcases Int.lt_trichotomy a b with h | h | h
  · left
    exact ⟨decide_eq_true h, decide_eq_false (by omega), by rw [FM.cmp_lt h]⟩
  · right; right
    exact ⟨decide_eq_false (by omega), decide_eq_false (by omega), by rw [FM.cmp_eq h]⟩
  · right; left
    exact ⟨decide_eq_false (by omega), decide_eq_true h, by rw [FM.cmp_gt h]⟩
/-- a comparison, by the order -/
def cmpO (k : Int) (o : Option Ordering) : Bool :=
  if k = 0 then o == some .eq else if k = 1 then o != some .eq else if k = 2 then o == some .lt else if k = 3 then o == some .gt
  else if k = 4 then o == some .lt || o == some .eq else o == some .gt || o == some .eq
theorem order_nan (x y : Nat) (h : isN ff x ∨ isN ff y) : ff.order x y = none := by
  rcases h with h | h
  · exact FM.order_nan_l ff hff x y h
  · exact FM.order_nan_r ff hff x y h
theorem nan_or {n1 n2 : Bool} {x y : Nat} (h2 : n1 = true ↔ isN ff x) (g2 : n2 = true ↔ isN ff y) : ((n1 || n2) = true ∧ (isN ff x ∨ isN ff y)) ∨ ((n1 || n2) = false ∧ ¬ isN ff x ∧ ¬ isN ff y) := by
  cases n1
  · cases n2
    · right
      exact ⟨rfl, fun h => Bool.noConfusion (h2.2 h), fun h => Bool.noConfusion (g2.2 h)⟩
    · left
      exact ⟨rfl, Or.inr (g2.1 rfl)⟩
  · left
    exact ⟨by cases n2 <;> rfl, Or.inl (h2.1 rfl)⟩
theorem cmpF_ok (k : Int) (hk : 0 ≤ k ∧ k ≤ 5) (n : Bool) (x y : Nat) (h : (n = true ∧ (isN ff x ∨ isN ff y)) ∨ (n = false ∧ ¬ isN ff x ∧ ¬ isN ff y)) : cmpF k n (lw x y) (lw y x) = cmpO k (ff.order x y) := by
  have hc : k = 0 ∨ k = 1 ∨ k = 2 ∨ k = 3 ∨ k = 4 ∨ k = 5 := by omega
  rcases h with ⟨rfl, h⟩ | ⟨rfl, hx, hy⟩
  · rw [order_nan x y h]
    generalize lw x y = l
    generalize lw y x = g
    rcases hc with rfl | rfl | rfl | rfl | rfl | rfl <;> rfl
  · rcases order_lw x y hx hy with ⟨e1, e2, e3⟩ | ⟨e1, e2, e3⟩ | ⟨e1, e2, e3⟩
    all_goals
      rw [e1, e2, e3]
      rcases hc with rfl | rfl | rfl | rfl | rfl | rfl <;> rfl
theorem truth_any : Hid (∀ (b : Bool) (w : World), Calls Try.prog 54 #[.bool b] w fun e w' => e = .returned (.int .i64 (tr b)) ∧ w' = w) := by
  intro b w
  cases b
  all_goals
    go_enter Try.func54, Try.ntmps54
    go_wp2
    go_ret
    exact ⟨rfl, rfl⟩
theorem cmp_ok (k : Int) (x y : Nat) (hk : 0 ≤ k ∧ k ≤ 5) (hx : x < 4294967296) (hy : y < 4294967296) (w : World) :
    Calls Try.prog 32 #[fm, .int .i64 k, .int .u64 (x : Nat), .int .u64 (y : Nat)] w fun e w' => e = .returned (.int .i64 (tr (cmpO k (ff.order x y)))) ∧ Later w w' := by
  obtain ⟨i1, n1, m, i, h1, h2, h3⟩ := apart_ex x hx
  obtain ⟨i2, n2, n, j, g1, g2, g3⟩ := apart_ex y hy
  rw [← cmpF_ok k hk _ x y (nan_or h2 g2)]
  exact cmp_all _ _ _ _ _ _ _ _ _ _ _ _ _ _ h3 g3 Lf Pr ⟨x, rfl, hx⟩ ⟨y, rfl, hy⟩ less_ok truth_any hk (fun h => lw_not x y h) rfl w
theorem extF_ok (most n : Bool) (x y : Nat) (h : (n = true ∧ (isN ff x ∨ isN ff y)) ∨ (n = false ∧ ¬ isN ff x ∧ ¬ isN ff y)) :
    extF most n (lw x y) (lw y x) 2143289344 x y ((x &&& y : Nat) : Int) ((x ||| y : Nat) : Int) = (((if most then FM.maxW ff x y else FM.minW ff x y) : Nat) : Int) := by
  unfold FM.maxW FM.minW
  rcases h with ⟨rfl, h⟩ | ⟨rfl, hx, hy⟩
  · rw [order_nan x y h]
    cases most
    · exact fixo_none'.symm
    · exact fixo_none'.symm
  · rcases order_lw x y hx hy with ⟨e1, e2, e3⟩ | ⟨e1, e2, e3⟩ | ⟨e1, e2, e3⟩
    all_goals
      rw [e1, e2, e3]
      cases most <;> rfl
theorem ext_ok (most : Bool) (x y : Nat) (hx : x < 4294967296) (hy : y < 4294967296) (w : World) :
    Calls Try.prog 59 #[fm, .bool most, .int .u64 (x : Nat), .int .u64 (y : Nat)] w fun e w' => e = .returned (.int .u64 (((if most then FM.maxW ff x y else FM.minW ff x y) : Nat) : Int)) ∧ Later w w' := by
  obtain ⟨i1, n1, m, i, h1, h2, h3⟩ := apart_ex x hx
  obtain ⟨i2, n2, n, j, g1, g2, g3⟩ := apart_ex y hy
  rw [← extF_ok most _ x y (nan_or h2 g2)]
  exact ext_all _ _ _ _ _ _ _ _ _ _ _ _ _ _ _ _ h3 g3 Lf Pr ⟨x, rfl, hx⟩ ⟨y, rfl, hy⟩ less_ok (FM.and_u x y (by simp only [W64]; omega) (by simp only [W64]; omega)) (FM.or_u x y (by simp only [W64]; omega) (by simp only [W64]; omega)) (fun h => lw_not x y h) rfl w
theorem RelD_opp {d : Ieee.Datum} {s i1 n1 : Bool} {m i : Int} (h : RelD d s i1 n1 m i) : RelD d.opposite (!s) i1 n1 m i := by
  cases d with
  | nan s' q => obtain ⟨h1, h2⟩ := h; exact ⟨by rw [h1], h2⟩
  | infinity s' => obtain ⟨h1, h2⟩ := h; exact ⟨by rw [h1], h2⟩
  | number s' M I => obtain ⟨h1, h2⟩ := h; exact ⟨by rw [h1], h2⟩
/-- what the document makes of two floats, by its number -/
def binG (k : Int) (x y : Nat) : Nat :=
  if k = 0 then FM.fixo ff (ff.add x y) else if k = 1 then FM.fixo ff (ff.sub x y) else if k = 2 then FM.fixo ff (ff.mul x y) else if k = 3 then FM.fixo ff (ff.div x y)
  else if k = 4 then FM.minW ff x y else if k = 5 then FM.maxW ff x y else x % 2147483648 ||| (y &&& 2147483648)
theorem bin_ok (k : Int) (x y : Nat) (hk : 0 ≤ k ∧ k ≤ 6) (hx : x < 4294967296) (hy : y < 4294967296) (w : World) :
    Calls Try.prog 33 #[fm, .int .i64 k, .int .u64 (x : Nat), .int .u64 (y : Nat)] w fun e w' => e = .returned (.int .u64 ((binG k x y : Nat) : Int)) ∧ Later w w' := by
  obtain ⟨i1, n1, m, i, h1, h2, h3⟩ := apart_ex x hx
  obtain ⟨i2, n2, n, j, g1, g2, g3⟩ := apart_ex y hy
  by_cases hk1 : k = 1
  · subst hk1
    have e : binG 1 x y = FM.fixo ff (ff.sub x y) := by simp [binG]
    rw [e]
    exact bin_1w _ _ _ _ _ _ _ _ _ _ _ _ _ h3 g3 (sum_all (ff.read x) (ff.read y).opposite _ _ _ _ _ _ _ _ _ _ h1 (RelD_opp g1)) w
  · have hm : x % 2147483648 < W64 := by simp only [W64]; omega
    have hl : y &&& 2147483648 < W64 := Nat.lt_of_le_of_lt Nat.and_le_right (by decide)
    have hr : Hid (binF k ((FM.fixo ff (ff.add x y) : Nat) : Int) ((FM.fixo ff (ff.mul x y) : Nat) : Int) ((FM.fixo ff (ff.div x y) : Nat) : Int) ((FM.minW ff x y : Nat) : Int) ((FM.maxW ff x y : Nat) : Int) ((x % 2147483648 ||| (y &&& 2147483648) : Nat) : Int) = ((binG k x y : Nat) : Int)) := by
      show _ = _
      unfold binF binG
      by_cases e0 : k = 0
      · rw [if_pos e0, if_pos e0]
      rw [if_neg e0, if_neg e0, if_neg hk1]
      by_cases e2 : k = 2
      · rw [if_pos e2, if_pos e2]
      rw [if_neg e2, if_neg e2]
      by_cases e3 : k = 3
      · rw [if_pos e3, if_pos e3]
      rw [if_neg e3, if_neg e3]
      by_cases e4 : k = 4
      · rw [if_pos e4, if_pos e4]
      rw [if_neg e4, if_neg e4]
      by_cases e5 : k = 5
      · rw [if_pos e5, if_pos e5]
      rw [if_neg e5, if_neg e5]
    exact bin_all _ _ _ _ _ _ _ _ _ _ _ _ _ _ _ _ _ _ _ _ h3 g3 (sum_all (ff.read x) (ff.read y) _ _ _ _ _ _ _ _ _ _ h1 g1) (product_all (ff.read x) (ff.read y) _ _ _ _ _ _ _ _ _ _ h1 g1) (quotient_all x y _ _ _ _ _ _ _ _ _ _ h1 g1)
      (ext_ok false x y hx hy) (ext_ok true x y hx hy) _ _ (andNot_sg x hx) (FM.and_u y 2147483648 (by simp only [W64]; omega) (by decide)) (FM.or_u _ _ hm hl) ⟨hk, hk1⟩ hr w
end Go.Proofs.Ytobhihggdoccoaa.S
