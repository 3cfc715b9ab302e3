/- package decode's reader: the world it leaves, what it throws; need, left, next, must, flag, valueType, kind. -/
import Derived.Test.YtngciahmoenkiabDA
import Derived.Test.YtngciahmoenkiabXV
import Derived.Test.YtngciahmoenkiabXT
import Derived.Test.YtngciahmoenkiabXR
set_option linter.unusedVariables false
set_option linter.unusedSimpArgs false
set_option maxRecDepth 100000
set_option maxHeartbeats 4000000
namespace Go.Proofs.Ytngciahmoenkiab
open Go.RowKit
/-- an error that is thrown -/
abbrev thr (c : Int) : Ending := .panicked [{ v := .iface 35 (.int .i64 c), recovered := false }]
/-- the program's reader: a text that ends with the section, and the place in it -/
def dF (v : ByteArray) (b : Nat) (a : Int) (j : Nat) : Value := [Value.string v, .int .i64 ((b : Int) + a)].getD j undef
def Ds (q b : Nat) (w wr : World) (v : ByteArray) (a : Int) : Prop := Wr (· = q) w wr ∧ wr.rowIs q 82 2 (dF v b a)
variable {q b : Nat} {w wr wr' : World} {v u : ByteArray} {st st' : Sst} {a a' : Int}
theorem Ds.start (h : w.rowIs q 82 2 (dF v b a)) : Ds q b w w v a := ⟨Wr.refl _ _, h⟩
theorem Ds.later (h : Ds q b w wr v a) (hl : Later wr wr') : Ds q b w wr' v a := ⟨h.1.ltr hl, rowIs_later hl h.2⟩
theorem Ds.trans (h : Ds q b w wr v a) (h2 : Ds q b wr wr' v a') : Ds q b w wr' v a' := ⟨h.1.trans h2.1, h2.2⟩
theorem Ds.set (h : Ds q b w wr v a) (x : Int) (hx : x = (b : Int) + a') : Ds q b w (wr.setCell ⟨q, 1, none⟩ (.int .i64 x)) v a' := by
  refine ⟨h.1.set 1 _ (Or.inl rfl), ?_⟩
  obtain ⟨c, e1, e2, e3⟩ := h.2.set 1 (.int .i64 x)
  refine ⟨c, e1, e2, fun i hi => ?_⟩
  rw [e3 i hi, hx]
  match i, hi with
  | 0, _ => rfl
  | 1, _ => rfl
theorem Ds.cell0 (h : Ds q b w wr v a) : wr.cell? ⟨q, 0, none⟩ = some (.string v) := h.2.cell (i := 0) (by decide)
theorem Ds.cell1 (h : Ds q b w wr v a) : wr.cell? ⟨q, 1, none⟩ = some (.int .i64 ((b : Int) + a)) := h.2.cell (i := 1) (by decide)
theorem Ds.frozen (h : Ds q b w wr v a) : wr.frozen? ⟨q, 1, none⟩ = false := h.2.frozen 1
theorem Ds.size (h : Ds q b w wr v a) : w.heap.size ≤ wr.heap.size := h.1.size
theorem Ds.put (h : Ds q b w wr v a) {p : Nat} (hp : w.heap.size ≤ p) (hq : q < w.heap.size) (i : Nat) (x : Value) : Ds q b w (wr.setCell ⟨p, i, none⟩ x) v a := ⟨h.1.set i x (Or.inr hp), h.2.of_block (Below.heap_setCell wr ⟨p, i, none⟩ x q (by show q ≠ p; omega))⟩
theorem Ds.above {B : Nat} (h : Ds q b w wr v a) (h2 : Wr (B ≤ ·) wr wr') (hB : w.heap.size ≤ B) (hq : q < B) : Ds q b w wr' v a := ⟨h.1.above h2 hB, h.2.of_block (h2.block q h.2.lt (by show ¬ B ≤ q; omega))⟩
/-- what a reader's call leaves: what was read, or the error thrown -/
def Got {α : Type} (q b : Nat) (w : World) (v : ByteArray) (P : α → Value → World → Prop) (r : α × Sst) (e : Ending) (w' : World) : Prop :=
  (r.2.code = 0 ∧ (∃ x, e = .returned x ∧ P r.1 x w') ∧ Ds q b w w' v r.2.at_) ∨ (¬ r.2.code = 0 ∧ e = thr r.2.code ∧ Wr (· = q) w w')
def pN (x : Int) (y : Value) (_ : World) : Prop := y = .int .i64 x
def pB (x : Bool) (y : Value) (_ : World) : Prop := y = .bool x
def pU (_ : Unit) (y : Value) (_ : World) : Prop := y = .tuple #[]
theorem sfail_new (a e : Int) : sfail ⟨a, 0⟩ e = ⟨a, e⟩ := if_pos rfl
theorem need_ok (c : Int) (w : World) : Calls Try.prog 24 #[.bool true, .int .i64 c] w fun e w' => e = .returned (.tuple #[]) ∧ w' = w := by
  go_enter Try.func24, Try.ntmps24
  go_wp2_with fail
  go_end0
  exact ⟨rfl, rfl⟩
theorem need_bad (c : Int) (w : World) : Calls Try.prog 24 #[.bool false, .int .i64 c] w fun e w' => e = thr c ∧ w' = w := by
  go_enter Try.func24, Try.ntmps24
  go_wp2_with fail
  exact ⟨rfl, rfl, rfl⟩
theorem left_any (hv : v.size < 9223372036854775000) (hS : Shf b v u) (hin : 0 ≤ a ∧ a ≤ u.size) (w : World) (h : w.rowIs q 82 2 (dF v b a)) :
    Calls Try.prog 25 #[.pointer (some ⟨q, 0, none⟩)] w fun e w' => e = .returned (.int .i64 ((u.size : Int) - a)) ∧ Hid (Ds q b w w' v a) := by
  have R := Ds.start h
  have c0 := R.cell0
  have c1 := R.cell1
  have hl := cell_lt c0
  have hsz := hS.size
  have hwr : wrap64 ((v.size : Int) - ((b : Int) + a)) = (u.size : Int) - a := by unfold wrap64; omega
  generalize (b : Int) + a = k at *
  replace R : Hid (Ds q b w w v a) := R
  clear h hS hsz hin hv
  go_enter Try.func25, Try.ntmps25
  go_wp2_with fail
  go_quiet (fail)
  go_wp2_with fail
  go_ret
  exact ⟨by show Ending.returned (.int .i64 (wrap64 _)) = _; rw [hwr], R.out.later (Ln (Lz _))⟩
theorem next_any (hv : v.size < 9223372036854775000) (hS : Shf b v u) (hc : st.code = 0) (hin : Sin u st) (w : World) (h : w.rowIs q 82 2 (dF v b st.at_)) :
    Calls Try.prog 62 #[.pointer (some ⟨q, 0, none⟩)] w (Got q b w v pN (sbyte u st)) := by
  obtain ⟨a, cd⟩ := st
  obtain rfl : cd = 0 := hc
  have hL : Hid (Calls Try.prog 25 #[.pointer (some ⟨q, 0, none⟩)] w fun e w' => e = .returned (.int .i64 ((u.size : Int) - a)) ∧ Hid (Ds q b w w' v a)) := left_any hv hS hin w h
  have hsz := hS.size
  have i0 : 0 ≤ a := hin.1
  have i1 : a ≤ u.size := hin.2
  unfold sbyte
  simp only []
  by_cases h1 : a < u.size
  · rw [if_pos ⟨trivial, h1⟩]
    obtain ⟨L, hLe⟩ : ∃ L : Int, L = (u.size : Int) - a := ⟨_, rfl⟩
    rw [← hLe] at hL
    have hL0 : 0 < L := by omega
    obtain ⟨K, hK⟩ : ∃ K : Nat, (K : Int) = (b : Int) + a := ⟨b + a.toNat, by omega⟩
    have hKv : K < v.size := by omega
    have hbt : bt u a.toNat = (v[K].toNat : Int) := by
      rw [← hS.same, show b + a.toNat = K by omega]
      exact dif_pos hKv
    rw [hbt]
    have hwr : wrap64 (v[K].toNat : Int) = (v[K].toNat : Int) := by have := v[K].toNat_lt; unfold wrap64; omega
    have hn : Hid (∀ W, Calls Try.prog 24 #[.bool true, .int .i64 1506] W fun e w' => e = .returned (.tuple #[]) ∧ w' = W) := need_ok 1506
    have hrow : Hid (w.rowIs q 82 2 (dF v b a)) := h
    have hK1 : Hid ((K : Int) + 1 = (b : Int) + (a + 1)) := by show _ = _; omega
    replace hK : Hid ((K : Int) = (b : Int) + a) := hK
    clear h hS hsz i0 i1 h1 hin hbt hLe
    go_enter Try.func62, Try.ntmps62
    go_wp2_with fail
    refine hL.out.mono ?_
    rintro e w1 ⟨rfl, R1⟩
    have c0 := R1.out.cell0
    have c1 := R1.out.cell1
    rw [← hK.out] at c1
    have f1 := R1.out.frozen
    have hl := cell_lt c0
    clear hL
    go_wp2_with (go_at_call 24; refine (hn.out _).mono ?_; rintro e w2 ⟨rfl, hw⟩; obtain rfl : w1 = w2 := hw.symm)
    go_quiet (fail)
    go_wp2_with fail
    go_ret
    exact Or.inl ⟨rfl, ⟨_, rfl, by show Value.int .i64 (wrap64 _) = _; rw [hwr]⟩, (R1.out.set (a' := a + 1) _ hK1.out).later (Ln (Lz _))⟩
  · rw [if_neg (fun x => h1 x.2), sfail_new]
    obtain ⟨L, hLe⟩ : ∃ L : Int, L = (u.size : Int) - a := ⟨_, rfl⟩
    rw [← hLe] at hL
    have hL0 : decide (0 < L) = false := decide_eq_false (by omega)
    have hn : Hid (∀ W, Calls Try.prog 24 #[.bool false, .int .i64 1506] W fun e w' => e = thr 1506 ∧ w' = W) := need_bad 1506
    clear h hS hsz i0 i1 h1 hin hLe
    go_enter Try.func62, Try.ntmps62
    go_wp2_with fail
    refine hL.out.mono ?_
    rintro e w1 ⟨rfl, R1⟩
    clear hL
    go_wp2_with (go_at_call 24; refine (hn.out _).mono ?_; rintro e w2 ⟨rfl, hw⟩; obtain rfl : w1 = w2 := hw.symm)
    exact ⟨rfl, Or.inr ⟨by show ¬ (1506 : Int) = 0; decide, rfl, R1.out.1⟩⟩
end Go.Proofs.Ytngciahmoenkiab
