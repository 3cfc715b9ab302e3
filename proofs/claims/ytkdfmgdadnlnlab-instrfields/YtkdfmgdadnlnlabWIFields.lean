/- 'InstrFields' of package peloruslaw14 returns true at every two ints: a field that an instruction does not use must be zero. No condition. -/
import Derived.Test.YtkdfmgdadnlnlabIAX
import Derived.Test.YtkdfmgdadnlnlabXQ
import Derived.LoopTactic
import Derived.OpenShut
import Derived.ChangeMaps5
import Derived.ShutString
import Derived.SizedLaws
set_option linter.unusedVariables false
set_option linter.unusedSimpArgs false
set_option maxRecDepth 100000
set_option maxHeartbeats 8000000
namespace Go.Proofs.Ytkdfmgdadnlnlab.instrFields
open Go.ChangeShapes Go.WideShapes Go.ChangeAt Go.RowKit
def pl (j : Nat) : Int := [0, 1, 15, 26, 27, 63, 64, 69, 106, 191].getD j 0
theorem pl_fo (j : Nat) (h : j < 10) : (fo (pl j) = 0 ∨ fo (pl j) = 7) ∧ 0 ≤ pl j ∧ pl j ≤ 255 := by
  have hh : ∀ j : Fin 10, (fo (pl j.val) = 0 ∨ fo (pl j.val) = 7) ∧ 0 ≤ pl j.val ∧ pl j.val ≤ 255 := by decide
  exact hh ⟨j, h⟩
theorem at_m (x : Int) (m : Nat) (hm : 0 < m) (hm2 : m ≤ 100) : ∃ j : Nat, (IntKind.u64.wrap x).tmod (m : Int) = (j : Int) ∧ j < m := by
  have h0 : 0 ≤ IntKind.u64.wrap x := by rw [IntKind.wrap_u64]; omega
  have h1 := Int.emod_nonneg (IntKind.u64.wrap x) (show (m : Int) ≠ 0 by omega)
  have h2 := Int.emod_lt_of_pos (IntKind.u64.wrap x) (show 0 < (m : Int) by omega)
  refine ⟨((IntKind.u64.wrap x) % (m : Int)).toNat, ?_, by omega⟩
  rw [Int.tmod_eq_emod_of_nonneg h0]
  omega
theorem bad (o a b bi ty : Int) (ls : List Int) (bo el : Fs) (hf : fo o = 0 ∨ fo o = 7) (h : ¬ (a = 0 ∧ b = 0 ∧ bi = 0 ∧ ls.length = 0 ∧ ty = 0 ∧ bo.len = 0 ∧ el.len = 0)) : puR (.cons o a b bi ty ls bo el .nil) = ([], 1400) := by
  have hc : (ck (.cons o a b bi ty ls bo el .nil) 0 0).1 = 1400 := by
    unfold ck
    rw [if_neg (by decide), if_neg (fun x => absurd x.2 (by decide)), if_pos (fun hm => by unfold mayP at hm; rw [if_pos hf] at hm; exact h hm)]
  unfold puR
  rw [hc, if_neg (by decide)]
theorem good (o : Int) (hf : fo o = 0 ∨ fo o = 7) : mayP o 0 0 0 0 [] 0 0 := by
  unfold mayP
  rw [if_pos hf]
  exact ⟨rfl, rfl, rfl, rfl, rfl, rfl, rfl⟩
theorem lq_lit {Z : Nat → Prop} {V W : World} {x : Int} (hl : Later (V.alloc (.cells #[.int .i64 x] 3)) W) (hz : Z V.heap.size) : Lq Z W (some ⟨V.heap.size, 0, none⟩) [x] := by
  refine ⟨Or.inr ⟨V.heap.size, 0, rfl, fun j hj => ?_⟩, fun _ a ha => by cases ha; exact hz⟩
  obtain rfl : j = 0 := by simpa using hj
  exact hl.cell_of (by simp [go_sem])
theorem okF (o a b bi ty : Int) (ls : List Int) (bo el : Fs) (h1 : i64 o) (h2 : i64 a) (h3 : i64 b) (h4 : i64 bi) (h5 : i64 ty) (h6 : ∀ x ∈ ls, i64 x) (h7 : ls.length ≤ 10) (h8 : bo.len ≤ 10) (h9 : el.len ≤ 10) (h10 : bo.Ok) (h11 : el.Ok) : (Fs.cons o a b bi ty ls bo el .nil).Ok := ⟨⟨h1, h2, h3, h4, h5, h6⟩, by omega, by omega, by omega, h10, h11, trivial⟩
def f1 : Fs := .cons 1 0 0 0 0 [] .nil .nil .nil
theorem ok1 : f1.Ok := by simp [f1, Fs.Ok, i64, Fs.len]
theorem c_0 (op field : Int) (j : Nat) (hj : j < 10) (hop : (IntKind.u64.wrap op).tmod 10 = (j : Int)) (hfi : (IntKind.u64.wrap field).tmod 7 = 0) (w : World) :
    Calls Try.prog 3 #[.int .i64 op, .int .i64 field] w fun e w' => e = .returned (.bool true) ∧ Later w w' := by
  obtain ⟨hf, hr1, hr2⟩ := pl_fo j hj
  have io : i64 (pl j) := by unfold i64; omega
  have i1 : i64 1 := by unfold i64; omega
  have i64' : i64 64 := by unfold i64; omega
  have nl : ∀ x ∈ ([] : List Int), i64 x := fun x h => by simp at h
  have g1 := put_one (pl j) 0 0 0 0 [] (good _ hf) trivial
  have b1 := bad (pl j) 1 0 0 0 [] .nil .nil hf (by simp [Fs.len, f1])
  have h1 : Hid (∀ (W : World) (B : Option Addr) (k : Nat), Tr (fun _ => True) W B (.cons (pl j) 0 0 0 0 [] .nil .nil .nil) → Calls Try.prog 8 #[.slice B 1 k] W fun e w' => ∃ t : ByteArray, e = .returned (.tuple #[.string t, .int .i64 0]) ∧ Hid (Later W w')) := fun W B k hB => (iput_is _ (okF (pl j) 0 0 0 0 [] .nil .nil io i64_0 i64_0 i64_0 i64_0 nl (by decide) (by decide) (by decide) trivial trivial) (by show 1 * 112 ≤ 140737488351232; decide) _ _ g1 1 rfl _ W B k hB).mono fun e w' h => ⟨_, h⟩
  have h2 : Hid (∀ (W : World) (B : Option Addr) (k : Nat), Tr (fun _ => True) W B (.cons (pl j) 1 0 0 0 [] .nil .nil .nil) → Calls Try.prog 8 #[.slice B 1 k] W fun e w' => e = .returned (.tuple #[.string ⟨#[]⟩, .int .i64 1400]) ∧ Hid (Later W w')) := fun W B k hB => iput_lit _ (okF (pl j) 1 0 0 0 [] .nil .nil io i1 i64_0 i64_0 i64_0 nl (by decide) (by decide) (by decide) trivial trivial) (by show 1 * 112 ≤ 140737488351232; decide) _ _ ⟨#[]⟩ rfl b1 1 rfl _ W B k hB
  have hjj : (j : Int) < 10 := by omega
  have hpl : Hid (∀ (W W' : World), Later (W.alloc (.cells #[.int .i64 0, .int .i64 1, .int .i64 15, .int .i64 26, .int .i64 27, .int .i64 63, .int .i64 64, .int .i64 69, .int .i64 106, .int .i64 191] 3)) W' → W'.cell? ⟨W.heap.size, j, none⟩ = some (.int .i64 (pl j))) := fun W W' hl => by
    refine hl.cell_of ?_
    rw [cell_of_row _ _ _ _ _ _ (heap_alloc_new W _)]
    have hh : ∀ j : Fin 10, (#[Value.int .i64 0, .int .i64 1, .int .i64 15, .int .i64 26, .int .i64 27, .int .i64 63, .int .i64 64, .int .i64 69, .int .i64 106, .int .i64 191] : Array Value)[j.val]? = some (.int .i64 (pl j.val)) := by
      intro j
      match j with
      | ⟨0, _⟩ => rfl
      | ⟨1, _⟩ => rfl
      | ⟨2, _⟩ => rfl
      | ⟨3, _⟩ => rfl
      | ⟨4, _⟩ => rfl
      | ⟨5, _⟩ => rfl
      | ⟨6, _⟩ => rfl
      | ⟨7, _⟩ => rfl
      | ⟨8, _⟩ => rfl
      | ⟨9, _⟩ => rfl
    exact hh ⟨j, hj⟩
  clear g1 b1 hf hr1 hr2 io i1 i64' nl
  generalize pl j = o at *
  go_enter Try.func3, Try.ntmps3
  go_wp2_with (go_at_call 7; refine (awake_any _).mono ?_; rintro e w0 ⟨rfl, l0⟩; replace l0 : Hid (Later w w0) := l0; have hc := hpl.out w0 _ (Lz _))
  refine calls_world ?_
  intro W hW
  have LW : Later w0 W := by rw [hW]; exact (by repeat first | exact Lz _ | apply La)
  have hrow : W.rowIs (w0.heap.size + 1) 27 8 (fun q => [.int .i64 o, .int .i64 0, .int .i64 0, .int .i64 0, .int .i64 0, .slice none 0 0, .slice none 0 0, .slice none 0 0].getD q undef) := by
    rw [hW]
    have := row8 (w0.alloc (.cells #[.int .i64 0, .int .i64 1, .int .i64 15, .int .i64 26, .int .i64 27, .int .i64 63, .int .i64 64, .int .i64 69, .int .i64 106, .int .i64 191] 3)) (.int .i64 o) (.int .i64 0) (.int .i64 0) (.int .i64 0) (.int .i64 0) (.slice none 0 0) (.slice none 0 0) (.slice none 0 0)
    rw [show (w0.alloc (.cells #[.int .i64 0, .int .i64 1, .int .i64 15, .int .i64 26, .int .i64 27, .int .i64 63, .int .i64 64, .int .i64 69, .int .i64 106, .int .i64 191] 3)).heap.size = w0.heap.size + 1 by simp] at this
    exact rowIs_later (La (Lz _)) this
  have T : Tr (fun _ => True) W (some ⟨w0.heap.size + 1 + 1, 0, none⟩) (.cons o 0 0 0 0 [] .nil .nil .nil) := by
    have := tr_lit (W' := W) (Z := fun _ => True) (ls := []) (bo := .nil) (el := .nil) rfl rfl rfl (by rw [hW]; exact Lz _) (lq_nil _ _ _) (Or.inl rfl) (Or.inl rfl) trivial
    simpa using this
  clear hW hc
  refine (h1.out _ _ _ T).mono ?_
  clear h1 T
  rintro e w1 ⟨t1, rfl, l1⟩
  have hrow1 := rowIs_later l1.out hrow
  have L1 := LW.trans l1.out
  have k0 : w1.cell? ⟨w0.heap.size + 1, 0, none⟩ = some (.int .i64 o) := hrow1.cell (i := 0) (by decide)
  have k1 : w1.cell? ⟨w0.heap.size + 1, 1, none⟩ = some (.int .i64 0) := hrow1.cell (i := 1) (by decide)
  have k2 : w1.cell? ⟨w0.heap.size + 1, 2, none⟩ = some (.int .i64 0) := hrow1.cell (i := 2) (by decide)
  have k3 : w1.cell? ⟨w0.heap.size + 1, 3, none⟩ = some (.int .i64 0) := hrow1.cell (i := 3) (by decide)
  have k4 : w1.cell? ⟨w0.heap.size + 1, 4, none⟩ = some (.int .i64 0) := hrow1.cell (i := 4) (by decide)
  have k5 : w1.cell? ⟨w0.heap.size + 1, 5, none⟩ = some (.slice none 0 0) := hrow1.cell (i := 5) (by decide)
  have k6 : w1.cell? ⟨w0.heap.size + 1, 6, none⟩ = some (.slice none 0 0) := hrow1.cell (i := 6) (by decide)
  have k7 : w1.cell? ⟨w0.heap.size + 1, 7, none⟩ = some (.slice none 0 0) := hrow1.cell (i := 7) (by decide)
  have fz := hrow1.frozen 1
  have hlt := cell_lt k0
  have LV : Hid (Later w0 (w1.setCell ⟨w0.heap.size + 1, 1, none⟩ (.int .i64 1))) := by
    have hr2 := rowIs_later (w' := w1) (Lz _) hrow1
    exact (L1.trans (Lz _)).turned hr2 (by omega) ((Turned.refl hr2).set hr2 1 (.int .i64 1))
  clear hrow hrow1 LW
  go_wp2_with fail
  refine calls_world ?_
  intro W2 hW2
  have L2 : Hid (Later w W2) := by
    rw [hW2]
    exact (l0.out.trans LV.out).trans (by repeat first | exact Lz _ | apply La)
  have T2 : Tr (fun _ => True) W2 (some ⟨w1.heap.size, 0, none⟩) (.cons o 1 0 0 0 [] .nil .nil .nil) := by
    have := tr_lit (W' := W2) (Z := fun _ => True) (ls := []) (bo := .nil) (el := .nil) rfl rfl rfl (by rw [hW2]; exact Lz _) (lq_nil _ _ _) (Or.inl rfl) (Or.inl rfl) trivial
    simpa using this
  clear hW2
  refine (h2.out _ _ _ T2).mono ?_
  rintro e w3 ⟨rfl, l3⟩
  clear h2 T2 LV
  go_wp2_with (go_at_call 9; refine (num_any _ _).mono ?_; rintro e w' ⟨rfl, hw⟩; have hw := hw.symm; subst hw)
  go_ret
  exact ⟨rfl, L2.out.trans l3.out⟩
theorem c_1 (op field : Int) (j : Nat) (hj : j < 10) (hop : (IntKind.u64.wrap op).tmod 10 = (j : Int)) (hfi : (IntKind.u64.wrap field).tmod 7 = 1) (w : World) :
    Calls Try.prog 3 #[.int .i64 op, .int .i64 field] w fun e w' => e = .returned (.bool true) ∧ Later w w' := by
  obtain ⟨hf, hr1, hr2⟩ := pl_fo j hj
  have io : i64 (pl j) := by unfold i64; omega
  have i1 : i64 1 := by unfold i64; omega
  have i64' : i64 64 := by unfold i64; omega
  have nl : ∀ x ∈ ([] : List Int), i64 x := fun x h => by simp at h
  have g1 := put_one (pl j) 0 0 0 0 [] (good _ hf) trivial
  have b1 := bad (pl j) 0 1 0 0 [] .nil .nil hf (by simp [Fs.len, f1])
  have h1 : Hid (∀ (W : World) (B : Option Addr) (k : Nat), Tr (fun _ => True) W B (.cons (pl j) 0 0 0 0 [] .nil .nil .nil) → Calls Try.prog 8 #[.slice B 1 k] W fun e w' => ∃ t : ByteArray, e = .returned (.tuple #[.string t, .int .i64 0]) ∧ Hid (Later W w')) := fun W B k hB => (iput_is _ (okF (pl j) 0 0 0 0 [] .nil .nil io i64_0 i64_0 i64_0 i64_0 nl (by decide) (by decide) (by decide) trivial trivial) (by show 1 * 112 ≤ 140737488351232; decide) _ _ g1 1 rfl _ W B k hB).mono fun e w' h => ⟨_, h⟩
  have h2 : Hid (∀ (W : World) (B : Option Addr) (k : Nat), Tr (fun _ => True) W B (.cons (pl j) 0 1 0 0 [] .nil .nil .nil) → Calls Try.prog 8 #[.slice B 1 k] W fun e w' => e = .returned (.tuple #[.string ⟨#[]⟩, .int .i64 1400]) ∧ Hid (Later W w')) := fun W B k hB => iput_lit _ (okF (pl j) 0 1 0 0 [] .nil .nil io i64_0 i1 i64_0 i64_0 nl (by decide) (by decide) (by decide) trivial trivial) (by show 1 * 112 ≤ 140737488351232; decide) _ _ ⟨#[]⟩ rfl b1 1 rfl _ W B k hB
  have hjj : (j : Int) < 10 := by omega
  have hpl : Hid (∀ (W W' : World), Later (W.alloc (.cells #[.int .i64 0, .int .i64 1, .int .i64 15, .int .i64 26, .int .i64 27, .int .i64 63, .int .i64 64, .int .i64 69, .int .i64 106, .int .i64 191] 3)) W' → W'.cell? ⟨W.heap.size, j, none⟩ = some (.int .i64 (pl j))) := fun W W' hl => by
    refine hl.cell_of ?_
    rw [cell_of_row _ _ _ _ _ _ (heap_alloc_new W _)]
    have hh : ∀ j : Fin 10, (#[Value.int .i64 0, .int .i64 1, .int .i64 15, .int .i64 26, .int .i64 27, .int .i64 63, .int .i64 64, .int .i64 69, .int .i64 106, .int .i64 191] : Array Value)[j.val]? = some (.int .i64 (pl j.val)) := by
      intro j
      match j with
      | ⟨0, _⟩ => rfl
      | ⟨1, _⟩ => rfl
      | ⟨2, _⟩ => rfl
      | ⟨3, _⟩ => rfl
      | ⟨4, _⟩ => rfl
      | ⟨5, _⟩ => rfl
      | ⟨6, _⟩ => rfl
      | ⟨7, _⟩ => rfl
      | ⟨8, _⟩ => rfl
      | ⟨9, _⟩ => rfl
    exact hh ⟨j, hj⟩
  clear g1 b1 hf hr1 hr2 io i1 i64' nl
  generalize pl j = o at *
  go_enter Try.func3, Try.ntmps3
  go_wp2_with (go_at_call 7; refine (awake_any _).mono ?_; rintro e w0 ⟨rfl, l0⟩; replace l0 : Hid (Later w w0) := l0; have hc := hpl.out w0 _ (Lz _))
  refine calls_world ?_
  intro W hW
  have LW : Later w0 W := by rw [hW]; exact (by repeat first | exact Lz _ | apply La)
  have hrow : W.rowIs (w0.heap.size + 1) 27 8 (fun q => [.int .i64 o, .int .i64 0, .int .i64 0, .int .i64 0, .int .i64 0, .slice none 0 0, .slice none 0 0, .slice none 0 0].getD q undef) := by
    rw [hW]
    have := row8 (w0.alloc (.cells #[.int .i64 0, .int .i64 1, .int .i64 15, .int .i64 26, .int .i64 27, .int .i64 63, .int .i64 64, .int .i64 69, .int .i64 106, .int .i64 191] 3)) (.int .i64 o) (.int .i64 0) (.int .i64 0) (.int .i64 0) (.int .i64 0) (.slice none 0 0) (.slice none 0 0) (.slice none 0 0)
    rw [show (w0.alloc (.cells #[.int .i64 0, .int .i64 1, .int .i64 15, .int .i64 26, .int .i64 27, .int .i64 63, .int .i64 64, .int .i64 69, .int .i64 106, .int .i64 191] 3)).heap.size = w0.heap.size + 1 by simp] at this
    exact rowIs_later (La (Lz _)) this
  have T : Tr (fun _ => True) W (some ⟨w0.heap.size + 1 + 1, 0, none⟩) (.cons o 0 0 0 0 [] .nil .nil .nil) := by
    have := tr_lit (W' := W) (Z := fun _ => True) (ls := []) (bo := .nil) (el := .nil) rfl rfl rfl (by rw [hW]; exact Lz _) (lq_nil _ _ _) (Or.inl rfl) (Or.inl rfl) trivial
    simpa using this
  clear hW hc
  refine (h1.out _ _ _ T).mono ?_
  clear h1 T
  rintro e w1 ⟨t1, rfl, l1⟩
  have hrow1 := rowIs_later l1.out hrow
  have L1 := LW.trans l1.out
  have k0 : w1.cell? ⟨w0.heap.size + 1, 0, none⟩ = some (.int .i64 o) := hrow1.cell (i := 0) (by decide)
  have k1 : w1.cell? ⟨w0.heap.size + 1, 1, none⟩ = some (.int .i64 0) := hrow1.cell (i := 1) (by decide)
  have k2 : w1.cell? ⟨w0.heap.size + 1, 2, none⟩ = some (.int .i64 0) := hrow1.cell (i := 2) (by decide)
  have k3 : w1.cell? ⟨w0.heap.size + 1, 3, none⟩ = some (.int .i64 0) := hrow1.cell (i := 3) (by decide)
  have k4 : w1.cell? ⟨w0.heap.size + 1, 4, none⟩ = some (.int .i64 0) := hrow1.cell (i := 4) (by decide)
  have k5 : w1.cell? ⟨w0.heap.size + 1, 5, none⟩ = some (.slice none 0 0) := hrow1.cell (i := 5) (by decide)
  have k6 : w1.cell? ⟨w0.heap.size + 1, 6, none⟩ = some (.slice none 0 0) := hrow1.cell (i := 6) (by decide)
  have k7 : w1.cell? ⟨w0.heap.size + 1, 7, none⟩ = some (.slice none 0 0) := hrow1.cell (i := 7) (by decide)
  have fz := hrow1.frozen 2
  have hlt := cell_lt k0
  have LV : Hid (Later w0 (w1.setCell ⟨w0.heap.size + 1, 2, none⟩ (.int .i64 1))) := by
    have hr2 := rowIs_later (w' := w1) (Lz _) hrow1
    exact (L1.trans (Lz _)).turned hr2 (by omega) ((Turned.refl hr2).set hr2 2 (.int .i64 1))
  clear hrow hrow1 LW
  go_wp2_with fail
  refine calls_world ?_
  intro W2 hW2
  have L2 : Hid (Later w W2) := by
    rw [hW2]
    exact (l0.out.trans LV.out).trans (by repeat first | exact Lz _ | apply La)
  have T2 : Tr (fun _ => True) W2 (some ⟨w1.heap.size, 0, none⟩) (.cons o 0 1 0 0 [] .nil .nil .nil) := by
    have := tr_lit (W' := W2) (Z := fun _ => True) (ls := []) (bo := .nil) (el := .nil) rfl rfl rfl (by rw [hW2]; exact Lz _) (lq_nil _ _ _) (Or.inl rfl) (Or.inl rfl) trivial
    simpa using this
  clear hW2
  refine (h2.out _ _ _ T2).mono ?_
  rintro e w3 ⟨rfl, l3⟩
  clear h2 T2 LV
  go_wp2_with (go_at_call 9; refine (num_any _ _).mono ?_; rintro e w' ⟨rfl, hw⟩; have hw := hw.symm; subst hw)
  go_ret
  exact ⟨rfl, L2.out.trans l3.out⟩
theorem c_2 (op field : Int) (j : Nat) (hj : j < 10) (hop : (IntKind.u64.wrap op).tmod 10 = (j : Int)) (hfi : (IntKind.u64.wrap field).tmod 7 = 2) (w : World) :
    Calls Try.prog 3 #[.int .i64 op, .int .i64 field] w fun e w' => e = .returned (.bool true) ∧ Later w w' := by
  obtain ⟨hf, hr1, hr2⟩ := pl_fo j hj
  have io : i64 (pl j) := by unfold i64; omega
  have i1 : i64 1 := by unfold i64; omega
  have i64' : i64 64 := by unfold i64; omega
  have nl : ∀ x ∈ ([] : List Int), i64 x := fun x h => by simp at h
  have g1 := put_one (pl j) 0 0 0 0 [] (good _ hf) trivial
  have b1 := bad (pl j) 0 0 1 0 [] .nil .nil hf (by simp [Fs.len, f1])
  have h1 : Hid (∀ (W : World) (B : Option Addr) (k : Nat), Tr (fun _ => True) W B (.cons (pl j) 0 0 0 0 [] .nil .nil .nil) → Calls Try.prog 8 #[.slice B 1 k] W fun e w' => ∃ t : ByteArray, e = .returned (.tuple #[.string t, .int .i64 0]) ∧ Hid (Later W w')) := fun W B k hB => (iput_is _ (okF (pl j) 0 0 0 0 [] .nil .nil io i64_0 i64_0 i64_0 i64_0 nl (by decide) (by decide) (by decide) trivial trivial) (by show 1 * 112 ≤ 140737488351232; decide) _ _ g1 1 rfl _ W B k hB).mono fun e w' h => ⟨_, h⟩
  have h2 : Hid (∀ (W : World) (B : Option Addr) (k : Nat), Tr (fun _ => True) W B (.cons (pl j) 0 0 1 0 [] .nil .nil .nil) → Calls Try.prog 8 #[.slice B 1 k] W fun e w' => e = .returned (.tuple #[.string ⟨#[]⟩, .int .i64 1400]) ∧ Hid (Later W w')) := fun W B k hB => iput_lit _ (okF (pl j) 0 0 1 0 [] .nil .nil io i64_0 i64_0 i1 i64_0 nl (by decide) (by decide) (by decide) trivial trivial) (by show 1 * 112 ≤ 140737488351232; decide) _ _ ⟨#[]⟩ rfl b1 1 rfl _ W B k hB
  have hjj : (j : Int) < 10 := by omega
  have hpl : Hid (∀ (W W' : World), Later (W.alloc (.cells #[.int .i64 0, .int .i64 1, .int .i64 15, .int .i64 26, .int .i64 27, .int .i64 63, .int .i64 64, .int .i64 69, .int .i64 106, .int .i64 191] 3)) W' → W'.cell? ⟨W.heap.size, j, none⟩ = some (.int .i64 (pl j))) := fun W W' hl => by
    refine hl.cell_of ?_
    rw [cell_of_row _ _ _ _ _ _ (heap_alloc_new W _)]
    have hh : ∀ j : Fin 10, (#[Value.int .i64 0, .int .i64 1, .int .i64 15, .int .i64 26, .int .i64 27, .int .i64 63, .int .i64 64, .int .i64 69, .int .i64 106, .int .i64 191] : Array Value)[j.val]? = some (.int .i64 (pl j.val)) := by
      intro j
      match j with
      | ⟨0, _⟩ => rfl
      | ⟨1, _⟩ => rfl
      | ⟨2, _⟩ => rfl
      | ⟨3, _⟩ => rfl
      | ⟨4, _⟩ => rfl
      | ⟨5, _⟩ => rfl
      | ⟨6, _⟩ => rfl
      | ⟨7, _⟩ => rfl
      | ⟨8, _⟩ => rfl
      | ⟨9, _⟩ => rfl
    exact hh ⟨j, hj⟩
  clear g1 b1 hf hr1 hr2 io i1 i64' nl
  generalize pl j = o at *
  go_enter Try.func3, Try.ntmps3
  go_wp2_with (go_at_call 7; refine (awake_any _).mono ?_; rintro e w0 ⟨rfl, l0⟩; replace l0 : Hid (Later w w0) := l0; have hc := hpl.out w0 _ (Lz _))
  refine calls_world ?_
  intro W hW
  have LW : Later w0 W := by rw [hW]; exact (by repeat first | exact Lz _ | apply La)
  have hrow : W.rowIs (w0.heap.size + 1) 27 8 (fun q => [.int .i64 o, .int .i64 0, .int .i64 0, .int .i64 0, .int .i64 0, .slice none 0 0, .slice none 0 0, .slice none 0 0].getD q undef) := by
    rw [hW]
    have := row8 (w0.alloc (.cells #[.int .i64 0, .int .i64 1, .int .i64 15, .int .i64 26, .int .i64 27, .int .i64 63, .int .i64 64, .int .i64 69, .int .i64 106, .int .i64 191] 3)) (.int .i64 o) (.int .i64 0) (.int .i64 0) (.int .i64 0) (.int .i64 0) (.slice none 0 0) (.slice none 0 0) (.slice none 0 0)
    rw [show (w0.alloc (.cells #[.int .i64 0, .int .i64 1, .int .i64 15, .int .i64 26, .int .i64 27, .int .i64 63, .int .i64 64, .int .i64 69, .int .i64 106, .int .i64 191] 3)).heap.size = w0.heap.size + 1 by simp] at this
    exact rowIs_later (La (Lz _)) this
  have T : Tr (fun _ => True) W (some ⟨w0.heap.size + 1 + 1, 0, none⟩) (.cons o 0 0 0 0 [] .nil .nil .nil) := by
    have := tr_lit (W' := W) (Z := fun _ => True) (ls := []) (bo := .nil) (el := .nil) rfl rfl rfl (by rw [hW]; exact Lz _) (lq_nil _ _ _) (Or.inl rfl) (Or.inl rfl) trivial
    simpa using this
  clear hW hc
  refine (h1.out _ _ _ T).mono ?_
  clear h1 T
  rintro e w1 ⟨t1, rfl, l1⟩
  have hrow1 := rowIs_later l1.out hrow
  have L1 := LW.trans l1.out
  have k0 : w1.cell? ⟨w0.heap.size + 1, 0, none⟩ = some (.int .i64 o) := hrow1.cell (i := 0) (by decide)
  have k1 : w1.cell? ⟨w0.heap.size + 1, 1, none⟩ = some (.int .i64 0) := hrow1.cell (i := 1) (by decide)
  have k2 : w1.cell? ⟨w0.heap.size + 1, 2, none⟩ = some (.int .i64 0) := hrow1.cell (i := 2) (by decide)
  have k3 : w1.cell? ⟨w0.heap.size + 1, 3, none⟩ = some (.int .i64 0) := hrow1.cell (i := 3) (by decide)
  have k4 : w1.cell? ⟨w0.heap.size + 1, 4, none⟩ = some (.int .i64 0) := hrow1.cell (i := 4) (by decide)
  have k5 : w1.cell? ⟨w0.heap.size + 1, 5, none⟩ = some (.slice none 0 0) := hrow1.cell (i := 5) (by decide)
  have k6 : w1.cell? ⟨w0.heap.size + 1, 6, none⟩ = some (.slice none 0 0) := hrow1.cell (i := 6) (by decide)
  have k7 : w1.cell? ⟨w0.heap.size + 1, 7, none⟩ = some (.slice none 0 0) := hrow1.cell (i := 7) (by decide)
  have fz := hrow1.frozen 3
  have hlt := cell_lt k0
  have LV : Hid (Later w0 (w1.setCell ⟨w0.heap.size + 1, 3, none⟩ (.int .i64 1))) := by
    have hr2 := rowIs_later (w' := w1) (Lz _) hrow1
    exact (L1.trans (Lz _)).turned hr2 (by omega) ((Turned.refl hr2).set hr2 3 (.int .i64 1))
  clear hrow hrow1 LW
  go_wp2_with fail
  refine calls_world ?_
  intro W2 hW2
  have L2 : Hid (Later w W2) := by
    rw [hW2]
    exact (l0.out.trans LV.out).trans (by repeat first | exact Lz _ | apply La)
  have T2 : Tr (fun _ => True) W2 (some ⟨w1.heap.size, 0, none⟩) (.cons o 0 0 1 0 [] .nil .nil .nil) := by
    have := tr_lit (W' := W2) (Z := fun _ => True) (ls := []) (bo := .nil) (el := .nil) rfl rfl rfl (by rw [hW2]; exact Lz _) (lq_nil _ _ _) (Or.inl rfl) (Or.inl rfl) trivial
    simpa using this
  clear hW2
  refine (h2.out _ _ _ T2).mono ?_
  rintro e w3 ⟨rfl, l3⟩
  clear h2 T2 LV
  go_wp2_with (go_at_call 9; refine (num_any _ _).mono ?_; rintro e w' ⟨rfl, hw⟩; have hw := hw.symm; subst hw)
  go_ret
  exact ⟨rfl, L2.out.trans l3.out⟩
theorem c_3 (op field : Int) (j : Nat) (hj : j < 10) (hop : (IntKind.u64.wrap op).tmod 10 = (j : Int)) (hfi : (IntKind.u64.wrap field).tmod 7 = 3) (w : World) :
    Calls Try.prog 3 #[.int .i64 op, .int .i64 field] w fun e w' => e = .returned (.bool true) ∧ Later w w' := by
  obtain ⟨hf, hr1, hr2⟩ := pl_fo j hj
  have io : i64 (pl j) := by unfold i64; omega
  have i1 : i64 1 := by unfold i64; omega
  have i64' : i64 64 := by unfold i64; omega
  have nl : ∀ x ∈ ([] : List Int), i64 x := fun x h => by simp at h
  have g1 := put_one (pl j) 0 0 0 0 [] (good _ hf) trivial
  have b1 := bad (pl j) 0 0 0 64 [] .nil .nil hf (by simp [Fs.len, f1])
  have h1 : Hid (∀ (W : World) (B : Option Addr) (k : Nat), Tr (fun _ => True) W B (.cons (pl j) 0 0 0 0 [] .nil .nil .nil) → Calls Try.prog 8 #[.slice B 1 k] W fun e w' => ∃ t : ByteArray, e = .returned (.tuple #[.string t, .int .i64 0]) ∧ Hid (Later W w')) := fun W B k hB => (iput_is _ (okF (pl j) 0 0 0 0 [] .nil .nil io i64_0 i64_0 i64_0 i64_0 nl (by decide) (by decide) (by decide) trivial trivial) (by show 1 * 112 ≤ 140737488351232; decide) _ _ g1 1 rfl _ W B k hB).mono fun e w' h => ⟨_, h⟩
  have h2 : Hid (∀ (W : World) (B : Option Addr) (k : Nat), Tr (fun _ => True) W B (.cons (pl j) 0 0 0 64 [] .nil .nil .nil) → Calls Try.prog 8 #[.slice B 1 k] W fun e w' => e = .returned (.tuple #[.string ⟨#[]⟩, .int .i64 1400]) ∧ Hid (Later W w')) := fun W B k hB => iput_lit _ (okF (pl j) 0 0 0 64 [] .nil .nil io i64_0 i64_0 i64_0 i64' nl (by decide) (by decide) (by decide) trivial trivial) (by show 1 * 112 ≤ 140737488351232; decide) _ _ ⟨#[]⟩ rfl b1 1 rfl _ W B k hB
  have hjj : (j : Int) < 10 := by omega
  have hpl : Hid (∀ (W W' : World), Later (W.alloc (.cells #[.int .i64 0, .int .i64 1, .int .i64 15, .int .i64 26, .int .i64 27, .int .i64 63, .int .i64 64, .int .i64 69, .int .i64 106, .int .i64 191] 3)) W' → W'.cell? ⟨W.heap.size, j, none⟩ = some (.int .i64 (pl j))) := fun W W' hl => by
    refine hl.cell_of ?_
    rw [cell_of_row _ _ _ _ _ _ (heap_alloc_new W _)]
    have hh : ∀ j : Fin 10, (#[Value.int .i64 0, .int .i64 1, .int .i64 15, .int .i64 26, .int .i64 27, .int .i64 63, .int .i64 64, .int .i64 69, .int .i64 106, .int .i64 191] : Array Value)[j.val]? = some (.int .i64 (pl j.val)) := by
      intro j
      match j with
      | ⟨0, _⟩ => rfl
      | ⟨1, _⟩ => rfl
      | ⟨2, _⟩ => rfl
      | ⟨3, _⟩ => rfl
      | ⟨4, _⟩ => rfl
      | ⟨5, _⟩ => rfl
      | ⟨6, _⟩ => rfl
      | ⟨7, _⟩ => rfl
      | ⟨8, _⟩ => rfl
      | ⟨9, _⟩ => rfl
    exact hh ⟨j, hj⟩
  clear g1 b1 hf hr1 hr2 io i1 i64' nl
  generalize pl j = o at *
  go_enter Try.func3, Try.ntmps3
  go_wp2_with (go_at_call 7; refine (awake_any _).mono ?_; rintro e w0 ⟨rfl, l0⟩; replace l0 : Hid (Later w w0) := l0; have hc := hpl.out w0 _ (Lz _))
  refine calls_world ?_
  intro W hW
  have LW : Later w0 W := by rw [hW]; exact (by repeat first | exact Lz _ | apply La)
  have hrow : W.rowIs (w0.heap.size + 1) 27 8 (fun q => [.int .i64 o, .int .i64 0, .int .i64 0, .int .i64 0, .int .i64 0, .slice none 0 0, .slice none 0 0, .slice none 0 0].getD q undef) := by
    rw [hW]
    have := row8 (w0.alloc (.cells #[.int .i64 0, .int .i64 1, .int .i64 15, .int .i64 26, .int .i64 27, .int .i64 63, .int .i64 64, .int .i64 69, .int .i64 106, .int .i64 191] 3)) (.int .i64 o) (.int .i64 0) (.int .i64 0) (.int .i64 0) (.int .i64 0) (.slice none 0 0) (.slice none 0 0) (.slice none 0 0)
    rw [show (w0.alloc (.cells #[.int .i64 0, .int .i64 1, .int .i64 15, .int .i64 26, .int .i64 27, .int .i64 63, .int .i64 64, .int .i64 69, .int .i64 106, .int .i64 191] 3)).heap.size = w0.heap.size + 1 by simp] at this
    exact rowIs_later (La (Lz _)) this
  have T : Tr (fun _ => True) W (some ⟨w0.heap.size + 1 + 1, 0, none⟩) (.cons o 0 0 0 0 [] .nil .nil .nil) := by
    have := tr_lit (W' := W) (Z := fun _ => True) (ls := []) (bo := .nil) (el := .nil) rfl rfl rfl (by rw [hW]; exact Lz _) (lq_nil _ _ _) (Or.inl rfl) (Or.inl rfl) trivial
    simpa using this
  clear hW hc
  refine (h1.out _ _ _ T).mono ?_
  clear h1 T
  rintro e w1 ⟨t1, rfl, l1⟩
  have hrow1 := rowIs_later l1.out hrow
  have L1 := LW.trans l1.out
  have k0 : w1.cell? ⟨w0.heap.size + 1, 0, none⟩ = some (.int .i64 o) := hrow1.cell (i := 0) (by decide)
  have k1 : w1.cell? ⟨w0.heap.size + 1, 1, none⟩ = some (.int .i64 0) := hrow1.cell (i := 1) (by decide)
  have k2 : w1.cell? ⟨w0.heap.size + 1, 2, none⟩ = some (.int .i64 0) := hrow1.cell (i := 2) (by decide)
  have k3 : w1.cell? ⟨w0.heap.size + 1, 3, none⟩ = some (.int .i64 0) := hrow1.cell (i := 3) (by decide)
  have k4 : w1.cell? ⟨w0.heap.size + 1, 4, none⟩ = some (.int .i64 0) := hrow1.cell (i := 4) (by decide)
  have k5 : w1.cell? ⟨w0.heap.size + 1, 5, none⟩ = some (.slice none 0 0) := hrow1.cell (i := 5) (by decide)
  have k6 : w1.cell? ⟨w0.heap.size + 1, 6, none⟩ = some (.slice none 0 0) := hrow1.cell (i := 6) (by decide)
  have k7 : w1.cell? ⟨w0.heap.size + 1, 7, none⟩ = some (.slice none 0 0) := hrow1.cell (i := 7) (by decide)
  have fz := hrow1.frozen 4
  have hlt := cell_lt k0
  have LV : Hid (Later w0 (w1.setCell ⟨w0.heap.size + 1, 4, none⟩ (.int .i64 64))) := by
    have hr2 := rowIs_later (w' := w1) (Lz _) hrow1
    exact (L1.trans (Lz _)).turned hr2 (by omega) ((Turned.refl hr2).set hr2 4 (.int .i64 64))
  clear hrow hrow1 LW
  go_wp2_with fail
  refine calls_world ?_
  intro W2 hW2
  have L2 : Hid (Later w W2) := by
    rw [hW2]
    exact (l0.out.trans LV.out).trans (by repeat first | exact Lz _ | apply La)
  have T2 : Tr (fun _ => True) W2 (some ⟨w1.heap.size, 0, none⟩) (.cons o 0 0 0 64 [] .nil .nil .nil) := by
    have := tr_lit (W' := W2) (Z := fun _ => True) (ls := []) (bo := .nil) (el := .nil) rfl rfl rfl (by rw [hW2]; exact Lz _) (lq_nil _ _ _) (Or.inl rfl) (Or.inl rfl) trivial
    simpa using this
  clear hW2
  refine (h2.out _ _ _ T2).mono ?_
  rintro e w3 ⟨rfl, l3⟩
  clear h2 T2 LV
  go_wp2_with (go_at_call 9; refine (num_any _ _).mono ?_; rintro e w' ⟨rfl, hw⟩; have hw := hw.symm; subst hw)
  go_ret
  exact ⟨rfl, L2.out.trans l3.out⟩
theorem c_4 (op field : Int) (j : Nat) (hj : j < 10) (hop : (IntKind.u64.wrap op).tmod 10 = (j : Int)) (hfi : (IntKind.u64.wrap field).tmod 7 = 4) (w : World) :
    Calls Try.prog 3 #[.int .i64 op, .int .i64 field] w fun e w' => e = .returned (.bool true) ∧ Later w w' := by
  obtain ⟨hf, hr1, hr2⟩ := pl_fo j hj
  have io : i64 (pl j) := by unfold i64; omega
  have i1 : i64 1 := by unfold i64; omega
  have i64' : i64 64 := by unfold i64; omega
  have nl : ∀ x ∈ ([] : List Int), i64 x := fun x h => by simp at h
  have g1 := put_one (pl j) 0 0 0 0 [] (good _ hf) trivial
  have b1 := bad (pl j) 0 0 0 0 [0] .nil .nil hf (by simp [Fs.len, f1])
  have h1 : Hid (∀ (W : World) (B : Option Addr) (k : Nat), Tr (fun _ => True) W B (.cons (pl j) 0 0 0 0 [] .nil .nil .nil) → Calls Try.prog 8 #[.slice B 1 k] W fun e w' => ∃ t : ByteArray, e = .returned (.tuple #[.string t, .int .i64 0]) ∧ Hid (Later W w')) := fun W B k hB => (iput_is _ (okF (pl j) 0 0 0 0 [] .nil .nil io i64_0 i64_0 i64_0 i64_0 nl (by decide) (by decide) (by decide) trivial trivial) (by show 1 * 112 ≤ 140737488351232; decide) _ _ g1 1 rfl _ W B k hB).mono fun e w' h => ⟨_, h⟩
  have h2 : Hid (∀ (W : World) (B : Option Addr) (k : Nat), Tr (fun _ => True) W B (.cons (pl j) 0 0 0 0 [0] .nil .nil .nil) → Calls Try.prog 8 #[.slice B 1 k] W fun e w' => e = .returned (.tuple #[.string ⟨#[]⟩, .int .i64 1400]) ∧ Hid (Later W w')) := fun W B k hB => iput_lit _ (okF (pl j) 0 0 0 0 [0] .nil .nil io i64_0 i64_0 i64_0 i64_0 (fun x h => by simp at h; subst h; exact i64_0) (by decide) (by decide) (by decide) trivial trivial) (by show 1 * 112 ≤ 140737488351232; decide) _ _ ⟨#[]⟩ rfl b1 1 rfl _ W B k hB
  have hjj : (j : Int) < 10 := by omega
  have hpl : Hid (∀ (W W' : World), Later (W.alloc (.cells #[.int .i64 0, .int .i64 1, .int .i64 15, .int .i64 26, .int .i64 27, .int .i64 63, .int .i64 64, .int .i64 69, .int .i64 106, .int .i64 191] 3)) W' → W'.cell? ⟨W.heap.size, j, none⟩ = some (.int .i64 (pl j))) := fun W W' hl => by
    refine hl.cell_of ?_
    rw [cell_of_row _ _ _ _ _ _ (heap_alloc_new W _)]
    have hh : ∀ j : Fin 10, (#[Value.int .i64 0, .int .i64 1, .int .i64 15, .int .i64 26, .int .i64 27, .int .i64 63, .int .i64 64, .int .i64 69, .int .i64 106, .int .i64 191] : Array Value)[j.val]? = some (.int .i64 (pl j.val)) := by
      intro j
      match j with
      | ⟨0, _⟩ => rfl
      | ⟨1, _⟩ => rfl
      | ⟨2, _⟩ => rfl
      | ⟨3, _⟩ => rfl
      | ⟨4, _⟩ => rfl
      | ⟨5, _⟩ => rfl
      | ⟨6, _⟩ => rfl
      | ⟨7, _⟩ => rfl
      | ⟨8, _⟩ => rfl
      | ⟨9, _⟩ => rfl
    exact hh ⟨j, hj⟩
  clear g1 b1 hf hr1 hr2 io i1 i64' nl
  generalize pl j = o at *
  go_enter Try.func3, Try.ntmps3
  go_wp2_with (go_at_call 7; refine (awake_any _).mono ?_; rintro e w0 ⟨rfl, l0⟩; replace l0 : Hid (Later w w0) := l0; have hc := hpl.out w0 _ (Lz _))
  refine calls_world ?_
  intro W hW
  have LW : Later w0 W := by rw [hW]; exact (by repeat first | exact Lz _ | apply La)
  have hrow : W.rowIs (w0.heap.size + 1) 27 8 (fun q => [.int .i64 o, .int .i64 0, .int .i64 0, .int .i64 0, .int .i64 0, .slice none 0 0, .slice none 0 0, .slice none 0 0].getD q undef) := by
    rw [hW]
    have := row8 (w0.alloc (.cells #[.int .i64 0, .int .i64 1, .int .i64 15, .int .i64 26, .int .i64 27, .int .i64 63, .int .i64 64, .int .i64 69, .int .i64 106, .int .i64 191] 3)) (.int .i64 o) (.int .i64 0) (.int .i64 0) (.int .i64 0) (.int .i64 0) (.slice none 0 0) (.slice none 0 0) (.slice none 0 0)
    rw [show (w0.alloc (.cells #[.int .i64 0, .int .i64 1, .int .i64 15, .int .i64 26, .int .i64 27, .int .i64 63, .int .i64 64, .int .i64 69, .int .i64 106, .int .i64 191] 3)).heap.size = w0.heap.size + 1 by simp] at this
    exact rowIs_later (La (Lz _)) this
  have T : Tr (fun _ => True) W (some ⟨w0.heap.size + 1 + 1, 0, none⟩) (.cons o 0 0 0 0 [] .nil .nil .nil) := by
    have := tr_lit (W' := W) (Z := fun _ => True) (ls := []) (bo := .nil) (el := .nil) rfl rfl rfl (by rw [hW]; exact Lz _) (lq_nil _ _ _) (Or.inl rfl) (Or.inl rfl) trivial
    simpa using this
  clear hW hc
  refine (h1.out _ _ _ T).mono ?_
  clear h1 T
  rintro e w1 ⟨t1, rfl, l1⟩
  have hrow1 := rowIs_later l1.out hrow
  have L1 := LW.trans l1.out
  have k0 : w1.cell? ⟨w0.heap.size + 1, 0, none⟩ = some (.int .i64 o) := hrow1.cell (i := 0) (by decide)
  have k1 : w1.cell? ⟨w0.heap.size + 1, 1, none⟩ = some (.int .i64 0) := hrow1.cell (i := 1) (by decide)
  have k2 : w1.cell? ⟨w0.heap.size + 1, 2, none⟩ = some (.int .i64 0) := hrow1.cell (i := 2) (by decide)
  have k3 : w1.cell? ⟨w0.heap.size + 1, 3, none⟩ = some (.int .i64 0) := hrow1.cell (i := 3) (by decide)
  have k4 : w1.cell? ⟨w0.heap.size + 1, 4, none⟩ = some (.int .i64 0) := hrow1.cell (i := 4) (by decide)
  have k5 : w1.cell? ⟨w0.heap.size + 1, 5, none⟩ = some (.slice none 0 0) := hrow1.cell (i := 5) (by decide)
  have k6 : w1.cell? ⟨w0.heap.size + 1, 6, none⟩ = some (.slice none 0 0) := hrow1.cell (i := 6) (by decide)
  have k7 : w1.cell? ⟨w0.heap.size + 1, 7, none⟩ = some (.slice none 0 0) := hrow1.cell (i := 7) (by decide)
  have fz := hrow1.frozen 5
  have hlt := cell_lt k0
  have LV : Hid (Later w0 (w1.setCell ⟨w0.heap.size + 1, 5, none⟩ (.slice (some ⟨w1.heap.size, 0, none⟩) 1 1))) := by
    have hr2 := rowIs_later (w' := w1) (Lz _) hrow1
    exact (L1.trans (Lz _)).turned hr2 (by omega) ((Turned.refl hr2).set hr2 5 (.slice (some ⟨w1.heap.size, 0, none⟩) 1 1))
  clear hrow hrow1 LW
  go_wp2_with fail
  refine calls_world ?_
  intro W2 hW2
  have L2 : Hid (Later w W2) := by
    rw [hW2]
    exact (l0.out.trans LV.out).trans (by repeat first | exact Lz _ | apply La)
  have T2 : Tr (fun _ => True) W2 (some ⟨w1.heap.size + 1, 0, none⟩) (.cons o 0 0 0 0 [0] .nil .nil .nil) := by
    have := tr_lit (W' := W2) (Z := fun _ => True) (ls := [0]) (bo := .nil) (el := .nil) rfl rfl rfl (by rw [hW2]; exact Lz _) (⟨Or.inr ⟨w1.heap.size, 0, rfl, fun j hj => by obtain rfl : j = 0 := (by simpa using hj); rw [hW2]; simp [go_sem]⟩, fun _ a ha => trivial⟩) (Or.inl rfl) (Or.inl rfl) trivial
    simpa using this
  clear hW2
  refine (h2.out _ _ _ T2).mono ?_
  rintro e w3 ⟨rfl, l3⟩
  clear h2 T2 LV
  go_wp2_with (go_at_call 9; refine (num_any _ _).mono ?_; rintro e w' ⟨rfl, hw⟩; have hw := hw.symm; subst hw)
  go_ret
  exact ⟨rfl, L2.out.trans l3.out⟩
theorem c_5 (op field : Int) (j : Nat) (hj : j < 10) (hop : (IntKind.u64.wrap op).tmod 10 = (j : Int)) (hfi : (IntKind.u64.wrap field).tmod 7 = 5) (w : World) :
    Calls Try.prog 3 #[.int .i64 op, .int .i64 field] w fun e w' => e = .returned (.bool true) ∧ Later w w' := by
  obtain ⟨hf, hr1, hr2⟩ := pl_fo j hj
  have io : i64 (pl j) := by unfold i64; omega
  have i1 : i64 1 := by unfold i64; omega
  have i64' : i64 64 := by unfold i64; omega
  have nl : ∀ x ∈ ([] : List Int), i64 x := fun x h => by simp at h
  have g1 := put_one (pl j) 0 0 0 0 [] (good _ hf) trivial
  have b1 := bad (pl j) 0 0 0 0 [] f1 .nil hf (by simp [Fs.len, f1])
  have h1 : Hid (∀ (W : World) (B : Option Addr) (k : Nat), Tr (fun _ => True) W B (.cons (pl j) 0 0 0 0 [] .nil .nil .nil) → Calls Try.prog 8 #[.slice B 1 k] W fun e w' => ∃ t : ByteArray, e = .returned (.tuple #[.string t, .int .i64 0]) ∧ Hid (Later W w')) := fun W B k hB => (iput_is _ (okF (pl j) 0 0 0 0 [] .nil .nil io i64_0 i64_0 i64_0 i64_0 nl (by decide) (by decide) (by decide) trivial trivial) (by show 1 * 112 ≤ 140737488351232; decide) _ _ g1 1 rfl _ W B k hB).mono fun e w' h => ⟨_, h⟩
  have h2 : Hid (∀ (W : World) (B : Option Addr) (k : Nat), Tr (fun _ => True) W B (.cons (pl j) 0 0 0 0 [] f1 .nil .nil) → Calls Try.prog 8 #[.slice B 1 k] W fun e w' => e = .returned (.tuple #[.string ⟨#[]⟩, .int .i64 1400]) ∧ Hid (Later W w')) := fun W B k hB => iput_lit _ (okF (pl j) 0 0 0 0 [] f1 .nil io i64_0 i64_0 i64_0 i64_0 nl (by decide) (by decide) (by decide) ok1 trivial) (by show 1 * 112 ≤ 140737488351232; decide) _ _ ⟨#[]⟩ rfl b1 1 rfl _ W B k hB
  have hjj : (j : Int) < 10 := by omega
  have hpl : Hid (∀ (W W' : World), Later (W.alloc (.cells #[.int .i64 0, .int .i64 1, .int .i64 15, .int .i64 26, .int .i64 27, .int .i64 63, .int .i64 64, .int .i64 69, .int .i64 106, .int .i64 191] 3)) W' → W'.cell? ⟨W.heap.size, j, none⟩ = some (.int .i64 (pl j))) := fun W W' hl => by
    refine hl.cell_of ?_
    rw [cell_of_row _ _ _ _ _ _ (heap_alloc_new W _)]
    have hh : ∀ j : Fin 10, (#[Value.int .i64 0, .int .i64 1, .int .i64 15, .int .i64 26, .int .i64 27, .int .i64 63, .int .i64 64, .int .i64 69, .int .i64 106, .int .i64 191] : Array Value)[j.val]? = some (.int .i64 (pl j.val)) := by
      intro j
      match j with
      | ⟨0, _⟩ => rfl
      | ⟨1, _⟩ => rfl
      | ⟨2, _⟩ => rfl
      | ⟨3, _⟩ => rfl
      | ⟨4, _⟩ => rfl
      | ⟨5, _⟩ => rfl
      | ⟨6, _⟩ => rfl
      | ⟨7, _⟩ => rfl
      | ⟨8, _⟩ => rfl
      | ⟨9, _⟩ => rfl
    exact hh ⟨j, hj⟩
  clear g1 b1 hf hr1 hr2 io i1 i64' nl
  generalize pl j = o at *
  go_enter Try.func3, Try.ntmps3
  go_wp2_with (go_at_call 7; refine (awake_any _).mono ?_; rintro e w0 ⟨rfl, l0⟩; replace l0 : Hid (Later w w0) := l0; have hc := hpl.out w0 _ (Lz _))
  refine calls_world ?_
  intro W hW
  have LW : Later w0 W := by rw [hW]; exact (by repeat first | exact Lz _ | apply La)
  have hrow : W.rowIs (w0.heap.size + 1) 27 8 (fun q => [.int .i64 o, .int .i64 0, .int .i64 0, .int .i64 0, .int .i64 0, .slice none 0 0, .slice none 0 0, .slice none 0 0].getD q undef) := by
    rw [hW]
    have := row8 (w0.alloc (.cells #[.int .i64 0, .int .i64 1, .int .i64 15, .int .i64 26, .int .i64 27, .int .i64 63, .int .i64 64, .int .i64 69, .int .i64 106, .int .i64 191] 3)) (.int .i64 o) (.int .i64 0) (.int .i64 0) (.int .i64 0) (.int .i64 0) (.slice none 0 0) (.slice none 0 0) (.slice none 0 0)
    rw [show (w0.alloc (.cells #[.int .i64 0, .int .i64 1, .int .i64 15, .int .i64 26, .int .i64 27, .int .i64 63, .int .i64 64, .int .i64 69, .int .i64 106, .int .i64 191] 3)).heap.size = w0.heap.size + 1 by simp] at this
    exact rowIs_later (La (Lz _)) this
  have T : Tr (fun _ => True) W (some ⟨w0.heap.size + 1 + 1, 0, none⟩) (.cons o 0 0 0 0 [] .nil .nil .nil) := by
    have := tr_lit (W' := W) (Z := fun _ => True) (ls := []) (bo := .nil) (el := .nil) rfl rfl rfl (by rw [hW]; exact Lz _) (lq_nil _ _ _) (Or.inl rfl) (Or.inl rfl) trivial
    simpa using this
  clear hW hc
  refine (h1.out _ _ _ T).mono ?_
  clear h1 T
  rintro e w1 ⟨t1, rfl, l1⟩
  have hrow1 := rowIs_later l1.out hrow
  have L1 := LW.trans l1.out
  have k0 : w1.cell? ⟨w0.heap.size + 1, 0, none⟩ = some (.int .i64 o) := hrow1.cell (i := 0) (by decide)
  have k1 : w1.cell? ⟨w0.heap.size + 1, 1, none⟩ = some (.int .i64 0) := hrow1.cell (i := 1) (by decide)
  have k2 : w1.cell? ⟨w0.heap.size + 1, 2, none⟩ = some (.int .i64 0) := hrow1.cell (i := 2) (by decide)
  have k3 : w1.cell? ⟨w0.heap.size + 1, 3, none⟩ = some (.int .i64 0) := hrow1.cell (i := 3) (by decide)
  have k4 : w1.cell? ⟨w0.heap.size + 1, 4, none⟩ = some (.int .i64 0) := hrow1.cell (i := 4) (by decide)
  have k5 : w1.cell? ⟨w0.heap.size + 1, 5, none⟩ = some (.slice none 0 0) := hrow1.cell (i := 5) (by decide)
  have k6 : w1.cell? ⟨w0.heap.size + 1, 6, none⟩ = some (.slice none 0 0) := hrow1.cell (i := 6) (by decide)
  have k7 : w1.cell? ⟨w0.heap.size + 1, 7, none⟩ = some (.slice none 0 0) := hrow1.cell (i := 7) (by decide)
  have fz := hrow1.frozen 6
  have hlt := cell_lt k0
  have LV : Hid (Later w0 (w1.setCell ⟨w0.heap.size + 1, 6, none⟩ (.slice (some ⟨w1.heap.size, 0, none⟩) 1 1))) := by
    have hr2 := rowIs_later (w' := w1) (Lz _) hrow1
    exact (L1.trans (Lz _)).turned hr2 (by omega) ((Turned.refl hr2).set hr2 6 (.slice (some ⟨w1.heap.size, 0, none⟩) 1 1))
  clear hrow hrow1 LW
  go_wp2_with fail
  refine calls_world ?_
  intro W2 hW2
  have L2 : Hid (Later w W2) := by
    rw [hW2]
    exact (l0.out.trans LV.out).trans (by repeat first | exact Lz _ | apply La)
  have T2 : Tr (fun _ => True) W2 (some ⟨w1.heap.size + 1, 0, none⟩) (.cons o 0 0 0 0 [] f1 .nil .nil) := by
    have := tr_lit (W' := W2) (Z := fun _ => True) (ls := []) (bo := f1) (el := .nil) rfl rfl rfl (by rw [hW2]; exact Lz _) (lq_nil _ _ _) (by refine Or.inr ⟨_, _, rfl, trivial, At.cons (LA := none) (B := none) (E := none) (lc := 0) (bc := 0) (ec := 0) (by rw [hW2]; simp [go_sem]) (by rw [hW2]; simp [go_sem]) (by rw [hW2]; simp [go_sem]) (by rw [hW2]; simp [go_sem]) (by rw [hW2]; simp [go_sem]) (by rw [hW2]; simp [go_sem]) (by rw [hW2]; simp [go_sem, Fs.len]) (by rw [hW2]; simp [go_sem, Fs.len]) (lq_nil _ _ _) (Or.inl rfl) (Or.inl rfl) ⟨[], fun j u hu => by simp at hu, rfl⟩⟩) (Or.inl rfl) trivial
    simpa using this
  clear hW2
  refine (h2.out _ _ _ T2).mono ?_
  rintro e w3 ⟨rfl, l3⟩
  clear h2 T2 LV
  go_wp2_with (go_at_call 9; refine (num_any _ _).mono ?_; rintro e w' ⟨rfl, hw⟩; have hw := hw.symm; subst hw)
  go_ret
  exact ⟨rfl, L2.out.trans l3.out⟩
theorem c_6 (op field : Int) (j : Nat) (hj : j < 10) (hop : (IntKind.u64.wrap op).tmod 10 = (j : Int)) (hfi : (IntKind.u64.wrap field).tmod 7 = 6) (w : World) :
    Calls Try.prog 3 #[.int .i64 op, .int .i64 field] w fun e w' => e = .returned (.bool true) ∧ Later w w' := by
  obtain ⟨hf, hr1, hr2⟩ := pl_fo j hj
  have io : i64 (pl j) := by unfold i64; omega
  have i1 : i64 1 := by unfold i64; omega
  have i64' : i64 64 := by unfold i64; omega
  have nl : ∀ x ∈ ([] : List Int), i64 x := fun x h => by simp at h
  have g1 := put_one (pl j) 0 0 0 0 [] (good _ hf) trivial
  have b1 := bad (pl j) 0 0 0 0 [] .nil f1 hf (by simp [Fs.len, f1])
  have h1 : Hid (∀ (W : World) (B : Option Addr) (k : Nat), Tr (fun _ => True) W B (.cons (pl j) 0 0 0 0 [] .nil .nil .nil) → Calls Try.prog 8 #[.slice B 1 k] W fun e w' => ∃ t : ByteArray, e = .returned (.tuple #[.string t, .int .i64 0]) ∧ Hid (Later W w')) := fun W B k hB => (iput_is _ (okF (pl j) 0 0 0 0 [] .nil .nil io i64_0 i64_0 i64_0 i64_0 nl (by decide) (by decide) (by decide) trivial trivial) (by show 1 * 112 ≤ 140737488351232; decide) _ _ g1 1 rfl _ W B k hB).mono fun e w' h => ⟨_, h⟩
  have h2 : Hid (∀ (W : World) (B : Option Addr) (k : Nat), Tr (fun _ => True) W B (.cons (pl j) 0 0 0 0 [] .nil f1 .nil) → Calls Try.prog 8 #[.slice B 1 k] W fun e w' => e = .returned (.tuple #[.string ⟨#[]⟩, .int .i64 1400]) ∧ Hid (Later W w')) := fun W B k hB => iput_lit _ (okF (pl j) 0 0 0 0 [] .nil f1 io i64_0 i64_0 i64_0 i64_0 nl (by decide) (by decide) (by decide) trivial ok1) (by show 1 * 112 ≤ 140737488351232; decide) _ _ ⟨#[]⟩ rfl b1 1 rfl _ W B k hB
  have hjj : (j : Int) < 10 := by omega
  have hpl : Hid (∀ (W W' : World), Later (W.alloc (.cells #[.int .i64 0, .int .i64 1, .int .i64 15, .int .i64 26, .int .i64 27, .int .i64 63, .int .i64 64, .int .i64 69, .int .i64 106, .int .i64 191] 3)) W' → W'.cell? ⟨W.heap.size, j, none⟩ = some (.int .i64 (pl j))) := fun W W' hl => by
    refine hl.cell_of ?_
    rw [cell_of_row _ _ _ _ _ _ (heap_alloc_new W _)]
    have hh : ∀ j : Fin 10, (#[Value.int .i64 0, .int .i64 1, .int .i64 15, .int .i64 26, .int .i64 27, .int .i64 63, .int .i64 64, .int .i64 69, .int .i64 106, .int .i64 191] : Array Value)[j.val]? = some (.int .i64 (pl j.val)) := by
      intro j
      match j with
      | ⟨0, _⟩ => rfl
      | ⟨1, _⟩ => rfl
      | ⟨2, _⟩ => rfl
      | ⟨3, _⟩ => rfl
      | ⟨4, _⟩ => rfl
      | ⟨5, _⟩ => rfl
      | ⟨6, _⟩ => rfl
      | ⟨7, _⟩ => rfl
      | ⟨8, _⟩ => rfl
      | ⟨9, _⟩ => rfl
    exact hh ⟨j, hj⟩
  clear g1 b1 hf hr1 hr2 io i1 i64' nl
  generalize pl j = o at *
  go_enter Try.func3, Try.ntmps3
  go_wp2_with (go_at_call 7; refine (awake_any _).mono ?_; rintro e w0 ⟨rfl, l0⟩; replace l0 : Hid (Later w w0) := l0; have hc := hpl.out w0 _ (Lz _))
  refine calls_world ?_
  intro W hW
  have LW : Later w0 W := by rw [hW]; exact (by repeat first | exact Lz _ | apply La)
  have hrow : W.rowIs (w0.heap.size + 1) 27 8 (fun q => [.int .i64 o, .int .i64 0, .int .i64 0, .int .i64 0, .int .i64 0, .slice none 0 0, .slice none 0 0, .slice none 0 0].getD q undef) := by
    rw [hW]
    have := row8 (w0.alloc (.cells #[.int .i64 0, .int .i64 1, .int .i64 15, .int .i64 26, .int .i64 27, .int .i64 63, .int .i64 64, .int .i64 69, .int .i64 106, .int .i64 191] 3)) (.int .i64 o) (.int .i64 0) (.int .i64 0) (.int .i64 0) (.int .i64 0) (.slice none 0 0) (.slice none 0 0) (.slice none 0 0)
    rw [show (w0.alloc (.cells #[.int .i64 0, .int .i64 1, .int .i64 15, .int .i64 26, .int .i64 27, .int .i64 63, .int .i64 64, .int .i64 69, .int .i64 106, .int .i64 191] 3)).heap.size = w0.heap.size + 1 by simp] at this
    exact rowIs_later (La (Lz _)) this
  have T : Tr (fun _ => True) W (some ⟨w0.heap.size + 1 + 1, 0, none⟩) (.cons o 0 0 0 0 [] .nil .nil .nil) := by
    have := tr_lit (W' := W) (Z := fun _ => True) (ls := []) (bo := .nil) (el := .nil) rfl rfl rfl (by rw [hW]; exact Lz _) (lq_nil _ _ _) (Or.inl rfl) (Or.inl rfl) trivial
    simpa using this
  clear hW hc
  refine (h1.out _ _ _ T).mono ?_
  clear h1 T
  rintro e w1 ⟨t1, rfl, l1⟩
  have hrow1 := rowIs_later l1.out hrow
  have L1 := LW.trans l1.out
  have k0 : w1.cell? ⟨w0.heap.size + 1, 0, none⟩ = some (.int .i64 o) := hrow1.cell (i := 0) (by decide)
  have k1 : w1.cell? ⟨w0.heap.size + 1, 1, none⟩ = some (.int .i64 0) := hrow1.cell (i := 1) (by decide)
  have k2 : w1.cell? ⟨w0.heap.size + 1, 2, none⟩ = some (.int .i64 0) := hrow1.cell (i := 2) (by decide)
  have k3 : w1.cell? ⟨w0.heap.size + 1, 3, none⟩ = some (.int .i64 0) := hrow1.cell (i := 3) (by decide)
  have k4 : w1.cell? ⟨w0.heap.size + 1, 4, none⟩ = some (.int .i64 0) := hrow1.cell (i := 4) (by decide)
  have k5 : w1.cell? ⟨w0.heap.size + 1, 5, none⟩ = some (.slice none 0 0) := hrow1.cell (i := 5) (by decide)
  have k6 : w1.cell? ⟨w0.heap.size + 1, 6, none⟩ = some (.slice none 0 0) := hrow1.cell (i := 6) (by decide)
  have k7 : w1.cell? ⟨w0.heap.size + 1, 7, none⟩ = some (.slice none 0 0) := hrow1.cell (i := 7) (by decide)
  have fz := hrow1.frozen 7
  have hlt := cell_lt k0
  have LV : Hid (Later w0 (w1.setCell ⟨w0.heap.size + 1, 7, none⟩ (.slice (some ⟨w1.heap.size, 0, none⟩) 1 1))) := by
    have hr2 := rowIs_later (w' := w1) (Lz _) hrow1
    exact (L1.trans (Lz _)).turned hr2 (by omega) ((Turned.refl hr2).set hr2 7 (.slice (some ⟨w1.heap.size, 0, none⟩) 1 1))
  clear hrow hrow1 LW
  go_wp2_with fail
  refine calls_world ?_
  intro W2 hW2
  have L2 : Hid (Later w W2) := by
    rw [hW2]
    exact (l0.out.trans LV.out).trans (by repeat first | exact Lz _ | apply La)
  have T2 : Tr (fun _ => True) W2 (some ⟨w1.heap.size + 1, 0, none⟩) (.cons o 0 0 0 0 [] .nil f1 .nil) := by
    have := tr_lit (W' := W2) (Z := fun _ => True) (ls := []) (bo := .nil) (el := f1) rfl rfl rfl (by rw [hW2]; exact Lz _) (lq_nil _ _ _) (Or.inl rfl) (by refine Or.inr ⟨_, _, rfl, trivial, At.cons (LA := none) (B := none) (E := none) (lc := 0) (bc := 0) (ec := 0) (by rw [hW2]; simp [go_sem]) (by rw [hW2]; simp [go_sem]) (by rw [hW2]; simp [go_sem]) (by rw [hW2]; simp [go_sem]) (by rw [hW2]; simp [go_sem]) (by rw [hW2]; simp [go_sem]) (by rw [hW2]; simp [go_sem, Fs.len]) (by rw [hW2]; simp [go_sem, Fs.len]) (lq_nil _ _ _) (Or.inl rfl) (Or.inl rfl) ⟨[], fun j u hu => by simp at hu, rfl⟩⟩) trivial
    simpa using this
  clear hW2
  refine (h2.out _ _ _ T2).mono ?_
  rintro e w3 ⟨rfl, l3⟩
  clear h2 T2 LV
  go_wp2_with (go_at_call 9; refine (num_any _ _).mono ?_; rintro e w' ⟨rfl, hw⟩; have hw := hw.symm; subst hw)
  go_ret
  exact ⟨rfl, L2.out.trans l3.out⟩
theorem walk (op field : Int) (w : World) :
    Calls Try.prog 3 #[.int .i64 op, .int .i64 field] w fun e w' => e = .returned (.bool true) ∧ Later w w' := by
  obtain ⟨j, hop, hj⟩ := at_m op 10 (by decide) (by decide)
  obtain ⟨k, hfi, hk⟩ := at_m field 7 (by decide) (by decide)
  obtain rfl | rfl | rfl | rfl | rfl | rfl | rfl : k = 0 ∨ k = 1 ∨ k = 2 ∨ k = 3 ∨ k = 4 ∨ k = 5 ∨ k = 6 := by omega
  · exact c_0 op field j hj hop hfi w
  · exact c_1 op field j hj hop hfi w
  · exact c_2 op field j hj hop hfi w
  · exact c_3 op field j hj hop hfi w
  · exact c_4 op field j hj hop hfi w
  · exact c_5 op field j hj hop hfi w
  · exact c_6 op field j hj hop hfi w

set_option maxRecDepth 100000 in
theorem lifted (os : Os) (started : os.Started) (H : Type) (enc : TypeId × Value → H) :
    ReturnsInHanded {} Try.checked os 3 .any (Rows.instrFieldsSpec.pre6 enc Try.prog Try.f3 Rows.instrFieldsRow.domain false) (Rows.instrFieldsSpec.post enc Try.prog Try.f3 false true false false) := by
  refine returnsInHanded_of_change_sized (C := Try.checked) own started (by kernel_rfl) Try.func3
    (ChangeSpec.witness6 (enc := enc) (C := Try.checked) false ⟨#[], #[.int .i64 0, .int .i64 0], []⟩ 8 (by kernel_rfl) (by kernel_rfl) (by kernel_rfl) (by kernel_rfl)) ?_
  intro W base args ds gs before hval0 hW _ _ _
  have hval : ∀ (j : Nat) t v, Try.f3.params[j]? = some t → args[j]? = some v → Value.okWide Try.prog W .any base t v := hval0
  have hW' := hW
  obtain ⟨p, q, hA0, hV, rfl, hfz, hnd⟩ := hW
  have hA : DataW.TrodAll enc Try.prog W 0 (fun _ => true) true Try.f3.params.toList args.toList ds p := hA0
  rw [Try.params3] at hA hval
  obtain ⟨v0, vs0, d0, ds0, p0, q0, hargs, rfl, rfl, h0, r0⟩ := trodAll_cons hA
  obtain ⟨v1, vs1, d1, ds1, p1, q1, rfl, rfl, rfl, h1, r1⟩ := trodAll_cons r0
  obtain ⟨rfl, rfl, rfl⟩ := trodAll_nil r1
  obtain rfl : args = #[v0, v1] := by cases args; simp_all
  obtain ⟨rfl, rfl⟩ := trodVars_none hV
  obtain ⟨a0, rfl, rfl, rfl, w0⟩ := open_int Try.underlying3 (hval 0 3 v0 rfl rfl) h0
  obtain ⟨a1, rfl, rfl, rfl, w1⟩ := open_int Try.underlying3 (hval 1 3 v1 rfl rfl) h1
  clear hA0 hval0
  simp only [List.append_nil, List.nil_append] at hW'
  have hlt : ∀ x ∈ ([] : List MemPlace), x.block < W.heap.size := fun x hx => by simpa using hW'.lt x hx
  refine (walk a0 a1 W ).mono fun e W' ⟨he, hl⟩ => ?_
  subst he
  have hbel : Below W.heap.size W W' := by obtain ⟨bs, nn, rfl⟩ := hl; exact ⟨rfl, rfl, rfl, by rw [World.far_size]; omega, fun k hk => World.far_block W bs nn k hk⟩
  have hx : ∀ sp : Nat → Bool, (∀ p ∈ ([] : List MemPlace), sp p.block = true) → DataW.TrodAll enc Try.prog W' 0 sp true [3, 3] [.int .i64 a0, .int .i64 a1] [.lit (.int .i64 a0), .lit (.int .i64 a1)] (([] : List MemPlace)) := fun sp hsp => by simpa using (trodAll_cons_mk (shut_int Try.underlying3 w0) (trodAll_cons_mk (shut_int Try.underlying3 w1) trodAll_mk0))
  exact ⟨_, rfl, post_kept (pa := ([] : List MemPlace)) (pv := []) hW' (fun _ _ _ => (trodAll_cons_mk (shut_bool Try.underlying4 _) trodAll_mk0)) (fun sp hsp => hx sp hsp) (fun _ _ => rfl) (by simp) (hbel.frame _) hbel.block (ok_one (by kernel_rfl) rfl (okWide_bool_mk Try.underlying4 _))⟩

theorem over : Rows.instrFieldsRow.holds Try.pinned (OpenSpec.ofChange Rows.instrFieldsSpec) :=
  OpenClaim.holds_of_wide 3 Try.f3 rfl rfl rfl rfl rfl rfl rfl ⟨rfl, rfl, rfl, rfl, rfl⟩ rfl rfl rfl rfl rfl (by kernel_rfl) Try.func3 (by kernel_rfl)
    (of_decide_eq_true (by kernel_rfl)) (by unfold Func.isWrapper; first | (rw [if_pos (by decide +kernel)]; kernel_rfl) | (rw [if_neg (by decide +kernel)]; exact ⟨rfl, rfl⟩))
    (fun os started H enc _ => lifted os started H enc)


theorem proved : Rows.InstrFieldsSaid := over
end Go.Proofs.Ytkdfmgdadnlnlab.instrFields
namespace Go.Proofs.Ytkdfmgdadnlnlab
theorem instrFields_holds : Rows.InstrFieldsSaid := instrFields.proved
#print axioms instrFields_holds
end Go.Proofs.Ytkdfmgdadnlnlab
