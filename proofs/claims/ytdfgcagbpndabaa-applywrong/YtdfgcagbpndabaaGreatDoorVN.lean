/- Over this seat's translation: 'awake' of package peloruslaw7, small facts, the tables. -/
import Derived.Test.YtdfgcagbpndabaaGreatDoorVO
import Derived.Test.YtdfgcagbpndabaaGreatDoorVD
import Derived.Test.YtdfgcagbpndabaaGreatDoorZL
import Derived.LaidMore
import Derived.OpenShut
import Derived.Stop.Joined
import Derived.Stop.LaidErr
import Derived.Lib.LaidTab
set_option linter.unusedVariables false
set_option linter.unusedSimpArgs false
set_option maxRecDepth 100000
set_option maxHeartbeats 2000000
namespace Go.Proofs.YtdfgcagbpndabaaGreatDoor
open Go.RowKit Go.AM
theorem k106 : kP 106 = 127 ∧ kC 106 = 2 ∧ kR 106 = 127 := by decide +kernel
theorem k128 : kP 128 = 126 ∧ kC 128 = 2 ∧ kR 128 = 126 := by decide +kernel
theorem r106 : resN (kR 106) (numN 106 (kP 106) 2 2 3) = (127, 5, 0, 0) := by decide +kernel
theorem r128 : resN (kR 128) (numN 128 (kP 128) 2 0 0) = (0, 0, 2, 0) := by decide +kernel
theorem in_small (x : Int) (h : 0 ≤ x ∧ x ≤ 4294967295) : inI x := by unfold inI; omega
theorem of106 (g cap : Nat) (w : World) (c0 : w.cell? ⟨g, 0, none⟩ = some (.int .i64 127)) (c1 : w.cell? ⟨g, 1, none⟩ = some (.int .i64 2)) (c2 : w.cell? ⟨g, 2, none⟩ = some (.int .i64 127)) (c3 : w.cell? ⟨g, 3, none⟩ = some (.int .i64 3)) :
    RW Tryz.prog 9 #[.int .i64 106, .slice (some ⟨g, 0, none⟩) 2 cap] w (toV (127, 5, 0, 0)) := by
  have := of_fit2 w 106 2 g 0 cap 3 (by decide) k106.2.1 (in_small 2 (by decide)) (in_small 3 (by decide)) (by rw [k106.1]; exact c0) c1 (by rw [k106.1]; exact c2) c3 (by rw [k106.1]; decide) (by rw [k106.1]; decide) w (Lz w)
  rw [r106] at this
  exact this
theorem of128 (g cap : Nat) (w : World) (c0 : w.cell? ⟨g, 0, none⟩ = some (.int .i64 126)) (c1 : w.cell? ⟨g, 1, none⟩ = some (.int .i64 0)) (c2 : w.cell? ⟨g, 2, none⟩ = some (.int .i64 126)) (c3 : w.cell? ⟨g, 3, none⟩ = some (.int .i64 0)) :
    RW Tryz.prog 9 #[.int .i64 128, .slice (some ⟨g, 0, none⟩) 2 cap] w (toV (0, 0, 2, 0)) := by
  have := of_fit2 w 128 0 g 0 cap 0 (by decide) k128.2.1 (in_small 0 (by decide)) (in_small 0 (by decide)) (by rw [k128.1]; exact c0) c1 (by rw [k128.1]; exact c2) c3 (by rw [k128.1]; decide) (by rw [k128.1]; decide) w (Lz w)
  rw [r128] at this
  exact this
theorem of106a (A : Option Addr) (cap : Nat) (w : World) :
    Calls Tryz.prog 9 #[.int .i64 106, .slice A 1 cap] w fun e w' => e = .returned (toV bad4) ∧ Later w w' :=
  of_len w 106 A 1 cap (by decide) (by rw [k106.2.1]; decide) w (Lz w)
theorem aty106 (w : World) : Calls Tryz.prog 7 #[.int .i64 106] w fun e w' => ∃ B C cap, e = .returned (tv B 2 cap C 0) ∧ Hid (Later w w') ∧ w.heap.size ≤ B ∧ w.heap.size ≤ C ∧ B ≠ C ∧ Hid (IntsAt w' B [127, 127]) ∧ Hid (IntsAt w' C [127]) := by
  have hs := shape_any 106 (by decide) (by decide)
  rw [k106.1, k106.2.1, k106.2.2] at hs
  exact atype_2 106 127 127 (by decide) hs w
theorem awake_any (w : World) :
    RW Tryz.prog 15 #[] w (.bool true) := by
  go_enter Tryz.func15, Tryz.ntmps15
  go_wp2_with fail
  refine (aty106 _).mono ?_
  rintro e w1 ⟨B, C, cp, rfl, hl, hB0, hC0, hBC, hB, hC⟩
  clear hB0 hC0
  go_wp2_with fail
  refine (of106 _ _ _ (by simp [go_sem]) (by simp [go_sem]) (by simp [go_sem]) (by simp [go_sem])).mono ?_
  rintro e w2 ⟨rfl, h2⟩
  have t0 : w2.cell? ⟨w1.heap.size, 0, none⟩ = some (.slice (some ⟨B, 0, none⟩) 2 cp) := h2.cell_of (by simp [go_sem])
  have t1 : w2.cell? ⟨w1.heap.size, 1, none⟩ = some (.slice (some ⟨C, 0, none⟩) 1 1) := h2.cell_of (by simp [go_sem])
  have L2 : Hid (Later w1 w2) := Later.trans (by repeat first | exact Lz _ | apply La | apply Lp | apply Lv | apply Ln | apply Ld) h2
  replace h2 : Hid True := trivial
  go_wp2_with fail
  refine (of128 _ _ _ (by simp [go_sem]) (by simp [go_sem]) (by simp [go_sem]) (by simp [go_sem])).mono ?_
  rintro e w3 ⟨rfl, h3⟩
  have L3 : Hid (Later w2 w3) := Later.trans (by repeat first | exact Lz _ | apply La | apply Lp | apply Lv | apply Ln | apply Ld) h3
  have v0 : w3.cell? ⟨w2.heap.size, 0, none⟩ = some (.int .i64 127) := h3.cell_of (by simp [go_sem])
  have v1 : w3.cell? ⟨w2.heap.size, 1, none⟩ = some (.int .i64 5) := h3.cell_of (by simp [go_sem])
  replace t0 := (later_of L3).cell_of t0
  replace t1 := (later_of L3).cell_of t1
  replace h3 : Hid True := trivial
  go_wp2_with fail
  refine (of106a _ _ _).mono ?_
  rintro e w4 ⟨rfl, h4⟩
  have L4 : Hid (Later w3 w4) := Later.trans (by repeat first | exact Lz _ | apply La | apply Lp | apply Lv | apply Ln | apply Ld) h4
  replace h4 : Hid True := trivial
  replace t0 := (later_of L4).cell_of t0
  replace t1 := (later_of L4).cell_of t1
  replace v0 := (later_of L4).cell_of v0
  replace v1 := (later_of L4).cell_of v1
  have lt := cell_lt t0
  have lv := cell_lt v0
  have LL : Hid (Later w w4) := (((later_of hl).trans (later_of L2)).trans (later_of L3)).trans (later_of L4)
  have L14 : Hid (Later w1 w4) := ((later_of L2).trans (later_of L3)).trans (later_of L4)
  have b0 := (hB.out.later (later_of L14)).cell (j := 0) (x := 127) rfl
  have b1 := (hB.out.later (later_of L14)).cell (j := 1) (x := 127) rfl
  have q0 := (hC.out.later (later_of L14)).cell (j := 0) (x := 127) rfl
  have lB := cell_lt b0
  have lC := cell_lt q0
  clear hl L2 L3 L4 L14 hB hC
  go_wp2_with fail
  refine (stype _ _ _ _ _ _ _ _ _ _ _ _ _ ?qa ?qb).mono ?qc
  case qa =>
    intro w5 h5
    exact same2 127 _ _ _ _ w5 (h5.cell_of (by simp [go_sem, b0, b1, q0, lB, lC])) (h5.cell_of (by simp [go_sem, b0, b1, q0, lB, lC])) (h5.cell_of (by simp [go_sem, b0, b1, q0, lB, lC])) (h5.cell_of (by simp [go_sem, b0, b1, q0, lB, lC])) (Nat.lt_of_lt_of_le (by simp [go_sem]; try omega) h5.size) (Nat.lt_of_lt_of_le (by simp [go_sem]; try omega) h5.size)
  case qb =>
    intro w5 h5
    exact same1 127 _ _ _ _ w5 (h5.cell_of (by simp [go_sem, b0, b1, q0, lB, lC])) (h5.cell_of (by simp [go_sem, b0, b1, q0, lB, lC])) (Nat.lt_of_lt_of_le (by simp [go_sem]; try omega) h5.size) (Nat.lt_of_lt_of_le (by simp [go_sem]; try omega) h5.size)
  case qc =>
    rintro e w6 ⟨rfl, h6⟩
    have L6 : Hid (Later w4 w6) := Later.trans (by repeat first | exact Lz _ | apply La | apply Lp | apply Lv | apply Ln | apply Ld) h6
    replace h6 : Hid True := trivial
    replace v0 := (later_of L6).cell_of v0
    replace v1 := (later_of L6).cell_of v1
    clear t0 t1 b0 b1 q0 lB lC lt lv
    go_wp2_with (go_at_call 12; refine (num_any _ _).mono ?_; rintro e w' ⟨rfl, rfl⟩)
    go_ret
    exact ⟨rfl, ((later_of LL).trans (later_of L6)).trans (by repeat first | exact Lz _ | apply La | apply Lp | apply Lv | apply Ln | apply Ld)⟩
theorem info_val : (Tryz.prog.info? 33).map (fun i => (i.zero, i.size, i.bytes)) = some (some (.agg #[.int .i64 0, .int .i64 0]), 2, 16) := by kernel_rfl
theorem add_lit (b j : Nat) : (⟨b, 0, none⟩ : Addr).add j = ⟨b, j, none⟩ := by unfold Addr.add; split <;> simp_all
theorem news2 {X : World} {b : Nat} {t x : Int} (hb : b = X.heap.size) : ∀ (j : Nat) (u : Value), [Value.int .i64 t, Value.int .i64 x][j]? = some u → (X.alloc (.cells #[.int .i64 t, .int .i64 x] 33)).cell? ((⟨b, 0, none⟩ : Addr).add j) = some u := by
  subst hb
  intro j u h
  rw [add_lit]
  rw [cell_of_row _ _ _ _ _ _ (heap_alloc_new X _)]
  match j, h with
  | 0, h => simpa using h
  | 1, h => simpa using h
theorem one2 (t x : Int) : ∀ u ∈ [Value.int .i64 t, Value.int .i64 x], u.oneCell' = true := by
  intro u hu
  simp only [List.mem_cons, List.not_mem_nil, or_false] at hu
  rcases hu with rfl | rfl <;> rfl
end Go.Proofs.YtdfgcagbpndabaaGreatDoor
set_option linter.unusedVariables false
namespace Go.Proofs.YtdfgcagbpndabaaGreatDoor
open Go.ChangeShapes Go.WideShapes Go.ChangeAt Go.RowKit
theorem own : ownKnob Tryz.prog.godebug = none := by kernel_rfl
theorem g32 : Tryz.prog.globalNamed "math/bits.deBruijn32tab" = some 1 := by kernel_rfl
theorem g64 : Tryz.prog.globalNamed "math/bits.deBruijn64tab" = some 2 := by kernel_rfl
theorem gt32 : (Tryz.prog.globals[1]?).map (·.type) = some 128 := by kernel_rfl
theorem gt64 : (Tryz.prog.globals[2]?).map (·.type) = some 129 := by kernel_rfl
def tabs : List (String × DataW Unit) := [("math/bits.deBruijn32tab", Rows.laid_math_bits_deBruijn32tab), ("math/bits.deBruijn64tab", Rows.laid_math_bits_deBruijn64tab)]
theorem d32 : (Rows.laid_math_bits_deBruijn32tab : DataW Unit) = Lib.tabData .u8 (Lib.deBruijn32tab.map fun n : Nat => (n : Int)) := rfl
theorem d64 : (Rows.laid_math_bits_deBruijn64tab : DataW Unit) = Lib.tabData .u8 (Lib.deBruijn64tab.map fun n : Nat => (n : Int)) := rfl
theorem getD_map (l : List Nat) (j : Nat) : (l.map fun n : Nat => (n : Int)).getD j 0 = (l.getD j 0 : Int) := by
  simp only [List.getD_eq_getElem?_getD, List.getElem?_map]
  cases l[j]? <;> rfl
theorem door_met (os : Os) (args : Array Value) : laidMetH Tryz.prog tabs ((World.doorLaid Tryz.prog 400 os).forCall (fun _ _ => 0) ⟨#[], args, []⟩).memory :=
  laidMetH_of_parts3 (fuel := 8) (laidMet_of_run' 8 (by kernel_rfl) (by kernel_rfl)) (by kernel_rfl) (by kernel_rfl)
theorem of_laid {W : World} (h : laidMetH Tryz.prog tabs W) : Tab 1 Lib.deBruijn32tab W ∧ Tab 2 Lib.deBruijn64tab W := by
  rw [MakeChecks.laidMetH_plain _ _ _ (by kernel_rfl)] at h
  have h2 : laidMet Tryz.prog [("math/bits.deBruijn64tab", Rows.laid_math_bits_deBruijn64tab)] W := laidMet.tail h
  unfold tabs at h
  rw [d32] at h
  rw [d64] at h2
  have t1 := Lib.tabIs_of_head g32 gt32 Tryz.underlying128 Tryz.underlying5 (by kernel_rfl) (by kernel_rfl) h
  have t2 := Lib.tabIs_of_head g64 gt64 Tryz.underlying129 Tryz.underlying5 (by kernel_rfl) (by kernel_rfl) h2
  refine ⟨fun j hj => ?_, fun j hj => ?_⟩
  · have := t1.cell g32 j (by simpa using hj)
    rw [getD_map] at this
    exact this
  · have := t2.cell g64 j (by simpa using hj)
    rw [getD_map] at this
    exact this
end Go.Proofs.YtdfgcagbpndabaaGreatDoor
