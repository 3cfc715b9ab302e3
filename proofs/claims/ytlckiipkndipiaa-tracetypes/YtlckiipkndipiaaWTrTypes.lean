/- 'TraceTypes' of package peloruslaw11 returns true at every value, int and bool: an answer is taken just if its values are of the results' types. No condition. -/
import Derived.Test.YtlckiipkndipiaaUX
import Derived.LoopTactic
import Derived.OpenShut
import Derived.Carry
import Derived.Deep.Slices
import Derived.ChangeMaps5
import Derived.Lib.SmallJoins
import Derived.SizedLaws
set_option linter.unusedVariables false
set_option linter.unusedSimpArgs false
set_option maxRecDepth 100000
set_option maxHeartbeats 8000000
namespace Go.Proofs.Ytlckiipkndipiaa.traceTypes
open Go.ChangeShapes Go.WideShapes Go.ChangeAt Go.RowKit
theorem kind_is (k : Int) : 124 ≤ wrap64 (127 - wrap64 ((IntKind.u64.wrap k).tmod 4)) ∧ wrap64 (127 - wrap64 ((IntKind.u64.wrap k).tmod 4)) ≤ 127 := by
  have h0 : 0 ≤ IntKind.u64.wrap k := by rw [IntKind.wrap_u64]; omega
  rw [Int.tmod_eq_emod_of_nonneg h0]
  generalize IntKind.u64.wrap k = z at *
  have h1 : wrap64 (z % 4) = z % 4 := by unfold wrap64; omega
  rw [h1]
  unfold wrap64
  omega
def vv (vt vb : Int) : Vl := (1, fun _ => vt, fun _ => vb)
def aw2 (vt vb : Int) : Nat → Vl := fun i => if i = 0 then vv vt vb else nov
def s0 (vt vb : Int) : Hs := (2, aw2 vt vb, 0, (fun _ => 0), (fun _ => nov))
def s1 (vt vb : Int) : Hs := cS (s0 vt vb) 0 nov
def s2 (vt vb : Int) : Hs := cS (s1 vt vb) 1 nov
theorem aw2_lit (W : World) (vt vb : Int) (g c : Nat) (hg : Vst W (some ⟨g, 0, none⟩) 1 (fun _ => vt) (fun _ => vb)) (h : Nat) (hh : h = W.heap.size) : Anv (W.alloc (.cells #[.slice (some ⟨g, 0, none⟩) 1 c, .slice none 0 0] 27)) (some ⟨h, 0, none⟩) 2 (aw2 vt vb) := by
  subst hh
  refine Or.inr ⟨_, 0, rfl, fun i hi => ?_⟩
  match i, hi with
  | 0, _ => exact ⟨_, c, by rw [cell_of_row _ _ _ _ _ _ (heap_alloc_new W _)]; rfl, by show 1 * 16 ≤ _; decide, hg.later (La (Lz _))⟩
  | 1, _ => exact ⟨none, 0, by rw [cell_of_row _ _ _ _ _ _ (heap_alloc_new W _)]; rfl, by show 0 * 16 ≤ _; decide, Or.inl rfl⟩
theorem e_no (vt vb : Int) (m : Nat) (r : Nat → Int) (h : fit m 1 r (fun _ => vt) (fun _ => vb) = false) : cE (s0 vt vb) 0 m r = 1102 ∧ cV (s0 vt vb) 0 m r = nov := by
  have h1 : cE (s0 vt vb) 0 m r = 1102 := by
    unfold cE
    rw [if_neg (by decide), if_neg (by show ¬ (2 = 0); decide)]
    exact if_neg (by show ¬ fit m 1 r (fun _ => vt) (fun _ => vb) = true; rw [h]; decide)
  exact ⟨h1, by unfold cV; rw [h1]; rfl⟩
theorem e_ok (vt vb : Int) (m : Nat) (r : Nat → Int) (h : fit m 1 r (fun _ => vt) (fun _ => vb) = true) : cE (s0 vt vb) 0 m r = 0 ∧ cV (s0 vt vb) 0 m r = vv vt vb := by
  have h1 : cE (s0 vt vb) 0 m r = 0 := by
    unfold cE
    rw [if_neg (by decide), if_neg (by show ¬ (2 = 0); decide)]
    exact if_pos h
  exact ⟨h1, by unfold cV; rw [h1]; rfl⟩
theorem fit_1 (t vt vb : Int) : fit 1 1 (fun _ => t) (fun _ => vt) (fun _ => vb) = (decide (vt = t) && may vt vb) := by
  simp [fit, fitP]
theorem none_127 (vt vb kind : Int) (w : World) (hT : wrap64 (127 - wrap64 ((IntKind.u64.wrap kind).tmod 4)) = 127) :
    Calls Try.prog 5 #[.agg #[.int .i64 vt, .int .i64 vb], .int .i64 kind, .bool true] w fun e w' => e = .returned (.bool true) ∧ Later w w' := by
  go_enter Try.func5, Try.ntmps5
  go_wp2_with fail
  refine (awake_any _).mono ?_
  rintro e w1 ⟨rfl, l1⟩
  have v0 : w1.cell? ⟨w.heap.size, 0, none⟩ = some (.int .i64 vt) := l1.cell_of (by simp [go_sem])
  have v1 : w1.cell? ⟨w.heap.size, 1, none⟩ = some (.int .i64 vb) := l1.cell_of (by simp [go_sem])
  have lv := cell_lt v0
  replace l1 : Later w w1 := (La (Lz _)).trans l1
  go_wp2_with fail
  generalize wrap64 (127 - wrap64 ((IntKind.u64.wrap kind).tmod 4)) = t at *
  subst hT
  have hfit : Hid (fit 0 1 (fun _ => 0) (fun _ => vt) (fun _ => vb) = false) := rfl
  have V2 := val_lit ((w1.alloc (.cells #[.int .i64 127] 3)).alloc (.cells #[.slice none 0 0, .slice none 0 0] 36)) vt vb (w1.heap.size + 1 + 1) (by simp)
  have A2 := aw2_lit _ vt vb (w1.heap.size + 1 + 1) 1 V2 (w1.heap.size + 1 + 1 + 1) (by simp)
  have L2 : Later w1 ((((w1.alloc (.cells #[.int .i64 127] 3)).alloc (.cells #[.slice none 0 0, .slice none 0 0] 36)).alloc (.cells #[.int .i64 vt, .int .i64 vb] 56)).alloc (.cells #[.slice (some ⟨w1.heap.size + 1 + 1, 0, none⟩) 1 1, .slice none 0 0] 27)) := (by repeat first | exact Lz _ | apply La | apply Lv | apply Ld | apply Ln)
  have r2 : ((((w1.alloc (.cells #[.int .i64 127] 3)).alloc (.cells #[.slice none 0 0, .slice none 0 0] 36)).alloc (.cells #[.int .i64 vt, .int .i64 vb] 56)).alloc (.cells #[.slice (some ⟨w1.heap.size + 1 + 1, 0, none⟩) 1 1, .slice none 0 0] 27)).cell? ⟨w1.heap.size, 0, none⟩ = some (.int .i64 127) := by simp [go_sem]
  have u02 : ((((w1.alloc (.cells #[.int .i64 127] 3)).alloc (.cells #[.slice none 0 0, .slice none 0 0] 36)).alloc (.cells #[.int .i64 vt, .int .i64 vb] 56)).alloc (.cells #[.slice (some ⟨w1.heap.size + 1 + 1, 0, none⟩) 1 1, .slice none 0 0] 27)).cell? ⟨w1.heap.size + 1, 0, none⟩ = some (.slice none 0 0) := by simp [go_sem]
  have u12 : ((((w1.alloc (.cells #[.int .i64 127] 3)).alloc (.cells #[.slice none 0 0, .slice none 0 0] 36)).alloc (.cells #[.int .i64 vt, .int .i64 vb] 56)).alloc (.cells #[.slice (some ⟨w1.heap.size + 1 + 1, 0, none⟩) 1 1, .slice none 0 0] 27)).cell? ⟨w1.heap.size + 1, 1, none⟩ = some (.slice none 0 0) := by simp [go_sem]
  generalize (((w1.alloc (.cells #[.int .i64 127] 3)).alloc (.cells #[.slice none 0 0, .slice none 0 0] 36)).alloc (.cells #[.int .i64 vt, .int .i64 vb] 56)).alloc (.cells #[.slice (some ⟨w1.heap.size + 1 + 1, 0, none⟩) 1 1, .slice none 0 0] 27) = w2 at *
  have v02 := L2.cell_of v0
  have v12 := L2.cell_of v1
  clear V2
  refine (hb_new (fun _ => 99) (w0 := w) (l1.trans L2) _ 2 _ (aw2 vt vb) (by decide) A2).mono ?_
  rintro e w3 ⟨p, lab3, rfl, l3, C3, H3⟩
  have u03 := l3.cell_of u02
  have u13 := l3.cell_of u12
  have v03 := l3.cell_of v02
  have v13 := l3.cell_of v12
  have zu3 : lab3 (w1.heap.size + 1) = 99 := C3.lab_to rfl (fun x => x) u02
  have zv3 : lab3 w.heap.size = 99 := C3.lab_to rfl (fun x => x) v02
  have R3 : Lq lab3 w3 (none) 0 (fun _ => 0) := Or.inl rfl
  replace R3 : Hid (Lq lab3 w3 (none) 0 (fun _ => 0)) := R3
  clear A2 L2 r2 u02 u12 v0 v1 v02 v12 C3 l3 lv l1
  go_wp2_with fail
  refine (hb_call H3 0 none _ none 0 0 0 0 0 nov (fun _ => 0) (show 0 < 1000000 by decide) (by decide) (Or.inl rfl) R3.out 1102 (nov) (s1 vt vb) (e_no vt vb _ _ hfit.out).1 (e_no vt vb _ _ hfit.out).2 rfl).mono ?_
  rintro e w4 ⟨A4, c4, lab4, rfl, H4, C4, Q4⟩
  have v04 := C4.cell (by rw [zv3]; decide) v03
  have v14 := C4.cell (by rw [zv3]; decide) v13
  have zv4 : lab4 w.heap.size = 99 := C4.lab_to zv3 (by decide) v03
  clear R3 H3 C4 u03 u13 v03 v13 zu3 zv3
  simp only [show (vv vt vb).1 = 1 from rfl, show nov.1 = 0 from rfl]
  have lv4 := cell_lt v04
  go_wp2_with fail
  refine (hb_call H4 1 none none none 0 0 0 0 0 nov (fun _ => 0) (show 1 < 1000000 by decide) (by decide) (Or.inl rfl) (Or.inl rfl) 0 nov (s2 vt vb) rfl rfl rfl).mono ?_
  rintro e w5 ⟨A5, c5, lab5, rfl, H5, C5, _⟩
  have v05 := C5.cell (by rw [zv4]; decide) v04
  have v15 := C5.cell (by rw [zv4]; decide) v14
  have hlf : Hid (∀ W, Later w5 W → Calls Try.prog 15 #[.pointer (some ⟨p, 0, none⟩)] W fun e w' => e = .returned (.int .i64 0) ∧ Later W w') := fun W hl => hleft_any lab5 W _ p (s2 vt vb) (H5.later hl).2
  replace H5 : Hid (Hb w w5 lab5 p (s2 vt vb)) := H5
  clear H4 C5 v04 v14 zv4 Q4 lv4
  have lv5 := cell_lt v05
  simp only [show nov.1 = 0 from rfl]
  go_wp2_with (first | (go_at_call 14; refine (num_any _ _).mono ?_; rintro e w' ⟨rfl, hw⟩; obtain rfl : w5 = w' := hw.symm) | (go_at_call 15; refine (hlf.out _ (Lz _)).mono ?_; rintro e w8 ⟨rfl, l8⟩; have L8 : Hid (Later w5 w8) := l8; clear l8))
  go_ret
  exact ⟨rfl, H5.out.1.trans L8.out⟩
theorem type_127 (vt vb kind : Int) (w : World) (hT : wrap64 (127 - wrap64 ((IntKind.u64.wrap kind).tmod 4)) = 127) (hne : ¬ vt = 127) :
    Calls Try.prog 5 #[.agg #[.int .i64 vt, .int .i64 vb], .int .i64 kind, .bool false] w fun e w' => e = .returned (.bool true) ∧ Later w w' := by
  go_enter Try.func5, Try.ntmps5
  go_wp2_with fail
  refine (awake_any _).mono ?_
  rintro e w1 ⟨rfl, l1⟩
  have v0 : w1.cell? ⟨w.heap.size, 0, none⟩ = some (.int .i64 vt) := l1.cell_of (by simp [go_sem])
  have v1 : w1.cell? ⟨w.heap.size, 1, none⟩ = some (.int .i64 vb) := l1.cell_of (by simp [go_sem])
  have lv := cell_lt v0
  replace l1 : Later w w1 := (La (Lz _)).trans l1
  go_wp2_with fail
  generalize wrap64 (127 - wrap64 ((IntKind.u64.wrap kind).tmod 4)) = t at *
  subst hT
  have hfit : Hid (fit 1 1 (fun _ => 127) (fun _ => vt) (fun _ => vb) = false) := (by rw [fit_1, decide_eq_false hne]; rfl : fit 1 1 (fun _ => 127) (fun _ => vt) (fun _ => vb) = false)
  have hne2 : (vt == 127) = false := by simpa using hne
  clear hne
  have V2 := val_lit ((w1.alloc (.cells #[.int .i64 127] 3)).alloc (.cells #[.slice none 0 0, .slice (some ⟨w1.heap.size, 0, none⟩) 1 1] 36)) vt vb (w1.heap.size + 1 + 1) (by simp)
  have A2 := aw2_lit _ vt vb (w1.heap.size + 1 + 1) 1 V2 (w1.heap.size + 1 + 1 + 1) (by simp)
  have L2 : Later w1 ((((w1.alloc (.cells #[.int .i64 127] 3)).alloc (.cells #[.slice none 0 0, .slice (some ⟨w1.heap.size, 0, none⟩) 1 1] 36)).alloc (.cells #[.int .i64 vt, .int .i64 vb] 56)).alloc (.cells #[.slice (some ⟨w1.heap.size + 1 + 1, 0, none⟩) 1 1, .slice none 0 0] 27)) := (by repeat first | exact Lz _ | apply La | apply Lv | apply Ld | apply Ln)
  have r2 : ((((w1.alloc (.cells #[.int .i64 127] 3)).alloc (.cells #[.slice none 0 0, .slice (some ⟨w1.heap.size, 0, none⟩) 1 1] 36)).alloc (.cells #[.int .i64 vt, .int .i64 vb] 56)).alloc (.cells #[.slice (some ⟨w1.heap.size + 1 + 1, 0, none⟩) 1 1, .slice none 0 0] 27)).cell? ⟨w1.heap.size, 0, none⟩ = some (.int .i64 127) := by simp [go_sem]
  have u02 : ((((w1.alloc (.cells #[.int .i64 127] 3)).alloc (.cells #[.slice none 0 0, .slice (some ⟨w1.heap.size, 0, none⟩) 1 1] 36)).alloc (.cells #[.int .i64 vt, .int .i64 vb] 56)).alloc (.cells #[.slice (some ⟨w1.heap.size + 1 + 1, 0, none⟩) 1 1, .slice none 0 0] 27)).cell? ⟨w1.heap.size + 1, 0, none⟩ = some (.slice none 0 0) := by simp [go_sem]
  have u12 : ((((w1.alloc (.cells #[.int .i64 127] 3)).alloc (.cells #[.slice none 0 0, .slice (some ⟨w1.heap.size, 0, none⟩) 1 1] 36)).alloc (.cells #[.int .i64 vt, .int .i64 vb] 56)).alloc (.cells #[.slice (some ⟨w1.heap.size + 1 + 1, 0, none⟩) 1 1, .slice none 0 0] 27)).cell? ⟨w1.heap.size + 1, 1, none⟩ = some (.slice (some ⟨w1.heap.size, 0, none⟩) 1 1) := by simp [go_sem]
  generalize (((w1.alloc (.cells #[.int .i64 127] 3)).alloc (.cells #[.slice none 0 0, .slice (some ⟨w1.heap.size, 0, none⟩) 1 1] 36)).alloc (.cells #[.int .i64 vt, .int .i64 vb] 56)).alloc (.cells #[.slice (some ⟨w1.heap.size + 1 + 1, 0, none⟩) 1 1, .slice none 0 0] 27) = w2 at *
  have v02 := L2.cell_of v0
  have v12 := L2.cell_of v1
  clear V2
  refine (hb_new (fun _ => 99) (w0 := w) (l1.trans L2) _ 2 _ (aw2 vt vb) (by decide) A2).mono ?_
  rintro e w3 ⟨p, lab3, rfl, l3, C3, H3⟩
  have u03 := l3.cell_of u02
  have u13 := l3.cell_of u12
  have v03 := l3.cell_of v02
  have v13 := l3.cell_of v12
  have zu3 : lab3 (w1.heap.size + 1) = 99 := C3.lab_to rfl (fun x => x) u02
  have zv3 : lab3 w.heap.size = 99 := C3.lab_to rfl (fun x => x) v02
  have R3 : Lq lab3 w3 (some ⟨w1.heap.size, 0, none⟩) 1 (fun _ => 127) := Or.inr ⟨_, 0, rfl, by rw [C3.lab_eq (fun x => x) r2]; decide, fun j hj => by obtain rfl : j = 0 := (by omega); exact l3.cell_of r2⟩
  replace R3 : Hid (Lq lab3 w3 (some ⟨w1.heap.size, 0, none⟩) 1 (fun _ => 127)) := R3
  clear A2 L2 r2 u02 u12 v0 v1 v02 v12 C3 l3 lv l1
  go_wp2_with fail
  refine (hb_call H3 0 none _ none 0 0 1 1 0 nov (fun _ => 127) (show 0 < 1000000 by decide) (by decide) (Or.inl rfl) R3.out 1102 (nov) (s1 vt vb) (e_no vt vb _ _ hfit.out).1 (e_no vt vb _ _ hfit.out).2 rfl).mono ?_
  rintro e w4 ⟨A4, c4, lab4, rfl, H4, C4, Q4⟩
  have v04 := C4.cell (by rw [zv3]; decide) v03
  have v14 := C4.cell (by rw [zv3]; decide) v13
  have zv4 : lab4 w.heap.size = 99 := C4.lab_to zv3 (by decide) v03
  clear R3 H3 C4 u03 u13 v03 v13 zu3 zv3
  simp only [show (vv vt vb).1 = 1 from rfl, show nov.1 = 0 from rfl]
  have lv4 := cell_lt v04
  go_wp2_with fail
  refine (hb_call H4 1 none none none 0 0 0 0 0 nov (fun _ => 0) (show 1 < 1000000 by decide) (by decide) (Or.inl rfl) (Or.inl rfl) 0 nov (s2 vt vb) rfl rfl rfl).mono ?_
  rintro e w5 ⟨A5, c5, lab5, rfl, H5, C5, _⟩
  have v05 := C5.cell (by rw [zv4]; decide) v04
  have v15 := C5.cell (by rw [zv4]; decide) v14
  have hlf : Hid (∀ W, Later w5 W → Calls Try.prog 15 #[.pointer (some ⟨p, 0, none⟩)] W fun e w' => e = .returned (.int .i64 0) ∧ Later W w') := fun W hl => hleft_any lab5 W _ p (s2 vt vb) (H5.later hl).2
  replace H5 : Hid (Hb w w5 lab5 p (s2 vt vb)) := H5
  clear H4 C5 v04 v14 zv4 Q4 lv4
  have lv5 := cell_lt v05
  simp only [show nov.1 = 0 from rfl]
  go_wp2_with (first | (go_at_call 14; refine (num_any _ _).mono ?_; rintro e w' ⟨rfl, hw⟩; obtain rfl : w5 = w' := hw.symm) | (go_at_call 15; refine (hlf.out _ (Lz _)).mono ?_; rintro e w8 ⟨rfl, l8⟩; have L8 : Hid (Later w5 w8) := l8; clear l8))
  go_ret
  exact ⟨rfl, H5.out.1.trans L8.out⟩
theorem fine_127 (vb kind : Int) (w : World) (hT : wrap64 (127 - wrap64 ((IntKind.u64.wrap kind).tmod 4)) = 127) (h0 : 0 ≤ vb) (h1 : vb ≤ 4294967295) :
    Calls Try.prog 5 #[.agg #[.int .i64 127, .int .i64 vb], .int .i64 kind, .bool false] w fun e w' => e = .returned (.bool true) ∧ Later w w' := by
  go_enter Try.func5, Try.ntmps5
  go_wp2_with fail
  refine (awake_any _).mono ?_
  rintro e w1 ⟨rfl, l1⟩
  have v0 : w1.cell? ⟨w.heap.size, 0, none⟩ = some (.int .i64 127) := l1.cell_of (by simp [go_sem])
  have v1 : w1.cell? ⟨w.heap.size, 1, none⟩ = some (.int .i64 vb) := l1.cell_of (by simp [go_sem])
  have lv := cell_lt v0
  replace l1 : Later w w1 := (La (Lz _)).trans l1
  go_wp2_with fail
  generalize wrap64 (127 - wrap64 ((IntKind.u64.wrap kind).tmod 4)) = t at *
  subst hT
  have hfit : Hid (fit 1 1 (fun _ => 127) (fun _ => 127) (fun _ => vb) = true) := (by rw [fit_1]; simp [may, h0, h1] : fit 1 1 (fun _ => 127) (fun _ => 127) (fun _ => vb) = true)
  have V2 := val_lit ((w1.alloc (.cells #[.int .i64 127] 3)).alloc (.cells #[.slice none 0 0, .slice (some ⟨w1.heap.size, 0, none⟩) 1 1] 36)) 127 vb (w1.heap.size + 1 + 1) (by simp)
  have A2 := aw2_lit _ 127 vb (w1.heap.size + 1 + 1) 1 V2 (w1.heap.size + 1 + 1 + 1) (by simp)
  have L2 : Later w1 ((((w1.alloc (.cells #[.int .i64 127] 3)).alloc (.cells #[.slice none 0 0, .slice (some ⟨w1.heap.size, 0, none⟩) 1 1] 36)).alloc (.cells #[.int .i64 127, .int .i64 vb] 56)).alloc (.cells #[.slice (some ⟨w1.heap.size + 1 + 1, 0, none⟩) 1 1, .slice none 0 0] 27)) := (by repeat first | exact Lz _ | apply La | apply Lv | apply Ld | apply Ln)
  have r2 : ((((w1.alloc (.cells #[.int .i64 127] 3)).alloc (.cells #[.slice none 0 0, .slice (some ⟨w1.heap.size, 0, none⟩) 1 1] 36)).alloc (.cells #[.int .i64 127, .int .i64 vb] 56)).alloc (.cells #[.slice (some ⟨w1.heap.size + 1 + 1, 0, none⟩) 1 1, .slice none 0 0] 27)).cell? ⟨w1.heap.size, 0, none⟩ = some (.int .i64 127) := by simp [go_sem]
  have u02 : ((((w1.alloc (.cells #[.int .i64 127] 3)).alloc (.cells #[.slice none 0 0, .slice (some ⟨w1.heap.size, 0, none⟩) 1 1] 36)).alloc (.cells #[.int .i64 127, .int .i64 vb] 56)).alloc (.cells #[.slice (some ⟨w1.heap.size + 1 + 1, 0, none⟩) 1 1, .slice none 0 0] 27)).cell? ⟨w1.heap.size + 1, 0, none⟩ = some (.slice none 0 0) := by simp [go_sem]
  have u12 : ((((w1.alloc (.cells #[.int .i64 127] 3)).alloc (.cells #[.slice none 0 0, .slice (some ⟨w1.heap.size, 0, none⟩) 1 1] 36)).alloc (.cells #[.int .i64 127, .int .i64 vb] 56)).alloc (.cells #[.slice (some ⟨w1.heap.size + 1 + 1, 0, none⟩) 1 1, .slice none 0 0] 27)).cell? ⟨w1.heap.size + 1, 1, none⟩ = some (.slice (some ⟨w1.heap.size, 0, none⟩) 1 1) := by simp [go_sem]
  generalize (((w1.alloc (.cells #[.int .i64 127] 3)).alloc (.cells #[.slice none 0 0, .slice (some ⟨w1.heap.size, 0, none⟩) 1 1] 36)).alloc (.cells #[.int .i64 127, .int .i64 vb] 56)).alloc (.cells #[.slice (some ⟨w1.heap.size + 1 + 1, 0, none⟩) 1 1, .slice none 0 0] 27) = w2 at *
  have v02 := L2.cell_of v0
  have v12 := L2.cell_of v1
  clear V2
  refine (hb_new (fun _ => 99) (w0 := w) (l1.trans L2) _ 2 _ (aw2 127 vb) (by decide) A2).mono ?_
  rintro e w3 ⟨p, lab3, rfl, l3, C3, H3⟩
  have u03 := l3.cell_of u02
  have u13 := l3.cell_of u12
  have v03 := l3.cell_of v02
  have v13 := l3.cell_of v12
  have zu3 : lab3 (w1.heap.size + 1) = 99 := C3.lab_to rfl (fun x => x) u02
  have zv3 : lab3 w.heap.size = 99 := C3.lab_to rfl (fun x => x) v02
  have R3 : Lq lab3 w3 (some ⟨w1.heap.size, 0, none⟩) 1 (fun _ => 127) := Or.inr ⟨_, 0, rfl, by rw [C3.lab_eq (fun x => x) r2]; decide, fun j hj => by obtain rfl : j = 0 := (by omega); exact l3.cell_of r2⟩
  replace R3 : Hid (Lq lab3 w3 (some ⟨w1.heap.size, 0, none⟩) 1 (fun _ => 127)) := R3
  clear A2 L2 r2 u02 u12 v0 v1 v02 v12 C3 l3 lv l1
  go_wp2_with fail
  refine (hb_call H3 0 none _ none 0 0 1 1 0 nov (fun _ => 127) (show 0 < 1000000 by decide) (by decide) (Or.inl rfl) R3.out 0 (vv 127 vb) (s1 127 vb) (e_ok 127 vb _ _ hfit.out).1 (e_ok 127 vb _ _ hfit.out).2 rfl).mono ?_
  rintro e w4 ⟨A4, c4, lab4, rfl, H4, C4, Q4⟩
  have v04 := C4.cell (by rw [zv3]; decide) v03
  have v14 := C4.cell (by rw [zv3]; decide) v13
  have zv4 : lab4 w.heap.size = 99 := C4.lab_to zv3 (by decide) v03
  clear R3 H3 C4 u03 u13 v03 v13 zu3 zv3
  simp only [show (vv 127 vb).1 = 1 from rfl, show nov.1 = 0 from rfl]
  have lv4 := cell_lt v04
  go_wp2_with fail
  refine (hb_call H4 1 none none none 0 0 0 0 0 nov (fun _ => 0) (show 1 < 1000000 by decide) (by decide) (Or.inl rfl) (Or.inl rfl) 0 nov (s2 127 vb) rfl rfl rfl).mono ?_
  rintro e w5 ⟨A5, c5, lab5, rfl, H5, C5, _⟩
  have v05 := C5.cell (by rw [zv4]; decide) v04
  have v15 := C5.cell (by rw [zv4]; decide) v14
  obtain ⟨g4, q4, q5, _⟩ := Q4.resolve_left (by show ¬ (1 = 0); decide)
  have y5 := (q4.chg C5 (by rw [q5]; decide)).1.vst
  have hsv : Hid (∀ W, Later w5 W → ∀ g, Vst W (some ⟨g, 0, none⟩) 1 (fun _ => 127) (fun _ => vb) → Calls Try.prog 13 #[.slice A4 1 c4, .slice (some ⟨g, 0, none⟩) 1 1] W fun e w' => e = .returned (.bool true) ∧ Later W w') := fun W hl g hg => samev_any _ _ 1 _ _ _ _ (by decide) W (y5.later hl) hg
  clear q4 q5 y5
  have hlf : Hid (∀ W, Later w5 W → Calls Try.prog 15 #[.pointer (some ⟨p, 0, none⟩)] W fun e w' => e = .returned (.int .i64 0) ∧ Later W w') := fun W hl => hleft_any lab5 W _ p (s2 127 vb) (H5.later hl).2
  replace H5 : Hid (Hb w w5 lab5 p (s2 127 vb)) := H5
  clear H4 C5 v04 v14 zv4 Q4 lv4
  have lv5 := cell_lt v05
  simp only [show nov.1 = 0 from rfl]
  go_wp2_with (first | (go_at_call 14; refine (num_any _ _).mono ?_; rintro e w' ⟨rfl, hw⟩; obtain rfl : w5 = w' := hw.symm) | (go_at_call 13; refine (hsv.out _ (La (Lz _)) _ (val_lit _ _ _ _ rfl)).mono ?_; rintro e w7 ⟨rfl, l7⟩; have L7 : Hid (Later w5 w7) := (La (Lz _)).trans l7; clear l7) | (go_at_call 14; refine (num_any _ _).mono ?_; rintro e w' ⟨rfl, hw⟩; obtain rfl : w7 = w' := hw.symm) | (go_at_call 15; refine (hlf.out _ L7.out).mono ?_; rintro e w8 ⟨rfl, l8⟩; have L8 : Hid (Later w5 w8) := L7.out.trans l8; clear l8))
  go_ret
  exact ⟨rfl, H5.out.1.trans L8.out⟩
theorem low_127 (vb kind : Int) (w : World) (hT : wrap64 (127 - wrap64 ((IntKind.u64.wrap kind).tmod 4)) = 127) (h0 : vb < 0) :
    Calls Try.prog 5 #[.agg #[.int .i64 127, .int .i64 vb], .int .i64 kind, .bool false] w fun e w' => e = .returned (.bool true) ∧ Later w w' := by
  go_enter Try.func5, Try.ntmps5
  go_wp2_with fail
  refine (awake_any _).mono ?_
  rintro e w1 ⟨rfl, l1⟩
  have v0 : w1.cell? ⟨w.heap.size, 0, none⟩ = some (.int .i64 127) := l1.cell_of (by simp [go_sem])
  have v1 : w1.cell? ⟨w.heap.size, 1, none⟩ = some (.int .i64 vb) := l1.cell_of (by simp [go_sem])
  have lv := cell_lt v0
  replace l1 : Later w w1 := (La (Lz _)).trans l1
  go_wp2_with fail
  generalize wrap64 (127 - wrap64 ((IntKind.u64.wrap kind).tmod 4)) = t at *
  subst hT
  have hfit : Hid (fit 1 1 (fun _ => 127) (fun _ => 127) (fun _ => vb) = false) := (by rw [fit_1]; simp [may]; omega : fit 1 1 (fun _ => 127) (fun _ => 127) (fun _ => vb) = false)
  have hd : decide (0 ≤ vb) = false := decide_eq_false (by omega)
  have V2 := val_lit ((w1.alloc (.cells #[.int .i64 127] 3)).alloc (.cells #[.slice none 0 0, .slice (some ⟨w1.heap.size, 0, none⟩) 1 1] 36)) 127 vb (w1.heap.size + 1 + 1) (by simp)
  have A2 := aw2_lit _ 127 vb (w1.heap.size + 1 + 1) 1 V2 (w1.heap.size + 1 + 1 + 1) (by simp)
  have L2 : Later w1 ((((w1.alloc (.cells #[.int .i64 127] 3)).alloc (.cells #[.slice none 0 0, .slice (some ⟨w1.heap.size, 0, none⟩) 1 1] 36)).alloc (.cells #[.int .i64 127, .int .i64 vb] 56)).alloc (.cells #[.slice (some ⟨w1.heap.size + 1 + 1, 0, none⟩) 1 1, .slice none 0 0] 27)) := (by repeat first | exact Lz _ | apply La | apply Lv | apply Ld | apply Ln)
  have r2 : ((((w1.alloc (.cells #[.int .i64 127] 3)).alloc (.cells #[.slice none 0 0, .slice (some ⟨w1.heap.size, 0, none⟩) 1 1] 36)).alloc (.cells #[.int .i64 127, .int .i64 vb] 56)).alloc (.cells #[.slice (some ⟨w1.heap.size + 1 + 1, 0, none⟩) 1 1, .slice none 0 0] 27)).cell? ⟨w1.heap.size, 0, none⟩ = some (.int .i64 127) := by simp [go_sem]
  have u02 : ((((w1.alloc (.cells #[.int .i64 127] 3)).alloc (.cells #[.slice none 0 0, .slice (some ⟨w1.heap.size, 0, none⟩) 1 1] 36)).alloc (.cells #[.int .i64 127, .int .i64 vb] 56)).alloc (.cells #[.slice (some ⟨w1.heap.size + 1 + 1, 0, none⟩) 1 1, .slice none 0 0] 27)).cell? ⟨w1.heap.size + 1, 0, none⟩ = some (.slice none 0 0) := by simp [go_sem]
  have u12 : ((((w1.alloc (.cells #[.int .i64 127] 3)).alloc (.cells #[.slice none 0 0, .slice (some ⟨w1.heap.size, 0, none⟩) 1 1] 36)).alloc (.cells #[.int .i64 127, .int .i64 vb] 56)).alloc (.cells #[.slice (some ⟨w1.heap.size + 1 + 1, 0, none⟩) 1 1, .slice none 0 0] 27)).cell? ⟨w1.heap.size + 1, 1, none⟩ = some (.slice (some ⟨w1.heap.size, 0, none⟩) 1 1) := by simp [go_sem]
  generalize (((w1.alloc (.cells #[.int .i64 127] 3)).alloc (.cells #[.slice none 0 0, .slice (some ⟨w1.heap.size, 0, none⟩) 1 1] 36)).alloc (.cells #[.int .i64 127, .int .i64 vb] 56)).alloc (.cells #[.slice (some ⟨w1.heap.size + 1 + 1, 0, none⟩) 1 1, .slice none 0 0] 27) = w2 at *
  have v02 := L2.cell_of v0
  have v12 := L2.cell_of v1
  clear V2
  refine (hb_new (fun _ => 99) (w0 := w) (l1.trans L2) _ 2 _ (aw2 127 vb) (by decide) A2).mono ?_
  rintro e w3 ⟨p, lab3, rfl, l3, C3, H3⟩
  have u03 := l3.cell_of u02
  have u13 := l3.cell_of u12
  have v03 := l3.cell_of v02
  have v13 := l3.cell_of v12
  have zu3 : lab3 (w1.heap.size + 1) = 99 := C3.lab_to rfl (fun x => x) u02
  have zv3 : lab3 w.heap.size = 99 := C3.lab_to rfl (fun x => x) v02
  have R3 : Lq lab3 w3 (some ⟨w1.heap.size, 0, none⟩) 1 (fun _ => 127) := Or.inr ⟨_, 0, rfl, by rw [C3.lab_eq (fun x => x) r2]; decide, fun j hj => by obtain rfl : j = 0 := (by omega); exact l3.cell_of r2⟩
  replace R3 : Hid (Lq lab3 w3 (some ⟨w1.heap.size, 0, none⟩) 1 (fun _ => 127)) := R3
  clear A2 L2 r2 u02 u12 v0 v1 v02 v12 C3 l3 lv l1
  go_wp2_with fail
  refine (hb_call H3 0 none _ none 0 0 1 1 0 nov (fun _ => 127) (show 0 < 1000000 by decide) (by decide) (Or.inl rfl) R3.out 1102 (nov) (s1 127 vb) (e_no 127 vb _ _ hfit.out).1 (e_no 127 vb _ _ hfit.out).2 rfl).mono ?_
  rintro e w4 ⟨A4, c4, lab4, rfl, H4, C4, Q4⟩
  have v04 := C4.cell (by rw [zv3]; decide) v03
  have v14 := C4.cell (by rw [zv3]; decide) v13
  have zv4 : lab4 w.heap.size = 99 := C4.lab_to zv3 (by decide) v03
  clear R3 H3 C4 u03 u13 v03 v13 zu3 zv3
  simp only [show (vv 127 vb).1 = 1 from rfl, show nov.1 = 0 from rfl]
  have lv4 := cell_lt v04
  go_wp2_with fail
  refine (hb_call H4 1 none none none 0 0 0 0 0 nov (fun _ => 0) (show 1 < 1000000 by decide) (by decide) (Or.inl rfl) (Or.inl rfl) 0 nov (s2 127 vb) rfl rfl rfl).mono ?_
  rintro e w5 ⟨A5, c5, lab5, rfl, H5, C5, _⟩
  have v05 := C5.cell (by rw [zv4]; decide) v04
  have v15 := C5.cell (by rw [zv4]; decide) v14
  have hlf : Hid (∀ W, Later w5 W → Calls Try.prog 15 #[.pointer (some ⟨p, 0, none⟩)] W fun e w' => e = .returned (.int .i64 0) ∧ Later W w') := fun W hl => hleft_any lab5 W _ p (s2 127 vb) (H5.later hl).2
  replace H5 : Hid (Hb w w5 lab5 p (s2 127 vb)) := H5
  clear H4 C5 v04 v14 zv4 Q4 lv4
  have lv5 := cell_lt v05
  simp only [show nov.1 = 0 from rfl]
  go_wp2_with (first | (go_at_call 14; refine (num_any _ _).mono ?_; rintro e w' ⟨rfl, hw⟩; obtain rfl : w5 = w' := hw.symm) | (go_at_call 15; refine (hlf.out _ (Lz _)).mono ?_; rintro e w8 ⟨rfl, l8⟩; have L8 : Hid (Later w5 w8) := l8; clear l8))
  go_ret
  exact ⟨rfl, H5.out.1.trans L8.out⟩
theorem high_127 (vb kind : Int) (w : World) (hT : wrap64 (127 - wrap64 ((IntKind.u64.wrap kind).tmod 4)) = 127) (h0 : 0 ≤ vb) (h1 : 4294967295 < vb) :
    Calls Try.prog 5 #[.agg #[.int .i64 127, .int .i64 vb], .int .i64 kind, .bool false] w fun e w' => e = .returned (.bool true) ∧ Later w w' := by
  go_enter Try.func5, Try.ntmps5
  go_wp2_with fail
  refine (awake_any _).mono ?_
  rintro e w1 ⟨rfl, l1⟩
  have v0 : w1.cell? ⟨w.heap.size, 0, none⟩ = some (.int .i64 127) := l1.cell_of (by simp [go_sem])
  have v1 : w1.cell? ⟨w.heap.size, 1, none⟩ = some (.int .i64 vb) := l1.cell_of (by simp [go_sem])
  have lv := cell_lt v0
  replace l1 : Later w w1 := (La (Lz _)).trans l1
  go_wp2_with fail
  generalize wrap64 (127 - wrap64 ((IntKind.u64.wrap kind).tmod 4)) = t at *
  subst hT
  have hfit : Hid (fit 1 1 (fun _ => 127) (fun _ => 127) (fun _ => vb) = false) := (by rw [fit_1]; simp [may]; omega : fit 1 1 (fun _ => 127) (fun _ => 127) (fun _ => vb) = false)
  have hd : decide (vb ≤ 4294967295) = false := decide_eq_false (by omega)
  have V2 := val_lit ((w1.alloc (.cells #[.int .i64 127] 3)).alloc (.cells #[.slice none 0 0, .slice (some ⟨w1.heap.size, 0, none⟩) 1 1] 36)) 127 vb (w1.heap.size + 1 + 1) (by simp)
  have A2 := aw2_lit _ 127 vb (w1.heap.size + 1 + 1) 1 V2 (w1.heap.size + 1 + 1 + 1) (by simp)
  have L2 : Later w1 ((((w1.alloc (.cells #[.int .i64 127] 3)).alloc (.cells #[.slice none 0 0, .slice (some ⟨w1.heap.size, 0, none⟩) 1 1] 36)).alloc (.cells #[.int .i64 127, .int .i64 vb] 56)).alloc (.cells #[.slice (some ⟨w1.heap.size + 1 + 1, 0, none⟩) 1 1, .slice none 0 0] 27)) := (by repeat first | exact Lz _ | apply La | apply Lv | apply Ld | apply Ln)
  have r2 : ((((w1.alloc (.cells #[.int .i64 127] 3)).alloc (.cells #[.slice none 0 0, .slice (some ⟨w1.heap.size, 0, none⟩) 1 1] 36)).alloc (.cells #[.int .i64 127, .int .i64 vb] 56)).alloc (.cells #[.slice (some ⟨w1.heap.size + 1 + 1, 0, none⟩) 1 1, .slice none 0 0] 27)).cell? ⟨w1.heap.size, 0, none⟩ = some (.int .i64 127) := by simp [go_sem]
  have u02 : ((((w1.alloc (.cells #[.int .i64 127] 3)).alloc (.cells #[.slice none 0 0, .slice (some ⟨w1.heap.size, 0, none⟩) 1 1] 36)).alloc (.cells #[.int .i64 127, .int .i64 vb] 56)).alloc (.cells #[.slice (some ⟨w1.heap.size + 1 + 1, 0, none⟩) 1 1, .slice none 0 0] 27)).cell? ⟨w1.heap.size + 1, 0, none⟩ = some (.slice none 0 0) := by simp [go_sem]
  have u12 : ((((w1.alloc (.cells #[.int .i64 127] 3)).alloc (.cells #[.slice none 0 0, .slice (some ⟨w1.heap.size, 0, none⟩) 1 1] 36)).alloc (.cells #[.int .i64 127, .int .i64 vb] 56)).alloc (.cells #[.slice (some ⟨w1.heap.size + 1 + 1, 0, none⟩) 1 1, .slice none 0 0] 27)).cell? ⟨w1.heap.size + 1, 1, none⟩ = some (.slice (some ⟨w1.heap.size, 0, none⟩) 1 1) := by simp [go_sem]
  generalize (((w1.alloc (.cells #[.int .i64 127] 3)).alloc (.cells #[.slice none 0 0, .slice (some ⟨w1.heap.size, 0, none⟩) 1 1] 36)).alloc (.cells #[.int .i64 127, .int .i64 vb] 56)).alloc (.cells #[.slice (some ⟨w1.heap.size + 1 + 1, 0, none⟩) 1 1, .slice none 0 0] 27) = w2 at *
  have v02 := L2.cell_of v0
  have v12 := L2.cell_of v1
  clear V2
  refine (hb_new (fun _ => 99) (w0 := w) (l1.trans L2) _ 2 _ (aw2 127 vb) (by decide) A2).mono ?_
  rintro e w3 ⟨p, lab3, rfl, l3, C3, H3⟩
  have u03 := l3.cell_of u02
  have u13 := l3.cell_of u12
  have v03 := l3.cell_of v02
  have v13 := l3.cell_of v12
  have zu3 : lab3 (w1.heap.size + 1) = 99 := C3.lab_to rfl (fun x => x) u02
  have zv3 : lab3 w.heap.size = 99 := C3.lab_to rfl (fun x => x) v02
  have R3 : Lq lab3 w3 (some ⟨w1.heap.size, 0, none⟩) 1 (fun _ => 127) := Or.inr ⟨_, 0, rfl, by rw [C3.lab_eq (fun x => x) r2]; decide, fun j hj => by obtain rfl : j = 0 := (by omega); exact l3.cell_of r2⟩
  replace R3 : Hid (Lq lab3 w3 (some ⟨w1.heap.size, 0, none⟩) 1 (fun _ => 127)) := R3
  clear A2 L2 r2 u02 u12 v0 v1 v02 v12 C3 l3 lv l1
  go_wp2_with fail
  refine (hb_call H3 0 none _ none 0 0 1 1 0 nov (fun _ => 127) (show 0 < 1000000 by decide) (by decide) (Or.inl rfl) R3.out 1102 (nov) (s1 127 vb) (e_no 127 vb _ _ hfit.out).1 (e_no 127 vb _ _ hfit.out).2 rfl).mono ?_
  rintro e w4 ⟨A4, c4, lab4, rfl, H4, C4, Q4⟩
  have v04 := C4.cell (by rw [zv3]; decide) v03
  have v14 := C4.cell (by rw [zv3]; decide) v13
  have zv4 : lab4 w.heap.size = 99 := C4.lab_to zv3 (by decide) v03
  clear R3 H3 C4 u03 u13 v03 v13 zu3 zv3
  simp only [show (vv 127 vb).1 = 1 from rfl, show nov.1 = 0 from rfl]
  have lv4 := cell_lt v04
  go_wp2_with fail
  refine (hb_call H4 1 none none none 0 0 0 0 0 nov (fun _ => 0) (show 1 < 1000000 by decide) (by decide) (Or.inl rfl) (Or.inl rfl) 0 nov (s2 127 vb) rfl rfl rfl).mono ?_
  rintro e w5 ⟨A5, c5, lab5, rfl, H5, C5, _⟩
  have v05 := C5.cell (by rw [zv4]; decide) v04
  have v15 := C5.cell (by rw [zv4]; decide) v14
  have hlf : Hid (∀ W, Later w5 W → Calls Try.prog 15 #[.pointer (some ⟨p, 0, none⟩)] W fun e w' => e = .returned (.int .i64 0) ∧ Later W w') := fun W hl => hleft_any lab5 W _ p (s2 127 vb) (H5.later hl).2
  replace H5 : Hid (Hb w w5 lab5 p (s2 127 vb)) := H5
  clear H4 C5 v04 v14 zv4 Q4 lv4
  have lv5 := cell_lt v05
  simp only [show nov.1 = 0 from rfl]
  go_wp2_with (first | (go_at_call 14; refine (num_any _ _).mono ?_; rintro e w' ⟨rfl, hw⟩; obtain rfl : w5 = w' := hw.symm) | (go_at_call 15; refine (hlf.out _ (Lz _)).mono ?_; rintro e w8 ⟨rfl, l8⟩; have L8 : Hid (Later w5 w8) := l8; clear l8))
  go_ret
  exact ⟨rfl, H5.out.1.trans L8.out⟩
theorem none_126 (vt vb kind : Int) (w : World) (hT : wrap64 (127 - wrap64 ((IntKind.u64.wrap kind).tmod 4)) = 126) :
    Calls Try.prog 5 #[.agg #[.int .i64 vt, .int .i64 vb], .int .i64 kind, .bool true] w fun e w' => e = .returned (.bool true) ∧ Later w w' := by
  go_enter Try.func5, Try.ntmps5
  go_wp2_with fail
  refine (awake_any _).mono ?_
  rintro e w1 ⟨rfl, l1⟩
  have v0 : w1.cell? ⟨w.heap.size, 0, none⟩ = some (.int .i64 vt) := l1.cell_of (by simp [go_sem])
  have v1 : w1.cell? ⟨w.heap.size, 1, none⟩ = some (.int .i64 vb) := l1.cell_of (by simp [go_sem])
  have lv := cell_lt v0
  replace l1 : Later w w1 := (La (Lz _)).trans l1
  go_wp2_with fail
  generalize wrap64 (127 - wrap64 ((IntKind.u64.wrap kind).tmod 4)) = t at *
  subst hT
  have hfit : Hid (fit 0 1 (fun _ => 0) (fun _ => vt) (fun _ => vb) = false) := rfl
  have V2 := val_lit ((w1.alloc (.cells #[.int .i64 126] 3)).alloc (.cells #[.slice none 0 0, .slice none 0 0] 36)) vt vb (w1.heap.size + 1 + 1) (by simp)
  have A2 := aw2_lit _ vt vb (w1.heap.size + 1 + 1) 1 V2 (w1.heap.size + 1 + 1 + 1) (by simp)
  have L2 : Later w1 ((((w1.alloc (.cells #[.int .i64 126] 3)).alloc (.cells #[.slice none 0 0, .slice none 0 0] 36)).alloc (.cells #[.int .i64 vt, .int .i64 vb] 56)).alloc (.cells #[.slice (some ⟨w1.heap.size + 1 + 1, 0, none⟩) 1 1, .slice none 0 0] 27)) := (by repeat first | exact Lz _ | apply La | apply Lv | apply Ld | apply Ln)
  have r2 : ((((w1.alloc (.cells #[.int .i64 126] 3)).alloc (.cells #[.slice none 0 0, .slice none 0 0] 36)).alloc (.cells #[.int .i64 vt, .int .i64 vb] 56)).alloc (.cells #[.slice (some ⟨w1.heap.size + 1 + 1, 0, none⟩) 1 1, .slice none 0 0] 27)).cell? ⟨w1.heap.size, 0, none⟩ = some (.int .i64 126) := by simp [go_sem]
  have u02 : ((((w1.alloc (.cells #[.int .i64 126] 3)).alloc (.cells #[.slice none 0 0, .slice none 0 0] 36)).alloc (.cells #[.int .i64 vt, .int .i64 vb] 56)).alloc (.cells #[.slice (some ⟨w1.heap.size + 1 + 1, 0, none⟩) 1 1, .slice none 0 0] 27)).cell? ⟨w1.heap.size + 1, 0, none⟩ = some (.slice none 0 0) := by simp [go_sem]
  have u12 : ((((w1.alloc (.cells #[.int .i64 126] 3)).alloc (.cells #[.slice none 0 0, .slice none 0 0] 36)).alloc (.cells #[.int .i64 vt, .int .i64 vb] 56)).alloc (.cells #[.slice (some ⟨w1.heap.size + 1 + 1, 0, none⟩) 1 1, .slice none 0 0] 27)).cell? ⟨w1.heap.size + 1, 1, none⟩ = some (.slice none 0 0) := by simp [go_sem]
  generalize (((w1.alloc (.cells #[.int .i64 126] 3)).alloc (.cells #[.slice none 0 0, .slice none 0 0] 36)).alloc (.cells #[.int .i64 vt, .int .i64 vb] 56)).alloc (.cells #[.slice (some ⟨w1.heap.size + 1 + 1, 0, none⟩) 1 1, .slice none 0 0] 27) = w2 at *
  have v02 := L2.cell_of v0
  have v12 := L2.cell_of v1
  clear V2
  refine (hb_new (fun _ => 99) (w0 := w) (l1.trans L2) _ 2 _ (aw2 vt vb) (by decide) A2).mono ?_
  rintro e w3 ⟨p, lab3, rfl, l3, C3, H3⟩
  have u03 := l3.cell_of u02
  have u13 := l3.cell_of u12
  have v03 := l3.cell_of v02
  have v13 := l3.cell_of v12
  have zu3 : lab3 (w1.heap.size + 1) = 99 := C3.lab_to rfl (fun x => x) u02
  have zv3 : lab3 w.heap.size = 99 := C3.lab_to rfl (fun x => x) v02
  have R3 : Lq lab3 w3 (none) 0 (fun _ => 0) := Or.inl rfl
  replace R3 : Hid (Lq lab3 w3 (none) 0 (fun _ => 0)) := R3
  clear A2 L2 r2 u02 u12 v0 v1 v02 v12 C3 l3 lv l1
  go_wp2_with fail
  refine (hb_call H3 0 none _ none 0 0 0 0 0 nov (fun _ => 0) (show 0 < 1000000 by decide) (by decide) (Or.inl rfl) R3.out 1102 (nov) (s1 vt vb) (e_no vt vb _ _ hfit.out).1 (e_no vt vb _ _ hfit.out).2 rfl).mono ?_
  rintro e w4 ⟨A4, c4, lab4, rfl, H4, C4, Q4⟩
  have v04 := C4.cell (by rw [zv3]; decide) v03
  have v14 := C4.cell (by rw [zv3]; decide) v13
  have zv4 : lab4 w.heap.size = 99 := C4.lab_to zv3 (by decide) v03
  clear R3 H3 C4 u03 u13 v03 v13 zu3 zv3
  simp only [show (vv vt vb).1 = 1 from rfl, show nov.1 = 0 from rfl]
  have lv4 := cell_lt v04
  go_wp2_with fail
  refine (hb_call H4 1 none none none 0 0 0 0 0 nov (fun _ => 0) (show 1 < 1000000 by decide) (by decide) (Or.inl rfl) (Or.inl rfl) 0 nov (s2 vt vb) rfl rfl rfl).mono ?_
  rintro e w5 ⟨A5, c5, lab5, rfl, H5, C5, _⟩
  have v05 := C5.cell (by rw [zv4]; decide) v04
  have v15 := C5.cell (by rw [zv4]; decide) v14
  have hlf : Hid (∀ W, Later w5 W → Calls Try.prog 15 #[.pointer (some ⟨p, 0, none⟩)] W fun e w' => e = .returned (.int .i64 0) ∧ Later W w') := fun W hl => hleft_any lab5 W _ p (s2 vt vb) (H5.later hl).2
  replace H5 : Hid (Hb w w5 lab5 p (s2 vt vb)) := H5
  clear H4 C5 v04 v14 zv4 Q4 lv4
  have lv5 := cell_lt v05
  simp only [show nov.1 = 0 from rfl]
  go_wp2_with (first | (go_at_call 14; refine (num_any _ _).mono ?_; rintro e w' ⟨rfl, hw⟩; obtain rfl : w5 = w' := hw.symm) | (go_at_call 15; refine (hlf.out _ (Lz _)).mono ?_; rintro e w8 ⟨rfl, l8⟩; have L8 : Hid (Later w5 w8) := l8; clear l8))
  go_ret
  exact ⟨rfl, H5.out.1.trans L8.out⟩
theorem type_126 (vt vb kind : Int) (w : World) (hT : wrap64 (127 - wrap64 ((IntKind.u64.wrap kind).tmod 4)) = 126) (hne : ¬ vt = 126) :
    Calls Try.prog 5 #[.agg #[.int .i64 vt, .int .i64 vb], .int .i64 kind, .bool false] w fun e w' => e = .returned (.bool true) ∧ Later w w' := by
  go_enter Try.func5, Try.ntmps5
  go_wp2_with fail
  refine (awake_any _).mono ?_
  rintro e w1 ⟨rfl, l1⟩
  have v0 : w1.cell? ⟨w.heap.size, 0, none⟩ = some (.int .i64 vt) := l1.cell_of (by simp [go_sem])
  have v1 : w1.cell? ⟨w.heap.size, 1, none⟩ = some (.int .i64 vb) := l1.cell_of (by simp [go_sem])
  have lv := cell_lt v0
  replace l1 : Later w w1 := (La (Lz _)).trans l1
  go_wp2_with fail
  generalize wrap64 (127 - wrap64 ((IntKind.u64.wrap kind).tmod 4)) = t at *
  subst hT
  have hfit : Hid (fit 1 1 (fun _ => 126) (fun _ => vt) (fun _ => vb) = false) := (by rw [fit_1, decide_eq_false hne]; rfl : fit 1 1 (fun _ => 126) (fun _ => vt) (fun _ => vb) = false)
  have hne2 : (vt == 126) = false := by simpa using hne
  clear hne
  have V2 := val_lit ((w1.alloc (.cells #[.int .i64 126] 3)).alloc (.cells #[.slice none 0 0, .slice (some ⟨w1.heap.size, 0, none⟩) 1 1] 36)) vt vb (w1.heap.size + 1 + 1) (by simp)
  have A2 := aw2_lit _ vt vb (w1.heap.size + 1 + 1) 1 V2 (w1.heap.size + 1 + 1 + 1) (by simp)
  have L2 : Later w1 ((((w1.alloc (.cells #[.int .i64 126] 3)).alloc (.cells #[.slice none 0 0, .slice (some ⟨w1.heap.size, 0, none⟩) 1 1] 36)).alloc (.cells #[.int .i64 vt, .int .i64 vb] 56)).alloc (.cells #[.slice (some ⟨w1.heap.size + 1 + 1, 0, none⟩) 1 1, .slice none 0 0] 27)) := (by repeat first | exact Lz _ | apply La | apply Lv | apply Ld | apply Ln)
  have r2 : ((((w1.alloc (.cells #[.int .i64 126] 3)).alloc (.cells #[.slice none 0 0, .slice (some ⟨w1.heap.size, 0, none⟩) 1 1] 36)).alloc (.cells #[.int .i64 vt, .int .i64 vb] 56)).alloc (.cells #[.slice (some ⟨w1.heap.size + 1 + 1, 0, none⟩) 1 1, .slice none 0 0] 27)).cell? ⟨w1.heap.size, 0, none⟩ = some (.int .i64 126) := by simp [go_sem]
  have u02 : ((((w1.alloc (.cells #[.int .i64 126] 3)).alloc (.cells #[.slice none 0 0, .slice (some ⟨w1.heap.size, 0, none⟩) 1 1] 36)).alloc (.cells #[.int .i64 vt, .int .i64 vb] 56)).alloc (.cells #[.slice (some ⟨w1.heap.size + 1 + 1, 0, none⟩) 1 1, .slice none 0 0] 27)).cell? ⟨w1.heap.size + 1, 0, none⟩ = some (.slice none 0 0) := by simp [go_sem]
  have u12 : ((((w1.alloc (.cells #[.int .i64 126] 3)).alloc (.cells #[.slice none 0 0, .slice (some ⟨w1.heap.size, 0, none⟩) 1 1] 36)).alloc (.cells #[.int .i64 vt, .int .i64 vb] 56)).alloc (.cells #[.slice (some ⟨w1.heap.size + 1 + 1, 0, none⟩) 1 1, .slice none 0 0] 27)).cell? ⟨w1.heap.size + 1, 1, none⟩ = some (.slice (some ⟨w1.heap.size, 0, none⟩) 1 1) := by simp [go_sem]
  generalize (((w1.alloc (.cells #[.int .i64 126] 3)).alloc (.cells #[.slice none 0 0, .slice (some ⟨w1.heap.size, 0, none⟩) 1 1] 36)).alloc (.cells #[.int .i64 vt, .int .i64 vb] 56)).alloc (.cells #[.slice (some ⟨w1.heap.size + 1 + 1, 0, none⟩) 1 1, .slice none 0 0] 27) = w2 at *
  have v02 := L2.cell_of v0
  have v12 := L2.cell_of v1
  clear V2
  refine (hb_new (fun _ => 99) (w0 := w) (l1.trans L2) _ 2 _ (aw2 vt vb) (by decide) A2).mono ?_
  rintro e w3 ⟨p, lab3, rfl, l3, C3, H3⟩
  have u03 := l3.cell_of u02
  have u13 := l3.cell_of u12
  have v03 := l3.cell_of v02
  have v13 := l3.cell_of v12
  have zu3 : lab3 (w1.heap.size + 1) = 99 := C3.lab_to rfl (fun x => x) u02
  have zv3 : lab3 w.heap.size = 99 := C3.lab_to rfl (fun x => x) v02
  have R3 : Lq lab3 w3 (some ⟨w1.heap.size, 0, none⟩) 1 (fun _ => 126) := Or.inr ⟨_, 0, rfl, by rw [C3.lab_eq (fun x => x) r2]; decide, fun j hj => by obtain rfl : j = 0 := (by omega); exact l3.cell_of r2⟩
  replace R3 : Hid (Lq lab3 w3 (some ⟨w1.heap.size, 0, none⟩) 1 (fun _ => 126)) := R3
  clear A2 L2 r2 u02 u12 v0 v1 v02 v12 C3 l3 lv l1
  go_wp2_with fail
  refine (hb_call H3 0 none _ none 0 0 1 1 0 nov (fun _ => 126) (show 0 < 1000000 by decide) (by decide) (Or.inl rfl) R3.out 1102 (nov) (s1 vt vb) (e_no vt vb _ _ hfit.out).1 (e_no vt vb _ _ hfit.out).2 rfl).mono ?_
  rintro e w4 ⟨A4, c4, lab4, rfl, H4, C4, Q4⟩
  have v04 := C4.cell (by rw [zv3]; decide) v03
  have v14 := C4.cell (by rw [zv3]; decide) v13
  have zv4 : lab4 w.heap.size = 99 := C4.lab_to zv3 (by decide) v03
  clear R3 H3 C4 u03 u13 v03 v13 zu3 zv3
  simp only [show (vv vt vb).1 = 1 from rfl, show nov.1 = 0 from rfl]
  have lv4 := cell_lt v04
  go_wp2_with fail
  refine (hb_call H4 1 none none none 0 0 0 0 0 nov (fun _ => 0) (show 1 < 1000000 by decide) (by decide) (Or.inl rfl) (Or.inl rfl) 0 nov (s2 vt vb) rfl rfl rfl).mono ?_
  rintro e w5 ⟨A5, c5, lab5, rfl, H5, C5, _⟩
  have v05 := C5.cell (by rw [zv4]; decide) v04
  have v15 := C5.cell (by rw [zv4]; decide) v14
  have hlf : Hid (∀ W, Later w5 W → Calls Try.prog 15 #[.pointer (some ⟨p, 0, none⟩)] W fun e w' => e = .returned (.int .i64 0) ∧ Later W w') := fun W hl => hleft_any lab5 W _ p (s2 vt vb) (H5.later hl).2
  replace H5 : Hid (Hb w w5 lab5 p (s2 vt vb)) := H5
  clear H4 C5 v04 v14 zv4 Q4 lv4
  have lv5 := cell_lt v05
  simp only [show nov.1 = 0 from rfl]
  go_wp2_with (first | (go_at_call 14; refine (num_any _ _).mono ?_; rintro e w' ⟨rfl, hw⟩; obtain rfl : w5 = w' := hw.symm) | (go_at_call 15; refine (hlf.out _ (Lz _)).mono ?_; rintro e w8 ⟨rfl, l8⟩; have L8 : Hid (Later w5 w8) := l8; clear l8))
  go_ret
  exact ⟨rfl, H5.out.1.trans L8.out⟩
theorem fine_126 (vb kind : Int) (w : World) (hT : wrap64 (127 - wrap64 ((IntKind.u64.wrap kind).tmod 4)) = 126) :
    Calls Try.prog 5 #[.agg #[.int .i64 126, .int .i64 vb], .int .i64 kind, .bool false] w fun e w' => e = .returned (.bool true) ∧ Later w w' := by
  go_enter Try.func5, Try.ntmps5
  go_wp2_with fail
  refine (awake_any _).mono ?_
  rintro e w1 ⟨rfl, l1⟩
  have v0 : w1.cell? ⟨w.heap.size, 0, none⟩ = some (.int .i64 126) := l1.cell_of (by simp [go_sem])
  have v1 : w1.cell? ⟨w.heap.size, 1, none⟩ = some (.int .i64 vb) := l1.cell_of (by simp [go_sem])
  have lv := cell_lt v0
  replace l1 : Later w w1 := (La (Lz _)).trans l1
  go_wp2_with fail
  generalize wrap64 (127 - wrap64 ((IntKind.u64.wrap kind).tmod 4)) = t at *
  subst hT
  have hfit : Hid (fit 1 1 (fun _ => 126) (fun _ => 126) (fun _ => vb) = true) := (by rw [fit_1]; simp [may] : fit 1 1 (fun _ => 126) (fun _ => 126) (fun _ => vb) = true)
  have V2 := val_lit ((w1.alloc (.cells #[.int .i64 126] 3)).alloc (.cells #[.slice none 0 0, .slice (some ⟨w1.heap.size, 0, none⟩) 1 1] 36)) 126 vb (w1.heap.size + 1 + 1) (by simp)
  have A2 := aw2_lit _ 126 vb (w1.heap.size + 1 + 1) 1 V2 (w1.heap.size + 1 + 1 + 1) (by simp)
  have L2 : Later w1 ((((w1.alloc (.cells #[.int .i64 126] 3)).alloc (.cells #[.slice none 0 0, .slice (some ⟨w1.heap.size, 0, none⟩) 1 1] 36)).alloc (.cells #[.int .i64 126, .int .i64 vb] 56)).alloc (.cells #[.slice (some ⟨w1.heap.size + 1 + 1, 0, none⟩) 1 1, .slice none 0 0] 27)) := (by repeat first | exact Lz _ | apply La | apply Lv | apply Ld | apply Ln)
  have r2 : ((((w1.alloc (.cells #[.int .i64 126] 3)).alloc (.cells #[.slice none 0 0, .slice (some ⟨w1.heap.size, 0, none⟩) 1 1] 36)).alloc (.cells #[.int .i64 126, .int .i64 vb] 56)).alloc (.cells #[.slice (some ⟨w1.heap.size + 1 + 1, 0, none⟩) 1 1, .slice none 0 0] 27)).cell? ⟨w1.heap.size, 0, none⟩ = some (.int .i64 126) := by simp [go_sem]
  have u02 : ((((w1.alloc (.cells #[.int .i64 126] 3)).alloc (.cells #[.slice none 0 0, .slice (some ⟨w1.heap.size, 0, none⟩) 1 1] 36)).alloc (.cells #[.int .i64 126, .int .i64 vb] 56)).alloc (.cells #[.slice (some ⟨w1.heap.size + 1 + 1, 0, none⟩) 1 1, .slice none 0 0] 27)).cell? ⟨w1.heap.size + 1, 0, none⟩ = some (.slice none 0 0) := by simp [go_sem]
  have u12 : ((((w1.alloc (.cells #[.int .i64 126] 3)).alloc (.cells #[.slice none 0 0, .slice (some ⟨w1.heap.size, 0, none⟩) 1 1] 36)).alloc (.cells #[.int .i64 126, .int .i64 vb] 56)).alloc (.cells #[.slice (some ⟨w1.heap.size + 1 + 1, 0, none⟩) 1 1, .slice none 0 0] 27)).cell? ⟨w1.heap.size + 1, 1, none⟩ = some (.slice (some ⟨w1.heap.size, 0, none⟩) 1 1) := by simp [go_sem]
  generalize (((w1.alloc (.cells #[.int .i64 126] 3)).alloc (.cells #[.slice none 0 0, .slice (some ⟨w1.heap.size, 0, none⟩) 1 1] 36)).alloc (.cells #[.int .i64 126, .int .i64 vb] 56)).alloc (.cells #[.slice (some ⟨w1.heap.size + 1 + 1, 0, none⟩) 1 1, .slice none 0 0] 27) = w2 at *
  have v02 := L2.cell_of v0
  have v12 := L2.cell_of v1
  clear V2
  refine (hb_new (fun _ => 99) (w0 := w) (l1.trans L2) _ 2 _ (aw2 126 vb) (by decide) A2).mono ?_
  rintro e w3 ⟨p, lab3, rfl, l3, C3, H3⟩
  have u03 := l3.cell_of u02
  have u13 := l3.cell_of u12
  have v03 := l3.cell_of v02
  have v13 := l3.cell_of v12
  have zu3 : lab3 (w1.heap.size + 1) = 99 := C3.lab_to rfl (fun x => x) u02
  have zv3 : lab3 w.heap.size = 99 := C3.lab_to rfl (fun x => x) v02
  have R3 : Lq lab3 w3 (some ⟨w1.heap.size, 0, none⟩) 1 (fun _ => 126) := Or.inr ⟨_, 0, rfl, by rw [C3.lab_eq (fun x => x) r2]; decide, fun j hj => by obtain rfl : j = 0 := (by omega); exact l3.cell_of r2⟩
  replace R3 : Hid (Lq lab3 w3 (some ⟨w1.heap.size, 0, none⟩) 1 (fun _ => 126)) := R3
  clear A2 L2 r2 u02 u12 v0 v1 v02 v12 C3 l3 lv l1
  go_wp2_with fail
  refine (hb_call H3 0 none _ none 0 0 1 1 0 nov (fun _ => 126) (show 0 < 1000000 by decide) (by decide) (Or.inl rfl) R3.out 0 (vv 126 vb) (s1 126 vb) (e_ok 126 vb _ _ hfit.out).1 (e_ok 126 vb _ _ hfit.out).2 rfl).mono ?_
  rintro e w4 ⟨A4, c4, lab4, rfl, H4, C4, Q4⟩
  have v04 := C4.cell (by rw [zv3]; decide) v03
  have v14 := C4.cell (by rw [zv3]; decide) v13
  have zv4 : lab4 w.heap.size = 99 := C4.lab_to zv3 (by decide) v03
  clear R3 H3 C4 u03 u13 v03 v13 zu3 zv3
  simp only [show (vv 126 vb).1 = 1 from rfl, show nov.1 = 0 from rfl]
  have lv4 := cell_lt v04
  go_wp2_with fail
  refine (hb_call H4 1 none none none 0 0 0 0 0 nov (fun _ => 0) (show 1 < 1000000 by decide) (by decide) (Or.inl rfl) (Or.inl rfl) 0 nov (s2 126 vb) rfl rfl rfl).mono ?_
  rintro e w5 ⟨A5, c5, lab5, rfl, H5, C5, _⟩
  have v05 := C5.cell (by rw [zv4]; decide) v04
  have v15 := C5.cell (by rw [zv4]; decide) v14
  obtain ⟨g4, q4, q5, _⟩ := Q4.resolve_left (by show ¬ (1 = 0); decide)
  have y5 := (q4.chg C5 (by rw [q5]; decide)).1.vst
  have hsv : Hid (∀ W, Later w5 W → ∀ g, Vst W (some ⟨g, 0, none⟩) 1 (fun _ => 126) (fun _ => vb) → Calls Try.prog 13 #[.slice A4 1 c4, .slice (some ⟨g, 0, none⟩) 1 1] W fun e w' => e = .returned (.bool true) ∧ Later W w') := fun W hl g hg => samev_any _ _ 1 _ _ _ _ (by decide) W (y5.later hl) hg
  clear q4 q5 y5
  have hlf : Hid (∀ W, Later w5 W → Calls Try.prog 15 #[.pointer (some ⟨p, 0, none⟩)] W fun e w' => e = .returned (.int .i64 0) ∧ Later W w') := fun W hl => hleft_any lab5 W _ p (s2 126 vb) (H5.later hl).2
  replace H5 : Hid (Hb w w5 lab5 p (s2 126 vb)) := H5
  clear H4 C5 v04 v14 zv4 Q4 lv4
  have lv5 := cell_lt v05
  simp only [show nov.1 = 0 from rfl]
  go_wp2_with (first | (go_at_call 14; refine (num_any _ _).mono ?_; rintro e w' ⟨rfl, hw⟩; obtain rfl : w5 = w' := hw.symm) | (go_at_call 13; refine (hsv.out _ (La (Lz _)) _ (val_lit _ _ _ _ rfl)).mono ?_; rintro e w7 ⟨rfl, l7⟩; have L7 : Hid (Later w5 w7) := (La (Lz _)).trans l7; clear l7) | (go_at_call 14; refine (num_any _ _).mono ?_; rintro e w' ⟨rfl, hw⟩; obtain rfl : w7 = w' := hw.symm) | (go_at_call 15; refine (hlf.out _ L7.out).mono ?_; rintro e w8 ⟨rfl, l8⟩; have L8 : Hid (Later w5 w8) := L7.out.trans l8; clear l8))
  go_ret
  exact ⟨rfl, H5.out.1.trans L8.out⟩
theorem none_125 (vt vb kind : Int) (w : World) (hT : wrap64 (127 - wrap64 ((IntKind.u64.wrap kind).tmod 4)) = 125) :
    Calls Try.prog 5 #[.agg #[.int .i64 vt, .int .i64 vb], .int .i64 kind, .bool true] w fun e w' => e = .returned (.bool true) ∧ Later w w' := by
  go_enter Try.func5, Try.ntmps5
  go_wp2_with fail
  refine (awake_any _).mono ?_
  rintro e w1 ⟨rfl, l1⟩
  have v0 : w1.cell? ⟨w.heap.size, 0, none⟩ = some (.int .i64 vt) := l1.cell_of (by simp [go_sem])
  have v1 : w1.cell? ⟨w.heap.size, 1, none⟩ = some (.int .i64 vb) := l1.cell_of (by simp [go_sem])
  have lv := cell_lt v0
  replace l1 : Later w w1 := (La (Lz _)).trans l1
  go_wp2_with fail
  generalize wrap64 (127 - wrap64 ((IntKind.u64.wrap kind).tmod 4)) = t at *
  subst hT
  have hfit : Hid (fit 0 1 (fun _ => 0) (fun _ => vt) (fun _ => vb) = false) := rfl
  have V2 := val_lit ((w1.alloc (.cells #[.int .i64 125] 3)).alloc (.cells #[.slice none 0 0, .slice none 0 0] 36)) vt vb (w1.heap.size + 1 + 1) (by simp)
  have A2 := aw2_lit _ vt vb (w1.heap.size + 1 + 1) 1 V2 (w1.heap.size + 1 + 1 + 1) (by simp)
  have L2 : Later w1 ((((w1.alloc (.cells #[.int .i64 125] 3)).alloc (.cells #[.slice none 0 0, .slice none 0 0] 36)).alloc (.cells #[.int .i64 vt, .int .i64 vb] 56)).alloc (.cells #[.slice (some ⟨w1.heap.size + 1 + 1, 0, none⟩) 1 1, .slice none 0 0] 27)) := (by repeat first | exact Lz _ | apply La | apply Lv | apply Ld | apply Ln)
  have r2 : ((((w1.alloc (.cells #[.int .i64 125] 3)).alloc (.cells #[.slice none 0 0, .slice none 0 0] 36)).alloc (.cells #[.int .i64 vt, .int .i64 vb] 56)).alloc (.cells #[.slice (some ⟨w1.heap.size + 1 + 1, 0, none⟩) 1 1, .slice none 0 0] 27)).cell? ⟨w1.heap.size, 0, none⟩ = some (.int .i64 125) := by simp [go_sem]
  have u02 : ((((w1.alloc (.cells #[.int .i64 125] 3)).alloc (.cells #[.slice none 0 0, .slice none 0 0] 36)).alloc (.cells #[.int .i64 vt, .int .i64 vb] 56)).alloc (.cells #[.slice (some ⟨w1.heap.size + 1 + 1, 0, none⟩) 1 1, .slice none 0 0] 27)).cell? ⟨w1.heap.size + 1, 0, none⟩ = some (.slice none 0 0) := by simp [go_sem]
  have u12 : ((((w1.alloc (.cells #[.int .i64 125] 3)).alloc (.cells #[.slice none 0 0, .slice none 0 0] 36)).alloc (.cells #[.int .i64 vt, .int .i64 vb] 56)).alloc (.cells #[.slice (some ⟨w1.heap.size + 1 + 1, 0, none⟩) 1 1, .slice none 0 0] 27)).cell? ⟨w1.heap.size + 1, 1, none⟩ = some (.slice none 0 0) := by simp [go_sem]
  generalize (((w1.alloc (.cells #[.int .i64 125] 3)).alloc (.cells #[.slice none 0 0, .slice none 0 0] 36)).alloc (.cells #[.int .i64 vt, .int .i64 vb] 56)).alloc (.cells #[.slice (some ⟨w1.heap.size + 1 + 1, 0, none⟩) 1 1, .slice none 0 0] 27) = w2 at *
  have v02 := L2.cell_of v0
  have v12 := L2.cell_of v1
  clear V2
  refine (hb_new (fun _ => 99) (w0 := w) (l1.trans L2) _ 2 _ (aw2 vt vb) (by decide) A2).mono ?_
  rintro e w3 ⟨p, lab3, rfl, l3, C3, H3⟩
  have u03 := l3.cell_of u02
  have u13 := l3.cell_of u12
  have v03 := l3.cell_of v02
  have v13 := l3.cell_of v12
  have zu3 : lab3 (w1.heap.size + 1) = 99 := C3.lab_to rfl (fun x => x) u02
  have zv3 : lab3 w.heap.size = 99 := C3.lab_to rfl (fun x => x) v02
  have R3 : Lq lab3 w3 (none) 0 (fun _ => 0) := Or.inl rfl
  replace R3 : Hid (Lq lab3 w3 (none) 0 (fun _ => 0)) := R3
  clear A2 L2 r2 u02 u12 v0 v1 v02 v12 C3 l3 lv l1
  go_wp2_with fail
  refine (hb_call H3 0 none _ none 0 0 0 0 0 nov (fun _ => 0) (show 0 < 1000000 by decide) (by decide) (Or.inl rfl) R3.out 1102 (nov) (s1 vt vb) (e_no vt vb _ _ hfit.out).1 (e_no vt vb _ _ hfit.out).2 rfl).mono ?_
  rintro e w4 ⟨A4, c4, lab4, rfl, H4, C4, Q4⟩
  have v04 := C4.cell (by rw [zv3]; decide) v03
  have v14 := C4.cell (by rw [zv3]; decide) v13
  have zv4 : lab4 w.heap.size = 99 := C4.lab_to zv3 (by decide) v03
  clear R3 H3 C4 u03 u13 v03 v13 zu3 zv3
  simp only [show (vv vt vb).1 = 1 from rfl, show nov.1 = 0 from rfl]
  have lv4 := cell_lt v04
  go_wp2_with fail
  refine (hb_call H4 1 none none none 0 0 0 0 0 nov (fun _ => 0) (show 1 < 1000000 by decide) (by decide) (Or.inl rfl) (Or.inl rfl) 0 nov (s2 vt vb) rfl rfl rfl).mono ?_
  rintro e w5 ⟨A5, c5, lab5, rfl, H5, C5, _⟩
  have v05 := C5.cell (by rw [zv4]; decide) v04
  have v15 := C5.cell (by rw [zv4]; decide) v14
  have hlf : Hid (∀ W, Later w5 W → Calls Try.prog 15 #[.pointer (some ⟨p, 0, none⟩)] W fun e w' => e = .returned (.int .i64 0) ∧ Later W w') := fun W hl => hleft_any lab5 W _ p (s2 vt vb) (H5.later hl).2
  replace H5 : Hid (Hb w w5 lab5 p (s2 vt vb)) := H5
  clear H4 C5 v04 v14 zv4 Q4 lv4
  have lv5 := cell_lt v05
  simp only [show nov.1 = 0 from rfl]
  go_wp2_with (first | (go_at_call 14; refine (num_any _ _).mono ?_; rintro e w' ⟨rfl, hw⟩; obtain rfl : w5 = w' := hw.symm) | (go_at_call 15; refine (hlf.out _ (Lz _)).mono ?_; rintro e w8 ⟨rfl, l8⟩; have L8 : Hid (Later w5 w8) := l8; clear l8))
  go_ret
  exact ⟨rfl, H5.out.1.trans L8.out⟩
theorem type_125 (vt vb kind : Int) (w : World) (hT : wrap64 (127 - wrap64 ((IntKind.u64.wrap kind).tmod 4)) = 125) (hne : ¬ vt = 125) :
    Calls Try.prog 5 #[.agg #[.int .i64 vt, .int .i64 vb], .int .i64 kind, .bool false] w fun e w' => e = .returned (.bool true) ∧ Later w w' := by
  go_enter Try.func5, Try.ntmps5
  go_wp2_with fail
  refine (awake_any _).mono ?_
  rintro e w1 ⟨rfl, l1⟩
  have v0 : w1.cell? ⟨w.heap.size, 0, none⟩ = some (.int .i64 vt) := l1.cell_of (by simp [go_sem])
  have v1 : w1.cell? ⟨w.heap.size, 1, none⟩ = some (.int .i64 vb) := l1.cell_of (by simp [go_sem])
  have lv := cell_lt v0
  replace l1 : Later w w1 := (La (Lz _)).trans l1
  go_wp2_with fail
  generalize wrap64 (127 - wrap64 ((IntKind.u64.wrap kind).tmod 4)) = t at *
  subst hT
  have hfit : Hid (fit 1 1 (fun _ => 125) (fun _ => vt) (fun _ => vb) = false) := (by rw [fit_1, decide_eq_false hne]; rfl : fit 1 1 (fun _ => 125) (fun _ => vt) (fun _ => vb) = false)
  have hne2 : (vt == 125) = false := by simpa using hne
  clear hne
  have V2 := val_lit ((w1.alloc (.cells #[.int .i64 125] 3)).alloc (.cells #[.slice none 0 0, .slice (some ⟨w1.heap.size, 0, none⟩) 1 1] 36)) vt vb (w1.heap.size + 1 + 1) (by simp)
  have A2 := aw2_lit _ vt vb (w1.heap.size + 1 + 1) 1 V2 (w1.heap.size + 1 + 1 + 1) (by simp)
  have L2 : Later w1 ((((w1.alloc (.cells #[.int .i64 125] 3)).alloc (.cells #[.slice none 0 0, .slice (some ⟨w1.heap.size, 0, none⟩) 1 1] 36)).alloc (.cells #[.int .i64 vt, .int .i64 vb] 56)).alloc (.cells #[.slice (some ⟨w1.heap.size + 1 + 1, 0, none⟩) 1 1, .slice none 0 0] 27)) := (by repeat first | exact Lz _ | apply La | apply Lv | apply Ld | apply Ln)
  have r2 : ((((w1.alloc (.cells #[.int .i64 125] 3)).alloc (.cells #[.slice none 0 0, .slice (some ⟨w1.heap.size, 0, none⟩) 1 1] 36)).alloc (.cells #[.int .i64 vt, .int .i64 vb] 56)).alloc (.cells #[.slice (some ⟨w1.heap.size + 1 + 1, 0, none⟩) 1 1, .slice none 0 0] 27)).cell? ⟨w1.heap.size, 0, none⟩ = some (.int .i64 125) := by simp [go_sem]
  have u02 : ((((w1.alloc (.cells #[.int .i64 125] 3)).alloc (.cells #[.slice none 0 0, .slice (some ⟨w1.heap.size, 0, none⟩) 1 1] 36)).alloc (.cells #[.int .i64 vt, .int .i64 vb] 56)).alloc (.cells #[.slice (some ⟨w1.heap.size + 1 + 1, 0, none⟩) 1 1, .slice none 0 0] 27)).cell? ⟨w1.heap.size + 1, 0, none⟩ = some (.slice none 0 0) := by simp [go_sem]
  have u12 : ((((w1.alloc (.cells #[.int .i64 125] 3)).alloc (.cells #[.slice none 0 0, .slice (some ⟨w1.heap.size, 0, none⟩) 1 1] 36)).alloc (.cells #[.int .i64 vt, .int .i64 vb] 56)).alloc (.cells #[.slice (some ⟨w1.heap.size + 1 + 1, 0, none⟩) 1 1, .slice none 0 0] 27)).cell? ⟨w1.heap.size + 1, 1, none⟩ = some (.slice (some ⟨w1.heap.size, 0, none⟩) 1 1) := by simp [go_sem]
  generalize (((w1.alloc (.cells #[.int .i64 125] 3)).alloc (.cells #[.slice none 0 0, .slice (some ⟨w1.heap.size, 0, none⟩) 1 1] 36)).alloc (.cells #[.int .i64 vt, .int .i64 vb] 56)).alloc (.cells #[.slice (some ⟨w1.heap.size + 1 + 1, 0, none⟩) 1 1, .slice none 0 0] 27) = w2 at *
  have v02 := L2.cell_of v0
  have v12 := L2.cell_of v1
  clear V2
  refine (hb_new (fun _ => 99) (w0 := w) (l1.trans L2) _ 2 _ (aw2 vt vb) (by decide) A2).mono ?_
  rintro e w3 ⟨p, lab3, rfl, l3, C3, H3⟩
  have u03 := l3.cell_of u02
  have u13 := l3.cell_of u12
  have v03 := l3.cell_of v02
  have v13 := l3.cell_of v12
  have zu3 : lab3 (w1.heap.size + 1) = 99 := C3.lab_to rfl (fun x => x) u02
  have zv3 : lab3 w.heap.size = 99 := C3.lab_to rfl (fun x => x) v02
  have R3 : Lq lab3 w3 (some ⟨w1.heap.size, 0, none⟩) 1 (fun _ => 125) := Or.inr ⟨_, 0, rfl, by rw [C3.lab_eq (fun x => x) r2]; decide, fun j hj => by obtain rfl : j = 0 := (by omega); exact l3.cell_of r2⟩
  replace R3 : Hid (Lq lab3 w3 (some ⟨w1.heap.size, 0, none⟩) 1 (fun _ => 125)) := R3
  clear A2 L2 r2 u02 u12 v0 v1 v02 v12 C3 l3 lv l1
  go_wp2_with fail
  refine (hb_call H3 0 none _ none 0 0 1 1 0 nov (fun _ => 125) (show 0 < 1000000 by decide) (by decide) (Or.inl rfl) R3.out 1102 (nov) (s1 vt vb) (e_no vt vb _ _ hfit.out).1 (e_no vt vb _ _ hfit.out).2 rfl).mono ?_
  rintro e w4 ⟨A4, c4, lab4, rfl, H4, C4, Q4⟩
  have v04 := C4.cell (by rw [zv3]; decide) v03
  have v14 := C4.cell (by rw [zv3]; decide) v13
  have zv4 : lab4 w.heap.size = 99 := C4.lab_to zv3 (by decide) v03
  clear R3 H3 C4 u03 u13 v03 v13 zu3 zv3
  simp only [show (vv vt vb).1 = 1 from rfl, show nov.1 = 0 from rfl]
  have lv4 := cell_lt v04
  go_wp2_with fail
  refine (hb_call H4 1 none none none 0 0 0 0 0 nov (fun _ => 0) (show 1 < 1000000 by decide) (by decide) (Or.inl rfl) (Or.inl rfl) 0 nov (s2 vt vb) rfl rfl rfl).mono ?_
  rintro e w5 ⟨A5, c5, lab5, rfl, H5, C5, _⟩
  have v05 := C5.cell (by rw [zv4]; decide) v04
  have v15 := C5.cell (by rw [zv4]; decide) v14
  have hlf : Hid (∀ W, Later w5 W → Calls Try.prog 15 #[.pointer (some ⟨p, 0, none⟩)] W fun e w' => e = .returned (.int .i64 0) ∧ Later W w') := fun W hl => hleft_any lab5 W _ p (s2 vt vb) (H5.later hl).2
  replace H5 : Hid (Hb w w5 lab5 p (s2 vt vb)) := H5
  clear H4 C5 v04 v14 zv4 Q4 lv4
  have lv5 := cell_lt v05
  simp only [show nov.1 = 0 from rfl]
  go_wp2_with (first | (go_at_call 14; refine (num_any _ _).mono ?_; rintro e w' ⟨rfl, hw⟩; obtain rfl : w5 = w' := hw.symm) | (go_at_call 15; refine (hlf.out _ (Lz _)).mono ?_; rintro e w8 ⟨rfl, l8⟩; have L8 : Hid (Later w5 w8) := l8; clear l8))
  go_ret
  exact ⟨rfl, H5.out.1.trans L8.out⟩
theorem fine_125 (vb kind : Int) (w : World) (hT : wrap64 (127 - wrap64 ((IntKind.u64.wrap kind).tmod 4)) = 125) (h0 : 0 ≤ vb) (h1 : vb ≤ 4294967295) :
    Calls Try.prog 5 #[.agg #[.int .i64 125, .int .i64 vb], .int .i64 kind, .bool false] w fun e w' => e = .returned (.bool true) ∧ Later w w' := by
  go_enter Try.func5, Try.ntmps5
  go_wp2_with fail
  refine (awake_any _).mono ?_
  rintro e w1 ⟨rfl, l1⟩
  have v0 : w1.cell? ⟨w.heap.size, 0, none⟩ = some (.int .i64 125) := l1.cell_of (by simp [go_sem])
  have v1 : w1.cell? ⟨w.heap.size, 1, none⟩ = some (.int .i64 vb) := l1.cell_of (by simp [go_sem])
  have lv := cell_lt v0
  replace l1 : Later w w1 := (La (Lz _)).trans l1
  go_wp2_with fail
  generalize wrap64 (127 - wrap64 ((IntKind.u64.wrap kind).tmod 4)) = t at *
  subst hT
  have hfit : Hid (fit 1 1 (fun _ => 125) (fun _ => 125) (fun _ => vb) = true) := (by rw [fit_1]; simp [may, h0, h1] : fit 1 1 (fun _ => 125) (fun _ => 125) (fun _ => vb) = true)
  have V2 := val_lit ((w1.alloc (.cells #[.int .i64 125] 3)).alloc (.cells #[.slice none 0 0, .slice (some ⟨w1.heap.size, 0, none⟩) 1 1] 36)) 125 vb (w1.heap.size + 1 + 1) (by simp)
  have A2 := aw2_lit _ 125 vb (w1.heap.size + 1 + 1) 1 V2 (w1.heap.size + 1 + 1 + 1) (by simp)
  have L2 : Later w1 ((((w1.alloc (.cells #[.int .i64 125] 3)).alloc (.cells #[.slice none 0 0, .slice (some ⟨w1.heap.size, 0, none⟩) 1 1] 36)).alloc (.cells #[.int .i64 125, .int .i64 vb] 56)).alloc (.cells #[.slice (some ⟨w1.heap.size + 1 + 1, 0, none⟩) 1 1, .slice none 0 0] 27)) := (by repeat first | exact Lz _ | apply La | apply Lv | apply Ld | apply Ln)
  have r2 : ((((w1.alloc (.cells #[.int .i64 125] 3)).alloc (.cells #[.slice none 0 0, .slice (some ⟨w1.heap.size, 0, none⟩) 1 1] 36)).alloc (.cells #[.int .i64 125, .int .i64 vb] 56)).alloc (.cells #[.slice (some ⟨w1.heap.size + 1 + 1, 0, none⟩) 1 1, .slice none 0 0] 27)).cell? ⟨w1.heap.size, 0, none⟩ = some (.int .i64 125) := by simp [go_sem]
  have u02 : ((((w1.alloc (.cells #[.int .i64 125] 3)).alloc (.cells #[.slice none 0 0, .slice (some ⟨w1.heap.size, 0, none⟩) 1 1] 36)).alloc (.cells #[.int .i64 125, .int .i64 vb] 56)).alloc (.cells #[.slice (some ⟨w1.heap.size + 1 + 1, 0, none⟩) 1 1, .slice none 0 0] 27)).cell? ⟨w1.heap.size + 1, 0, none⟩ = some (.slice none 0 0) := by simp [go_sem]
  have u12 : ((((w1.alloc (.cells #[.int .i64 125] 3)).alloc (.cells #[.slice none 0 0, .slice (some ⟨w1.heap.size, 0, none⟩) 1 1] 36)).alloc (.cells #[.int .i64 125, .int .i64 vb] 56)).alloc (.cells #[.slice (some ⟨w1.heap.size + 1 + 1, 0, none⟩) 1 1, .slice none 0 0] 27)).cell? ⟨w1.heap.size + 1, 1, none⟩ = some (.slice (some ⟨w1.heap.size, 0, none⟩) 1 1) := by simp [go_sem]
  generalize (((w1.alloc (.cells #[.int .i64 125] 3)).alloc (.cells #[.slice none 0 0, .slice (some ⟨w1.heap.size, 0, none⟩) 1 1] 36)).alloc (.cells #[.int .i64 125, .int .i64 vb] 56)).alloc (.cells #[.slice (some ⟨w1.heap.size + 1 + 1, 0, none⟩) 1 1, .slice none 0 0] 27) = w2 at *
  have v02 := L2.cell_of v0
  have v12 := L2.cell_of v1
  clear V2
  refine (hb_new (fun _ => 99) (w0 := w) (l1.trans L2) _ 2 _ (aw2 125 vb) (by decide) A2).mono ?_
  rintro e w3 ⟨p, lab3, rfl, l3, C3, H3⟩
  have u03 := l3.cell_of u02
  have u13 := l3.cell_of u12
  have v03 := l3.cell_of v02
  have v13 := l3.cell_of v12
  have zu3 : lab3 (w1.heap.size + 1) = 99 := C3.lab_to rfl (fun x => x) u02
  have zv3 : lab3 w.heap.size = 99 := C3.lab_to rfl (fun x => x) v02
  have R3 : Lq lab3 w3 (some ⟨w1.heap.size, 0, none⟩) 1 (fun _ => 125) := Or.inr ⟨_, 0, rfl, by rw [C3.lab_eq (fun x => x) r2]; decide, fun j hj => by obtain rfl : j = 0 := (by omega); exact l3.cell_of r2⟩
  replace R3 : Hid (Lq lab3 w3 (some ⟨w1.heap.size, 0, none⟩) 1 (fun _ => 125)) := R3
  clear A2 L2 r2 u02 u12 v0 v1 v02 v12 C3 l3 lv l1
  go_wp2_with fail
  refine (hb_call H3 0 none _ none 0 0 1 1 0 nov (fun _ => 125) (show 0 < 1000000 by decide) (by decide) (Or.inl rfl) R3.out 0 (vv 125 vb) (s1 125 vb) (e_ok 125 vb _ _ hfit.out).1 (e_ok 125 vb _ _ hfit.out).2 rfl).mono ?_
  rintro e w4 ⟨A4, c4, lab4, rfl, H4, C4, Q4⟩
  have v04 := C4.cell (by rw [zv3]; decide) v03
  have v14 := C4.cell (by rw [zv3]; decide) v13
  have zv4 : lab4 w.heap.size = 99 := C4.lab_to zv3 (by decide) v03
  clear R3 H3 C4 u03 u13 v03 v13 zu3 zv3
  simp only [show (vv 125 vb).1 = 1 from rfl, show nov.1 = 0 from rfl]
  have lv4 := cell_lt v04
  go_wp2_with fail
  refine (hb_call H4 1 none none none 0 0 0 0 0 nov (fun _ => 0) (show 1 < 1000000 by decide) (by decide) (Or.inl rfl) (Or.inl rfl) 0 nov (s2 125 vb) rfl rfl rfl).mono ?_
  rintro e w5 ⟨A5, c5, lab5, rfl, H5, C5, _⟩
  have v05 := C5.cell (by rw [zv4]; decide) v04
  have v15 := C5.cell (by rw [zv4]; decide) v14
  obtain ⟨g4, q4, q5, _⟩ := Q4.resolve_left (by show ¬ (1 = 0); decide)
  have y5 := (q4.chg C5 (by rw [q5]; decide)).1.vst
  have hsv : Hid (∀ W, Later w5 W → ∀ g, Vst W (some ⟨g, 0, none⟩) 1 (fun _ => 125) (fun _ => vb) → Calls Try.prog 13 #[.slice A4 1 c4, .slice (some ⟨g, 0, none⟩) 1 1] W fun e w' => e = .returned (.bool true) ∧ Later W w') := fun W hl g hg => samev_any _ _ 1 _ _ _ _ (by decide) W (y5.later hl) hg
  clear q4 q5 y5
  have hlf : Hid (∀ W, Later w5 W → Calls Try.prog 15 #[.pointer (some ⟨p, 0, none⟩)] W fun e w' => e = .returned (.int .i64 0) ∧ Later W w') := fun W hl => hleft_any lab5 W _ p (s2 125 vb) (H5.later hl).2
  replace H5 : Hid (Hb w w5 lab5 p (s2 125 vb)) := H5
  clear H4 C5 v04 v14 zv4 Q4 lv4
  have lv5 := cell_lt v05
  simp only [show nov.1 = 0 from rfl]
  go_wp2_with (first | (go_at_call 14; refine (num_any _ _).mono ?_; rintro e w' ⟨rfl, hw⟩; obtain rfl : w5 = w' := hw.symm) | (go_at_call 13; refine (hsv.out _ (La (Lz _)) _ (val_lit _ _ _ _ rfl)).mono ?_; rintro e w7 ⟨rfl, l7⟩; have L7 : Hid (Later w5 w7) := (La (Lz _)).trans l7; clear l7) | (go_at_call 14; refine (num_any _ _).mono ?_; rintro e w' ⟨rfl, hw⟩; obtain rfl : w7 = w' := hw.symm) | (go_at_call 15; refine (hlf.out _ L7.out).mono ?_; rintro e w8 ⟨rfl, l8⟩; have L8 : Hid (Later w5 w8) := L7.out.trans l8; clear l8))
  go_ret
  exact ⟨rfl, H5.out.1.trans L8.out⟩
theorem low_125 (vb kind : Int) (w : World) (hT : wrap64 (127 - wrap64 ((IntKind.u64.wrap kind).tmod 4)) = 125) (h0 : vb < 0) :
    Calls Try.prog 5 #[.agg #[.int .i64 125, .int .i64 vb], .int .i64 kind, .bool false] w fun e w' => e = .returned (.bool true) ∧ Later w w' := by
  go_enter Try.func5, Try.ntmps5
  go_wp2_with fail
  refine (awake_any _).mono ?_
  rintro e w1 ⟨rfl, l1⟩
  have v0 : w1.cell? ⟨w.heap.size, 0, none⟩ = some (.int .i64 125) := l1.cell_of (by simp [go_sem])
  have v1 : w1.cell? ⟨w.heap.size, 1, none⟩ = some (.int .i64 vb) := l1.cell_of (by simp [go_sem])
  have lv := cell_lt v0
  replace l1 : Later w w1 := (La (Lz _)).trans l1
  go_wp2_with fail
  generalize wrap64 (127 - wrap64 ((IntKind.u64.wrap kind).tmod 4)) = t at *
  subst hT
  have hfit : Hid (fit 1 1 (fun _ => 125) (fun _ => 125) (fun _ => vb) = false) := (by rw [fit_1]; simp [may]; omega : fit 1 1 (fun _ => 125) (fun _ => 125) (fun _ => vb) = false)
  have hd : decide (0 ≤ vb) = false := decide_eq_false (by omega)
  have V2 := val_lit ((w1.alloc (.cells #[.int .i64 125] 3)).alloc (.cells #[.slice none 0 0, .slice (some ⟨w1.heap.size, 0, none⟩) 1 1] 36)) 125 vb (w1.heap.size + 1 + 1) (by simp)
  have A2 := aw2_lit _ 125 vb (w1.heap.size + 1 + 1) 1 V2 (w1.heap.size + 1 + 1 + 1) (by simp)
  have L2 : Later w1 ((((w1.alloc (.cells #[.int .i64 125] 3)).alloc (.cells #[.slice none 0 0, .slice (some ⟨w1.heap.size, 0, none⟩) 1 1] 36)).alloc (.cells #[.int .i64 125, .int .i64 vb] 56)).alloc (.cells #[.slice (some ⟨w1.heap.size + 1 + 1, 0, none⟩) 1 1, .slice none 0 0] 27)) := (by repeat first | exact Lz _ | apply La | apply Lv | apply Ld | apply Ln)
  have r2 : ((((w1.alloc (.cells #[.int .i64 125] 3)).alloc (.cells #[.slice none 0 0, .slice (some ⟨w1.heap.size, 0, none⟩) 1 1] 36)).alloc (.cells #[.int .i64 125, .int .i64 vb] 56)).alloc (.cells #[.slice (some ⟨w1.heap.size + 1 + 1, 0, none⟩) 1 1, .slice none 0 0] 27)).cell? ⟨w1.heap.size, 0, none⟩ = some (.int .i64 125) := by simp [go_sem]
  have u02 : ((((w1.alloc (.cells #[.int .i64 125] 3)).alloc (.cells #[.slice none 0 0, .slice (some ⟨w1.heap.size, 0, none⟩) 1 1] 36)).alloc (.cells #[.int .i64 125, .int .i64 vb] 56)).alloc (.cells #[.slice (some ⟨w1.heap.size + 1 + 1, 0, none⟩) 1 1, .slice none 0 0] 27)).cell? ⟨w1.heap.size + 1, 0, none⟩ = some (.slice none 0 0) := by simp [go_sem]
  have u12 : ((((w1.alloc (.cells #[.int .i64 125] 3)).alloc (.cells #[.slice none 0 0, .slice (some ⟨w1.heap.size, 0, none⟩) 1 1] 36)).alloc (.cells #[.int .i64 125, .int .i64 vb] 56)).alloc (.cells #[.slice (some ⟨w1.heap.size + 1 + 1, 0, none⟩) 1 1, .slice none 0 0] 27)).cell? ⟨w1.heap.size + 1, 1, none⟩ = some (.slice (some ⟨w1.heap.size, 0, none⟩) 1 1) := by simp [go_sem]
  generalize (((w1.alloc (.cells #[.int .i64 125] 3)).alloc (.cells #[.slice none 0 0, .slice (some ⟨w1.heap.size, 0, none⟩) 1 1] 36)).alloc (.cells #[.int .i64 125, .int .i64 vb] 56)).alloc (.cells #[.slice (some ⟨w1.heap.size + 1 + 1, 0, none⟩) 1 1, .slice none 0 0] 27) = w2 at *
  have v02 := L2.cell_of v0
  have v12 := L2.cell_of v1
  clear V2
  refine (hb_new (fun _ => 99) (w0 := w) (l1.trans L2) _ 2 _ (aw2 125 vb) (by decide) A2).mono ?_
  rintro e w3 ⟨p, lab3, rfl, l3, C3, H3⟩
  have u03 := l3.cell_of u02
  have u13 := l3.cell_of u12
  have v03 := l3.cell_of v02
  have v13 := l3.cell_of v12
  have zu3 : lab3 (w1.heap.size + 1) = 99 := C3.lab_to rfl (fun x => x) u02
  have zv3 : lab3 w.heap.size = 99 := C3.lab_to rfl (fun x => x) v02
  have R3 : Lq lab3 w3 (some ⟨w1.heap.size, 0, none⟩) 1 (fun _ => 125) := Or.inr ⟨_, 0, rfl, by rw [C3.lab_eq (fun x => x) r2]; decide, fun j hj => by obtain rfl : j = 0 := (by omega); exact l3.cell_of r2⟩
  replace R3 : Hid (Lq lab3 w3 (some ⟨w1.heap.size, 0, none⟩) 1 (fun _ => 125)) := R3
  clear A2 L2 r2 u02 u12 v0 v1 v02 v12 C3 l3 lv l1
  go_wp2_with fail
  refine (hb_call H3 0 none _ none 0 0 1 1 0 nov (fun _ => 125) (show 0 < 1000000 by decide) (by decide) (Or.inl rfl) R3.out 1102 (nov) (s1 125 vb) (e_no 125 vb _ _ hfit.out).1 (e_no 125 vb _ _ hfit.out).2 rfl).mono ?_
  rintro e w4 ⟨A4, c4, lab4, rfl, H4, C4, Q4⟩
  have v04 := C4.cell (by rw [zv3]; decide) v03
  have v14 := C4.cell (by rw [zv3]; decide) v13
  have zv4 : lab4 w.heap.size = 99 := C4.lab_to zv3 (by decide) v03
  clear R3 H3 C4 u03 u13 v03 v13 zu3 zv3
  simp only [show (vv 125 vb).1 = 1 from rfl, show nov.1 = 0 from rfl]
  have lv4 := cell_lt v04
  go_wp2_with fail
  refine (hb_call H4 1 none none none 0 0 0 0 0 nov (fun _ => 0) (show 1 < 1000000 by decide) (by decide) (Or.inl rfl) (Or.inl rfl) 0 nov (s2 125 vb) rfl rfl rfl).mono ?_
  rintro e w5 ⟨A5, c5, lab5, rfl, H5, C5, _⟩
  have v05 := C5.cell (by rw [zv4]; decide) v04
  have v15 := C5.cell (by rw [zv4]; decide) v14
  have hlf : Hid (∀ W, Later w5 W → Calls Try.prog 15 #[.pointer (some ⟨p, 0, none⟩)] W fun e w' => e = .returned (.int .i64 0) ∧ Later W w') := fun W hl => hleft_any lab5 W _ p (s2 125 vb) (H5.later hl).2
  replace H5 : Hid (Hb w w5 lab5 p (s2 125 vb)) := H5
  clear H4 C5 v04 v14 zv4 Q4 lv4
  have lv5 := cell_lt v05
  simp only [show nov.1 = 0 from rfl]
  go_wp2_with (first | (go_at_call 14; refine (num_any _ _).mono ?_; rintro e w' ⟨rfl, hw⟩; obtain rfl : w5 = w' := hw.symm) | (go_at_call 15; refine (hlf.out _ (Lz _)).mono ?_; rintro e w8 ⟨rfl, l8⟩; have L8 : Hid (Later w5 w8) := l8; clear l8))
  go_ret
  exact ⟨rfl, H5.out.1.trans L8.out⟩
theorem high_125 (vb kind : Int) (w : World) (hT : wrap64 (127 - wrap64 ((IntKind.u64.wrap kind).tmod 4)) = 125) (h0 : 0 ≤ vb) (h1 : 4294967295 < vb) :
    Calls Try.prog 5 #[.agg #[.int .i64 125, .int .i64 vb], .int .i64 kind, .bool false] w fun e w' => e = .returned (.bool true) ∧ Later w w' := by
  go_enter Try.func5, Try.ntmps5
  go_wp2_with fail
  refine (awake_any _).mono ?_
  rintro e w1 ⟨rfl, l1⟩
  have v0 : w1.cell? ⟨w.heap.size, 0, none⟩ = some (.int .i64 125) := l1.cell_of (by simp [go_sem])
  have v1 : w1.cell? ⟨w.heap.size, 1, none⟩ = some (.int .i64 vb) := l1.cell_of (by simp [go_sem])
  have lv := cell_lt v0
  replace l1 : Later w w1 := (La (Lz _)).trans l1
  go_wp2_with fail
  generalize wrap64 (127 - wrap64 ((IntKind.u64.wrap kind).tmod 4)) = t at *
  subst hT
  have hfit : Hid (fit 1 1 (fun _ => 125) (fun _ => 125) (fun _ => vb) = false) := (by rw [fit_1]; simp [may]; omega : fit 1 1 (fun _ => 125) (fun _ => 125) (fun _ => vb) = false)
  have hd : decide (vb ≤ 4294967295) = false := decide_eq_false (by omega)
  have V2 := val_lit ((w1.alloc (.cells #[.int .i64 125] 3)).alloc (.cells #[.slice none 0 0, .slice (some ⟨w1.heap.size, 0, none⟩) 1 1] 36)) 125 vb (w1.heap.size + 1 + 1) (by simp)
  have A2 := aw2_lit _ 125 vb (w1.heap.size + 1 + 1) 1 V2 (w1.heap.size + 1 + 1 + 1) (by simp)
  have L2 : Later w1 ((((w1.alloc (.cells #[.int .i64 125] 3)).alloc (.cells #[.slice none 0 0, .slice (some ⟨w1.heap.size, 0, none⟩) 1 1] 36)).alloc (.cells #[.int .i64 125, .int .i64 vb] 56)).alloc (.cells #[.slice (some ⟨w1.heap.size + 1 + 1, 0, none⟩) 1 1, .slice none 0 0] 27)) := (by repeat first | exact Lz _ | apply La | apply Lv | apply Ld | apply Ln)
  have r2 : ((((w1.alloc (.cells #[.int .i64 125] 3)).alloc (.cells #[.slice none 0 0, .slice (some ⟨w1.heap.size, 0, none⟩) 1 1] 36)).alloc (.cells #[.int .i64 125, .int .i64 vb] 56)).alloc (.cells #[.slice (some ⟨w1.heap.size + 1 + 1, 0, none⟩) 1 1, .slice none 0 0] 27)).cell? ⟨w1.heap.size, 0, none⟩ = some (.int .i64 125) := by simp [go_sem]
  have u02 : ((((w1.alloc (.cells #[.int .i64 125] 3)).alloc (.cells #[.slice none 0 0, .slice (some ⟨w1.heap.size, 0, none⟩) 1 1] 36)).alloc (.cells #[.int .i64 125, .int .i64 vb] 56)).alloc (.cells #[.slice (some ⟨w1.heap.size + 1 + 1, 0, none⟩) 1 1, .slice none 0 0] 27)).cell? ⟨w1.heap.size + 1, 0, none⟩ = some (.slice none 0 0) := by simp [go_sem]
  have u12 : ((((w1.alloc (.cells #[.int .i64 125] 3)).alloc (.cells #[.slice none 0 0, .slice (some ⟨w1.heap.size, 0, none⟩) 1 1] 36)).alloc (.cells #[.int .i64 125, .int .i64 vb] 56)).alloc (.cells #[.slice (some ⟨w1.heap.size + 1 + 1, 0, none⟩) 1 1, .slice none 0 0] 27)).cell? ⟨w1.heap.size + 1, 1, none⟩ = some (.slice (some ⟨w1.heap.size, 0, none⟩) 1 1) := by simp [go_sem]
  generalize (((w1.alloc (.cells #[.int .i64 125] 3)).alloc (.cells #[.slice none 0 0, .slice (some ⟨w1.heap.size, 0, none⟩) 1 1] 36)).alloc (.cells #[.int .i64 125, .int .i64 vb] 56)).alloc (.cells #[.slice (some ⟨w1.heap.size + 1 + 1, 0, none⟩) 1 1, .slice none 0 0] 27) = w2 at *
  have v02 := L2.cell_of v0
  have v12 := L2.cell_of v1
  clear V2
  refine (hb_new (fun _ => 99) (w0 := w) (l1.trans L2) _ 2 _ (aw2 125 vb) (by decide) A2).mono ?_
  rintro e w3 ⟨p, lab3, rfl, l3, C3, H3⟩
  have u03 := l3.cell_of u02
  have u13 := l3.cell_of u12
  have v03 := l3.cell_of v02
  have v13 := l3.cell_of v12
  have zu3 : lab3 (w1.heap.size + 1) = 99 := C3.lab_to rfl (fun x => x) u02
  have zv3 : lab3 w.heap.size = 99 := C3.lab_to rfl (fun x => x) v02
  have R3 : Lq lab3 w3 (some ⟨w1.heap.size, 0, none⟩) 1 (fun _ => 125) := Or.inr ⟨_, 0, rfl, by rw [C3.lab_eq (fun x => x) r2]; decide, fun j hj => by obtain rfl : j = 0 := (by omega); exact l3.cell_of r2⟩
  replace R3 : Hid (Lq lab3 w3 (some ⟨w1.heap.size, 0, none⟩) 1 (fun _ => 125)) := R3
  clear A2 L2 r2 u02 u12 v0 v1 v02 v12 C3 l3 lv l1
  go_wp2_with fail
  refine (hb_call H3 0 none _ none 0 0 1 1 0 nov (fun _ => 125) (show 0 < 1000000 by decide) (by decide) (Or.inl rfl) R3.out 1102 (nov) (s1 125 vb) (e_no 125 vb _ _ hfit.out).1 (e_no 125 vb _ _ hfit.out).2 rfl).mono ?_
  rintro e w4 ⟨A4, c4, lab4, rfl, H4, C4, Q4⟩
  have v04 := C4.cell (by rw [zv3]; decide) v03
  have v14 := C4.cell (by rw [zv3]; decide) v13
  have zv4 : lab4 w.heap.size = 99 := C4.lab_to zv3 (by decide) v03
  clear R3 H3 C4 u03 u13 v03 v13 zu3 zv3
  simp only [show (vv 125 vb).1 = 1 from rfl, show nov.1 = 0 from rfl]
  have lv4 := cell_lt v04
  go_wp2_with fail
  refine (hb_call H4 1 none none none 0 0 0 0 0 nov (fun _ => 0) (show 1 < 1000000 by decide) (by decide) (Or.inl rfl) (Or.inl rfl) 0 nov (s2 125 vb) rfl rfl rfl).mono ?_
  rintro e w5 ⟨A5, c5, lab5, rfl, H5, C5, _⟩
  have v05 := C5.cell (by rw [zv4]; decide) v04
  have v15 := C5.cell (by rw [zv4]; decide) v14
  have hlf : Hid (∀ W, Later w5 W → Calls Try.prog 15 #[.pointer (some ⟨p, 0, none⟩)] W fun e w' => e = .returned (.int .i64 0) ∧ Later W w') := fun W hl => hleft_any lab5 W _ p (s2 125 vb) (H5.later hl).2
  replace H5 : Hid (Hb w w5 lab5 p (s2 125 vb)) := H5
  clear H4 C5 v04 v14 zv4 Q4 lv4
  have lv5 := cell_lt v05
  simp only [show nov.1 = 0 from rfl]
  go_wp2_with (first | (go_at_call 14; refine (num_any _ _).mono ?_; rintro e w' ⟨rfl, hw⟩; obtain rfl : w5 = w' := hw.symm) | (go_at_call 15; refine (hlf.out _ (Lz _)).mono ?_; rintro e w8 ⟨rfl, l8⟩; have L8 : Hid (Later w5 w8) := l8; clear l8))
  go_ret
  exact ⟨rfl, H5.out.1.trans L8.out⟩
theorem none_124 (vt vb kind : Int) (w : World) (hT : wrap64 (127 - wrap64 ((IntKind.u64.wrap kind).tmod 4)) = 124) :
    Calls Try.prog 5 #[.agg #[.int .i64 vt, .int .i64 vb], .int .i64 kind, .bool true] w fun e w' => e = .returned (.bool true) ∧ Later w w' := by
  go_enter Try.func5, Try.ntmps5
  go_wp2_with fail
  refine (awake_any _).mono ?_
  rintro e w1 ⟨rfl, l1⟩
  have v0 : w1.cell? ⟨w.heap.size, 0, none⟩ = some (.int .i64 vt) := l1.cell_of (by simp [go_sem])
  have v1 : w1.cell? ⟨w.heap.size, 1, none⟩ = some (.int .i64 vb) := l1.cell_of (by simp [go_sem])
  have lv := cell_lt v0
  replace l1 : Later w w1 := (La (Lz _)).trans l1
  go_wp2_with fail
  generalize wrap64 (127 - wrap64 ((IntKind.u64.wrap kind).tmod 4)) = t at *
  subst hT
  have hfit : Hid (fit 0 1 (fun _ => 0) (fun _ => vt) (fun _ => vb) = false) := rfl
  have V2 := val_lit ((w1.alloc (.cells #[.int .i64 124] 3)).alloc (.cells #[.slice none 0 0, .slice none 0 0] 36)) vt vb (w1.heap.size + 1 + 1) (by simp)
  have A2 := aw2_lit _ vt vb (w1.heap.size + 1 + 1) 1 V2 (w1.heap.size + 1 + 1 + 1) (by simp)
  have L2 : Later w1 ((((w1.alloc (.cells #[.int .i64 124] 3)).alloc (.cells #[.slice none 0 0, .slice none 0 0] 36)).alloc (.cells #[.int .i64 vt, .int .i64 vb] 56)).alloc (.cells #[.slice (some ⟨w1.heap.size + 1 + 1, 0, none⟩) 1 1, .slice none 0 0] 27)) := (by repeat first | exact Lz _ | apply La | apply Lv | apply Ld | apply Ln)
  have r2 : ((((w1.alloc (.cells #[.int .i64 124] 3)).alloc (.cells #[.slice none 0 0, .slice none 0 0] 36)).alloc (.cells #[.int .i64 vt, .int .i64 vb] 56)).alloc (.cells #[.slice (some ⟨w1.heap.size + 1 + 1, 0, none⟩) 1 1, .slice none 0 0] 27)).cell? ⟨w1.heap.size, 0, none⟩ = some (.int .i64 124) := by simp [go_sem]
  have u02 : ((((w1.alloc (.cells #[.int .i64 124] 3)).alloc (.cells #[.slice none 0 0, .slice none 0 0] 36)).alloc (.cells #[.int .i64 vt, .int .i64 vb] 56)).alloc (.cells #[.slice (some ⟨w1.heap.size + 1 + 1, 0, none⟩) 1 1, .slice none 0 0] 27)).cell? ⟨w1.heap.size + 1, 0, none⟩ = some (.slice none 0 0) := by simp [go_sem]
  have u12 : ((((w1.alloc (.cells #[.int .i64 124] 3)).alloc (.cells #[.slice none 0 0, .slice none 0 0] 36)).alloc (.cells #[.int .i64 vt, .int .i64 vb] 56)).alloc (.cells #[.slice (some ⟨w1.heap.size + 1 + 1, 0, none⟩) 1 1, .slice none 0 0] 27)).cell? ⟨w1.heap.size + 1, 1, none⟩ = some (.slice none 0 0) := by simp [go_sem]
  generalize (((w1.alloc (.cells #[.int .i64 124] 3)).alloc (.cells #[.slice none 0 0, .slice none 0 0] 36)).alloc (.cells #[.int .i64 vt, .int .i64 vb] 56)).alloc (.cells #[.slice (some ⟨w1.heap.size + 1 + 1, 0, none⟩) 1 1, .slice none 0 0] 27) = w2 at *
  have v02 := L2.cell_of v0
  have v12 := L2.cell_of v1
  clear V2
  refine (hb_new (fun _ => 99) (w0 := w) (l1.trans L2) _ 2 _ (aw2 vt vb) (by decide) A2).mono ?_
  rintro e w3 ⟨p, lab3, rfl, l3, C3, H3⟩
  have u03 := l3.cell_of u02
  have u13 := l3.cell_of u12
  have v03 := l3.cell_of v02
  have v13 := l3.cell_of v12
  have zu3 : lab3 (w1.heap.size + 1) = 99 := C3.lab_to rfl (fun x => x) u02
  have zv3 : lab3 w.heap.size = 99 := C3.lab_to rfl (fun x => x) v02
  have R3 : Lq lab3 w3 (none) 0 (fun _ => 0) := Or.inl rfl
  replace R3 : Hid (Lq lab3 w3 (none) 0 (fun _ => 0)) := R3
  clear A2 L2 r2 u02 u12 v0 v1 v02 v12 C3 l3 lv l1
  go_wp2_with fail
  refine (hb_call H3 0 none _ none 0 0 0 0 0 nov (fun _ => 0) (show 0 < 1000000 by decide) (by decide) (Or.inl rfl) R3.out 1102 (nov) (s1 vt vb) (e_no vt vb _ _ hfit.out).1 (e_no vt vb _ _ hfit.out).2 rfl).mono ?_
  rintro e w4 ⟨A4, c4, lab4, rfl, H4, C4, Q4⟩
  have v04 := C4.cell (by rw [zv3]; decide) v03
  have v14 := C4.cell (by rw [zv3]; decide) v13
  have zv4 : lab4 w.heap.size = 99 := C4.lab_to zv3 (by decide) v03
  clear R3 H3 C4 u03 u13 v03 v13 zu3 zv3
  simp only [show (vv vt vb).1 = 1 from rfl, show nov.1 = 0 from rfl]
  have lv4 := cell_lt v04
  go_wp2_with fail
  refine (hb_call H4 1 none none none 0 0 0 0 0 nov (fun _ => 0) (show 1 < 1000000 by decide) (by decide) (Or.inl rfl) (Or.inl rfl) 0 nov (s2 vt vb) rfl rfl rfl).mono ?_
  rintro e w5 ⟨A5, c5, lab5, rfl, H5, C5, _⟩
  have v05 := C5.cell (by rw [zv4]; decide) v04
  have v15 := C5.cell (by rw [zv4]; decide) v14
  have hlf : Hid (∀ W, Later w5 W → Calls Try.prog 15 #[.pointer (some ⟨p, 0, none⟩)] W fun e w' => e = .returned (.int .i64 0) ∧ Later W w') := fun W hl => hleft_any lab5 W _ p (s2 vt vb) (H5.later hl).2
  replace H5 : Hid (Hb w w5 lab5 p (s2 vt vb)) := H5
  clear H4 C5 v04 v14 zv4 Q4 lv4
  have lv5 := cell_lt v05
  simp only [show nov.1 = 0 from rfl]
  go_wp2_with (first | (go_at_call 14; refine (num_any _ _).mono ?_; rintro e w' ⟨rfl, hw⟩; obtain rfl : w5 = w' := hw.symm) | (go_at_call 15; refine (hlf.out _ (Lz _)).mono ?_; rintro e w8 ⟨rfl, l8⟩; have L8 : Hid (Later w5 w8) := l8; clear l8))
  go_ret
  exact ⟨rfl, H5.out.1.trans L8.out⟩
theorem type_124 (vt vb kind : Int) (w : World) (hT : wrap64 (127 - wrap64 ((IntKind.u64.wrap kind).tmod 4)) = 124) (hne : ¬ vt = 124) :
    Calls Try.prog 5 #[.agg #[.int .i64 vt, .int .i64 vb], .int .i64 kind, .bool false] w fun e w' => e = .returned (.bool true) ∧ Later w w' := by
  go_enter Try.func5, Try.ntmps5
  go_wp2_with fail
  refine (awake_any _).mono ?_
  rintro e w1 ⟨rfl, l1⟩
  have v0 : w1.cell? ⟨w.heap.size, 0, none⟩ = some (.int .i64 vt) := l1.cell_of (by simp [go_sem])
  have v1 : w1.cell? ⟨w.heap.size, 1, none⟩ = some (.int .i64 vb) := l1.cell_of (by simp [go_sem])
  have lv := cell_lt v0
  replace l1 : Later w w1 := (La (Lz _)).trans l1
  go_wp2_with fail
  generalize wrap64 (127 - wrap64 ((IntKind.u64.wrap kind).tmod 4)) = t at *
  subst hT
  have hfit : Hid (fit 1 1 (fun _ => 124) (fun _ => vt) (fun _ => vb) = false) := (by rw [fit_1, decide_eq_false hne]; rfl : fit 1 1 (fun _ => 124) (fun _ => vt) (fun _ => vb) = false)
  have hne2 : (vt == 124) = false := by simpa using hne
  clear hne
  have V2 := val_lit ((w1.alloc (.cells #[.int .i64 124] 3)).alloc (.cells #[.slice none 0 0, .slice (some ⟨w1.heap.size, 0, none⟩) 1 1] 36)) vt vb (w1.heap.size + 1 + 1) (by simp)
  have A2 := aw2_lit _ vt vb (w1.heap.size + 1 + 1) 1 V2 (w1.heap.size + 1 + 1 + 1) (by simp)
  have L2 : Later w1 ((((w1.alloc (.cells #[.int .i64 124] 3)).alloc (.cells #[.slice none 0 0, .slice (some ⟨w1.heap.size, 0, none⟩) 1 1] 36)).alloc (.cells #[.int .i64 vt, .int .i64 vb] 56)).alloc (.cells #[.slice (some ⟨w1.heap.size + 1 + 1, 0, none⟩) 1 1, .slice none 0 0] 27)) := (by repeat first | exact Lz _ | apply La | apply Lv | apply Ld | apply Ln)
  have r2 : ((((w1.alloc (.cells #[.int .i64 124] 3)).alloc (.cells #[.slice none 0 0, .slice (some ⟨w1.heap.size, 0, none⟩) 1 1] 36)).alloc (.cells #[.int .i64 vt, .int .i64 vb] 56)).alloc (.cells #[.slice (some ⟨w1.heap.size + 1 + 1, 0, none⟩) 1 1, .slice none 0 0] 27)).cell? ⟨w1.heap.size, 0, none⟩ = some (.int .i64 124) := by simp [go_sem]
  have u02 : ((((w1.alloc (.cells #[.int .i64 124] 3)).alloc (.cells #[.slice none 0 0, .slice (some ⟨w1.heap.size, 0, none⟩) 1 1] 36)).alloc (.cells #[.int .i64 vt, .int .i64 vb] 56)).alloc (.cells #[.slice (some ⟨w1.heap.size + 1 + 1, 0, none⟩) 1 1, .slice none 0 0] 27)).cell? ⟨w1.heap.size + 1, 0, none⟩ = some (.slice none 0 0) := by simp [go_sem]
  have u12 : ((((w1.alloc (.cells #[.int .i64 124] 3)).alloc (.cells #[.slice none 0 0, .slice (some ⟨w1.heap.size, 0, none⟩) 1 1] 36)).alloc (.cells #[.int .i64 vt, .int .i64 vb] 56)).alloc (.cells #[.slice (some ⟨w1.heap.size + 1 + 1, 0, none⟩) 1 1, .slice none 0 0] 27)).cell? ⟨w1.heap.size + 1, 1, none⟩ = some (.slice (some ⟨w1.heap.size, 0, none⟩) 1 1) := by simp [go_sem]
  generalize (((w1.alloc (.cells #[.int .i64 124] 3)).alloc (.cells #[.slice none 0 0, .slice (some ⟨w1.heap.size, 0, none⟩) 1 1] 36)).alloc (.cells #[.int .i64 vt, .int .i64 vb] 56)).alloc (.cells #[.slice (some ⟨w1.heap.size + 1 + 1, 0, none⟩) 1 1, .slice none 0 0] 27) = w2 at *
  have v02 := L2.cell_of v0
  have v12 := L2.cell_of v1
  clear V2
  refine (hb_new (fun _ => 99) (w0 := w) (l1.trans L2) _ 2 _ (aw2 vt vb) (by decide) A2).mono ?_
  rintro e w3 ⟨p, lab3, rfl, l3, C3, H3⟩
  have u03 := l3.cell_of u02
  have u13 := l3.cell_of u12
  have v03 := l3.cell_of v02
  have v13 := l3.cell_of v12
  have zu3 : lab3 (w1.heap.size + 1) = 99 := C3.lab_to rfl (fun x => x) u02
  have zv3 : lab3 w.heap.size = 99 := C3.lab_to rfl (fun x => x) v02
  have R3 : Lq lab3 w3 (some ⟨w1.heap.size, 0, none⟩) 1 (fun _ => 124) := Or.inr ⟨_, 0, rfl, by rw [C3.lab_eq (fun x => x) r2]; decide, fun j hj => by obtain rfl : j = 0 := (by omega); exact l3.cell_of r2⟩
  replace R3 : Hid (Lq lab3 w3 (some ⟨w1.heap.size, 0, none⟩) 1 (fun _ => 124)) := R3
  clear A2 L2 r2 u02 u12 v0 v1 v02 v12 C3 l3 lv l1
  go_wp2_with fail
  refine (hb_call H3 0 none _ none 0 0 1 1 0 nov (fun _ => 124) (show 0 < 1000000 by decide) (by decide) (Or.inl rfl) R3.out 1102 (nov) (s1 vt vb) (e_no vt vb _ _ hfit.out).1 (e_no vt vb _ _ hfit.out).2 rfl).mono ?_
  rintro e w4 ⟨A4, c4, lab4, rfl, H4, C4, Q4⟩
  have v04 := C4.cell (by rw [zv3]; decide) v03
  have v14 := C4.cell (by rw [zv3]; decide) v13
  have zv4 : lab4 w.heap.size = 99 := C4.lab_to zv3 (by decide) v03
  clear R3 H3 C4 u03 u13 v03 v13 zu3 zv3
  simp only [show (vv vt vb).1 = 1 from rfl, show nov.1 = 0 from rfl]
  have lv4 := cell_lt v04
  go_wp2_with fail
  refine (hb_call H4 1 none none none 0 0 0 0 0 nov (fun _ => 0) (show 1 < 1000000 by decide) (by decide) (Or.inl rfl) (Or.inl rfl) 0 nov (s2 vt vb) rfl rfl rfl).mono ?_
  rintro e w5 ⟨A5, c5, lab5, rfl, H5, C5, _⟩
  have v05 := C5.cell (by rw [zv4]; decide) v04
  have v15 := C5.cell (by rw [zv4]; decide) v14
  have hlf : Hid (∀ W, Later w5 W → Calls Try.prog 15 #[.pointer (some ⟨p, 0, none⟩)] W fun e w' => e = .returned (.int .i64 0) ∧ Later W w') := fun W hl => hleft_any lab5 W _ p (s2 vt vb) (H5.later hl).2
  replace H5 : Hid (Hb w w5 lab5 p (s2 vt vb)) := H5
  clear H4 C5 v04 v14 zv4 Q4 lv4
  have lv5 := cell_lt v05
  simp only [show nov.1 = 0 from rfl]
  go_wp2_with (first | (go_at_call 14; refine (num_any _ _).mono ?_; rintro e w' ⟨rfl, hw⟩; obtain rfl : w5 = w' := hw.symm) | (go_at_call 15; refine (hlf.out _ (Lz _)).mono ?_; rintro e w8 ⟨rfl, l8⟩; have L8 : Hid (Later w5 w8) := l8; clear l8))
  go_ret
  exact ⟨rfl, H5.out.1.trans L8.out⟩
theorem fine_124 (vb kind : Int) (w : World) (hT : wrap64 (127 - wrap64 ((IntKind.u64.wrap kind).tmod 4)) = 124) :
    Calls Try.prog 5 #[.agg #[.int .i64 124, .int .i64 vb], .int .i64 kind, .bool false] w fun e w' => e = .returned (.bool true) ∧ Later w w' := by
  go_enter Try.func5, Try.ntmps5
  go_wp2_with fail
  refine (awake_any _).mono ?_
  rintro e w1 ⟨rfl, l1⟩
  have v0 : w1.cell? ⟨w.heap.size, 0, none⟩ = some (.int .i64 124) := l1.cell_of (by simp [go_sem])
  have v1 : w1.cell? ⟨w.heap.size, 1, none⟩ = some (.int .i64 vb) := l1.cell_of (by simp [go_sem])
  have lv := cell_lt v0
  replace l1 : Later w w1 := (La (Lz _)).trans l1
  go_wp2_with fail
  generalize wrap64 (127 - wrap64 ((IntKind.u64.wrap kind).tmod 4)) = t at *
  subst hT
  have hfit : Hid (fit 1 1 (fun _ => 124) (fun _ => 124) (fun _ => vb) = true) := (by rw [fit_1]; simp [may] : fit 1 1 (fun _ => 124) (fun _ => 124) (fun _ => vb) = true)
  have V2 := val_lit ((w1.alloc (.cells #[.int .i64 124] 3)).alloc (.cells #[.slice none 0 0, .slice (some ⟨w1.heap.size, 0, none⟩) 1 1] 36)) 124 vb (w1.heap.size + 1 + 1) (by simp)
  have A2 := aw2_lit _ 124 vb (w1.heap.size + 1 + 1) 1 V2 (w1.heap.size + 1 + 1 + 1) (by simp)
  have L2 : Later w1 ((((w1.alloc (.cells #[.int .i64 124] 3)).alloc (.cells #[.slice none 0 0, .slice (some ⟨w1.heap.size, 0, none⟩) 1 1] 36)).alloc (.cells #[.int .i64 124, .int .i64 vb] 56)).alloc (.cells #[.slice (some ⟨w1.heap.size + 1 + 1, 0, none⟩) 1 1, .slice none 0 0] 27)) := (by repeat first | exact Lz _ | apply La | apply Lv | apply Ld | apply Ln)
  have r2 : ((((w1.alloc (.cells #[.int .i64 124] 3)).alloc (.cells #[.slice none 0 0, .slice (some ⟨w1.heap.size, 0, none⟩) 1 1] 36)).alloc (.cells #[.int .i64 124, .int .i64 vb] 56)).alloc (.cells #[.slice (some ⟨w1.heap.size + 1 + 1, 0, none⟩) 1 1, .slice none 0 0] 27)).cell? ⟨w1.heap.size, 0, none⟩ = some (.int .i64 124) := by simp [go_sem]
  have u02 : ((((w1.alloc (.cells #[.int .i64 124] 3)).alloc (.cells #[.slice none 0 0, .slice (some ⟨w1.heap.size, 0, none⟩) 1 1] 36)).alloc (.cells #[.int .i64 124, .int .i64 vb] 56)).alloc (.cells #[.slice (some ⟨w1.heap.size + 1 + 1, 0, none⟩) 1 1, .slice none 0 0] 27)).cell? ⟨w1.heap.size + 1, 0, none⟩ = some (.slice none 0 0) := by simp [go_sem]
  have u12 : ((((w1.alloc (.cells #[.int .i64 124] 3)).alloc (.cells #[.slice none 0 0, .slice (some ⟨w1.heap.size, 0, none⟩) 1 1] 36)).alloc (.cells #[.int .i64 124, .int .i64 vb] 56)).alloc (.cells #[.slice (some ⟨w1.heap.size + 1 + 1, 0, none⟩) 1 1, .slice none 0 0] 27)).cell? ⟨w1.heap.size + 1, 1, none⟩ = some (.slice (some ⟨w1.heap.size, 0, none⟩) 1 1) := by simp [go_sem]
  generalize (((w1.alloc (.cells #[.int .i64 124] 3)).alloc (.cells #[.slice none 0 0, .slice (some ⟨w1.heap.size, 0, none⟩) 1 1] 36)).alloc (.cells #[.int .i64 124, .int .i64 vb] 56)).alloc (.cells #[.slice (some ⟨w1.heap.size + 1 + 1, 0, none⟩) 1 1, .slice none 0 0] 27) = w2 at *
  have v02 := L2.cell_of v0
  have v12 := L2.cell_of v1
  clear V2
  refine (hb_new (fun _ => 99) (w0 := w) (l1.trans L2) _ 2 _ (aw2 124 vb) (by decide) A2).mono ?_
  rintro e w3 ⟨p, lab3, rfl, l3, C3, H3⟩
  have u03 := l3.cell_of u02
  have u13 := l3.cell_of u12
  have v03 := l3.cell_of v02
  have v13 := l3.cell_of v12
  have zu3 : lab3 (w1.heap.size + 1) = 99 := C3.lab_to rfl (fun x => x) u02
  have zv3 : lab3 w.heap.size = 99 := C3.lab_to rfl (fun x => x) v02
  have R3 : Lq lab3 w3 (some ⟨w1.heap.size, 0, none⟩) 1 (fun _ => 124) := Or.inr ⟨_, 0, rfl, by rw [C3.lab_eq (fun x => x) r2]; decide, fun j hj => by obtain rfl : j = 0 := (by omega); exact l3.cell_of r2⟩
  replace R3 : Hid (Lq lab3 w3 (some ⟨w1.heap.size, 0, none⟩) 1 (fun _ => 124)) := R3
  clear A2 L2 r2 u02 u12 v0 v1 v02 v12 C3 l3 lv l1
  go_wp2_with fail
  refine (hb_call H3 0 none _ none 0 0 1 1 0 nov (fun _ => 124) (show 0 < 1000000 by decide) (by decide) (Or.inl rfl) R3.out 0 (vv 124 vb) (s1 124 vb) (e_ok 124 vb _ _ hfit.out).1 (e_ok 124 vb _ _ hfit.out).2 rfl).mono ?_
  rintro e w4 ⟨A4, c4, lab4, rfl, H4, C4, Q4⟩
  have v04 := C4.cell (by rw [zv3]; decide) v03
  have v14 := C4.cell (by rw [zv3]; decide) v13
  have zv4 : lab4 w.heap.size = 99 := C4.lab_to zv3 (by decide) v03
  clear R3 H3 C4 u03 u13 v03 v13 zu3 zv3
  simp only [show (vv 124 vb).1 = 1 from rfl, show nov.1 = 0 from rfl]
  have lv4 := cell_lt v04
  go_wp2_with fail
  refine (hb_call H4 1 none none none 0 0 0 0 0 nov (fun _ => 0) (show 1 < 1000000 by decide) (by decide) (Or.inl rfl) (Or.inl rfl) 0 nov (s2 124 vb) rfl rfl rfl).mono ?_
  rintro e w5 ⟨A5, c5, lab5, rfl, H5, C5, _⟩
  have v05 := C5.cell (by rw [zv4]; decide) v04
  have v15 := C5.cell (by rw [zv4]; decide) v14
  obtain ⟨g4, q4, q5, _⟩ := Q4.resolve_left (by show ¬ (1 = 0); decide)
  have y5 := (q4.chg C5 (by rw [q5]; decide)).1.vst
  have hsv : Hid (∀ W, Later w5 W → ∀ g, Vst W (some ⟨g, 0, none⟩) 1 (fun _ => 124) (fun _ => vb) → Calls Try.prog 13 #[.slice A4 1 c4, .slice (some ⟨g, 0, none⟩) 1 1] W fun e w' => e = .returned (.bool true) ∧ Later W w') := fun W hl g hg => samev_any _ _ 1 _ _ _ _ (by decide) W (y5.later hl) hg
  clear q4 q5 y5
  have hlf : Hid (∀ W, Later w5 W → Calls Try.prog 15 #[.pointer (some ⟨p, 0, none⟩)] W fun e w' => e = .returned (.int .i64 0) ∧ Later W w') := fun W hl => hleft_any lab5 W _ p (s2 124 vb) (H5.later hl).2
  replace H5 : Hid (Hb w w5 lab5 p (s2 124 vb)) := H5
  clear H4 C5 v04 v14 zv4 Q4 lv4
  have lv5 := cell_lt v05
  simp only [show nov.1 = 0 from rfl]
  go_wp2_with (first | (go_at_call 14; refine (num_any _ _).mono ?_; rintro e w' ⟨rfl, hw⟩; obtain rfl : w5 = w' := hw.symm) | (go_at_call 13; refine (hsv.out _ (La (Lz _)) _ (val_lit _ _ _ _ rfl)).mono ?_; rintro e w7 ⟨rfl, l7⟩; have L7 : Hid (Later w5 w7) := (La (Lz _)).trans l7; clear l7) | (go_at_call 14; refine (num_any _ _).mono ?_; rintro e w' ⟨rfl, hw⟩; obtain rfl : w7 = w' := hw.symm) | (go_at_call 15; refine (hlf.out _ L7.out).mono ?_; rintro e w8 ⟨rfl, l8⟩; have L8 : Hid (Later w5 w8) := L7.out.trans l8; clear l8))
  go_ret
  exact ⟨rfl, H5.out.1.trans L8.out⟩
theorem walk (vt vb kind : Int) (μ : Bool) (w : World) :
    Calls Try.prog 5 #[.agg #[.int .i64 vt, .int .i64 vb], .int .i64 kind, .bool μ] w fun e w' => e = .returned (.bool true) ∧ Later w w' := by
  have ht := kind_is kind
  obtain ⟨t, hT⟩ : ∃ t, wrap64 (127 - wrap64 ((IntKind.u64.wrap kind).tmod 4)) = t := ⟨_, rfl⟩
  rw [hT] at ht
  have h4 : t = 127 ∨ t = 126 ∨ t = 125 ∨ t = 124 := by omega
  cases μ
  · rcases h4 with rfl | rfl | rfl | rfl
    · by_cases hv : vt = 127
      · subst hv
        by_cases h0 : vb < 0
        · exact low_127 vb kind w hT h0
        · by_cases h1 : vb ≤ 4294967295
          · exact fine_127 vb kind w hT (by omega) h1
          · exact high_127 vb kind w hT (by omega) (by omega)
      · exact type_127 vt vb kind w hT hv
    · by_cases hv : vt = 126
      · subst hv
        exact fine_126 vb kind w hT
      · exact type_126 vt vb kind w hT hv
    · by_cases hv : vt = 125
      · subst hv
        by_cases h0 : vb < 0
        · exact low_125 vb kind w hT h0
        · by_cases h1 : vb ≤ 4294967295
          · exact fine_125 vb kind w hT (by omega) h1
          · exact high_125 vb kind w hT (by omega) (by omega)
      · exact type_125 vt vb kind w hT hv
    · by_cases hv : vt = 124
      · subst hv
        exact fine_124 vb kind w hT
      · exact type_124 vt vb kind w hT hv
  · rcases h4 with rfl | rfl | rfl | rfl
    · exact none_127 vt vb kind w hT
    · exact none_126 vt vb kind w hT
    · exact none_125 vt vb kind w hT
    · exact none_124 vt vb kind w hT

set_option maxRecDepth 100000 in
theorem lifted (os : Os) (started : os.Started) (H : Type) (enc : TypeId × Value → H) :
    ReturnsInHanded {} Try.checked os 5 .any (Rows.traceTypesSpec.pre6 enc Try.prog Try.f5 Rows.traceTypesRow.domain false) (Rows.traceTypesSpec.post enc Try.prog Try.f5 false true false false) := by
  refine returnsInHanded_of_change_sized (C := Try.checked) own started (by kernel_rfl) Try.func5
    (ChangeSpec.witness6 (enc := enc) (C := Try.checked) false ⟨#[], #[.agg #[.int .i64 0, .int .i64 0], .int .i64 0, .bool false], []⟩ 8 (by kernel_rfl) (by kernel_rfl) (by kernel_rfl) (by kernel_rfl)) ?_
  intro W base args ds gs before hval0 hW _ _ _
  have hval : ∀ (j : Nat) t v, Try.f5.params[j]? = some t → args[j]? = some v → Value.okWide Try.prog W .any base t v := hval0
  have hW' := hW
  obtain ⟨p, q, hA0, hV, rfl, hfz, hnd⟩ := hW
  have hA : DataW.TrodAll enc Try.prog W 0 (fun _ => true) true Try.f5.params.toList args.toList ds p := hA0
  rw [Try.params5] at hA hval
  obtain ⟨v0, vs0, d0, ds0, p0, q0, hargs, rfl, rfl, h0, r0⟩ := trodAll_cons hA
  obtain ⟨v1, vs1, d1, ds1, p1, q1, rfl, rfl, rfl, h1, r1⟩ := trodAll_cons r0
  obtain ⟨v2, vs2, d2, ds2, p2, q2, rfl, rfl, rfl, h2, r2⟩ := trodAll_cons r1
  obtain ⟨rfl, rfl, rfl⟩ := trodAll_nil r2
  obtain rfl : args = #[v0, v1, v2] := by cases args; simp_all
  obtain ⟨rfl, rfl⟩ := trodVars_none hV
  have k0 := h0
  obtain ⟨va0, vb0, ya0, yb0, m0, rfl, hd0, hp0, ta0, tb0⟩ := Joins.open_agg2 Try.underlying56 (by kernel_rfl) (by kernel_rfl) (hval 0 56 v0 rfl rfl) h0
  obtain ⟨la0, ea0, _, _⟩ := DataW.trod_int Try.underlying3 ta0
  obtain ⟨lb0, eb0, _, _⟩ := DataW.trod_int Try.underlying3 tb0
  simp only [List.cons.injEq, and_true] at ea0 eb0
  subst ea0 eb0
  obtain ⟨a1, rfl, rfl, rfl, w1⟩ := open_int Try.underlying3 (hval 1 3 v1 rfl rfl) h1
  obtain ⟨a2, rfl, rfl, rfl⟩ := open_bool Try.underlying4 (hval 2 4 v2 rfl rfl) h2
  clear hA0 hval0
  simp only [List.append_nil, List.nil_append] at hW'
  have hlt : ∀ x ∈ p0, x.block < W.heap.size := fun x hx => by simpa using hW'.lt x hx
  refine (walk la0 lb0 a1 a2 W ).mono fun e W' ⟨he, hl⟩ => ?_
  subst he
  have hg := hl.grown
  have hbel : Below W.heap.size W W' := by obtain ⟨bs, nn, rfl⟩ := hl; exact ⟨rfl, rfl, rfl, by rw [World.far_size]; omega, fun k hk => World.far_block W bs nn k hk⟩
  have hx : ∀ sp : Nat → Bool, (∀ p ∈ p0, sp p.block = true) → DataW.TrodAll enc Try.prog W' 0 sp true [56, 3, 4] [.agg #[.int .i64 la0, .int .i64 lb0], .int .i64 a1, .bool a2] [d0, .lit (.int .i64 a1), .lit (.bool a2)] (p0) := fun sp hsp => by simpa using (trodAll_cons_mk (WideElems.Trod_stays (by kernel_rfl) (by kernel_rfl) (of_decide_eq_true (by kernel_rfl)) k0 (fun x hx => hbel.same (hlt x (by simp [hx]))) (fun x hx => hsp x (by simp [hx]))) (trodAll_cons_mk (shut_int Try.underlying3 w1) (trodAll_cons_mk (shut_bool Try.underlying4 _) trodAll_mk0)))
  exact ⟨_, rfl, post_of_same (pa := p0) (pv := []) hW' (fun _ _ _ => (trodAll_cons_mk (shut_bool Try.underlying4 _) trodAll_mk0)) (fun sp hsp => hx sp hsp) (fun _ _ => rfl) (by simp)
    (hg.frame _) hg.2.1 (ok_one (by kernel_rfl) rfl (okWide_bool_mk Try.underlying4 _))⟩

theorem over : Rows.traceTypesRow.holds Try.pinned (OpenSpec.ofChange Rows.traceTypesSpec) :=
  OpenClaim.holds_of_wide 5 Try.f5 rfl rfl rfl rfl rfl rfl rfl ⟨rfl, rfl, rfl, rfl, rfl⟩ rfl rfl rfl rfl rfl (by kernel_rfl) Try.func5 (by kernel_rfl)
    (of_decide_eq_true (by kernel_rfl)) (by unfold Func.isWrapper; first | (rw [if_pos (by decide +kernel)]; kernel_rfl) | (rw [if_neg (by decide +kernel)]; exact ⟨rfl, rfl⟩))
    (fun os started H enc _ => lifted os started H enc)


theorem proved : Rows.TraceTypesSaid := over
end Go.Proofs.Ytlckiipkndipiaa.traceTypes
namespace Go.Proofs.Ytlckiipkndipiaa
theorem traceTypes_holds : Rows.TraceTypesSaid := traceTypes.proved
#print axioms traceTypes_holds
end Go.Proofs.Ytlckiipkndipiaa
