/- Over this seat's translation: the document's Apply, walked. -/
import Derived.Test.YtdfgcagbpndabaaGreatDoorVF
set_option linter.unusedVariables false
set_option maxRecDepth 100000
set_option maxHeartbeats 1000000
namespace Go.Proofs.YtdfgcagbpndabaaGreatDoor
open Go.RowKit Go.AM
def RT1 (op p r : Int) : Prop := ∀ w : World, Calls Tryz.prog 8 #[.int .i64 op] w fun e w' => ∃ B C cap, e = .returned (tv B 1 cap C 0) ∧ Hid (Later w w') ∧ w.heap.size ≤ B ∧ w.heap.size ≤ C ∧ B ≠ C ∧ Hid (IntsAt w' B [p]) ∧ Hid (IntsAt w' C [r])
def RT2 (op p r : Int) : Prop := ∀ w : World, Calls Tryz.prog 8 #[.int .i64 op] w fun e w' => ∃ B C cap, e = .returned (tv B 2 cap C 0) ∧ Hid (Later w w') ∧ w.heap.size ≤ B ∧ w.heap.size ≤ C ∧ B ≠ C ∧ Hid (IntsAt w' B [p, p]) ∧ Hid (IntsAt w' C [r])
def MY (p x : Int) (b : Bool) : Prop := ∀ w' : World, Calls Tryz.prog 16 #[.agg #[.int .i64 p, .int .i64 x]] w' fun r w2 => r = .returned (.bool b) ∧ Later w' w2
def NM (w : World) (op : Int) (g o c cap : Nat) (v E : Int) : Prop := ∀ w', Later w w' → Calls Tryz.prog 25 #[.int .i64 op, .slice (some ⟨g, o, none⟩) c cap] w' fun r w2 => r = .returned (.tuple #[.int .i64 v, .int .i64 E]) ∧ Later w' w2
theorem rap1_ne (op p r t x : Int) (g o cap : Nat) (w : World) (c0 : w.cell? ⟨g, o, none⟩ = some (.int .i64 t)) (c1 : w.cell? ⟨g, o + 1, none⟩ = some (.int .i64 x)) (hne : ¬ t = p) (hg : g < w.heap.size) (hR : RT1 op p r) :
    RW Tryz.prog 10 #[.int .i64 op, .slice (some ⟨g, o, none⟩) 1 cap] w (.tuple #[.agg #[.int .i64 0, .int .i64 0], .int .i64 0, .int .i64 700]) := by
  go_enter Tryz.func10, Tryz.ntmps10
  go_wp2_with fail
  refine (hR _).mono ?_
  rintro e w1 ⟨B, C, cp, rfl, hl, hB0, hC0, hBC, hB, hC⟩
  obtain ⟨bs, n, rfl⟩ := past_of hl
  have d0 := hB.out.cell (j := 0) (x := p) rfl
  have dC := hC.out.cell (j := 0) (x := r) rfl
  have lB := hB.out.lt
  have lC := hC.out.lt
  clear hl hB0 hC0 hB hC
  go_wp2_with fail
  refine wp_loop_rounds 1 ?_
  rw [rounds_succ]
  go_wp2_with fail
  refine wp_region_quiet_far (by kernel_rfl) (by kernel_rfl) ?_
  repeat (quiet_step ((fail)))
  refine wpQuiet_nil ?_
  rintro _ ⟨⟨bs0, n0⟩, rfl⟩
  go_wp2
  refine bodyPost_ret (v := .tuple #[.agg #[.int .i64 0, .int .i64 0], .int .i64 0, .int .i64 700]) (by simp [results, Tryz.results10, go_sem]) rfl ⟨rfl, (by repeat first | exact Lz _ | apply La | apply Lp | apply Lv | apply Ln | apply Ld)⟩
theorem rap1_no (op p r x : Int) (g o cap : Nat) (w : World) (c0 : w.cell? ⟨g, o, none⟩ = some (.int .i64 p)) (c1 : w.cell? ⟨g, o + 1, none⟩ = some (.int .i64 x)) (hb : MY p x false) (hg : g < w.heap.size) (hR : RT1 op p r) :
    RW Tryz.prog 10 #[.int .i64 op, .slice (some ⟨g, o, none⟩) 1 cap] w (.tuple #[.agg #[.int .i64 0, .int .i64 0], .int .i64 0, .int .i64 700]) := by
  go_enter Tryz.func10, Tryz.ntmps10
  go_wp2_with fail
  refine (hR _).mono ?_
  rintro e w1 ⟨B, C, cp, rfl, hl, hB0, hC0, hBC, hB, hC⟩
  obtain ⟨bs, n, rfl⟩ := past_of hl
  have d0 := hB.out.cell (j := 0) (x := p) rfl
  have dC := hC.out.cell (j := 0) (x := r) rfl
  have lB := hB.out.lt
  have lC := hC.out.lt
  clear hl hB0 hC0 hB hC
  go_wp2_with fail
  refine wp_loop_rounds 1 ?_
  rw [rounds_succ]
  go_wp2_with fail
  refine wp_region_quiet_far (by kernel_rfl) (by kernel_rfl) ?_
  repeat (quiet_step ((go_at_call 16; exact Calls.far_of (hb _))))
  refine wpQuiet_nil ?_
  rintro _ ⟨⟨bs0, n0⟩, rfl⟩
  go_wp2
  refine bodyPost_ret (v := .tuple #[.agg #[.int .i64 0, .int .i64 0], .int .i64 0, .int .i64 700]) (by simp [results, Tryz.results10, go_sem]) rfl ⟨rfl, (by repeat first | exact Lz _ | apply La | apply Lp | apply Lv | apply Ln | apply Ld)⟩
theorem rap1_0 (op p r x v : Int) (g o cap : Nat) (w : World) (c0 : w.cell? ⟨g, o, none⟩ = some (.int .i64 p)) (c1 : w.cell? ⟨g, o + 1, none⟩ = some (.int .i64 x)) (hb : MY p x true) (hg : g < w.heap.size) (hR : RT1 op p r) (hW : NM w op g o 1 cap v 0) :
    RW Tryz.prog 10 #[.int .i64 op, .slice (some ⟨g, o, none⟩) 1 cap] w (.tuple #[.agg #[.int .i64 r, .int .i64 v], .int .i64 0, .int .i64 0]) := by
  go_enter Tryz.func10, Tryz.ntmps10
  go_wp2_with fail
  refine (hR _).mono ?_
  rintro e w1 ⟨B, C, cp, rfl, hl, hB0, hC0, hBC, hB, hC⟩
  obtain ⟨bs, n, rfl⟩ := past_of hl
  have d0 := hB.out.cell (j := 0) (x := p) rfl
  have dC := hC.out.cell (j := 0) (x := r) rfl
  have lB := hB.out.lt
  have lC := hC.out.lt
  clear hl hB0 hC0 hB hC
  go_wp2_with fail
  refine wp_loop_rounds 2 ?_
  rw [rounds_succ]
  go_wp2_with fail
  refine wp_region_quiet_far (by kernel_rfl) (by kernel_rfl) ?_
  repeat (quiet_step ((go_at_call 16; exact Calls.far_of (hb _))))
  refine wpQuiet_nil ?_
  rintro _ ⟨⟨bs0, n0⟩, rfl⟩
  go_wp2_with fail
  rw [rounds_succ]
  go_wp2_with fail
  refine (hW _ (by repeat first | exact Lz _ | apply La | apply Lp | apply Lv | apply Ln | apply Ld)).mono ?_
  rintro e w' ⟨rfl, bs9, n9, rfl⟩
  go_wp2
  refine bodyPost_ret (v := .tuple #[.agg #[.int .i64 r, .int .i64 v], .int .i64 0, .int .i64 0]) (by simp [results, Tryz.results10, go_sem]) rfl ⟨rfl, (by repeat first | exact Lz _ | apply La | apply Lp | apply Lv | apply Ln | apply Ld)⟩
theorem rap1_600 (op p r x v : Int) (g o cap : Nat) (w : World) (c0 : w.cell? ⟨g, o, none⟩ = some (.int .i64 p)) (c1 : w.cell? ⟨g, o + 1, none⟩ = some (.int .i64 x)) (hb : MY p x true) (hg : g < w.heap.size) (hR : RT1 op p r) (hW : NM w op g o 1 cap v 600) :
    RW Tryz.prog 10 #[.int .i64 op, .slice (some ⟨g, o, none⟩) 1 cap] w (.tuple #[.agg #[.int .i64 0, .int .i64 0], .int .i64 4, .int .i64 0]) := by
  go_enter Tryz.func10, Tryz.ntmps10
  go_wp2_with fail
  refine (hR _).mono ?_
  rintro e w1 ⟨B, C, cp, rfl, hl, hB0, hC0, hBC, hB, hC⟩
  obtain ⟨bs, n, rfl⟩ := past_of hl
  have d0 := hB.out.cell (j := 0) (x := p) rfl
  have dC := hC.out.cell (j := 0) (x := r) rfl
  have lB := hB.out.lt
  have lC := hC.out.lt
  clear hl hB0 hC0 hB hC
  go_wp2_with fail
  refine wp_loop_rounds 2 ?_
  rw [rounds_succ]
  go_wp2_with fail
  refine wp_region_quiet_far (by kernel_rfl) (by kernel_rfl) ?_
  repeat (quiet_step ((go_at_call 16; exact Calls.far_of (hb _))))
  refine wpQuiet_nil ?_
  rintro _ ⟨⟨bs0, n0⟩, rfl⟩
  go_wp2_with fail
  rw [rounds_succ]
  go_wp2_with fail
  refine (hW _ (by repeat first | exact Lz _ | apply La | apply Lp | apply Lv | apply Ln | apply Ld)).mono ?_
  rintro e w' ⟨rfl, bs9, n9, rfl⟩
  go_wp2
  refine bodyPost_ret (v := .tuple #[.agg #[.int .i64 0, .int .i64 0], .int .i64 4, .int .i64 0]) (by simp [results, Tryz.results10, go_sem]) rfl ⟨rfl, (by repeat first | exact Lz _ | apply La | apply Lp | apply Lv | apply Ln | apply Ld)⟩
theorem rap1_601 (op p r x v : Int) (g o cap : Nat) (w : World) (c0 : w.cell? ⟨g, o, none⟩ = some (.int .i64 p)) (c1 : w.cell? ⟨g, o + 1, none⟩ = some (.int .i64 x)) (hb : MY p x true) (hg : g < w.heap.size) (hR : RT1 op p r) (hW : NM w op g o 1 cap v 601) :
    RW Tryz.prog 10 #[.int .i64 op, .slice (some ⟨g, o, none⟩) 1 cap] w (.tuple #[.agg #[.int .i64 0, .int .i64 0], .int .i64 3, .int .i64 0]) := by
  go_enter Tryz.func10, Tryz.ntmps10
  go_wp2_with fail
  refine (hR _).mono ?_
  rintro e w1 ⟨B, C, cp, rfl, hl, hB0, hC0, hBC, hB, hC⟩
  obtain ⟨bs, n, rfl⟩ := past_of hl
  have d0 := hB.out.cell (j := 0) (x := p) rfl
  have dC := hC.out.cell (j := 0) (x := r) rfl
  have lB := hB.out.lt
  have lC := hC.out.lt
  clear hl hB0 hC0 hB hC
  go_wp2_with fail
  refine wp_loop_rounds 2 ?_
  rw [rounds_succ]
  go_wp2_with fail
  refine wp_region_quiet_far (by kernel_rfl) (by kernel_rfl) ?_
  repeat (quiet_step ((go_at_call 16; exact Calls.far_of (hb _))))
  refine wpQuiet_nil ?_
  rintro _ ⟨⟨bs0, n0⟩, rfl⟩
  go_wp2_with fail
  rw [rounds_succ]
  go_wp2_with fail
  refine (hW _ (by repeat first | exact Lz _ | apply La | apply Lp | apply Lv | apply Ln | apply Ld)).mono ?_
  rintro e w' ⟨rfl, bs9, n9, rfl⟩
  go_wp2
  refine bodyPost_ret (v := .tuple #[.agg #[.int .i64 0, .int .i64 0], .int .i64 3, .int .i64 0]) (by simp [results, Tryz.results10, go_sem]) rfl ⟨rfl, (by repeat first | exact Lz _ | apply La | apply Lp | apply Lv | apply Ln | apply Ld)⟩
theorem rap2_ne (op p r t x : Int) (g o cap : Nat) (w : World) (c0 : w.cell? ⟨g, o, none⟩ = some (.int .i64 t)) (c1 : w.cell? ⟨g, o + 1, none⟩ = some (.int .i64 x)) (hne : ¬ t = p) (hg : g < w.heap.size) (hR : RT2 op p r) :
    RW Tryz.prog 10 #[.int .i64 op, .slice (some ⟨g, o, none⟩) 2 cap] w (.tuple #[.agg #[.int .i64 0, .int .i64 0], .int .i64 0, .int .i64 700]) := by
  go_enter Tryz.func10, Tryz.ntmps10
  go_wp2_with fail
  refine (hR _).mono ?_
  rintro e w1 ⟨B, C, cp, rfl, hl, hB0, hC0, hBC, hB, hC⟩
  obtain ⟨bs, n, rfl⟩ := past_of hl
  have d0 := hB.out.cell (j := 0) (x := p) rfl
  have d1 := hB.out.cell (j := 1) (x := p) rfl
  have dC := hC.out.cell (j := 0) (x := r) rfl
  have lB := hB.out.lt
  have lC := hC.out.lt
  clear hl hB0 hC0 hB hC
  go_wp2_with fail
  refine wp_loop_rounds 1 ?_
  rw [rounds_succ]
  go_wp2_with fail
  refine wp_region_quiet_far (by kernel_rfl) (by kernel_rfl) ?_
  repeat (quiet_step ((fail)))
  refine wpQuiet_nil ?_
  rintro _ ⟨⟨bs0, n0⟩, rfl⟩
  go_wp2
  refine bodyPost_ret (v := .tuple #[.agg #[.int .i64 0, .int .i64 0], .int .i64 0, .int .i64 700]) (by simp [results, Tryz.results10, go_sem]) rfl ⟨rfl, (by repeat first | exact Lz _ | apply La | apply Lp | apply Lv | apply Ln | apply Ld)⟩
theorem rap2_no (op p r x : Int) (g o cap : Nat) (w : World) (c0 : w.cell? ⟨g, o, none⟩ = some (.int .i64 p)) (c1 : w.cell? ⟨g, o + 1, none⟩ = some (.int .i64 x)) (hb : MY p x false) (hg : g < w.heap.size) (hR : RT2 op p r) :
    RW Tryz.prog 10 #[.int .i64 op, .slice (some ⟨g, o, none⟩) 2 cap] w (.tuple #[.agg #[.int .i64 0, .int .i64 0], .int .i64 0, .int .i64 700]) := by
  go_enter Tryz.func10, Tryz.ntmps10
  go_wp2_with fail
  refine (hR _).mono ?_
  rintro e w1 ⟨B, C, cp, rfl, hl, hB0, hC0, hBC, hB, hC⟩
  obtain ⟨bs, n, rfl⟩ := past_of hl
  have d0 := hB.out.cell (j := 0) (x := p) rfl
  have d1 := hB.out.cell (j := 1) (x := p) rfl
  have dC := hC.out.cell (j := 0) (x := r) rfl
  have lB := hB.out.lt
  have lC := hC.out.lt
  clear hl hB0 hC0 hB hC
  go_wp2_with fail
  refine wp_loop_rounds 1 ?_
  rw [rounds_succ]
  go_wp2_with fail
  refine wp_region_quiet_far (by kernel_rfl) (by kernel_rfl) ?_
  repeat (quiet_step ((go_at_call 16; exact Calls.far_of (hb _))))
  refine wpQuiet_nil ?_
  rintro _ ⟨⟨bs0, n0⟩, rfl⟩
  go_wp2
  refine bodyPost_ret (v := .tuple #[.agg #[.int .i64 0, .int .i64 0], .int .i64 0, .int .i64 700]) (by simp [results, Tryz.results10, go_sem]) rfl ⟨rfl, (by repeat first | exact Lz _ | apply La | apply Lp | apply Lv | apply Ln | apply Ld)⟩
theorem rap2_ne2 (op p r x t y : Int) (g o cap : Nat) (w : World) (c0 : w.cell? ⟨g, o, none⟩ = some (.int .i64 p)) (c1 : w.cell? ⟨g, o + 1, none⟩ = some (.int .i64 x)) (hb : MY p x true) (c2 : w.cell? ⟨g, o + 2, none⟩ = some (.int .i64 t)) (c3 : w.cell? ⟨g, o + 2 + 1, none⟩ = some (.int .i64 y)) (hne : ¬ t = p) (hg : g < w.heap.size) (hR : RT2 op p r) :
    RW Tryz.prog 10 #[.int .i64 op, .slice (some ⟨g, o, none⟩) 2 cap] w (.tuple #[.agg #[.int .i64 0, .int .i64 0], .int .i64 0, .int .i64 700]) := by
  have c3b : w.cell? ⟨g, o + 3, none⟩ = some (.int .i64 y) := c3
  go_enter Tryz.func10, Tryz.ntmps10
  go_wp2_with fail
  refine (hR _).mono ?_
  rintro e w1 ⟨B, C, cp, rfl, hl, hB0, hC0, hBC, hB, hC⟩
  obtain ⟨bs, n, rfl⟩ := past_of hl
  have d0 := hB.out.cell (j := 0) (x := p) rfl
  have d1 := hB.out.cell (j := 1) (x := p) rfl
  have dC := hC.out.cell (j := 0) (x := r) rfl
  have lB := hB.out.lt
  have lC := hC.out.lt
  clear hl hB0 hC0 hB hC
  go_wp2_with fail
  refine wp_loop_rounds 2 ?_
  rw [rounds_succ]
  go_wp2_with fail
  refine wp_region_quiet_far (by kernel_rfl) (by kernel_rfl) ?_
  repeat (quiet_step ((go_at_call 16; exact Calls.far_of (hb _))))
  refine wpQuiet_nil ?_
  rintro _ ⟨⟨bs0, n0⟩, rfl⟩
  go_wp2_with fail
  rw [rounds_succ]
  go_wp2_with fail
  refine wp_region_quiet_far2 (by kernel_rfl) (by kernel_rfl) ?_
  repeat (quiet_step ((fail)))
  refine wpQuiet_nil ?_
  rintro _ ⟨⟨bs1, n1⟩, rfl⟩
  go_wp2
  refine bodyPost_ret (v := .tuple #[.agg #[.int .i64 0, .int .i64 0], .int .i64 0, .int .i64 700]) (by simp [results, Tryz.results10, go_sem]) rfl ⟨rfl, (by repeat first | exact Lz _ | apply La | apply Lp | apply Lv | apply Ln | apply Ld)⟩
theorem rap2_no2 (op p r x y : Int) (g o cap : Nat) (w : World) (c0 : w.cell? ⟨g, o, none⟩ = some (.int .i64 p)) (c1 : w.cell? ⟨g, o + 1, none⟩ = some (.int .i64 x)) (hb : MY p x true) (c2 : w.cell? ⟨g, o + 2, none⟩ = some (.int .i64 p)) (c3 : w.cell? ⟨g, o + 2 + 1, none⟩ = some (.int .i64 y)) (hb2 : MY p y false) (hg : g < w.heap.size) (hR : RT2 op p r) :
    RW Tryz.prog 10 #[.int .i64 op, .slice (some ⟨g, o, none⟩) 2 cap] w (.tuple #[.agg #[.int .i64 0, .int .i64 0], .int .i64 0, .int .i64 700]) := by
  have c3b : w.cell? ⟨g, o + 3, none⟩ = some (.int .i64 y) := c3
  go_enter Tryz.func10, Tryz.ntmps10
  go_wp2_with fail
  refine (hR _).mono ?_
  rintro e w1 ⟨B, C, cp, rfl, hl, hB0, hC0, hBC, hB, hC⟩
  obtain ⟨bs, n, rfl⟩ := past_of hl
  have d0 := hB.out.cell (j := 0) (x := p) rfl
  have d1 := hB.out.cell (j := 1) (x := p) rfl
  have dC := hC.out.cell (j := 0) (x := r) rfl
  have lB := hB.out.lt
  have lC := hC.out.lt
  clear hl hB0 hC0 hB hC
  go_wp2_with fail
  refine wp_loop_rounds 2 ?_
  rw [rounds_succ]
  go_wp2_with fail
  refine wp_region_quiet_far (by kernel_rfl) (by kernel_rfl) ?_
  repeat (quiet_step ((go_at_call 16; exact Calls.far_of (hb _))))
  refine wpQuiet_nil ?_
  rintro _ ⟨⟨bs0, n0⟩, rfl⟩
  go_wp2_with fail
  rw [rounds_succ]
  go_wp2_with fail
  refine wp_region_quiet_far2 (by kernel_rfl) (by kernel_rfl) ?_
  repeat (quiet_step ((go_at_call 16; exact Calls.far_of (hb2 _))))
  refine wpQuiet_nil ?_
  rintro _ ⟨⟨bs1, n1⟩, rfl⟩
  go_wp2
  refine bodyPost_ret (v := .tuple #[.agg #[.int .i64 0, .int .i64 0], .int .i64 0, .int .i64 700]) (by simp [results, Tryz.results10, go_sem]) rfl ⟨rfl, (by repeat first | exact Lz _ | apply La | apply Lp | apply Lv | apply Ln | apply Ld)⟩
theorem rap2_0 (op p r x y v : Int) (g o cap : Nat) (w : World) (c0 : w.cell? ⟨g, o, none⟩ = some (.int .i64 p)) (c1 : w.cell? ⟨g, o + 1, none⟩ = some (.int .i64 x)) (hb : MY p x true) (c2 : w.cell? ⟨g, o + 2, none⟩ = some (.int .i64 p)) (c3 : w.cell? ⟨g, o + 2 + 1, none⟩ = some (.int .i64 y)) (hb2 : MY p y true) (hg : g < w.heap.size) (hR : RT2 op p r) (hW : NM w op g o 2 cap v 0) :
    RW Tryz.prog 10 #[.int .i64 op, .slice (some ⟨g, o, none⟩) 2 cap] w (.tuple #[.agg #[.int .i64 r, .int .i64 v], .int .i64 0, .int .i64 0]) := by
  have c3b : w.cell? ⟨g, o + 3, none⟩ = some (.int .i64 y) := c3
  go_enter Tryz.func10, Tryz.ntmps10
  go_wp2_with fail
  refine (hR _).mono ?_
  rintro e w1 ⟨B, C, cp, rfl, hl, hB0, hC0, hBC, hB, hC⟩
  obtain ⟨bs, n, rfl⟩ := past_of hl
  have d0 := hB.out.cell (j := 0) (x := p) rfl
  have d1 := hB.out.cell (j := 1) (x := p) rfl
  have dC := hC.out.cell (j := 0) (x := r) rfl
  have lB := hB.out.lt
  have lC := hC.out.lt
  clear hl hB0 hC0 hB hC
  go_wp2_with fail
  refine wp_loop_rounds 3 ?_
  rw [rounds_succ]
  go_wp2_with fail
  refine wp_region_quiet_far (by kernel_rfl) (by kernel_rfl) ?_
  repeat (quiet_step ((go_at_call 16; exact Calls.far_of (hb _))))
  refine wpQuiet_nil ?_
  rintro _ ⟨⟨bs0, n0⟩, rfl⟩
  go_wp2_with fail
  rw [rounds_succ]
  go_wp2_with fail
  refine wp_region_quiet_far2 (by kernel_rfl) (by kernel_rfl) ?_
  repeat (quiet_step ((go_at_call 16; exact Calls.far_of (hb2 _))))
  refine wpQuiet_nil ?_
  rintro _ ⟨⟨bs1, n1⟩, rfl⟩
  go_wp2_with fail
  rw [rounds_succ]
  go_wp2_with fail
  refine (hW _ (by repeat first | exact Lz _ | apply La | apply Lp | apply Lv | apply Ln | apply Ld)).mono ?_
  rintro e w' ⟨rfl, bs9, n9, rfl⟩
  go_wp2
  refine bodyPost_ret (v := .tuple #[.agg #[.int .i64 r, .int .i64 v], .int .i64 0, .int .i64 0]) (by simp [results, Tryz.results10, go_sem]) rfl ⟨rfl, (by repeat first | exact Lz _ | apply La | apply Lp | apply Lv | apply Ln | apply Ld)⟩
theorem rap2_201 (op p r x y v : Int) (g o cap : Nat) (w : World) (c0 : w.cell? ⟨g, o, none⟩ = some (.int .i64 p)) (c1 : w.cell? ⟨g, o + 1, none⟩ = some (.int .i64 x)) (hb : MY p x true) (c2 : w.cell? ⟨g, o + 2, none⟩ = some (.int .i64 p)) (c3 : w.cell? ⟨g, o + 2 + 1, none⟩ = some (.int .i64 y)) (hb2 : MY p y true) (hg : g < w.heap.size) (hR : RT2 op p r) (hW : NM w op g o 2 cap v 201) :
    RW Tryz.prog 10 #[.int .i64 op, .slice (some ⟨g, o, none⟩) 2 cap] w (.tuple #[.agg #[.int .i64 0, .int .i64 0], .int .i64 2, .int .i64 0]) := by
  have c3b : w.cell? ⟨g, o + 3, none⟩ = some (.int .i64 y) := c3
  go_enter Tryz.func10, Tryz.ntmps10
  go_wp2_with fail
  refine (hR _).mono ?_
  rintro e w1 ⟨B, C, cp, rfl, hl, hB0, hC0, hBC, hB, hC⟩
  obtain ⟨bs, n, rfl⟩ := past_of hl
  have d0 := hB.out.cell (j := 0) (x := p) rfl
  have d1 := hB.out.cell (j := 1) (x := p) rfl
  have dC := hC.out.cell (j := 0) (x := r) rfl
  have lB := hB.out.lt
  have lC := hC.out.lt
  clear hl hB0 hC0 hB hC
  go_wp2_with fail
  refine wp_loop_rounds 3 ?_
  rw [rounds_succ]
  go_wp2_with fail
  refine wp_region_quiet_far (by kernel_rfl) (by kernel_rfl) ?_
  repeat (quiet_step ((go_at_call 16; exact Calls.far_of (hb _))))
  refine wpQuiet_nil ?_
  rintro _ ⟨⟨bs0, n0⟩, rfl⟩
  go_wp2_with fail
  rw [rounds_succ]
  go_wp2_with fail
  refine wp_region_quiet_far2 (by kernel_rfl) (by kernel_rfl) ?_
  repeat (quiet_step ((go_at_call 16; exact Calls.far_of (hb2 _))))
  refine wpQuiet_nil ?_
  rintro _ ⟨⟨bs1, n1⟩, rfl⟩
  go_wp2_with fail
  rw [rounds_succ]
  go_wp2_with fail
  refine (hW _ (by repeat first | exact Lz _ | apply La | apply Lp | apply Lv | apply Ln | apply Ld)).mono ?_
  rintro e w' ⟨rfl, bs9, n9, rfl⟩
  go_wp2
  refine bodyPost_ret (v := .tuple #[.agg #[.int .i64 0, .int .i64 0], .int .i64 2, .int .i64 0]) (by simp [results, Tryz.results10, go_sem]) rfl ⟨rfl, (by repeat first | exact Lz _ | apply La | apply Lp | apply Lv | apply Ln | apply Ld)⟩
theorem rap2_202 (op p r x y v : Int) (g o cap : Nat) (w : World) (c0 : w.cell? ⟨g, o, none⟩ = some (.int .i64 p)) (c1 : w.cell? ⟨g, o + 1, none⟩ = some (.int .i64 x)) (hb : MY p x true) (c2 : w.cell? ⟨g, o + 2, none⟩ = some (.int .i64 p)) (c3 : w.cell? ⟨g, o + 2 + 1, none⟩ = some (.int .i64 y)) (hb2 : MY p y true) (hg : g < w.heap.size) (hR : RT2 op p r) (hW : NM w op g o 2 cap v 202) :
    RW Tryz.prog 10 #[.int .i64 op, .slice (some ⟨g, o, none⟩) 2 cap] w (.tuple #[.agg #[.int .i64 0, .int .i64 0], .int .i64 3, .int .i64 0]) := by
  have c3b : w.cell? ⟨g, o + 3, none⟩ = some (.int .i64 y) := c3
  go_enter Tryz.func10, Tryz.ntmps10
  go_wp2_with fail
  refine (hR _).mono ?_
  rintro e w1 ⟨B, C, cp, rfl, hl, hB0, hC0, hBC, hB, hC⟩
  obtain ⟨bs, n, rfl⟩ := past_of hl
  have d0 := hB.out.cell (j := 0) (x := p) rfl
  have d1 := hB.out.cell (j := 1) (x := p) rfl
  have dC := hC.out.cell (j := 0) (x := r) rfl
  have lB := hB.out.lt
  have lC := hC.out.lt
  clear hl hB0 hC0 hB hC
  go_wp2_with fail
  refine wp_loop_rounds 3 ?_
  rw [rounds_succ]
  go_wp2_with fail
  refine wp_region_quiet_far (by kernel_rfl) (by kernel_rfl) ?_
  repeat (quiet_step ((go_at_call 16; exact Calls.far_of (hb _))))
  refine wpQuiet_nil ?_
  rintro _ ⟨⟨bs0, n0⟩, rfl⟩
  go_wp2_with fail
  rw [rounds_succ]
  go_wp2_with fail
  refine wp_region_quiet_far2 (by kernel_rfl) (by kernel_rfl) ?_
  repeat (quiet_step ((go_at_call 16; exact Calls.far_of (hb2 _))))
  refine wpQuiet_nil ?_
  rintro _ ⟨⟨bs1, n1⟩, rfl⟩
  go_wp2_with fail
  rw [rounds_succ]
  go_wp2_with fail
  refine (hW _ (by repeat first | exact Lz _ | apply La | apply Lp | apply Lv | apply Ln | apply Ld)).mono ?_
  rintro e w' ⟨rfl, bs9, n9, rfl⟩
  go_wp2
  refine bodyPost_ret (v := .tuple #[.agg #[.int .i64 0, .int .i64 0], .int .i64 3, .int .i64 0]) (by simp [results, Tryz.results10, go_sem]) rfl ⟨rfl, (by repeat first | exact Lz _ | apply La | apply Lp | apply Lv | apply Ln | apply Ld)⟩
theorem rap2_301 (op p r x y v : Int) (g o cap : Nat) (w : World) (c0 : w.cell? ⟨g, o, none⟩ = some (.int .i64 p)) (c1 : w.cell? ⟨g, o + 1, none⟩ = some (.int .i64 x)) (hb : MY p x true) (c2 : w.cell? ⟨g, o + 2, none⟩ = some (.int .i64 p)) (c3 : w.cell? ⟨g, o + 2 + 1, none⟩ = some (.int .i64 y)) (hb2 : MY p y true) (hg : g < w.heap.size) (hR : RT2 op p r) (hW : NM w op g o 2 cap v 301) :
    RW Tryz.prog 10 #[.int .i64 op, .slice (some ⟨g, o, none⟩) 2 cap] w (.tuple #[.agg #[.int .i64 0, .int .i64 0], .int .i64 2, .int .i64 0]) := by
  have c3b : w.cell? ⟨g, o + 3, none⟩ = some (.int .i64 y) := c3
  go_enter Tryz.func10, Tryz.ntmps10
  go_wp2_with fail
  refine (hR _).mono ?_
  rintro e w1 ⟨B, C, cp, rfl, hl, hB0, hC0, hBC, hB, hC⟩
  obtain ⟨bs, n, rfl⟩ := past_of hl
  have d0 := hB.out.cell (j := 0) (x := p) rfl
  have d1 := hB.out.cell (j := 1) (x := p) rfl
  have dC := hC.out.cell (j := 0) (x := r) rfl
  have lB := hB.out.lt
  have lC := hC.out.lt
  clear hl hB0 hC0 hB hC
  go_wp2_with fail
  refine wp_loop_rounds 3 ?_
  rw [rounds_succ]
  go_wp2_with fail
  refine wp_region_quiet_far (by kernel_rfl) (by kernel_rfl) ?_
  repeat (quiet_step ((go_at_call 16; exact Calls.far_of (hb _))))
  refine wpQuiet_nil ?_
  rintro _ ⟨⟨bs0, n0⟩, rfl⟩
  go_wp2_with fail
  rw [rounds_succ]
  go_wp2_with fail
  refine wp_region_quiet_far2 (by kernel_rfl) (by kernel_rfl) ?_
  repeat (quiet_step ((go_at_call 16; exact Calls.far_of (hb2 _))))
  refine wpQuiet_nil ?_
  rintro _ ⟨⟨bs1, n1⟩, rfl⟩
  go_wp2_with fail
  rw [rounds_succ]
  go_wp2_with fail
  refine (hW _ (by repeat first | exact Lz _ | apply La | apply Lp | apply Lv | apply Ln | apply Ld)).mono ?_
  rintro e w' ⟨rfl, bs9, n9, rfl⟩
  go_wp2
  refine bodyPost_ret (v := .tuple #[.agg #[.int .i64 0, .int .i64 0], .int .i64 2, .int .i64 0]) (by simp [results, Tryz.results10, go_sem]) rfl ⟨rfl, (by repeat first | exact Lz _ | apply La | apply Lp | apply Lv | apply Ln | apply Ld)⟩
theorem rap2_302 (op p r x y v : Int) (g o cap : Nat) (w : World) (c0 : w.cell? ⟨g, o, none⟩ = some (.int .i64 p)) (c1 : w.cell? ⟨g, o + 1, none⟩ = some (.int .i64 x)) (hb : MY p x true) (c2 : w.cell? ⟨g, o + 2, none⟩ = some (.int .i64 p)) (c3 : w.cell? ⟨g, o + 2 + 1, none⟩ = some (.int .i64 y)) (hb2 : MY p y true) (hg : g < w.heap.size) (hR : RT2 op p r) (hW : NM w op g o 2 cap v 302) :
    RW Tryz.prog 10 #[.int .i64 op, .slice (some ⟨g, o, none⟩) 2 cap] w (.tuple #[.agg #[.int .i64 0, .int .i64 0], .int .i64 3, .int .i64 0]) := by
  have c3b : w.cell? ⟨g, o + 3, none⟩ = some (.int .i64 y) := c3
  go_enter Tryz.func10, Tryz.ntmps10
  go_wp2_with fail
  refine (hR _).mono ?_
  rintro e w1 ⟨B, C, cp, rfl, hl, hB0, hC0, hBC, hB, hC⟩
  obtain ⟨bs, n, rfl⟩ := past_of hl
  have d0 := hB.out.cell (j := 0) (x := p) rfl
  have d1 := hB.out.cell (j := 1) (x := p) rfl
  have dC := hC.out.cell (j := 0) (x := r) rfl
  have lB := hB.out.lt
  have lC := hC.out.lt
  clear hl hB0 hC0 hB hC
  go_wp2_with fail
  refine wp_loop_rounds 3 ?_
  rw [rounds_succ]
  go_wp2_with fail
  refine wp_region_quiet_far (by kernel_rfl) (by kernel_rfl) ?_
  repeat (quiet_step ((go_at_call 16; exact Calls.far_of (hb _))))
  refine wpQuiet_nil ?_
  rintro _ ⟨⟨bs0, n0⟩, rfl⟩
  go_wp2_with fail
  rw [rounds_succ]
  go_wp2_with fail
  refine wp_region_quiet_far2 (by kernel_rfl) (by kernel_rfl) ?_
  repeat (quiet_step ((go_at_call 16; exact Calls.far_of (hb2 _))))
  refine wpQuiet_nil ?_
  rintro _ ⟨⟨bs1, n1⟩, rfl⟩
  go_wp2_with fail
  rw [rounds_succ]
  go_wp2_with fail
  refine (hW _ (by repeat first | exact Lz _ | apply La | apply Lp | apply Lv | apply Ln | apply Ld)).mono ?_
  rintro e w' ⟨rfl, bs9, n9, rfl⟩
  go_wp2
  refine bodyPost_ret (v := .tuple #[.agg #[.int .i64 0, .int .i64 0], .int .i64 3, .int .i64 0]) (by simp [results, Tryz.results10, go_sem]) rfl ⟨rfl, (by repeat first | exact Lz _ | apply La | apply Lp | apply Lv | apply Ln | apply Ld)⟩
theorem rap_bad (op : Int) (V : Value) (h : ¬ (69 ≤ op ∧ op ≤ 191)) (w : World) :
    RW Tryz.prog 10 #[.int .i64 op, V] w (.tuple #[.agg #[.int .i64 0, .int .i64 0], .int .i64 0, .int .i64 700]) := by
  have hR : RL Tryz.prog 8 #[.int .i64 op] tv0 := rtype_bad op h
  clear h
  go_enter Tryz.func10, Tryz.ntmps10
  go_wp2_with (go_at_call 8; refine (hR.out _).mono ?_; rintro e w' ⟨rfl, bs, n, rfl⟩)
  refine bodyPost_ret (v := .tuple #[.agg #[.int .i64 0, .int .i64 0], .int .i64 0, .int .i64 700]) (by simp [results, Tryz.results10, go_sem]) rfl ⟨rfl, (by repeat first | exact Lz _ | apply La | apply Lp | apply Lv | apply Ln | apply Ld)⟩
theorem rap1_len (op p r : Int) (ad : Option Addr) (len cap : Nat) (h : ¬ (len : Int) = 1) (w : World) (hR : RT1 op p r) :
    RW Tryz.prog 10 #[.int .i64 op, .slice ad len cap] w (.tuple #[.agg #[.int .i64 0, .int .i64 0], .int .i64 0, .int .i64 700]) := by
  have h1 : ((len : Int) != 1) = true := by simpa using h
  have h2 : ¬ len = 1 := by omega
  go_enter Tryz.func10, Tryz.ntmps10
  go_wp2_with fail
  refine (hR _).mono ?_
  rintro e w1 ⟨B, C, cp, rfl, hl, hB0, hC0, hBC, hB, hC⟩
  obtain ⟨bs, n, rfl⟩ := past_of hl
  clear hl hB0 hC0 hB hC
  go_wp2
  refine bodyPost_ret (v := .tuple #[.agg #[.int .i64 0, .int .i64 0], .int .i64 0, .int .i64 700]) (by simp [results, Tryz.results10, go_sem]) rfl ⟨rfl, (by repeat first | exact Lz _ | apply La | apply Lp | apply Lv | apply Ln | apply Ld)⟩
theorem rap2_len (op p r : Int) (ad : Option Addr) (len cap : Nat) (h : ¬ (len : Int) = 2) (w : World) (hR : RT2 op p r) :
    RW Tryz.prog 10 #[.int .i64 op, .slice ad len cap] w (.tuple #[.agg #[.int .i64 0, .int .i64 0], .int .i64 0, .int .i64 700]) := by
  have h1 : ((len : Int) != 2) = true := by simpa using h
  have h2 : ¬ len = 2 := by omega
  go_enter Tryz.func10, Tryz.ntmps10
  go_wp2_with fail
  refine (hR _).mono ?_
  rintro e w1 ⟨B, C, cp, rfl, hl, hB0, hC0, hBC, hB, hC⟩
  obtain ⟨bs, n, rfl⟩ := past_of hl
  clear hl hB0 hC0 hB hC
  go_wp2
  refine bodyPost_ret (v := .tuple #[.agg #[.int .i64 0, .int .i64 0], .int .i64 0, .int .i64 700]) (by simp [results, Tryz.results10, go_sem]) rfl ⟨rfl, (by repeat first | exact Lz _ | apply La | apply Lp | apply Lv | apply Ln | apply Ld)⟩
end Go.Proofs.YtdfgcagbpndabaaGreatDoor
