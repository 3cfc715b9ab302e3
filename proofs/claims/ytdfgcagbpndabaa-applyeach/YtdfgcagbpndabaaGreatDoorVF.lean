/- Over this seat's translation: what the document makes of an operation and values. -/
import Derived.Test.YtdfgcagbpndabaaGreatDoorVE
import Derived.Test.YtdfgcagbpndabaaGreatDoorZI3R
import Derived.Test.YtdfgcagbpndabaaGreatDoorZI6R
import Derived.Test.YtdfgcagbpndabaaGreatDoorZSL
import Derived.Test.YtdfgcagbpndabaaGreatDoorZDL
import Derived.Test.YtdfgcagbpndabaaGreatDoorZX
set_option linter.unusedVariables false
set_option maxRecDepth 100000
namespace Go.Proofs.YtdfgcagbpndabaaGreatDoor
open Go.RowKit Go.AM
theorem num_conv (op p x v e : Int) (g o cap : Nat) (ho : 167 ≤ op) (w : World) (c0 : w.cell? ⟨g, o, none⟩ = some (.int .i64 p)) (c1 : w.cell? ⟨g, o + 1, none⟩ = some (.int .i64 x)) (hg : g < w.heap.size) (hc : Hid (∀ w', Later w w' → Calls Tryz.prog 36 #[.int .i64 op, .int .i64 x] w' fun r w2 => r = .returned (.tuple #[.int .i64 v, .int .i64 e]) ∧ Later w' w2)) :
    Calls Tryz.prog 25 #[.int .i64 op, .slice (some ⟨g, o, none⟩) 1 cap] w fun r w' => r = .returned (.tuple #[.int .i64 v, .int .i64 e]) ∧ Later w w' := by
  go_enter Tryz.func25, Tryz.ntmps25
  go_wp2_with (go_at_call 36; refine (hc.out _ (by repeat first | exact Lz _ | apply La | apply Lv | apply Ln | apply Ld)).mono ?_; rintro e w' ⟨rfl, bs, n, rfl⟩)
  go_ret2
  exact ⟨rfl, (by repeat first | exact Lz _ | apply La | apply Lv | apply Ln | apply Ld)⟩
theorem num_one127 (op x v e : Int) (g o cap : Nat) (ho : op ≤ 166) (w : World) (c0 : w.cell? ⟨g, o, none⟩ = some (.int .i64 127)) (c1 : w.cell? ⟨g, o + 1, none⟩ = some (.int .i64 x)) (hg : g < w.heap.size) (hc : Hid (∀ w', Later w w' → Calls Tryz.prog 37 #[.int .i64 op, .int .i64 x] w' fun r w2 => r = .returned (.tuple #[.int .i64 v, .int .i64 e]) ∧ Later w' w2)) :
    Calls Tryz.prog 25 #[.int .i64 op, .slice (some ⟨g, o, none⟩) 1 cap] w fun r w' => r = .returned (.tuple #[.int .i64 v, .int .i64 e]) ∧ Later w w' := by
  go_enter Tryz.func25, Tryz.ntmps25
  go_wp2_with (go_at_call 37; refine (hc.out _ (by repeat first | exact Lz _ | apply La | apply Lv | apply Ln | apply Ld)).mono ?_; rintro e w' ⟨rfl, bs, n, rfl⟩)
  go_ret2
  exact ⟨rfl, (by repeat first | exact Lz _ | apply La | apply Lv | apply Ln | apply Ld)⟩
theorem num_two127 (op x y v e : Int) (g o cap : Nat) (ho : op ≤ 166) (w : World) (c0 : w.cell? ⟨g, o, none⟩ = some (.int .i64 127)) (c1 : w.cell? ⟨g, o + 1, none⟩ = some (.int .i64 x)) (c3 : w.cell? ⟨g, o + 2 + 1, none⟩ = some (.int .i64 y)) (hg : g < w.heap.size) (hc : Hid (∀ w', Later w w' → Calls Tryz.prog 38 #[.int .i64 op, .int .i64 x, .int .i64 y] w' fun r w2 => r = .returned (.tuple #[.int .i64 v, .int .i64 e]) ∧ Later w' w2)) :
    Calls Tryz.prog 25 #[.int .i64 op, .slice (some ⟨g, o, none⟩) 2 cap] w fun r w' => r = .returned (.tuple #[.int .i64 v, .int .i64 e]) ∧ Later w w' := by
  go_enter Tryz.func25, Tryz.ntmps25
  go_wp2_with (go_at_call 38; refine (hc.out _ (by repeat first | exact Lz _ | apply La | apply Lv | apply Ln | apply Ld)).mono ?_; rintro e w' ⟨rfl, bs, n, rfl⟩)
  go_ret2
  exact ⟨rfl, (by repeat first | exact Lz _ | apply La | apply Lv | apply Ln | apply Ld)⟩
theorem num_one126 (op x v e : Int) (g o cap : Nat) (ho : op ≤ 166) (w : World) (c0 : w.cell? ⟨g, o, none⟩ = some (.int .i64 126)) (c1 : w.cell? ⟨g, o + 1, none⟩ = some (.int .i64 x)) (hg : g < w.heap.size) (hc : Hid (∀ w', Later w w' → Calls Tryz.prog 39 #[.int .i64 op, .int .i64 x] w' fun r w2 => r = .returned (.tuple #[.int .i64 v, .int .i64 e]) ∧ Later w' w2)) :
    Calls Tryz.prog 25 #[.int .i64 op, .slice (some ⟨g, o, none⟩) 1 cap] w fun r w' => r = .returned (.tuple #[.int .i64 v, .int .i64 e]) ∧ Later w w' := by
  go_enter Tryz.func25, Tryz.ntmps25
  go_wp2_with (go_at_call 39; refine (hc.out _ (by repeat first | exact Lz _ | apply La | apply Lv | apply Ln | apply Ld)).mono ?_; rintro e w' ⟨rfl, bs, n, rfl⟩)
  go_ret2
  exact ⟨rfl, (by repeat first | exact Lz _ | apply La | apply Lv | apply Ln | apply Ld)⟩
theorem num_two126 (op x y v e : Int) (g o cap : Nat) (ho : op ≤ 166) (w : World) (c0 : w.cell? ⟨g, o, none⟩ = some (.int .i64 126)) (c1 : w.cell? ⟨g, o + 1, none⟩ = some (.int .i64 x)) (c3 : w.cell? ⟨g, o + 2 + 1, none⟩ = some (.int .i64 y)) (hg : g < w.heap.size) (hc : Hid (∀ w', Later w w' → Calls Tryz.prog 40 #[.int .i64 op, .int .i64 x, .int .i64 y] w' fun r w2 => r = .returned (.tuple #[.int .i64 v, .int .i64 e]) ∧ Later w' w2)) :
    Calls Tryz.prog 25 #[.int .i64 op, .slice (some ⟨g, o, none⟩) 2 cap] w fun r w' => r = .returned (.tuple #[.int .i64 v, .int .i64 e]) ∧ Later w w' := by
  go_enter Tryz.func25, Tryz.ntmps25
  go_wp2_with (go_at_call 40; refine (hc.out _ (by repeat first | exact Lz _ | apply La | apply Lv | apply Ln | apply Ld)).mono ?_; rintro e w' ⟨rfl, bs, n, rfl⟩)
  go_ret2
  exact ⟨rfl, (by repeat first | exact Lz _ | apply La | apply Lv | apply Ln | apply Ld)⟩
theorem num_one125 (op x v e : Int) (g o cap : Nat) (ho : op ≤ 166) (w : World) (c0 : w.cell? ⟨g, o, none⟩ = some (.int .i64 125)) (c1 : w.cell? ⟨g, o + 1, none⟩ = some (.int .i64 x)) (hg : g < w.heap.size) (hc : Hid (∀ w', Later w w' → Calls Tryz.prog 41 #[.int .i64 op, .int .i64 x] w' fun r w2 => r = .returned (.tuple #[.int .i64 v, .int .i64 e]) ∧ Later w' w2)) :
    Calls Tryz.prog 25 #[.int .i64 op, .slice (some ⟨g, o, none⟩) 1 cap] w fun r w' => r = .returned (.tuple #[.int .i64 v, .int .i64 e]) ∧ Later w w' := by
  go_enter Tryz.func25, Tryz.ntmps25
  go_wp2_with (go_at_call 41; refine (hc.out _ (by repeat first | exact Lz _ | apply La | apply Lv | apply Ln | apply Ld)).mono ?_; rintro e w' ⟨rfl, bs, n, rfl⟩)
  go_ret2
  exact ⟨rfl, (by repeat first | exact Lz _ | apply La | apply Lv | apply Ln | apply Ld)⟩
theorem num_two125 (op x y v e : Int) (g o cap : Nat) (ho : op ≤ 166) (w : World) (c0 : w.cell? ⟨g, o, none⟩ = some (.int .i64 125)) (c1 : w.cell? ⟨g, o + 1, none⟩ = some (.int .i64 x)) (c3 : w.cell? ⟨g, o + 2 + 1, none⟩ = some (.int .i64 y)) (hg : g < w.heap.size) (hc : Hid (∀ w', Later w w' → Calls Tryz.prog 42 #[.int .i64 op, .int .i64 x, .int .i64 y] w' fun r w2 => r = .returned (.tuple #[.int .i64 v, .int .i64 e]) ∧ Later w' w2)) :
    Calls Tryz.prog 25 #[.int .i64 op, .slice (some ⟨g, o, none⟩) 2 cap] w fun r w' => r = .returned (.tuple #[.int .i64 v, .int .i64 e]) ∧ Later w w' := by
  go_enter Tryz.func25, Tryz.ntmps25
  go_wp2_with (go_at_call 42; refine (hc.out _ (by repeat first | exact Lz _ | apply La | apply Lv | apply Ln | apply Ld)).mono ?_; rintro e w' ⟨rfl, bs, n, rfl⟩)
  go_ret2
  exact ⟨rfl, (by repeat first | exact Lz _ | apply La | apply Lv | apply Ln | apply Ld)⟩
theorem num_one124 (op x v e : Int) (g o cap : Nat) (ho : op ≤ 166) (w : World) (c0 : w.cell? ⟨g, o, none⟩ = some (.int .i64 124)) (c1 : w.cell? ⟨g, o + 1, none⟩ = some (.int .i64 x)) (hg : g < w.heap.size) (hc : Hid (∀ w', Later w w' → Calls Tryz.prog 43 #[.int .i64 op, .int .i64 x] w' fun r w2 => r = .returned (.tuple #[.int .i64 v, .int .i64 e]) ∧ Later w' w2)) :
    Calls Tryz.prog 25 #[.int .i64 op, .slice (some ⟨g, o, none⟩) 1 cap] w fun r w' => r = .returned (.tuple #[.int .i64 v, .int .i64 e]) ∧ Later w w' := by
  go_enter Tryz.func25, Tryz.ntmps25
  go_wp2_with (go_at_call 43; refine (hc.out _ (by repeat first | exact Lz _ | apply La | apply Lv | apply Ln | apply Ld)).mono ?_; rintro e w' ⟨rfl, bs, n, rfl⟩)
  go_ret2
  exact ⟨rfl, (by repeat first | exact Lz _ | apply La | apply Lv | apply Ln | apply Ld)⟩
theorem num_two124 (op x y v e : Int) (g o cap : Nat) (ho : op ≤ 166) (w : World) (c0 : w.cell? ⟨g, o, none⟩ = some (.int .i64 124)) (c1 : w.cell? ⟨g, o + 1, none⟩ = some (.int .i64 x)) (c3 : w.cell? ⟨g, o + 2 + 1, none⟩ = some (.int .i64 y)) (hg : g < w.heap.size) (hc : Hid (∀ w', Later w w' → Calls Tryz.prog 44 #[.int .i64 op, .int .i64 x, .int .i64 y] w' fun r w2 => r = .returned (.tuple #[.int .i64 v, .int .i64 e]) ∧ Later w' w2)) :
    Calls Tryz.prog 25 #[.int .i64 op, .slice (some ⟨g, o, none⟩) 2 cap] w fun r w' => r = .returned (.tuple #[.int .i64 v, .int .i64 e]) ∧ Later w w' := by
  go_enter Tryz.func25, Tryz.ntmps25
  go_wp2_with (go_at_call 44; refine (hc.out _ (by repeat first | exact Lz _ | apply La | apply Lv | apply Ln | apply Ld)).mono ?_; rintro e w' ⟨rfl, bs, n, rfl⟩)
  go_ret2
  exact ⟨rfl, (by repeat first | exact Lz _ | apply La | apply Lv | apply Ln | apply Ld)⟩
theorem number_1 (op x : Int) (h : 69 ≤ op ∧ op ≤ 191) (hx : inI x) (g o cap : Nat) (w : World) (c0 : w.cell? ⟨g, o, none⟩ = some (.int .i64 (kP op))) (c1 : w.cell? ⟨g, o + 1, none⟩ = some (.int .i64 x)) :
    Calls Tryz.prog 25 #[.int .i64 op, .slice (some ⟨g, o, none⟩) 1 cap] w fun r w' => r = .returned (.tuple #[.int .i64 (numN op (kP op) 1 x 0).1, .int .i64 (numN op (kP op) 1 x 0).2]) ∧ Later w w' := by
  have hg := cell_lt c1
  unfold numN
  by_cases ho : 166 < op
  · rw [if_pos ho]
    exact num_conv op _ x _ _ g o cap (by omega) w c0 c1 hg (fun w' hl => X.conv_any op x hx.1 hx.2 w')
  · rw [if_neg ho, if_pos rfl]
    unfold unN
    rcases kP_or op h.1 h.2 with hp | hp | hp | hp <;> rw [hp] at c0 ⊢
    · exact num_one127 op x _ _ g o cap (by omega) w c0 c1 hg (fun w' hl => (I3.run_any op x w').mono (fun e w2 h => ⟨h.1, later_same h.2⟩))
    · exact num_one126 op x _ _ g o cap (by omega) w c0 c1 hg (fun w' hl => (I6.run_any op x w').mono (fun e w2 h => ⟨h.1, later_same h.2⟩))
    · exact num_one125 op x _ _ g o cap (by omega) w c0 c1 hg (fun w' hl => S.run_any op x w')
    · exact num_one124 op x _ _ g o cap (by omega) w c0 c1 hg (fun w' hl => D.run_any op x w')
theorem number_2 (op x y : Int) (h : 69 ≤ op ∧ op ≤ 166) (hx : inI x) (hy : inI y) (g o cap : Nat) (w : World) (c0 : w.cell? ⟨g, o, none⟩ = some (.int .i64 (kP op))) (c1 : w.cell? ⟨g, o + 1, none⟩ = some (.int .i64 x)) (c3 : w.cell? ⟨g, o + 2 + 1, none⟩ = some (.int .i64 y)) :
    Calls Tryz.prog 25 #[.int .i64 op, .slice (some ⟨g, o, none⟩) 2 cap] w fun r w' => r = .returned (.tuple #[.int .i64 (numN op (kP op) 2 x y).1, .int .i64 (numN op (kP op) 2 x y).2]) ∧ Later w w' := by
  have hg := cell_lt c1
  unfold numN
  rw [if_neg (by omega), if_neg (by decide)]
  unfold binN
  rcases kP_or op h.1 (by omega) with hp | hp | hp | hp <;> rw [hp] at c0 ⊢
  · exact num_two127 op x y _ _ g o cap (by omega) w c0 c1 c3 hg (fun w' hl => (I3.rbin_any op x y w').mono (fun e w2 h => ⟨h.1, later_same h.2⟩))
  · exact num_two126 op x y _ _ g o cap (by omega) w c0 c1 c3 hg (fun w' hl => (I6.rbin_any op x y hx hy w').mono (fun e w2 h => ⟨h.1, later_same h.2⟩))
  · exact num_two125 op x y _ _ g o cap (by omega) w c0 c1 c3 hg (fun w' hl => S.rbin_any op x y w')
  · exact num_two124 op x y _ _ g o cap (by omega) w c0 c1 c3 hg (fun w' hl => D.rbin_any op x y w')
theorem okX_iff (t x : Int) (h1 : ¬ t = 126) (h2 : ¬ t = 124) : okX t x = true ↔ 0 ≤ x ∧ x ≤ 4294967295 := by
  unfold okX
  rw [show (t == 126) = false from by simpa using h1, show (t == 124) = false from by simpa using h2]
  simp only [Bool.false_or, beq_iff_eq]
  omega
theorem may_127 (x : Int) (w : World) :
    Calls Tryz.prog 16 #[.agg #[.int .i64 127, .int .i64 x]] w fun r w' => r = .returned (.bool (okX 127 x)) ∧ Later w w' := by
  by_cases h : 0 ≤ x ∧ x ≤ 4294967295
  · rw [(okX_iff 127 x (by decide) (by decide)).2 h]
    have h1 := h.1
    have h2 := h.2
    clear h
    go_enter Tryz.func16, Tryz.ntmps16
    go_wp2
    go_ret
    exact ⟨rfl, (by repeat first | exact Lz _ | apply La | apply Lv | apply Ln | apply Ld)⟩
  · rw [show okX 127 x = false from by cases hb : okX 127 x with | false => rfl | true => exact absurd ((okX_iff 127 x (by decide) (by decide)).1 hb) h]
    by_cases h1 : 0 ≤ x
    · have h2 : decide (x ≤ 4294967295) = false := decide_eq_false (by omega)
      clear h
      go_enter Tryz.func16, Tryz.ntmps16
      go_wp2
      go_ret
      exact ⟨rfl, (by repeat first | exact Lz _ | apply La | apply Lv | apply Ln | apply Ld)⟩
    · have h2 : decide (0 ≤ x) = false := decide_eq_false h1
      clear h
      go_enter Tryz.func16, Tryz.ntmps16
      go_wp2
      go_ret
      exact ⟨rfl, (by repeat first | exact Lz _ | apply La | apply Lv | apply Ln | apply Ld)⟩
theorem may_126 (x : Int) (w : World) :
    Calls Tryz.prog 16 #[.agg #[.int .i64 126, .int .i64 x]] w fun r w' => r = .returned (.bool (okX 126 x)) ∧ Later w w' := by
  rw [show okX 126 x = true from rfl]
  go_enter Tryz.func16, Tryz.ntmps16
  go_wp2
  go_ret
  exact ⟨rfl, (by repeat first | exact Lz _ | apply La | apply Lv | apply Ln | apply Ld)⟩
theorem may_125 (x : Int) (w : World) :
    Calls Tryz.prog 16 #[.agg #[.int .i64 125, .int .i64 x]] w fun r w' => r = .returned (.bool (okX 125 x)) ∧ Later w w' := by
  by_cases h : 0 ≤ x ∧ x ≤ 4294967295
  · rw [(okX_iff 125 x (by decide) (by decide)).2 h]
    have h1 := h.1
    have h2 := h.2
    clear h
    go_enter Tryz.func16, Tryz.ntmps16
    go_wp2
    go_ret
    exact ⟨rfl, (by repeat first | exact Lz _ | apply La | apply Lv | apply Ln | apply Ld)⟩
  · rw [show okX 125 x = false from by cases hb : okX 125 x with | false => rfl | true => exact absurd ((okX_iff 125 x (by decide) (by decide)).1 hb) h]
    by_cases h1 : 0 ≤ x
    · have h2 : decide (x ≤ 4294967295) = false := decide_eq_false (by omega)
      clear h
      go_enter Tryz.func16, Tryz.ntmps16
      go_wp2
      go_ret
      exact ⟨rfl, (by repeat first | exact Lz _ | apply La | apply Lv | apply Ln | apply Ld)⟩
    · have h2 : decide (0 ≤ x) = false := decide_eq_false h1
      clear h
      go_enter Tryz.func16, Tryz.ntmps16
      go_wp2
      go_ret
      exact ⟨rfl, (by repeat first | exact Lz _ | apply La | apply Lv | apply Ln | apply Ld)⟩
theorem may_124 (x : Int) (w : World) :
    Calls Tryz.prog 16 #[.agg #[.int .i64 124, .int .i64 x]] w fun r w' => r = .returned (.bool (okX 124 x)) ∧ Later w w' := by
  rw [show okX 124 x = true from rfl]
  go_enter Tryz.func16, Tryz.ntmps16
  go_wp2
  go_ret
  exact ⟨rfl, (by repeat first | exact Lz _ | apply La | apply Lv | apply Ln | apply Ld)⟩
theorem may_any (p x : Int) (hp : p = 127 ∨ p = 126 ∨ p = 125 ∨ p = 124) (w : World) :
    Calls Tryz.prog 16 #[.agg #[.int .i64 p, .int .i64 x]] w fun r w' => r = .returned (.bool (okX p x)) ∧ Later w w' := by
  rcases hp with rfl | rfl | rfl | rfl
  · exact may_127 x w
  · exact may_126 x w
  · exact may_125 x w
  · exact may_124 x w
end Go.Proofs.YtdfgcagbpndabaaGreatDoor
