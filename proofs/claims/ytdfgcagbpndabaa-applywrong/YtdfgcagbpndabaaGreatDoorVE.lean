/- Over this seat's translation: what package apply makes of an operation and values. -/
import Derived.Test.YtdfgcagbpndabaaGreatDoorVD
import Derived.Test.YtdfgcagbpndabaaGreatDoorZI3
import Derived.Test.YtdfgcagbpndabaaGreatDoorZI6
import Derived.Test.YtdfgcagbpndabaaGreatDoorZP3G
import Derived.Test.YtdfgcagbpndabaaGreatDoorZP6G
import Derived.Test.YtdfgcagbpndabaaGreatDoorZQ
import Derived.LoopN
set_option linter.unusedVariables false
set_option maxRecDepth 100000
namespace Go.Proofs.YtdfgcagbpndabaaGreatDoor
open Go.RowKit Go.AM
def Tabs (w : World) : Prop := Tab 1 Lib.deBruijn32tab w ∧ Tab 2 Lib.deBruijn64tab w
theorem Tabs.later {w w' : World} (h : Tabs w) (hl : Later w w') : Tabs w' := ⟨fun j hj => hl.cell_of (h.1 j hj), fun j hj => hl.cell_of (h.2 j hj)⟩
theorem later_drewN {w w' : World} (h : ∃ n, w' = w.drewN n) : Later w w' := by obtain ⟨n, rfl⟩ := h; exact (Later.refl _).drewN
theorem later_same {w w' : World} (h : w' = w) : Later w w' := by subst h; exact Later.refl _
def inI (x : Int) : Prop := -9223372036854775808 ≤ x ∧ x ≤ 9223372036854775807
def unN (op p x : Int) : Int × Int := if p = 127 then BM.un32 op x else if p = 126 then BM.un64 op x else if p = 125 then P3.unI op x else P6.unI op x
def binN (op p x y : Int) : Int × Int := if p = 127 then BM.bin32 op x y else if p = 126 then BM.bin64 op x y else if p = 125 then P3.binI op x y else P6.binI op x y
def numN (op p c x y : Int) : Int × Int := if 166 < op then FM.ofI op x else if c = 1 then unN op p x else binN op p x y
theorem single_core (op p x v e : Int) (f : Nat) (hp : p = 127 ∨ p = 126 ∨ p = 125 ∨ p = 124) (hf : Hid (f = if p = 127 then 57 else if p = 126 then 58 else if p = 125 then 59 else 60)) (w : World) (hc : Hid (∀ w', Later w w' → Calls Tryz.prog f #[.int .i64 op, .int .i64 x] w' fun r w2 => r = .returned (.tuple #[.int .i64 v, .int .i64 e]) ∧ Later w' w2)) :
    Calls Tryz.prog 34 #[.int .i64 op, .int .i64 p, .int .i64 x] w fun r w' => r = .returned (.tuple #[.int .i64 v, .int .i64 e]) ∧ Later w w' := by
  rcases hp with rfl | rfl | rfl | rfl
  · have hf : f = 57 := hf
    subst hf
    go_enter Tryz.func34, Tryz.ntmps34
    go_wp2_with (go_at_call 57; refine (hc.out _ (by repeat first | exact Lz _ | apply La | apply Lv | apply Ln | apply Ld)).mono ?_; rintro e w' ⟨rfl, bs, n, rfl⟩)
    go_ret2
    exact ⟨rfl, (by repeat first | exact Lz _ | apply La | apply Lv | apply Ln | apply Ld)⟩
  · have hf : f = 58 := hf
    subst hf
    go_enter Tryz.func34, Tryz.ntmps34
    go_wp2_with (go_at_call 58; refine (hc.out _ (by repeat first | exact Lz _ | apply La | apply Lv | apply Ln | apply Ld)).mono ?_; rintro e w' ⟨rfl, bs, n, rfl⟩)
    go_ret2
    exact ⟨rfl, (by repeat first | exact Lz _ | apply La | apply Lv | apply Ln | apply Ld)⟩
  · have hf : f = 59 := hf
    subst hf
    go_enter Tryz.func34, Tryz.ntmps34
    go_wp2_with (go_at_call 59; refine (hc.out _ (by repeat first | exact Lz _ | apply La | apply Lv | apply Ln | apply Ld)).mono ?_; rintro e w' ⟨rfl, bs, n, rfl⟩)
    go_ret2
    exact ⟨rfl, (by repeat first | exact Lz _ | apply La | apply Lv | apply Ln | apply Ld)⟩
  · have hf : f = 60 := hf
    subst hf
    go_enter Tryz.func34, Tryz.ntmps34
    go_wp2_with (go_at_call 60; refine (hc.out _ (by repeat first | exact Lz _ | apply La | apply Lv | apply Ln | apply Ld)).mono ?_; rintro e w' ⟨rfl, bs, n, rfl⟩)
    go_ret2
    exact ⟨rfl, (by repeat first | exact Lz _ | apply La | apply Lv | apply Ln | apply Ld)⟩
theorem pair_core (op p x y v e : Int) (f : Nat) (hp : p = 127 ∨ p = 126 ∨ p = 125 ∨ p = 124) (hf : Hid (f = if p = 127 then 61 else if p = 126 then 62 else if p = 125 then 63 else 64)) (w : World) (hc : Hid (∀ w', Later w w' → Calls Tryz.prog f #[.int .i64 op, .int .i64 x, .int .i64 y] w' fun r w2 => r = .returned (.tuple #[.int .i64 v, .int .i64 e]) ∧ Later w' w2)) :
    Calls Tryz.prog 35 #[.int .i64 op, .int .i64 p, .int .i64 x, .int .i64 y] w fun r w' => r = .returned (.tuple #[.int .i64 v, .int .i64 e]) ∧ Later w w' := by
  rcases hp with rfl | rfl | rfl | rfl
  · have hf : f = 61 := hf
    subst hf
    go_enter Tryz.func35, Tryz.ntmps35
    go_wp2_with (go_at_call 61; refine (hc.out _ (by repeat first | exact Lz _ | apply La | apply Lv | apply Ln | apply Ld)).mono ?_; rintro e w' ⟨rfl, bs, n, rfl⟩)
    go_ret2
    exact ⟨rfl, (by repeat first | exact Lz _ | apply La | apply Lv | apply Ln | apply Ld)⟩
  · have hf : f = 62 := hf
    subst hf
    go_enter Tryz.func35, Tryz.ntmps35
    go_wp2_with (go_at_call 62; refine (hc.out _ (by repeat first | exact Lz _ | apply La | apply Lv | apply Ln | apply Ld)).mono ?_; rintro e w' ⟨rfl, bs, n, rfl⟩)
    go_ret2
    exact ⟨rfl, (by repeat first | exact Lz _ | apply La | apply Lv | apply Ln | apply Ld)⟩
  · have hf : f = 63 := hf
    subst hf
    go_enter Tryz.func35, Tryz.ntmps35
    go_wp2_with (go_at_call 63; refine (hc.out _ (by repeat first | exact Lz _ | apply La | apply Lv | apply Ln | apply Ld)).mono ?_; rintro e w' ⟨rfl, bs, n, rfl⟩)
    go_ret2
    exact ⟨rfl, (by repeat first | exact Lz _ | apply La | apply Lv | apply Ln | apply Ld)⟩
  · have hf : f = 64 := hf
    subst hf
    go_enter Tryz.func35, Tryz.ntmps35
    go_wp2_with (go_at_call 64; refine (hc.out _ (by repeat first | exact Lz _ | apply La | apply Lv | apply Ln | apply Ld)).mono ?_; rintro e w' ⟨rfl, bs, n, rfl⟩)
    go_ret2
    exact ⟨rfl, (by repeat first | exact Lz _ | apply La | apply Lv | apply Ln | apply Ld)⟩
theorem single_any (op p x : Int) (hp : p = 127 ∨ p = 126 ∨ p = 125 ∨ p = 124) (w : World) (hT : Tabs w) :
    Calls Tryz.prog 34 #[.int .i64 op, .int .i64 p, .int .i64 x] w fun r w' => r = .returned (.tuple #[.int .i64 (unN op p x).1, .int .i64 (unN op p x).2]) ∧ Later w w' := by
  refine single_core op p x _ _ _ hp rfl w ?_
  intro w' hl
  rcases hp with rfl | rfl | rfl | rfl
  · exact (I3.un_any op x w' (hT.later hl).1).mono (fun e w2 h => ⟨h.1, later_drewN h.2⟩)
  · exact (I6.un_any op x w' (hT.later hl).2).mono (fun e w2 h => ⟨h.1, later_same h.2⟩)
  · exact P3.un_any op x w'
  · exact P6.un_any op x w'
theorem pair_any (op p x y : Int) (hp : p = 127 ∨ p = 126 ∨ p = 125 ∨ p = 124) (hx : inI x) (hy : inI y) (w : World) :
    Calls Tryz.prog 35 #[.int .i64 op, .int .i64 p, .int .i64 x, .int .i64 y] w fun r w' => r = .returned (.tuple #[.int .i64 (binN op p x y).1, .int .i64 (binN op p x y).2]) ∧ Later w w' := by
  refine pair_core op p x y _ _ _ hp rfl w ?_
  intro w' hl
  rcases hp with rfl | rfl | rfl | rfl
  · exact (I3.bin_any op x y w').mono (fun e w2 h => ⟨h.1, later_same h.2⟩)
  · exact (I6.bin_all op x y hy w').mono (fun e w2 h => ⟨h.1, later_drewN h.2⟩)
  · exact P3.bin_any op x y w'
  · exact P6.bin_any op x y (Or.inr ⟨hx, hy⟩) w'
theorem work_conv (op p r x v e : Int) (g o cap : Nat) (ho : 166 < op) (w : World) (c1 : w.cell? ⟨g, o + 1, none⟩ = some (.int .i64 x)) (hg : g < w.heap.size) (hc : Hid (∀ w', Later w w' → Calls Tryz.prog 33 #[.int .i64 op, .int .i64 x] w' fun r w2 => r = .returned (.tuple #[.int .i64 v, .int .i64 e]) ∧ Later w' w2)) :
    Calls Tryz.prog 23 #[.int .i64 op, .agg #[.int .i64 p, .int .i64 1, .int .i64 r], .slice (some ⟨g, o, none⟩) 1 cap] w fun r w' => r = .returned (.tuple #[.int .i64 v, .int .i64 e]) ∧ Later w w' := by
  go_enter Tryz.func23, Tryz.ntmps23
  go_wp2_with (go_at_call 33; refine (hc.out _ (by repeat first | exact Lz _ | apply La | apply Lv | apply Ln | apply Ld)).mono ?_; rintro e w' ⟨rfl, bs, n, rfl⟩)
  go_ret2
  exact ⟨rfl, (by repeat first | exact Lz _ | apply La | apply Lv | apply Ln | apply Ld)⟩
theorem work_one (op p r x v e : Int) (g o cap : Nat) (ho : op ≤ 166) (w : World) (c1 : w.cell? ⟨g, o + 1, none⟩ = some (.int .i64 x)) (hg : g < w.heap.size) (hc : Hid (∀ w', Later w w' → Calls Tryz.prog 34 #[.int .i64 op, .int .i64 p, .int .i64 x] w' fun r w2 => r = .returned (.tuple #[.int .i64 v, .int .i64 e]) ∧ Later w' w2)) :
    Calls Tryz.prog 23 #[.int .i64 op, .agg #[.int .i64 p, .int .i64 1, .int .i64 r], .slice (some ⟨g, o, none⟩) 1 cap] w fun r w' => r = .returned (.tuple #[.int .i64 v, .int .i64 e]) ∧ Later w w' := by
  go_enter Tryz.func23, Tryz.ntmps23
  go_wp2_with fail
  refine wp_region_quiet_far (by kernel_rfl) (by kernel_rfl) ?_
  repeat (quiet_step ((go_at_call 34; exact Calls.far_of (hc.out _ (by repeat first | exact Lz _ | apply La | apply Lv | apply Ln | apply Ld)))))
  refine wpQuiet_nil ?_
  rintro _ ⟨⟨bs, n⟩, rfl⟩
  go_wp2
  go_ret2
  exact ⟨rfl, (by repeat first | exact Lz _ | apply La | apply Lv | apply Ln | apply Ld)⟩
theorem work_two (op p r x y v e : Int) (g o cap : Nat) (ho : op ≤ 166) (w : World) (c1 : w.cell? ⟨g, o + 1, none⟩ = some (.int .i64 x)) (c2 : w.cell? ⟨g, o + 2 + 1, none⟩ = some (.int .i64 y)) (hg : g < w.heap.size) (hc : Hid (∀ w', Later w w' → Calls Tryz.prog 35 #[.int .i64 op, .int .i64 p, .int .i64 x, .int .i64 y] w' fun r w2 => r = .returned (.tuple #[.int .i64 v, .int .i64 e]) ∧ Later w' w2)) :
    Calls Tryz.prog 23 #[.int .i64 op, .agg #[.int .i64 p, .int .i64 2, .int .i64 r], .slice (some ⟨g, o, none⟩) 2 cap] w fun r w' => r = .returned (.tuple #[.int .i64 v, .int .i64 e]) ∧ Later w w' := by
  go_enter Tryz.func23, Tryz.ntmps23
  go_wp2_with fail
  refine wp_region_quiet_far (by kernel_rfl) (by kernel_rfl) ?_
  repeat (quiet_step ((go_at_call 35; exact Calls.far_of (hc.out _ (by repeat first | exact Lz _ | apply La | apply Lv | apply Ln | apply Ld)))))
  refine wpQuiet_nil ?_
  rintro _ ⟨⟨bs, n⟩, rfl⟩
  go_wp2
  go_ret2
  exact ⟨rfl, (by repeat first | exact Lz _ | apply La | apply Lv | apply Ln | apply Ld)⟩
theorem work_1 (op x : Int) (h : 69 ≤ op ∧ op ≤ 191) (r : Int) (g o cap : Nat) (w : World) (hT : Tabs w) (c1 : w.cell? ⟨g, o + 1, none⟩ = some (.int .i64 x)) :
    Calls Tryz.prog 23 #[.int .i64 op, .agg #[.int .i64 (kP op), .int .i64 1, .int .i64 r], .slice (some ⟨g, o, none⟩) 1 cap] w fun r w' => r = .returned (.tuple #[.int .i64 (numN op (kP op) 1 x 0).1, .int .i64 (numN op (kP op) 1 x 0).2]) ∧ Later w w' := by
  have hg := cell_lt c1
  unfold numN
  by_cases ho : 166 < op
  · rw [if_pos ho]
    exact work_conv op _ r x _ _ g o cap ho w c1 hg (fun w' hl => Q.of_any op x w')
  · rw [if_neg ho, if_pos rfl]
    exact work_one op _ r x _ _ g o cap (by omega) w c1 hg (fun w' hl => single_any op _ x (kP_or op h.1 h.2) w' (hT.later hl))
theorem work_2 (op x y : Int) (h : 69 ≤ op ∧ op ≤ 166) (hx : inI x) (hy : inI y) (r : Int) (g o cap : Nat) (w : World) (c1 : w.cell? ⟨g, o + 1, none⟩ = some (.int .i64 x)) (c2 : w.cell? ⟨g, o + 2 + 1, none⟩ = some (.int .i64 y)) :
    Calls Tryz.prog 23 #[.int .i64 op, .agg #[.int .i64 (kP op), .int .i64 2, .int .i64 r], .slice (some ⟨g, o, none⟩) 2 cap] w fun r w' => r = .returned (.tuple #[.int .i64 (numN op (kP op) 2 x y).1, .int .i64 (numN op (kP op) 2 x y).2]) ∧ Later w w' := by
  have hg := cell_lt c1
  unfold numN
  rw [if_neg (by omega), if_neg (by decide)]
  exact work_two op _ r x y _ _ g o cap h.2 w c1 c2 hg (fun w' hl => pair_any op _ x y (kP_or op h.1 (by omega)) hx hy w')
def trapN (e : Int) : Int := if e = 201 ∨ e = 301 then 2 else if e = 202 ∨ e = 302 ∨ e = 601 then 3 else 4
theorem trap_any (e : Int) (w : World) :
    Calls Tryz.prog 24 #[.int .i64 e] w fun r w' => r = .returned (.int .i64 (trapN e)) ∧ w' = w := by
  unfold trapN
  by_cases h201 : e = 201
  · subst h201
    go_enter Tryz.func24, Tryz.ntmps24
    go_wp2
    go_ret
    exact ⟨rfl, rfl⟩
  by_cases h301 : e = 301
  · subst h301
    go_enter Tryz.func24, Tryz.ntmps24
    go_wp2
    go_ret
    exact ⟨rfl, rfl⟩
  by_cases h202 : e = 202
  · subst h202
    go_enter Tryz.func24, Tryz.ntmps24
    go_wp2
    go_ret
    exact ⟨rfl, rfl⟩
  by_cases h302 : e = 302
  · subst h302
    go_enter Tryz.func24, Tryz.ntmps24
    go_wp2
    go_ret
    exact ⟨rfl, rfl⟩
  by_cases h601 : e = 601
  · subst h601
    go_enter Tryz.func24, Tryz.ntmps24
    go_wp2
    go_ret
    exact ⟨rfl, rfl⟩
  rw [if_neg (by omega), if_neg (by omega)]
  go_enter Tryz.func24, Tryz.ntmps24
  go_wp2
  go_ret
  exact ⟨rfl, rfl⟩
def okX (t x : Int) : Bool := t == 126 || t == 124 || (x % 4294967296 == x)
theorem type_4 (t : Int) (ht : t = 126 ∨ t = 124) (w : World) :
    Calls Tryz.prog 46 #[.int .i64 t] w fun r w' => r = .returned (.bool true) ∧ w' = w := by
  rcases ht with rfl | rfl
  all_goals
    go_enter Tryz.func46, Tryz.ntmps46
    go_wp2
    go_ret
    exact ⟨rfl, rfl⟩
theorem holds_any (t x : Int) (ht : t = 127 ∨ t = 126 ∨ t = 125 ∨ t = 124) (w : World) :
    Calls Tryz.prog 32 #[.agg #[.int .i64 t, .int .i64 x]] w fun r w' => r = .returned (.bool (okX t x)) ∧ Later w w' := by
  rcases ht with rfl | rfl | rfl | rfl
  · rw [show okX 127 x = (x % 4294967296 == x) from rfl]
    go_enter Tryz.func32, Tryz.ntmps32
    go_wp2_with fail
    refine wp_region_quiet_far (by kernel_rfl) (by kernel_rfl) ?_
    repeat (quiet_step ((go_at_call 45; exact Calls.far_of_same (low_any _ _))))
    refine wpQuiet_nil ?_
    rintro _ ⟨⟨bs, n⟩, rfl⟩
    go_wp2
    go_ret
    exact ⟨rfl, (by repeat first | exact Lz _ | apply La | apply Lv | apply Ln | apply Ld)⟩
  · rw [show okX 126 x = true from rfl]
    go_enter Tryz.func32, Tryz.ntmps32
    go_wp2_with (go_at_call 46; refine (type_4 _ (Or.inl rfl) _).mono ?_; rintro e w' ⟨rfl, rfl⟩)
    go_ret
    exact ⟨rfl, (by repeat first | exact Lz _ | apply La | apply Lv | apply Ln | apply Ld)⟩
  · rw [show okX 125 x = (x % 4294967296 == x) from rfl]
    go_enter Tryz.func32, Tryz.ntmps32
    go_wp2_with fail
    refine wp_region_quiet_far (by kernel_rfl) (by kernel_rfl) ?_
    repeat (quiet_step ((go_at_call 45; exact Calls.far_of_same (low_any _ _))))
    refine wpQuiet_nil ?_
    rintro _ ⟨⟨bs, n⟩, rfl⟩
    go_wp2
    go_ret
    exact ⟨rfl, (by repeat first | exact Lz _ | apply La | apply Lv | apply Ln | apply Ld)⟩
  · rw [show okX 124 x = true from rfl]
    go_enter Tryz.func32, Tryz.ntmps32
    go_wp2_with (go_at_call 46; refine (type_4 _ (Or.inr rfl) _).mono ?_; rintro e w' ⟨rfl, rfl⟩)
    go_ret
    exact ⟨rfl, (by repeat first | exact Lz _ | apply La | apply Lv | apply Ln | apply Ld)⟩
theorem takes_len (p c r : Int) (ad : Option Addr) (len cap : Nat) (h : ¬ (len : Int) = c) (w : World) :
    RW Tryz.prog 22 #[.agg #[.int .i64 p, .int .i64 c, .int .i64 r], .slice ad len cap] w (.bool false) := by
  have h1 : ((len : Int) != c) = true := by simpa using h
  clear h
  go_enter Tryz.func22, Tryz.ntmps22
  go_wp2
  go_ret
  exact ⟨rfl, (by repeat first | exact Lz _ | apply La | apply Lv | apply Ln | apply Ld)⟩
theorem takes1_ne (p r t x : Int) (g o cap : Nat) (w : World) (c0 : w.cell? ⟨g, o, none⟩ = some (.int .i64 t)) (c1 : w.cell? ⟨g, o + 1, none⟩ = some (.int .i64 x)) (hne : ¬ t = p) (hg : g < w.heap.size) :
    RW Tryz.prog 22 #[.agg #[.int .i64 p, .int .i64 1, .int .i64 r], .slice (some ⟨g, o, none⟩) 1 cap] w (.bool false) := by
  go_enter Tryz.func22, Tryz.ntmps22
  go_wp2
  refine wp_loop_rounds 1 ?_
  rw [rounds_succ]
  go_wp2
  go_ret
  exact ⟨rfl, (by repeat first | exact Lz _ | apply La | apply Lv | apply Ln | apply Ld)⟩
theorem takes1_no (p r x : Int) (g o cap : Nat) (w : World) (c0 : w.cell? ⟨g, o, none⟩ = some (.int .i64 p)) (c1 : w.cell? ⟨g, o + 1, none⟩ = some (.int .i64 x)) (hb : Hid (okX p x = false)) (hg : g < w.heap.size) (hp : Hid (p = 127 ∨ p = 126 ∨ p = 125 ∨ p = 124)) :
    RW Tryz.prog 22 #[.agg #[.int .i64 p, .int .i64 1, .int .i64 r], .slice (some ⟨g, o, none⟩) 1 cap] w (.bool false) := by
  go_enter Tryz.func22, Tryz.ntmps22
  go_wp2
  refine wp_loop_rounds 1 ?_
  rw [rounds_succ]
  go_wp2_with fail
  refine (holds_any _ _ hp.out _).mono ?_
  rintro e w' ⟨rfl, bs0, n0, rfl⟩
  rw [hb.out]
  go_wp2
  go_ret
  exact ⟨rfl, (by repeat first | exact Lz _ | apply La | apply Lv | apply Ln | apply Ld)⟩
theorem takes1_ok (p r x : Int) (g o cap : Nat) (w : World) (c0 : w.cell? ⟨g, o, none⟩ = some (.int .i64 p)) (c1 : w.cell? ⟨g, o + 1, none⟩ = some (.int .i64 x)) (hb : Hid (okX p x = true)) (hg : g < w.heap.size) (hp : Hid (p = 127 ∨ p = 126 ∨ p = 125 ∨ p = 124)) :
    RW Tryz.prog 22 #[.agg #[.int .i64 p, .int .i64 1, .int .i64 r], .slice (some ⟨g, o, none⟩) 1 cap] w (.bool true) := by
  go_enter Tryz.func22, Tryz.ntmps22
  go_wp2
  refine wp_loop_rounds 2 ?_
  rw [rounds_succ]
  go_wp2_with fail
  refine (holds_any _ _ hp.out _).mono ?_
  rintro e w' ⟨rfl, bs0, n0, rfl⟩
  rw [hb.out]
  go_wp2
  rw [rounds_succ]
  go_wp2
  go_ret
  exact ⟨rfl, (by repeat first | exact Lz _ | apply La | apply Lv | apply Ln | apply Ld)⟩
theorem takes2_ne (p r t x : Int) (g o cap : Nat) (w : World) (c0 : w.cell? ⟨g, o, none⟩ = some (.int .i64 t)) (c1 : w.cell? ⟨g, o + 1, none⟩ = some (.int .i64 x)) (hne : ¬ t = p) (hg : g < w.heap.size) :
    RW Tryz.prog 22 #[.agg #[.int .i64 p, .int .i64 2, .int .i64 r], .slice (some ⟨g, o, none⟩) 2 cap] w (.bool false) := by
  go_enter Tryz.func22, Tryz.ntmps22
  go_wp2
  refine wp_loop_rounds 1 ?_
  rw [rounds_succ]
  go_wp2
  go_ret
  exact ⟨rfl, (by repeat first | exact Lz _ | apply La | apply Lv | apply Ln | apply Ld)⟩
theorem takes2_no (p r x : Int) (g o cap : Nat) (w : World) (c0 : w.cell? ⟨g, o, none⟩ = some (.int .i64 p)) (c1 : w.cell? ⟨g, o + 1, none⟩ = some (.int .i64 x)) (hb : Hid (okX p x = false)) (hg : g < w.heap.size) (hp : Hid (p = 127 ∨ p = 126 ∨ p = 125 ∨ p = 124)) :
    RW Tryz.prog 22 #[.agg #[.int .i64 p, .int .i64 2, .int .i64 r], .slice (some ⟨g, o, none⟩) 2 cap] w (.bool false) := by
  go_enter Tryz.func22, Tryz.ntmps22
  go_wp2
  refine wp_loop_rounds 1 ?_
  rw [rounds_succ]
  go_wp2_with fail
  refine (holds_any _ _ hp.out _).mono ?_
  rintro e w' ⟨rfl, bs0, n0, rfl⟩
  rw [hb.out]
  go_wp2
  go_ret
  exact ⟨rfl, (by repeat first | exact Lz _ | apply La | apply Lv | apply Ln | apply Ld)⟩
theorem takes2_ne2 (p r x t y : Int) (g o cap : Nat) (w : World) (c0 : w.cell? ⟨g, o, none⟩ = some (.int .i64 p)) (c1 : w.cell? ⟨g, o + 1, none⟩ = some (.int .i64 x)) (hb : Hid (okX p x = true)) (c2 : w.cell? ⟨g, o + 2, none⟩ = some (.int .i64 t)) (c3 : w.cell? ⟨g, o + 2 + 1, none⟩ = some (.int .i64 y)) (hne : ¬ t = p) (hg : g < w.heap.size) (hp : Hid (p = 127 ∨ p = 126 ∨ p = 125 ∨ p = 124)) :
    RW Tryz.prog 22 #[.agg #[.int .i64 p, .int .i64 2, .int .i64 r], .slice (some ⟨g, o, none⟩) 2 cap] w (.bool false) := by
  go_enter Tryz.func22, Tryz.ntmps22
  go_wp2
  refine wp_loop_rounds 2 ?_
  rw [rounds_succ]
  go_wp2_with fail
  refine (holds_any _ _ hp.out _).mono ?_
  rintro e w' ⟨rfl, bs0, n0, rfl⟩
  rw [hb.out]
  go_wp2
  rw [rounds_succ]
  go_wp2
  go_ret
  exact ⟨rfl, (by repeat first | exact Lz _ | apply La | apply Lv | apply Ln | apply Ld)⟩
theorem takes2_no2 (p r x y : Int) (g o cap : Nat) (w : World) (c0 : w.cell? ⟨g, o, none⟩ = some (.int .i64 p)) (c1 : w.cell? ⟨g, o + 1, none⟩ = some (.int .i64 x)) (hb : Hid (okX p x = true)) (c2 : w.cell? ⟨g, o + 2, none⟩ = some (.int .i64 p)) (c3 : w.cell? ⟨g, o + 2 + 1, none⟩ = some (.int .i64 y)) (hb2 : Hid (okX p y = false)) (hg : g < w.heap.size) (hp : Hid (p = 127 ∨ p = 126 ∨ p = 125 ∨ p = 124)) :
    RW Tryz.prog 22 #[.agg #[.int .i64 p, .int .i64 2, .int .i64 r], .slice (some ⟨g, o, none⟩) 2 cap] w (.bool false) := by
  go_enter Tryz.func22, Tryz.ntmps22
  go_wp2
  refine wp_loop_rounds 2 ?_
  rw [rounds_succ]
  go_wp2_with fail
  refine (holds_any _ _ hp.out _).mono ?_
  rintro e w' ⟨rfl, bs0, n0, rfl⟩
  rw [hb.out]
  go_wp2
  rw [rounds_succ]
  go_wp2_with fail
  refine (holds_any _ _ hp.out _).mono ?_
  rintro e w' ⟨rfl, bs1, n1, rfl⟩
  rw [hb2.out]
  go_wp2
  go_ret
  exact ⟨rfl, (by repeat first | exact Lz _ | apply La | apply Lv | apply Ln | apply Ld)⟩
theorem takes2_ok (p r x y : Int) (g o cap : Nat) (w : World) (c0 : w.cell? ⟨g, o, none⟩ = some (.int .i64 p)) (c1 : w.cell? ⟨g, o + 1, none⟩ = some (.int .i64 x)) (hb : Hid (okX p x = true)) (c2 : w.cell? ⟨g, o + 2, none⟩ = some (.int .i64 p)) (c3 : w.cell? ⟨g, o + 2 + 1, none⟩ = some (.int .i64 y)) (hb2 : Hid (okX p y = true)) (hg : g < w.heap.size) (hp : Hid (p = 127 ∨ p = 126 ∨ p = 125 ∨ p = 124)) :
    RW Tryz.prog 22 #[.agg #[.int .i64 p, .int .i64 2, .int .i64 r], .slice (some ⟨g, o, none⟩) 2 cap] w (.bool true) := by
  go_enter Tryz.func22, Tryz.ntmps22
  go_wp2
  refine wp_loop_rounds 3 ?_
  rw [rounds_succ]
  go_wp2_with fail
  refine (holds_any _ _ hp.out _).mono ?_
  rintro e w' ⟨rfl, bs0, n0, rfl⟩
  rw [hb.out]
  go_wp2
  rw [rounds_succ]
  go_wp2_with fail
  refine (holds_any _ _ hp.out _).mono ?_
  rintro e w' ⟨rfl, bs1, n1, rfl⟩
  rw [hb2.out]
  go_wp2
  rw [rounds_succ]
  go_wp2
  go_ret
  exact ⟨rfl, (by repeat first | exact Lz _ | apply La | apply Lv | apply Ln | apply Ld)⟩
def SHb (op p c r : Int) : Prop := ∀ w : World, Calls Tryz.prog 19 #[.int .i64 op] w fun e w' => e = .returned (.agg #[.int .i64 p, .int .i64 c, .int .i64 r]) ∧ Later w w'
def TKb (w : World) (p c r : Int) (V : Value) (b : Bool) : Prop := ∀ w', Later w w' → Calls Tryz.prog 22 #[.agg #[.int .i64 p, .int .i64 c, .int .i64 r], V] w' fun e w2 => e = .returned (.bool b) ∧ Later w' w2
def WKb (w : World) (op p c r : Int) (V : Value) (v E : Int) : Prop := ∀ w', Later w w' → Calls Tryz.prog 23 #[.int .i64 op, .agg #[.int .i64 p, .int .i64 c, .int .i64 r], V] w' fun e w2 => e = .returned (.tuple #[.int .i64 v, .int .i64 E]) ∧ Later w' w2
theorem aof_bad (op : Int) (V : Value) (h : ¬ (69 ≤ op ∧ op ≤ 191)) (w : World) :
    RW Tryz.prog 9 #[.int .i64 op, V] w (.tuple #[.agg #[.int .i64 0, .int .i64 0], .int .i64 0, .int .i64 700]) := by
  have hN : Hid (decide (69 ≤ op ∧ op ≤ 191) = false) := decide_eq_false h
  clear h
  go_enter Tryz.func9, Tryz.ntmps9
  go_wp2_with (go_at_call 18; refine (isNum_any _ _).mono ?_; rintro e w' ⟨rfl, rfl⟩; rw [hN.out])
  refine bodyPost_ret (v := .tuple #[.agg #[.int .i64 0, .int .i64 0], .int .i64 0, .int .i64 700]) (by simp [results, Tryz.results9, go_sem]) rfl ⟨rfl, (by repeat first | exact Lz _ | apply La | apply Lv | apply Ln | apply Ld)⟩
theorem aof_no (op p c r : Int) (V : Value) (h : 69 ≤ op ∧ op ≤ 191) (hS : SHb op p c r) (w : World) (hK : TKb w p c r V false) :
    RW Tryz.prog 9 #[.int .i64 op, V] w (.tuple #[.agg #[.int .i64 0, .int .i64 0], .int .i64 0, .int .i64 700]) := by
  have hN : Hid (decide (69 ≤ op ∧ op ≤ 191) = true) := decide_eq_true h
  clear h
  go_enter Tryz.func9, Tryz.ntmps9
  go_wp2_with (first | (go_at_call 18; refine (isNum_any _ _).mono ?_; rintro e w' ⟨rfl, rfl⟩; rw [hN.out]) | (go_at_call 19; refine (hS _).mono ?_; rintro e w' ⟨rfl, bs, n, rfl⟩) | (go_at_call 22; refine (hK _ (by repeat first | exact Lz _ | apply La | apply Lv | apply Ln | apply Ld)).mono ?_; rintro e w' ⟨rfl, bs, n, rfl⟩))
  refine bodyPost_ret (v := .tuple #[.agg #[.int .i64 0, .int .i64 0], .int .i64 0, .int .i64 700]) (by simp [results, Tryz.results9, go_sem]) rfl ⟨rfl, (by repeat first | exact Lz _ | apply La | apply Lv | apply Ln | apply Ld)⟩
theorem aof_val (op p c r v : Int) (V : Value) (h : 69 ≤ op ∧ op ≤ 191) (hS : SHb op p c r) (w : World) (hK : TKb w p c r V true) (hW : WKb w op p c r V v 0) :
    RW Tryz.prog 9 #[.int .i64 op, V] w (.tuple #[.agg #[.int .i64 r, .int .i64 v], .int .i64 0, .int .i64 0]) := by
  have hN : Hid (decide (69 ≤ op ∧ op ≤ 191) = true) := decide_eq_true h
  clear h
  go_enter Tryz.func9, Tryz.ntmps9
  go_wp2_with (first | (go_at_call 18; refine (isNum_any _ _).mono ?_; rintro e w' ⟨rfl, rfl⟩; rw [hN.out]) | (go_at_call 19; refine (hS _).mono ?_; rintro e w' ⟨rfl, bs, n, rfl⟩) | (go_at_call 22; refine (hK _ (by repeat first | exact Lz _ | apply La | apply Lv | apply Ln | apply Ld)).mono ?_; rintro e w' ⟨rfl, bs, n, rfl⟩) | (go_at_call 23; refine (hW _ (by repeat first | exact Lz _ | apply La | apply Lv | apply Ln | apply Ld)).mono ?_; rintro e w' ⟨rfl, bs, n, rfl⟩))
  refine bodyPost_ret (v := .tuple #[.agg #[.int .i64 r, .int .i64 v], .int .i64 0, .int .i64 0]) (by simp [results, Tryz.results9, go_sem]) rfl ⟨rfl, (by repeat first | exact Lz _ | apply La | apply Lv | apply Ln | apply Ld)⟩
theorem aof_trap (op p c r v E T : Int) (V : Value) (h : 69 ≤ op ∧ op ≤ 191) (h0 : ¬ E = 0) (hE : Hid (trapN E = T)) (hS : SHb op p c r) (w : World) (hK : TKb w p c r V true) (hW : WKb w op p c r V v E) :
    RW Tryz.prog 9 #[.int .i64 op, V] w (.tuple #[.agg #[.int .i64 0, .int .i64 0], .int .i64 T, .int .i64 0]) := by
  have hN : Hid (decide (69 ≤ op ∧ op ≤ 191) = true) := decide_eq_true h
  clear h
  go_enter Tryz.func9, Tryz.ntmps9
  go_wp2_with (first | (go_at_call 18; refine (isNum_any _ _).mono ?_; rintro e w' ⟨rfl, rfl⟩; rw [hN.out]) | (go_at_call 19; refine (hS _).mono ?_; rintro e w' ⟨rfl, bs, n, rfl⟩) | (go_at_call 22; refine (hK _ (by repeat first | exact Lz _ | apply La | apply Lv | apply Ln | apply Ld)).mono ?_; rintro e w' ⟨rfl, bs, n, rfl⟩) | (go_at_call 23; refine (hW _ (by repeat first | exact Lz _ | apply La | apply Lv | apply Ln | apply Ld)).mono ?_; rintro e w' ⟨rfl, bs, n, rfl⟩) | (go_at_call 24; refine (trap_any _ _).mono ?_; rintro e w' ⟨rfl, rfl⟩; rw [hE.out]))
  refine bodyPost_ret (v := .tuple #[.agg #[.int .i64 0, .int .i64 0], .int .i64 T, .int .i64 0]) (by simp [results, Tryz.results9, go_sem]) rfl ⟨rfl, (by repeat first | exact Lz _ | apply La | apply Lv | apply Ln | apply Ld)⟩
end Go.Proofs.YtdfgcagbpndabaaGreatDoor
