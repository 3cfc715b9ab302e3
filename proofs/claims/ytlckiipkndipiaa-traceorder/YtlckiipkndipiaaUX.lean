/- 'awake' of package peloruslaw11, by the faces of package trace. -/
import Derived.Test.YtlckiipkndipiaaUV
set_option linter.unusedVariables false
set_option linter.unusedSimpArgs false
set_option maxRecDepth 100000
set_option maxHeartbeats 4000000
namespace Go.Proofs.Ytlckiipkndipiaa
open Go.RowKit
/-- a host of the program among the blocks laid since w0 -/
def Hb (w0 w : World) (lab : Nat → Nat) (p : Nat) (s : Hs) : Prop := Later w0 w ∧ HoS lab w w0.heap.size p s
theorem Hb.chg {w0 w w' : World} {lab lab' : Nat → Nat} {p : Nat} {s : Hs} {S : Nat → Prop} (h : Hb w0 w lab p s) (hc : Chg lab S w w' lab') (hL : Later w0 w') (hs : ∀ k, k < 10 → ¬ S k) : Hb w0 w' lab' p s := ⟨hL, h.2.chg hc hs⟩
theorem Hb.later {w0 w w' : World} {lab : Nat → Nat} {p : Nat} {s : Hs} (h : Hb w0 w lab p s) (hl : Later w w') : Hb w0 w' lab p s := h.chg (S := fun _ => False) (Chg.of_later hl) (h.1.trans hl) (fun _ _ x => x)
theorem own : ownKnob Try.prog.godebug = none := by kernel_rfl
theorem hb_new (lab : Nat → Nat) {w0 w : World} (hL : Later w0 w) (A : Option Addr) (n cap : Nat) (f : Nat → Vl) (hn : n * 24 ≤ 140737488351232) (hA : Anv w A n f) :
    Calls Try.prog 7 #[.slice A n cap] w fun e w' => ∃ p lab', e = .returned (.pointer (some ⟨p, 0, none⟩)) ∧ Later w w' ∧ Chg lab (fun _ => False) w w' lab' ∧ Hb w0 w' lab' p (n, f, 0, (fun _ => 0), (fun _ => nov)) := by
  refine (hnew_any lab w0 w hL A n cap f hn hA).mono ?_
  rintro e w' ⟨p, rfl, h1, h2⟩
  obtain ⟨lab', h3, h4⟩ := h2 (fun _ => 0) (fun _ => nov)
  exact ⟨p, lab', rfl, h1, h3, hL.trans h1, h4⟩
theorem hb_call {lab : Nat → Nat} {w0 w : World} {p : Nat} {s : Hs} (h : Hb w0 w lab p s) (x : Int) (P R X : Option Addr) (mp cp mr cr cx : Nat) (l : Vl) (r : Nat → Int) (hm : s.2.2.1 < 1000000) (hb : l.1 * 16 ≤ 140737488351232) (hX : Vst w X l.1 l.2.1 l.2.2) (hR : Lq lab w R mr r) (E : Int) (V : Vl) (s' : Hs) (hE : cE s x mr r = E) (hV : cV s x mr r = V) (hs : cS s x l = s') :
    Calls Try.prog 11 #[.pointer (some ⟨p, 0, none⟩), .int .i64 x, .agg #[.slice P mp cp, .slice R mr cr], .slice X l.1 cx] w fun e w' => ∃ A cap lab', e = .returned (.tuple #[.slice A V.1 cap, .int .i64 E]) ∧ Hb w0 w' lab' p s' ∧ Chg lab (· < 10) w w' lab' ∧ (V.1 = 0 ∨ ∃ g, Rv w' A V g ∧ lab' g = 98 ∧ w0.heap.size ≤ g) := by
  subst hE hV hs
  refine (hcall_any lab w0 w p s x P R X mp cp mr cr cx l r h.1 h.2 hm hb hX hR).mono ?_
  rintro e w' ⟨A, cap, rfl, h1, lab', h2, h3, h4, h5⟩
  exact ⟨A, cap, lab', rfl, ⟨h1, h3⟩, h2, h5⟩
def v7 : Vl := (1, fun _ => 127, fun _ => 7)
def aw : Nat → Vl := fun i => if i = 0 then v7 else nov
def a0s : Hs := (2, aw, 0, (fun _ => 0), (fun _ => nov))
def v1s : Vl := (1, fun _ => 126, fun _ => 1)
def a1s : Hs := cS a0s 3 v1s
def a2s : Hs := cS a1s 3 nov
def a3s : Hs := cS a2s 3 nov
def r7 : Nat → Int := fun _ => 127
theorem val_lit (W : World) (x y : Int) (g : Nat) (hg : g = W.heap.size) : Vst (W.alloc (.cells #[.int .i64 x, .int .i64 y] 56)) (some ⟨g, 0, none⟩) 1 (fun _ => x) (fun _ => y) := by
  subst hg
  refine Or.inr ⟨_, 0, rfl, fun j hj => ?_⟩
  obtain rfl : j = 0 := by omega
  exact ⟨by rw [cell_of_row _ _ _ _ _ _ (heap_alloc_new W _)]; rfl, by rw [cell_of_row _ _ _ _ _ _ (heap_alloc_new W _)]; rfl⟩
theorem aw_lit (W : World) (g c : Nat) (hg : Vst W (some ⟨g, 0, none⟩) 1 (fun _ => 127) (fun _ => 7)) (h : Nat) (hh : h = W.heap.size) : Anv (W.alloc (.cells #[.slice (some ⟨g, 0, none⟩) 1 c, .slice none 0 0] 27)) (some ⟨h, 0, none⟩) 2 aw := by
  subst hh
  refine Or.inr ⟨_, 0, rfl, fun i hi => ?_⟩
  match i, hi with
  | 0, _ => exact ⟨_, c, by rw [cell_of_row _ _ _ _ _ _ (heap_alloc_new W _)]; rfl, by decide, hg.later (La (Lz _))⟩
  | 1, _ => exact ⟨none, 0, by rw [cell_of_row _ _ _ _ _ _ (heap_alloc_new W _)]; rfl, by decide, Or.inl rfl⟩
theorem awake_any (w : World) :
    Calls Try.prog 18 #[] w fun e w' => e = .returned (.bool true) ∧ Later w w' := by
  go_enter Try.func18, Try.ntmps18
  go_wp2_with fail
  refine (hb_new (fun _ => 99) (w0 := w) (by repeat first | exact Lz _ | apply La | apply Lv | apply Ld | apply Ln) _ 2 _ aw (by decide) (aw_lit _ _ _ (val_lit _ _ _ _ rfl) _ (by simp))).mono ?_
  rintro e w1 ⟨p, lab1, rfl, l1, C1, H1⟩
  go_wp2_with fail
  have V2 := val_lit ((w1.alloc (.cells #[.int .i64 127] 3)).alloc (.cells #[.slice none 0 0, .slice (some ⟨w1.heap.size, 0, none⟩) 1 1] 36)) 126 1 (w1.heap.size + 1 + 1) (by simp)
  have L2 : Later w1 (((w1.alloc (.cells #[.int .i64 127] 3)).alloc (.cells #[.slice none 0 0, .slice (some ⟨w1.heap.size, 0, none⟩) 1 1] 36)).alloc (.cells #[.int .i64 126, .int .i64 1] 56)) := (by repeat first | exact Lz _ | apply La | apply Lv | apply Ld | apply Ln)
  have t0 : (((w1.alloc (.cells #[.int .i64 127] 3)).alloc (.cells #[.slice none 0 0, .slice (some ⟨w1.heap.size, 0, none⟩) 1 1] 36)).alloc (.cells #[.int .i64 126, .int .i64 1] 56)).cell? ⟨w1.heap.size, 0, none⟩ = some (.int .i64 127) := by simp [go_sem]
  have u02 : (((w1.alloc (.cells #[.int .i64 127] 3)).alloc (.cells #[.slice none 0 0, .slice (some ⟨w1.heap.size, 0, none⟩) 1 1] 36)).alloc (.cells #[.int .i64 126, .int .i64 1] 56)).cell? ⟨w1.heap.size + 1, 0, none⟩ = some (.slice none 0 0) := by simp [go_sem]
  have u12 : (((w1.alloc (.cells #[.int .i64 127] 3)).alloc (.cells #[.slice none 0 0, .slice (some ⟨w1.heap.size, 0, none⟩) 1 1] 36)).alloc (.cells #[.int .i64 126, .int .i64 1] 56)).cell? ⟨w1.heap.size + 1, 1, none⟩ = some (.slice (some ⟨w1.heap.size, 0, none⟩) 1 1) := by simp [go_sem]
  generalize ((w1.alloc (.cells #[.int .i64 127] 3)).alloc (.cells #[.slice none 0 0, .slice (some ⟨w1.heap.size, 0, none⟩) 1 1] 36)).alloc (.cells #[.int .i64 126, .int .i64 1] 56) = w2 at *
  obtain ⟨lab2, C2, hz2⟩ := Chg.fresh (lab := lab1) (S := fun _ => False) L2 99
  have H2 := H1.chg C2 (H1.1.trans L2) (fun _ _ x => x)
  have z2 : lab2 (w1.heap.size + 1) = 99 := hz2 _ (by omega)
  have R2 : Hid (Lq lab2 w2 (some ⟨w1.heap.size, 0, none⟩) 1 r7) := Or.inr ⟨_, 0, rfl, by rw [hz2 _ (Nat.le_refl _)]; decide, fun j hj => by obtain rfl : j = 0 := (by omega); exact t0⟩
  clear C1 H1 l1 L2 C2 hz2 t0
  refine (hb_call H2 3 none _ _ 0 0 1 1 1 v1s r7 (by decide) (by decide) V2 R2.out 0 v7 a1s rfl rfl rfl).mono ?_
  rintro e w3 ⟨A3, c3, lab3, rfl, H3, C3, Q3⟩
  have u03 := C3.cell (by rw [z2]; decide) u02
  have u13 := C3.cell (by rw [z2]; decide) u12
  have z3 : lab3 (w1.heap.size + 1) = 99 := C3.lab_to z2 (by decide) u02
  have R3 : Hid (Lq lab3 w3 (some ⟨w1.heap.size, 0, none⟩) 1 r7) := R2.out.chg C3 (fun k hk => by omega)
  obtain ⟨g3, q3, q4, q5⟩ := Q3.resolve_left (by decide)
  clear V2 H2 R2 C3 u02 u12 z2 Q3 q5
  go_wp2_with fail
  refine (hb_call H3 3 none _ none 0 0 1 1 0 nov r7 (by decide) (by decide) (Or.inl rfl) R3.out 1102 nov a2s rfl rfl rfl).mono ?_
  rintro e w4 ⟨A4, c4, lab4, rfl, H4, C4, _⟩
  have u04 := C4.cell (by rw [z3]; decide) u03
  have u14 := C4.cell (by rw [z3]; decide) u13
  have z4 : lab4 (w1.heap.size + 1) = 99 := C4.lab_to z3 (by decide) u03
  have R4 : Hid (Lq lab4 w4 (some ⟨w1.heap.size, 0, none⟩) 1 r7) := R3.out.chg C4 (fun k hk => by omega)
  have y4 := q3.chg C4 (by rw [q4]; decide)
  have y4' : lab4 g3 = 98 := y4.2.trans q4
  replace y4 := y4.1
  clear H3 R3 C4 u03 u13 z3 q3 q4
  go_wp2_with fail
  refine (hb_call H4 3 none _ none 0 0 1 1 0 nov r7 (by decide) (by decide) (Or.inl rfl) R4.out 1101 nov a3s rfl rfl rfl).mono ?_
  rintro e w5 ⟨A5, c5, lab5, rfl, H5, C5, _⟩
  have u05 := C5.cell (by rw [z4]; decide) u04
  have u15 := C5.cell (by rw [z4]; decide) u14
  have z5 : lab5 (w1.heap.size + 1) = 99 := C5.lab_to z4 (by decide) u04
  have R5 : Hid (Lq lab5 w5 (some ⟨w1.heap.size, 0, none⟩) 1 r7) := R4.out.chg C5 (fun k hk => by omega)
  have y5 := y4.chg C5 (by rw [y4']; decide)
  have y5' : lab5 g3 = 98 := y5.2.trans y4'
  replace y5 := y5.1
  clear H4 R4 C5 u04 u14 z4 y4 y4'
  go_wp2_with fail
  refine (hb_call H5 (-1) none _ none 0 0 1 1 0 nov r7 (by decide) (by decide) (Or.inl rfl) R5.out 1100 nov a3s rfl rfl rfl).mono ?_
  rintro e w6 ⟨A6, c6, lab6, rfl, H6, C6, _⟩
  have y6 := (y5.chg C6 (by rw [y5']; decide)).1.vst
  clear H5 R5 C6 u05 u15 z5 y5 y5'
  have hsv : Hid (∀ W, Later w6 W → ∀ g, Vst W (some ⟨g, 0, none⟩) 1 (fun _ => 127) (fun _ => 7) → Calls Try.prog 13 #[.slice A3 1 c3, .slice (some ⟨g, 0, none⟩) 1 1] W fun e w' => e = .returned (.bool true) ∧ Later W w') := fun W hl g hg => samev_any _ _ 1 _ _ _ _ (by decide) W (y6.later hl) hg
  have hlf : Hid (∀ W, Later w6 W → Calls Try.prog 15 #[.pointer (some ⟨p, 0, none⟩)] W fun e w' => e = .returned (.int .i64 0) ∧ Later W w') := fun W hl => hleft_any lab6 W _ p a3s (H6.later hl).2
  have htr : Hid (∀ W, Later w6 W → Calls Try.prog 16 #[.pointer (some ⟨p, 0, none⟩)] W fun e w' => ∃ A cap, e = .returned (.slice A 3 cap) ∧ Later W w') := fun W hl => (htrace_any lab6 W _ p a3s (H6.later hl).2 (by decide)).mono (fun e w' h => by obtain ⟨A, cap, e1, e2, _⟩ := h; exact ⟨A, cap, e1, e2⟩)
  replace H6 : Hid (Hb w w6 lab6 p a3s) := H6
  clear y6
  simp only [show v7.1 = 1 from rfl, show nov.1 = 0 from rfl]
  go_wp2_with fail
  refine (hsv.out _ (La (Lz _)) _ (val_lit _ _ _ _ rfl)).mono ?_
  rintro e w7 ⟨rfl, l7⟩
  have L7 : Hid (Later w6 w7) := (La (Lz _)).trans l7
  clear l7 hsv
  go_wp2_with (first | (go_at_call 14; refine (num_any _ _).mono ?_; rintro e w' ⟨rfl, hw⟩; obtain rfl : w7 = w' := hw.symm) | (go_at_call 15; refine (hlf.out _ L7.out).mono ?_; rintro e w8 ⟨rfl, l8⟩; have L8 : Hid (Later w6 w8) := L7.out.trans l8; clear l8) | (go_at_call 16; refine (htr.out _ L8.out).mono ?_; rintro e w9 ⟨A9, c9, rfl, l9⟩; have L9 : Hid (Later w6 w9) := L8.out.trans l9; clear l9))
  go_ret
  exact ⟨rfl, H6.out.1.trans L9.out⟩
end Go.Proofs.Ytlckiipkndipiaa
