/- package decode: Module whole: a text's module, or an error. -/
import Derived.Test.YtngciahmoenkiabEQ
import Derived.Test.YtngciahmoenkiabDK
set_option linter.unusedVariables false
set_option linter.unusedSimpArgs false
set_option maxRecDepth 100000
set_option maxHeartbeats 8000000
namespace Go.Proofs.Ytngciahmoenkiab
open Go.RowKit
theorem lpre_yes (s : ByteArray) (hs : s.size < 9223372036854775000) (h : 8 ≤ s.size) (htx : (s.extract 0 8).toList = [0, 97, 115, 109, 1, 0, 0, 0]) (w : World) :
    Calls Try.prog 18 #[.string s, .string ⟨#[0, 97, 115, 109, 1, 0, 0, 0]⟩] w fun e w' => e = .returned (.bool true) ∧ w' = w := by
  have h1 : (8 : Int) ≤ (s.size : Int) := by omega
  have hsl : ∀ w : World, (Instr.slice 9 (.string s) none (some (.int .i64 8)) none).run Try.prog w = .ok (.string (s.extract 0 8)) w := fun w => sl_to s 8 h w
  go_enter Try.func18, Try.ntmps18
  go_wp2
  go_ret
  exact ⟨by first | rfl | simp [htx], rfl⟩
theorem lpre_no (s : ByteArray) (hs : s.size < 9223372036854775000) (h : 8 ≤ s.size) (htx : ¬ (s.extract 0 8).toList = [0, 97, 115, 109, 1, 0, 0, 0]) (w : World) :
    Calls Try.prog 18 #[.string s, .string ⟨#[0, 97, 115, 109, 1, 0, 0, 0]⟩] w fun e w' => e = .returned (.bool false) ∧ w' = w := by
  have h1 : (8 : Int) ≤ (s.size : Int) := by omega
  have hsl : ∀ w : World, (Instr.slice 9 (.string s) none (some (.int .i64 8)) none).run Try.prog w = .ok (.string (s.extract 0 8)) w := fun w => sl_to s 8 h w
  go_enter Try.func18, Try.ntmps18
  go_wp2
  go_ret
  exact ⟨by first | rfl | simp [htx], rfl⟩
theorem lpre_short (s : ByteArray) (h : ¬ 8 ≤ s.size) (w : World) :
    Calls Try.prog 18 #[.string s, .string ⟨#[0, 97, 115, 109, 1, 0, 0, 0]⟩] w fun e w' => e = .returned (.bool false) ∧ w' = w := by
  have h1 : ¬ (8 : Int) ≤ (s.size : Int) := by omega
  have h2 : decide ((8 : Int) ≤ (s.size : Int)) = false := decide_eq_false h1
  go_enter Try.func18, Try.ntmps18
  go_wp2
  go_ret
  exact ⟨rfl, rfl⟩
theorem pre_any {b : Bool} (s : ByteArray) (h : ∀ w : World, Calls Try.prog 18 #[.string s, .string ⟨#[0, 97, 115, 109, 1, 0, 0, 0]⟩] w fun e w' => e = .returned (.bool b) ∧ w' = w) (w : World) :
    Calls Try.prog 13 #[.string s, .string ⟨#[0, 97, 115, 109, 1, 0, 0, 0]⟩] w fun e w' => e = .returned (.bool b) ∧ w' = w := by
  replace h : Hid (∀ w : World, Calls Try.prog 18 #[.string s, .string ⟨#[0, 97, 115, 109, 1, 0, 0, 0]⟩] w fun e w' => e = .returned (.bool b) ∧ w' = w) := h
  go_enter Try.func13, Try.ntmps13
  go_wp2_with (go_at_call 18; refine (h.out _).mono ?_; rintro e w2 ⟨rfl, hw⟩; obtain rfl : w = w2 := hw.symm)
  go_ret
  exact ⟨rfl, rfl⟩
theorem dmodule_any (s : ByteArray) (hs : s.size < 9223372036854775000) (w : World) :
    Calls Try.prog 8 #[.string s] w fun e w' => Hid (UnQ w (unM s) e w') := by
  unfold unM
  by_cases h1 : 65536 < s.size
  · rw [if_pos h1]
    have h2 : (65536 : Int) < (s.size : Int) := by omega
    go_enter Try.func8, Try.ntmps8
    go_wp2_with fail
    refine bodyPost_ret (v := .tuple #[.agg #[.slice none 0 0, .slice none 0 0, .slice none 0 0, .slice none 0 0, .slice none 0 0, .slice none 0 0, .slice none 0 0, .int .i64 0, .slice none 0 0, .slice none 0 0, .slice none 0 0], .int .i64 1508]) (by simp [results, Try.results8, go_sem]) rfl ?_
    exact ⟨[.slice none 0 0, .slice none 0 0, .slice none 0 0, .slice none 0 0, .slice none 0 0, .slice none 0 0, .slice none 0 0, .int .i64 0, .slice none 0 0, .slice none 0 0, .slice none 0 0], rfl, ModC.zero _ _ 0, La (Lz _)⟩
  · rw [if_neg h1]
    have h2 : ¬ (65536 : Int) < (s.size : Int) := by omega
    have h2d : decide ((65536 : Int) < (s.size : Int)) = false := decide_eq_false h2
    by_cases h3 : s.size < 8 ∨ ¬ (s.extract 0 8).toList = [0, 97, 115, 109, 1, 0, 0, 0]
    · rw [if_pos h3]
      have hp : Hid (∀ w : World, Calls Try.prog 13 #[.string s, .string ⟨#[0, 97, 115, 109, 1, 0, 0, 0]⟩] w fun e w' => e = .returned (.bool false) ∧ w' = w) := fun w => by
        by_cases h4 : 8 ≤ s.size
        · exact pre_any s (lpre_no s hs h4 (by rcases h3 with h | h; omega; exact h)) w
        · exact pre_any s (lpre_short s h4) w
      clear h3 h1
      go_enter Try.func8, Try.ntmps8
      go_wp2_with (go_at_call 13; refine (hp.out _).mono ?_; rintro e w2 ⟨rfl, hw⟩; subst hw)
      refine bodyPost_ret (v := .tuple #[.agg #[.slice none 0 0, .slice none 0 0, .slice none 0 0, .slice none 0 0, .slice none 0 0, .slice none 0 0, .slice none 0 0, .int .i64 0, .slice none 0 0, .slice none 0 0, .slice none 0 0], .int .i64 1500]) (by simp [results, Try.results8, go_sem]) rfl ?_
      exact ⟨[.slice none 0 0, .slice none 0 0, .slice none 0 0, .slice none 0 0, .slice none 0 0, .slice none 0 0, .slice none 0 0, .int .i64 0, .slice none 0 0, .slice none 0 0, .slice none 0 0], rfl, ModC.zero _ _ 0, La (Lz _)⟩
    · rw [if_neg h3]
      have h8 : 8 ≤ s.size := Nat.le_of_not_lt fun h => h3 (Or.inl h)
      have htx : (s.extract 0 8).toList = [0, 97, 115, 109, 1, 0, 0, 0] := Classical.byContradiction fun h => h3 (Or.inr h)
      have hp : Hid (∀ w : World, Calls Try.prog 13 #[.string s, .string ⟨#[0, 97, 115, 109, 1, 0, 0, 0]⟩] w fun e w' => e = .returned (.bool true) ∧ w' = w) := fun w => pre_any s (lpre_yes s hs h8 htx) w
      have hm : Hid (∀ W, Calls Try.prog 14 #[.string s] W (UnQ W (unL s s.size 8 0 (mdZ (-1))))) := fun W => caught_any s (by omega) h8 W
      generalize unL s s.size 8 0 (mdZ (-1)) = r at *
      obtain ⟨m, cc⟩ := r
      have P0 : Hid (Rl (w.alloc (.cells #[.slice none 0 0, .slice none 0 0, .slice none 0 0, .slice none 0 0, .slice none 0 0, .slice none 0 0, .slice none 0 0, .int .i64 0, .slice none 0 0, .slice none 0 0, .slice none 0 0] 34)) w.heap.size 34 [.slice none 0 0, .slice none 0 0, .slice none 0 0, .slice none 0 0, .slice none 0 0, .slice none 0 0, .slice none 0 0, .int .i64 0, .slice none 0 0, .slice none 0 0, .slice none 0 0]) := row_new w 34 [.slice none 0 0, .slice none 0 0, .slice none 0 0, .slice none 0 0, .slice none 0 0, .slice none 0 0, .slice none 0 0, .int .i64 0, .slice none 0 0, .slice none 0 0, .slice none 0 0]
      have L0 : Hid (Later w (w.alloc (.cells #[.slice none 0 0, .slice none 0 0, .slice none 0 0, .slice none 0 0, .slice none 0 0, .slice none 0 0, .slice none 0 0, .int .i64 0, .slice none 0 0, .slice none 0 0, .slice none 0 0] 34))) := La (Lz _)
      clear h3 h1 htx h8
      go_enter Try.func8, Try.ntmps8
      go_wp2_with (go_at_call 13; refine (hp.out _).mono ?_; rintro e w2 ⟨rfl, hw⟩; subst hw; clear hp)
      refine (hm.out _).mono ?_
      clear hm
      rintro e w3 ⟨L, rfl, C2, l3⟩
      have C3 := C2
      obtain ⟨v0, v1, v2, v3, v4, v5, v6, v8, v9, v10, e, ⟨A0, c0, rfl, _⟩, ⟨A1, c1, rfl, _⟩, ⟨A2, c2, rfl, _⟩, ⟨A3, c3, rfl, _⟩, ⟨A4, c4, rfl, _⟩, ⟨A5, c5, rfl, _⟩, ⟨A6, c6, rfl, _⟩, ⟨A8, c8, rfl, _⟩, ⟨A9, c9, rfl, _⟩, ⟨A10, c10, rfl, _⟩⟩ := C2
      subst e
      have p0 := P0.out.later l3
      have k0' : w3.cell? ⟨w.heap.size, 0, none⟩ = some (.slice none 0 0) := p0.cell 0 rfl
      have f0' := Rl.frozen p0 0
      have k1' : w3.cell? ⟨w.heap.size, 1, none⟩ = some (.slice none 0 0) := p0.cell 1 rfl
      have f1' := Rl.frozen p0 1
      have k2' : w3.cell? ⟨w.heap.size, 2, none⟩ = some (.slice none 0 0) := p0.cell 2 rfl
      have f2' := Rl.frozen p0 2
      have k3' : w3.cell? ⟨w.heap.size, 3, none⟩ = some (.slice none 0 0) := p0.cell 3 rfl
      have f3' := Rl.frozen p0 3
      have k4' : w3.cell? ⟨w.heap.size, 4, none⟩ = some (.slice none 0 0) := p0.cell 4 rfl
      have f4' := Rl.frozen p0 4
      have k5' : w3.cell? ⟨w.heap.size, 5, none⟩ = some (.slice none 0 0) := p0.cell 5 rfl
      have f5' := Rl.frozen p0 5
      have k6' : w3.cell? ⟨w.heap.size, 6, none⟩ = some (.slice none 0 0) := p0.cell 6 rfl
      have f6' := Rl.frozen p0 6
      have k7' : w3.cell? ⟨w.heap.size, 7, none⟩ = some (.int .i64 0) := p0.cell 7 rfl
      have f7' := Rl.frozen p0 7
      have k8' : w3.cell? ⟨w.heap.size, 8, none⟩ = some (.slice none 0 0) := p0.cell 8 rfl
      have f8' := Rl.frozen p0 8
      have k9' : w3.cell? ⟨w.heap.size, 9, none⟩ = some (.slice none 0 0) := p0.cell 9 rfl
      have f9' := Rl.frozen p0 9
      have k10' : w3.cell? ⟨w.heap.size, 10, none⟩ = some (.slice none 0 0) := p0.cell 10 rfl
      have f10' := Rl.frozen p0 10
      have hl0 := cell_lt k0'
      have hz : (w.alloc (.cells #[.slice none 0 0, .slice none 0 0, .slice none 0 0, .slice none 0 0, .slice none 0 0, .slice none 0 0, .slice none 0 0, .int .i64 0, .slice none 0 0, .slice none 0 0, .slice none 0 0] 34)).heap.size = w.heap.size + 1 := by simp
      have R0 : Hid (Rl (((((((((((w3.setCell ⟨w.heap.size, 0, none⟩ (.slice A0 m.ty.length c0)).setCell ⟨w.heap.size, 1, none⟩ (.slice A1 m.im.length c1)).setCell ⟨w.heap.size, 2, none⟩ (.slice A2 m.fu.length c2)).setCell ⟨w.heap.size, 3, none⟩ (.slice A3 m.ta.length c3)).setCell ⟨w.heap.size, 4, none⟩ (.slice A4 m.me.length c4)).setCell ⟨w.heap.size, 5, none⟩ (.slice A5 m.gl.length c5)).setCell ⟨w.heap.size, 6, none⟩ (.slice A6 m.ex.length c6)).setCell ⟨w.heap.size, 7, none⟩ (.int .i64 m.st)).setCell ⟨w.heap.size, 8, none⟩ (.slice A8 m.el.length c8)).setCell ⟨w.heap.size, 9, none⟩ (.slice A9 m.co.length c9)).setCell ⟨w.heap.size, 10, none⟩ (.slice A10 m.da.length c10)) w.heap.size 34 [.slice A0 m.ty.length c0, .slice A1 m.im.length c1, .slice A2 m.fu.length c2, .slice A3 m.ta.length c3, .slice A4 m.me.length c4, .slice A5 m.gl.length c5, .slice A6 m.ex.length c6, .int .i64 m.st, .slice A8 m.el.length c8, .slice A9 m.co.length c9, .slice A10 m.da.length c10]) := (Rl.set (Rl.set (Rl.set (Rl.set (Rl.set (Rl.set (Rl.set (Rl.set (Rl.set (Rl.set (Rl.set p0 0 _) 1 _) 2 _) 3 _) 4 _) 5 _) 6 _) 7 _) 8 _) 9 _) 10 _)
      have hW : Wr (fun k => k = w.heap.size) w3 (((((((((((w3.setCell ⟨w.heap.size, 0, none⟩ (.slice A0 m.ty.length c0)).setCell ⟨w.heap.size, 1, none⟩ (.slice A1 m.im.length c1)).setCell ⟨w.heap.size, 2, none⟩ (.slice A2 m.fu.length c2)).setCell ⟨w.heap.size, 3, none⟩ (.slice A3 m.ta.length c3)).setCell ⟨w.heap.size, 4, none⟩ (.slice A4 m.me.length c4)).setCell ⟨w.heap.size, 5, none⟩ (.slice A5 m.gl.length c5)).setCell ⟨w.heap.size, 6, none⟩ (.slice A6 m.ex.length c6)).setCell ⟨w.heap.size, 7, none⟩ (.int .i64 m.st)).setCell ⟨w.heap.size, 8, none⟩ (.slice A8 m.el.length c8)).setCell ⟨w.heap.size, 9, none⟩ (.slice A9 m.co.length c9)).setCell ⟨w.heap.size, 10, none⟩ (.slice A10 m.da.length c10)) := Wr.set (Wr.set (Wr.set (Wr.set (Wr.set (Wr.set (Wr.set (Wr.set (Wr.set (Wr.set (Wr.set (Wr.refl (fun k => k = w.heap.size) w3) 0 _ (Or.inl rfl)) 1 _ (Or.inl rfl)) 2 _ (Or.inl rfl)) 3 _ (Or.inl rfl)) 4 _ (Or.inl rfl)) 5 _ (Or.inl rfl)) 6 _ (Or.inl rfl)) 7 _ (Or.inl rfl)) 8 _ (Or.inl rfl)) 9 _ (Or.inl rfl)) 10 _ (Or.inl rfl)
      have hU : Hid (UnQ w (m, cc) (.returned (.tuple #[.agg #[.slice A0 m.ty.length c0, .slice A1 m.im.length c1, .slice A2 m.fu.length c2, .slice A3 m.ta.length c3, .slice A4 m.me.length c4, .slice A5 m.gl.length c5, .slice A6 m.ex.length c6, .int .i64 m.st, .slice A8 m.el.length c8, .slice A9 m.co.length c9, .slice A10 m.da.length c10], .int .i64 cc])) (((((((((((w3.setCell ⟨w.heap.size, 0, none⟩ (.slice A0 m.ty.length c0)).setCell ⟨w.heap.size, 1, none⟩ (.slice A1 m.im.length c1)).setCell ⟨w.heap.size, 2, none⟩ (.slice A2 m.fu.length c2)).setCell ⟨w.heap.size, 3, none⟩ (.slice A3 m.ta.length c3)).setCell ⟨w.heap.size, 4, none⟩ (.slice A4 m.me.length c4)).setCell ⟨w.heap.size, 5, none⟩ (.slice A5 m.gl.length c5)).setCell ⟨w.heap.size, 6, none⟩ (.slice A6 m.ex.length c6)).setCell ⟨w.heap.size, 7, none⟩ (.int .i64 m.st)).setCell ⟨w.heap.size, 8, none⟩ (.slice A8 m.el.length c8)).setCell ⟨w.heap.size, 9, none⟩ (.slice A9 m.co.length c9)).setCell ⟨w.heap.size, 10, none⟩ (.slice A10 m.da.length c10))) := by
        refine ⟨[.slice A0 m.ty.length c0, .slice A1 m.im.length c1, .slice A2 m.fu.length c2, .slice A3 m.ta.length c3, .slice A4 m.me.length c4, .slice A5 m.gl.length c5, .slice A6 m.ex.length c6, .int .i64 m.st, .slice A8 m.el.length c8, .slice A9 m.co.length c9, .slice A10 m.da.length c10], rfl, C3.move fun k hk hl => (by have h1 := hk.1; rw [hz] at h1; have e := hW.block k hl (by show ¬ (k = w.heap.size); omega); exact ⟨⟨by show w.heap.size ≤ k; omega, nfof e hk.2⟩, e⟩), ?_⟩
        · exact Wr.later ((Wr.of_later (S := fun k => k = w.heap.size) (L0.out.trans l3)).trans hW) (fun k hk => by have hk : k = w.heap.size := hk; omega)
      clear hW C3 p0 P0 l3 L0 hz
      go_wp2_with fail
      have t0 : (((((((((((w3.setCell ⟨w.heap.size, 0, none⟩ (.slice A0 m.ty.length c0)).setCell ⟨w.heap.size, 1, none⟩ (.slice A1 m.im.length c1)).setCell ⟨w.heap.size, 2, none⟩ (.slice A2 m.fu.length c2)).setCell ⟨w.heap.size, 3, none⟩ (.slice A3 m.ta.length c3)).setCell ⟨w.heap.size, 4, none⟩ (.slice A4 m.me.length c4)).setCell ⟨w.heap.size, 5, none⟩ (.slice A5 m.gl.length c5)).setCell ⟨w.heap.size, 6, none⟩ (.slice A6 m.ex.length c6)).setCell ⟨w.heap.size, 7, none⟩ (.int .i64 m.st)).setCell ⟨w.heap.size, 8, none⟩ (.slice A8 m.el.length c8)).setCell ⟨w.heap.size, 9, none⟩ (.slice A9 m.co.length c9)).setCell ⟨w.heap.size, 10, none⟩ (.slice A10 m.da.length c10)).cell? ⟨w.heap.size, 0, none⟩ = some (.slice A0 m.ty.length c0) := Rl.cell R0.out 0 rfl
      have t1 : (((((((((((w3.setCell ⟨w.heap.size, 0, none⟩ (.slice A0 m.ty.length c0)).setCell ⟨w.heap.size, 1, none⟩ (.slice A1 m.im.length c1)).setCell ⟨w.heap.size, 2, none⟩ (.slice A2 m.fu.length c2)).setCell ⟨w.heap.size, 3, none⟩ (.slice A3 m.ta.length c3)).setCell ⟨w.heap.size, 4, none⟩ (.slice A4 m.me.length c4)).setCell ⟨w.heap.size, 5, none⟩ (.slice A5 m.gl.length c5)).setCell ⟨w.heap.size, 6, none⟩ (.slice A6 m.ex.length c6)).setCell ⟨w.heap.size, 7, none⟩ (.int .i64 m.st)).setCell ⟨w.heap.size, 8, none⟩ (.slice A8 m.el.length c8)).setCell ⟨w.heap.size, 9, none⟩ (.slice A9 m.co.length c9)).setCell ⟨w.heap.size, 10, none⟩ (.slice A10 m.da.length c10)).cell? ⟨w.heap.size, 1, none⟩ = some (.slice A1 m.im.length c1) := Rl.cell R0.out 1 rfl
      have t2 : (((((((((((w3.setCell ⟨w.heap.size, 0, none⟩ (.slice A0 m.ty.length c0)).setCell ⟨w.heap.size, 1, none⟩ (.slice A1 m.im.length c1)).setCell ⟨w.heap.size, 2, none⟩ (.slice A2 m.fu.length c2)).setCell ⟨w.heap.size, 3, none⟩ (.slice A3 m.ta.length c3)).setCell ⟨w.heap.size, 4, none⟩ (.slice A4 m.me.length c4)).setCell ⟨w.heap.size, 5, none⟩ (.slice A5 m.gl.length c5)).setCell ⟨w.heap.size, 6, none⟩ (.slice A6 m.ex.length c6)).setCell ⟨w.heap.size, 7, none⟩ (.int .i64 m.st)).setCell ⟨w.heap.size, 8, none⟩ (.slice A8 m.el.length c8)).setCell ⟨w.heap.size, 9, none⟩ (.slice A9 m.co.length c9)).setCell ⟨w.heap.size, 10, none⟩ (.slice A10 m.da.length c10)).cell? ⟨w.heap.size, 2, none⟩ = some (.slice A2 m.fu.length c2) := Rl.cell R0.out 2 rfl
      have t3 : (((((((((((w3.setCell ⟨w.heap.size, 0, none⟩ (.slice A0 m.ty.length c0)).setCell ⟨w.heap.size, 1, none⟩ (.slice A1 m.im.length c1)).setCell ⟨w.heap.size, 2, none⟩ (.slice A2 m.fu.length c2)).setCell ⟨w.heap.size, 3, none⟩ (.slice A3 m.ta.length c3)).setCell ⟨w.heap.size, 4, none⟩ (.slice A4 m.me.length c4)).setCell ⟨w.heap.size, 5, none⟩ (.slice A5 m.gl.length c5)).setCell ⟨w.heap.size, 6, none⟩ (.slice A6 m.ex.length c6)).setCell ⟨w.heap.size, 7, none⟩ (.int .i64 m.st)).setCell ⟨w.heap.size, 8, none⟩ (.slice A8 m.el.length c8)).setCell ⟨w.heap.size, 9, none⟩ (.slice A9 m.co.length c9)).setCell ⟨w.heap.size, 10, none⟩ (.slice A10 m.da.length c10)).cell? ⟨w.heap.size, 3, none⟩ = some (.slice A3 m.ta.length c3) := Rl.cell R0.out 3 rfl
      have t4 : (((((((((((w3.setCell ⟨w.heap.size, 0, none⟩ (.slice A0 m.ty.length c0)).setCell ⟨w.heap.size, 1, none⟩ (.slice A1 m.im.length c1)).setCell ⟨w.heap.size, 2, none⟩ (.slice A2 m.fu.length c2)).setCell ⟨w.heap.size, 3, none⟩ (.slice A3 m.ta.length c3)).setCell ⟨w.heap.size, 4, none⟩ (.slice A4 m.me.length c4)).setCell ⟨w.heap.size, 5, none⟩ (.slice A5 m.gl.length c5)).setCell ⟨w.heap.size, 6, none⟩ (.slice A6 m.ex.length c6)).setCell ⟨w.heap.size, 7, none⟩ (.int .i64 m.st)).setCell ⟨w.heap.size, 8, none⟩ (.slice A8 m.el.length c8)).setCell ⟨w.heap.size, 9, none⟩ (.slice A9 m.co.length c9)).setCell ⟨w.heap.size, 10, none⟩ (.slice A10 m.da.length c10)).cell? ⟨w.heap.size, 4, none⟩ = some (.slice A4 m.me.length c4) := Rl.cell R0.out 4 rfl
      have t5 : (((((((((((w3.setCell ⟨w.heap.size, 0, none⟩ (.slice A0 m.ty.length c0)).setCell ⟨w.heap.size, 1, none⟩ (.slice A1 m.im.length c1)).setCell ⟨w.heap.size, 2, none⟩ (.slice A2 m.fu.length c2)).setCell ⟨w.heap.size, 3, none⟩ (.slice A3 m.ta.length c3)).setCell ⟨w.heap.size, 4, none⟩ (.slice A4 m.me.length c4)).setCell ⟨w.heap.size, 5, none⟩ (.slice A5 m.gl.length c5)).setCell ⟨w.heap.size, 6, none⟩ (.slice A6 m.ex.length c6)).setCell ⟨w.heap.size, 7, none⟩ (.int .i64 m.st)).setCell ⟨w.heap.size, 8, none⟩ (.slice A8 m.el.length c8)).setCell ⟨w.heap.size, 9, none⟩ (.slice A9 m.co.length c9)).setCell ⟨w.heap.size, 10, none⟩ (.slice A10 m.da.length c10)).cell? ⟨w.heap.size, 5, none⟩ = some (.slice A5 m.gl.length c5) := Rl.cell R0.out 5 rfl
      have t6 : (((((((((((w3.setCell ⟨w.heap.size, 0, none⟩ (.slice A0 m.ty.length c0)).setCell ⟨w.heap.size, 1, none⟩ (.slice A1 m.im.length c1)).setCell ⟨w.heap.size, 2, none⟩ (.slice A2 m.fu.length c2)).setCell ⟨w.heap.size, 3, none⟩ (.slice A3 m.ta.length c3)).setCell ⟨w.heap.size, 4, none⟩ (.slice A4 m.me.length c4)).setCell ⟨w.heap.size, 5, none⟩ (.slice A5 m.gl.length c5)).setCell ⟨w.heap.size, 6, none⟩ (.slice A6 m.ex.length c6)).setCell ⟨w.heap.size, 7, none⟩ (.int .i64 m.st)).setCell ⟨w.heap.size, 8, none⟩ (.slice A8 m.el.length c8)).setCell ⟨w.heap.size, 9, none⟩ (.slice A9 m.co.length c9)).setCell ⟨w.heap.size, 10, none⟩ (.slice A10 m.da.length c10)).cell? ⟨w.heap.size, 6, none⟩ = some (.slice A6 m.ex.length c6) := Rl.cell R0.out 6 rfl
      have t7 : (((((((((((w3.setCell ⟨w.heap.size, 0, none⟩ (.slice A0 m.ty.length c0)).setCell ⟨w.heap.size, 1, none⟩ (.slice A1 m.im.length c1)).setCell ⟨w.heap.size, 2, none⟩ (.slice A2 m.fu.length c2)).setCell ⟨w.heap.size, 3, none⟩ (.slice A3 m.ta.length c3)).setCell ⟨w.heap.size, 4, none⟩ (.slice A4 m.me.length c4)).setCell ⟨w.heap.size, 5, none⟩ (.slice A5 m.gl.length c5)).setCell ⟨w.heap.size, 6, none⟩ (.slice A6 m.ex.length c6)).setCell ⟨w.heap.size, 7, none⟩ (.int .i64 m.st)).setCell ⟨w.heap.size, 8, none⟩ (.slice A8 m.el.length c8)).setCell ⟨w.heap.size, 9, none⟩ (.slice A9 m.co.length c9)).setCell ⟨w.heap.size, 10, none⟩ (.slice A10 m.da.length c10)).cell? ⟨w.heap.size, 7, none⟩ = some (.int .i64 m.st) := Rl.cell R0.out 7 rfl
      have t8 : (((((((((((w3.setCell ⟨w.heap.size, 0, none⟩ (.slice A0 m.ty.length c0)).setCell ⟨w.heap.size, 1, none⟩ (.slice A1 m.im.length c1)).setCell ⟨w.heap.size, 2, none⟩ (.slice A2 m.fu.length c2)).setCell ⟨w.heap.size, 3, none⟩ (.slice A3 m.ta.length c3)).setCell ⟨w.heap.size, 4, none⟩ (.slice A4 m.me.length c4)).setCell ⟨w.heap.size, 5, none⟩ (.slice A5 m.gl.length c5)).setCell ⟨w.heap.size, 6, none⟩ (.slice A6 m.ex.length c6)).setCell ⟨w.heap.size, 7, none⟩ (.int .i64 m.st)).setCell ⟨w.heap.size, 8, none⟩ (.slice A8 m.el.length c8)).setCell ⟨w.heap.size, 9, none⟩ (.slice A9 m.co.length c9)).setCell ⟨w.heap.size, 10, none⟩ (.slice A10 m.da.length c10)).cell? ⟨w.heap.size, 8, none⟩ = some (.slice A8 m.el.length c8) := Rl.cell R0.out 8 rfl
      have t9 : (((((((((((w3.setCell ⟨w.heap.size, 0, none⟩ (.slice A0 m.ty.length c0)).setCell ⟨w.heap.size, 1, none⟩ (.slice A1 m.im.length c1)).setCell ⟨w.heap.size, 2, none⟩ (.slice A2 m.fu.length c2)).setCell ⟨w.heap.size, 3, none⟩ (.slice A3 m.ta.length c3)).setCell ⟨w.heap.size, 4, none⟩ (.slice A4 m.me.length c4)).setCell ⟨w.heap.size, 5, none⟩ (.slice A5 m.gl.length c5)).setCell ⟨w.heap.size, 6, none⟩ (.slice A6 m.ex.length c6)).setCell ⟨w.heap.size, 7, none⟩ (.int .i64 m.st)).setCell ⟨w.heap.size, 8, none⟩ (.slice A8 m.el.length c8)).setCell ⟨w.heap.size, 9, none⟩ (.slice A9 m.co.length c9)).setCell ⟨w.heap.size, 10, none⟩ (.slice A10 m.da.length c10)).cell? ⟨w.heap.size, 9, none⟩ = some (.slice A9 m.co.length c9) := Rl.cell R0.out 9 rfl
      have t10 : (((((((((((w3.setCell ⟨w.heap.size, 0, none⟩ (.slice A0 m.ty.length c0)).setCell ⟨w.heap.size, 1, none⟩ (.slice A1 m.im.length c1)).setCell ⟨w.heap.size, 2, none⟩ (.slice A2 m.fu.length c2)).setCell ⟨w.heap.size, 3, none⟩ (.slice A3 m.ta.length c3)).setCell ⟨w.heap.size, 4, none⟩ (.slice A4 m.me.length c4)).setCell ⟨w.heap.size, 5, none⟩ (.slice A5 m.gl.length c5)).setCell ⟨w.heap.size, 6, none⟩ (.slice A6 m.ex.length c6)).setCell ⟨w.heap.size, 7, none⟩ (.int .i64 m.st)).setCell ⟨w.heap.size, 8, none⟩ (.slice A8 m.el.length c8)).setCell ⟨w.heap.size, 9, none⟩ (.slice A9 m.co.length c9)).setCell ⟨w.heap.size, 10, none⟩ (.slice A10 m.da.length c10)).cell? ⟨w.heap.size, 10, none⟩ = some (.slice A10 m.da.length c10) := Rl.cell R0.out 10 rfl
      clear R0
      generalize (((((((((((w3.setCell ⟨w.heap.size, 0, none⟩ (.slice A0 m.ty.length c0)).setCell ⟨w.heap.size, 1, none⟩ (.slice A1 m.im.length c1)).setCell ⟨w.heap.size, 2, none⟩ (.slice A2 m.fu.length c2)).setCell ⟨w.heap.size, 3, none⟩ (.slice A3 m.ta.length c3)).setCell ⟨w.heap.size, 4, none⟩ (.slice A4 m.me.length c4)).setCell ⟨w.heap.size, 5, none⟩ (.slice A5 m.gl.length c5)).setCell ⟨w.heap.size, 6, none⟩ (.slice A6 m.ex.length c6)).setCell ⟨w.heap.size, 7, none⟩ (.int .i64 m.st)).setCell ⟨w.heap.size, 8, none⟩ (.slice A8 m.el.length c8)).setCell ⟨w.heap.size, 9, none⟩ (.slice A9 m.co.length c9)).setCell ⟨w.heap.size, 10, none⟩ (.slice A10 m.da.length c10)) = W9 at *
      have hl3 := cell_lt t0
      refine bodyPost_ret (v := .tuple #[.agg #[.slice A0 m.ty.length c0, .slice A1 m.im.length c1, .slice A2 m.fu.length c2, .slice A3 m.ta.length c3, .slice A4 m.me.length c4, .slice A5 m.gl.length c5, .slice A6 m.ex.length c6, .int .i64 m.st, .slice A8 m.el.length c8, .slice A9 m.co.length c9, .slice A10 m.da.length c10], .int .i64 cc]) (by simp [results, Try.results8, go_sem, t0, t1, t2, t3, t4, t5, t6, t7, t8, t9, t10, hl3]) rfl ?_
      exact hU
end Go.Proofs.Ytngciahmoenkiab
