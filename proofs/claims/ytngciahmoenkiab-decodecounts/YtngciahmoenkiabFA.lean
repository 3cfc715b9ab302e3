/- What each law asks first (awake), over package decode's Module; Module by its answer. -/
import Derived.Test.YtngciahmoenkiabDL
import Derived.KernelRfl
set_option linter.unusedVariables false
set_option linter.unusedSimpArgs false
set_option maxRecDepth 100000
set_option maxHeartbeats 8000000
namespace Go.Proofs.Ytngciahmoenkiab
open Go.RowKit
theorem un_a2 : unM ⟨#[]⟩ = (mdZ 0, 1500) := by kernel_rfl
theorem un_a3 : unM ⟨#[0, 97, 115, 109, 1, 0, 0, 0, 12, 0]⟩ = (mdZ 0, 1502) := by kernel_rfl
theorem un_a4 : unM ⟨#[0, 97, 115, 109, 1, 0, 0, 0, 3, 1, 0, 1, 1, 0]⟩ = (mdZ 0, 1503) := by kernel_rfl
theorem un_a5 : unM ⟨#[0, 97, 115, 109, 1, 0, 0, 0, 1, 9]⟩ = (mdZ 0, 1501) := by kernel_rfl
theorem un_a1 : unM ⟨#[0, 97, 115, 109, 1, 0, 0, 0, 1, 4, 1, 96, 0, 0, 3, 2, 1, 0, 10, 4, 1, 2, 0, 11]⟩ = (⟨[([], [])], [], [0], [], [], [], [], -1, [], [([], .nil)], []⟩, 0) := by kernel_rfl
/-- Module's answer, its cells told apart -/
def DmP (W : World) (m : Md) (cc : Int) (e : Ending) (w' : World) : Prop := ∃ (A : Nat → Option Addr) (c : Nat → Nat), e = .returned (.tuple #[.agg #[.slice (A 0) m.ty.length (c 0), .slice (A 1) m.im.length (c 1), .slice (A 2) m.fu.length (c 2), .slice (A 3) m.ta.length (c 3), .slice (A 4) m.me.length (c 4), .slice (A 5) m.gl.length (c 5), .slice (A 6) m.ex.length (c 6), .int .i64 m.st, .slice (A 8) m.el.length (c 8), .slice (A 9) m.co.length (c 9), .slice (A 10) m.da.length (c 10)], .int .i64 cc]) ∧ Hid (ModC (W.heap.size ≤ ·) w' m [.slice (A 0) m.ty.length (c 0), .slice (A 1) m.im.length (c 1), .slice (A 2) m.fu.length (c 2), .slice (A 3) m.ta.length (c 3), .slice (A 4) m.me.length (c 4), .slice (A 5) m.gl.length (c 5), .slice (A 6) m.ex.length (c 6), .int .i64 m.st, .slice (A 8) m.el.length (c 8), .slice (A 9) m.co.length (c 9), .slice (A 10) m.da.length (c 10)]) ∧ Hid (Later W w')
theorem dm_is {s : ByteArray} {m : Md} {cc : Int} (hs : s.size < 9223372036854775000) (hr : unM s = (m, cc)) (W : World) : Calls Try.prog 8 #[.string s] W (DmP W m cc) := by
  refine (dmodule_any s hs W).mono ?_
  rw [hr]
  rintro e w' h
  obtain ⟨L, rfl, C, l⟩ := h.out
  have C2 := C
  obtain ⟨v0, v1, v2, v3, v4, v5, v6, v8, v9, v10, e, ⟨A0, c0, rfl, _⟩, ⟨A1, c1, rfl, _⟩, ⟨A2, c2, rfl, _⟩, ⟨A3, c3, rfl, _⟩, ⟨A4, c4, rfl, _⟩, ⟨A5, c5, rfl, _⟩, ⟨A6, c6, rfl, _⟩, ⟨A8, c8, rfl, _⟩, ⟨A9, c9, rfl, _⟩, ⟨A10, c10, rfl, _⟩⟩ := C
  subst e
  exact ⟨fun k => [A0, A1, A2, A3, A4, A5, A6, none, A8, A9, A10].getD k none, fun k => [c0, c1, c2, c3, c4, c5, c6, 0, c8, c9, c10].getD k 0, rfl, C2.move fun k hk hl => ⟨hk.1, rfl⟩, l⟩
/-- an error's answer: nothing but the error -/
def DeP (W : World) (cc : Int) (e : Ending) (w' : World) : Prop := ∃ (A : Nat → Option Addr) (c : Nat → Nat), e = .returned (.tuple #[.agg #[.slice (A 0) 0 (c 0), .slice (A 1) 0 (c 1), .slice (A 2) 0 (c 2), .slice (A 3) 0 (c 3), .slice (A 4) 0 (c 4), .slice (A 5) 0 (c 5), .slice (A 6) 0 (c 6), .int .i64 0, .slice (A 8) 0 (c 8), .slice (A 9) 0 (c 9), .slice (A 10) 0 (c 10)], .int .i64 cc]) ∧ Hid (Later W w')
theorem dm_err {s : ByteArray} {cc : Int} (hs : s.size < 9223372036854775000) (hr : unM s = (mdZ 0, cc)) (W : World) : Calls Try.prog 8 #[.string s] W (DeP W cc) := by
  refine (dm_is hs hr W).mono ?_
  rintro e w' ⟨A, c, rfl, _, l⟩
  exact ⟨A, c, rfl, l⟩
theorem lnum_any (x : Int) (w : World) : Calls Try.prog 10 #[.int .i64 x] w fun e w' => e = .returned (.int .i64 x) ∧ w' = w := by
  go_enter Try.func10, Try.ntmps10
  go_wp2
  go_ret
  exact ⟨rfl, rfl⟩
theorem awake_any (w : World) : Calls Try.prog 7 #[] w fun e w' => e = .returned (.bool true) ∧ Hid (Later w w') := by
  have h1 : Hid (∀ W, Calls Try.prog 8 #[.string ⟨#[0, 97, 115, 109, 1, 0, 0, 0, 1, 4, 1, 96, 0, 0, 3, 2, 1, 0, 10, 4, 1, 2, 0, 11]⟩] W (DmP W ⟨[([], [])], [], [0], [], [], [], [], -1, [], [([], .nil)], []⟩ 0)) := dm_is (by decide) un_a1
  have h2 : Hid (∀ W, Calls Try.prog 8 #[.string ⟨#[]⟩] W (DeP W 1500)) := dm_err (by decide) un_a2
  have h3 : Hid (∀ W, Calls Try.prog 8 #[.string ⟨#[0, 97, 115, 109, 1, 0, 0, 0, 12, 0]⟩] W (DeP W 1502)) := dm_err (by decide) un_a3
  have h4 : Hid (∀ W, Calls Try.prog 8 #[.string ⟨#[0, 97, 115, 109, 1, 0, 0, 0, 3, 1, 0, 1, 1, 0]⟩] W (DeP W 1503)) := dm_err (by decide) un_a4
  have h5 : Hid (∀ W, Calls Try.prog 8 #[.string ⟨#[0, 97, 115, 109, 1, 0, 0, 0, 1, 9]⟩] W (DeP W 1501)) := dm_err (by decide) un_a5
  have hn : Hid (∀ x W, Calls Try.prog 10 #[.int .i64 x] W fun e w' => e = .returned (.int .i64 x) ∧ w' = W) := lnum_any
  go_enter Try.func7, Try.ntmps7
  go_wp2_with fail
  refine (h1.out _).mono ?_
  clear h1
  rintro e w1 ⟨A1, c1, rfl, _, l1⟩
  replace l1 : Hid (Later w w1) := l1
  go_wp2_with fail
  refine (h2.out _).mono ?_
  clear h2
  rintro e w2 ⟨A2, c2, rfl, l2⟩
  have k0 : w2.cell? ⟨w1.heap.size, 0, none⟩ = some (.slice (A1 0) 1 (c1 0)) := l2.out.cell_of (by simp [go_sem])
  have k2 : w2.cell? ⟨w1.heap.size, 2, none⟩ = some (.slice (A1 2) 1 (c1 2)) := l2.out.cell_of (by simp [go_sem])
  have k7 : w2.cell? ⟨w1.heap.size, 7, none⟩ = some (.int .i64 (-1)) := l2.out.cell_of (by simp [go_sem])
  have k9 : w2.cell? ⟨w1.heap.size, 9, none⟩ = some (.slice (A1 9) 1 (c1 9)) := l2.out.cell_of (by simp [go_sem])
  have L2 : Hid (Later w w2) := (La l1.out).trans l2.out
  clear l1 l2
  go_wp2_with fail
  refine (h3.out _).mono ?_
  clear h3
  rintro e w3 ⟨A3, c3, rfl, l3⟩
  have M3 := (La (Lz _)).trans l3.out
  replace k0 := M3.cell_of k0
  replace k2 := M3.cell_of k2
  replace k7 := M3.cell_of k7
  replace k9 := M3.cell_of k9
  have L3 : Hid (Later w w3) := L2.out.trans M3
  clear l3 M3 L2
  go_wp2_with fail
  refine (h4.out _).mono ?_
  clear h4
  rintro e w4 ⟨A4, c4, rfl, l4⟩
  have M4 := (La (Lz _)).trans l4.out
  replace k0 := M4.cell_of k0
  replace k2 := M4.cell_of k2
  replace k7 := M4.cell_of k7
  replace k9 := M4.cell_of k9
  have L4 : Hid (Later w w4) := L3.out.trans M4
  clear l4 M4 L3
  go_wp2_with fail
  refine (h5.out _).mono ?_
  clear h5
  rintro e w5 ⟨A5, c5, rfl, l5⟩
  have M5 := (La (Lz _)).trans l5.out
  replace k0 := M5.cell_of k0
  replace k2 := M5.cell_of k2
  replace k7 := M5.cell_of k7
  replace k9 := M5.cell_of k9
  have L5 : Hid (Later w w5) := L4.out.trans M5
  clear l5 M5 L4
  have hl5 := cell_lt k0
  go_wp2_with (go_at_call 10; refine (hn.out _ _).mono ?_; rintro e W ⟨rfl, hw⟩; subst hw)
  go_ret
  exact ⟨rfl, La L5.out⟩
end Go.Proofs.Ytngciahmoenkiab
