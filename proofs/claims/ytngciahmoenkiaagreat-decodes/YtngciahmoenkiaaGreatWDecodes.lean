/- 'Decodes' of package peloruslaw15 returns true at every text and truth: any bytes are a module as the document reads them, and two answers are apart. No condition. -/
import Derived.Test.YtngciahmoenkiaaGreatFB
import Derived.Test.YtngciahmoenkiaaGreatFQ
import Derived.Test.YtngciahmoenkiaaGreatFZ
import Derived.Test.YtngciahmoenkiaaGreatEP
import Derived.LoopTactic
import Derived.OpenShut
import Derived.ChangeMaps5
import Derived.ShutString
import Derived.SizedLaws
set_option linter.unusedVariables false
set_option linter.unusedSimpArgs false
set_option maxRecDepth 100000
set_option maxHeartbeats 8000000
namespace Go.Proofs.YtngciahmoenkiaaGreat.decodes
open Go.ChangeShapes Go.WideShapes Go.ChangeAt Go.RowKit
/-- an answer in new blocks without a mark -/
def DqP (W : World) (m : Md) (cc : Int) (e : Ending) (w' : World) : Prop := ∃ (A : Nat → Option Addr) (c : Nat → Nat), e = .returned (.tuple #[.agg #[.slice (A 0) m.ty.length (c 0), .slice (A 1) m.im.length (c 1), .slice (A 2) m.fu.length (c 2), .slice (A 3) m.ta.length (c 3), .slice (A 4) m.me.length (c 4), .slice (A 5) m.gl.length (c 5), .slice (A 6) m.ex.length (c 6), .int .i64 m.st, .slice (A 8) m.el.length (c 8), .slice (A 9) m.co.length (c 9), .slice (A 10) m.da.length (c 10)], .int .i64 cc]) ∧ Hid (ModC (fun k => W.heap.size ≤ k ∧ Nf w' k) w' m [.slice (A 0) m.ty.length (c 0), .slice (A 1) m.im.length (c 1), .slice (A 2) m.fu.length (c 2), .slice (A 3) m.ta.length (c 3), .slice (A 4) m.me.length (c 4), .slice (A 5) m.gl.length (c 5), .slice (A 6) m.ex.length (c 6), .int .i64 m.st, .slice (A 8) m.el.length (c 8), .slice (A 9) m.co.length (c 9), .slice (A 10) m.da.length (c 10)]) ∧ Hid (Later W w')
/-- the document's answer -/
def DuP (W : World) (m : Md) (cc : Int) (e : Ending) (w' : World) : Prop := ∃ (A : Nat → Option Addr) (c : Nat → Nat), e = .returned (.tuple #[.agg #[.slice (A 0) m.ty.length (c 0), .slice (A 1) m.im.length (c 1), .slice (A 2) m.fu.length (c 2), .slice (A 3) m.ta.length (c 3), .slice (A 4) m.me.length (c 4), .slice (A 5) m.gl.length (c 5), .slice (A 6) m.ex.length (c 6), .int .i64 m.st, .slice (A 8) m.el.length (c 8), .slice (A 9) m.co.length (c 9), .slice (A 10) m.da.length (c 10)], .int .i64 cc]) ∧ Hid (ModC (W.heap.size ≤ ·) w' m [.slice (A 0) m.ty.length (c 0), .slice (A 1) m.im.length (c 1), .slice (A 2) m.fu.length (c 2), .slice (A 3) m.ta.length (c 3), .slice (A 4) m.me.length (c 4), .slice (A 5) m.gl.length (c 5), .slice (A 6) m.ex.length (c 6), .int .i64 m.st, .slice (A 8) m.el.length (c 8), .slice (A 9) m.co.length (c 9), .slice (A 10) m.da.length (c 10)]) ∧ Hid (Later W w')
theorem du_is {s : ByteArray} {m : Md} {cc : Int} (hs : s.size < 9223372036854775000) (hr : unM s = (m, cc)) (W : World) : Calls Tryz.prog 5 #[.string s] W (DuP W m cc) := by
  refine (unmodule_any s hs W).mono ?_
  rw [hr]
  rintro e w' h
  obtain ⟨L, rfl, C, l⟩ := h.out
  have C2 := C
  obtain ⟨v0, v1, v2, v3, v4, v5, v6, v8, v9, v10, e, ⟨A0, c0, rfl, _⟩, ⟨A1, c1, rfl, _⟩, ⟨A2, c2, rfl, _⟩, ⟨A3, c3, rfl, _⟩, ⟨A4, c4, rfl, _⟩, ⟨A5, c5, rfl, _⟩, ⟨A6, c6, rfl, _⟩, ⟨A8, c8, rfl, _⟩, ⟨A9, c9, rfl, _⟩, ⟨A10, c10, rfl, _⟩⟩ := C
  subst e
  exact ⟨fun k => [A0, A1, A2, A3, A4, A5, A6, none, A8, A9, A10].getD k none, fun k => [c0, c1, c2, c3, c4, c5, c6, 0, c8, c9, c10].getD k 0, rfl, C2, l⟩
theorem core (s t : ByteArray) (hd : Bool) (ht : (hd = true ∧ t = hd8 ++ s) ∨ (hd = false ∧ t = s)) (hz : s.size ≤ 140737488351232) (m : Md) (cc : Int) (hr : unM t = (m, cc)) (hface : ∀ W, Calls Tryz.prog 4 #[.string t] W (DqP W m cc)) (w : World) :
    Calls Tryz.prog 3 #[.string s, .bool hd] w fun e w' => e = .returned (.bool true) ∧ Later w w' := by
  have hM : MdOk m := by have x := unM_ok t; rw [hr] at x; exact x
  have htz : t.size < 9223372036854775000 := by
    rcases ht with ⟨_, e⟩ | ⟨_, e⟩
    · rw [e, ByteArray.size_append]
      show 8 + _ < _
      omega
    · rw [e]
      omega
  have q1 : ¬ 9223372036854775807 < 8 + s.size := by omega
  have h1 : Hid (∀ W, Calls Tryz.prog 4 #[.string t] W (DqP W m cc)) := hface
  have h2 : Hid (∀ W, Calls Tryz.prog 4 #[.string t] W (DqP W m cc)) := hface
  have h3 : Hid (∀ W, Calls Tryz.prog 5 #[.string t] W (DuP W m cc)) := du_is htz hr
  have hn : Hid (∀ x W, Calls Tryz.prog 7 #[.int .i64 x] W fun e w' => e = .returned (.int .i64 x) ∧ w' = W) := lnum_any
  replace hM : Hid (MdOk m) := hM
  clear hr htz hface hz
  rcases ht with ⟨rfl, rfl⟩ | ⟨rfl, rfl⟩
  all_goals
    go_enter Tryz.func3, Tryz.ntmps3
    go_wp2_with fail
    refine (h1.out _).mono ?_
    clear h1
    rintro e w1 ⟨A1, c1, rfl, M1, l1⟩
    have L1 : Hid (Later w w1) := l1.out
    go_wp2_with fail
    refine (h2.out _).mono ?_
    clear h2
    rintro e w2 ⟨A2, c2, rfl, M2, l2⟩
    have K12 : Hid (Later w1 w2) := (La (Lz _)).trans l2.out
    have a0 : w2.cell? ⟨w1.heap.size, 0, none⟩ = some (.slice (A1 0) m.ty.length (c1 0)) := Later.cell_of l2.out (by simp [go_sem])
    have a1 : w2.cell? ⟨w1.heap.size, 1, none⟩ = some (.slice (A1 1) m.im.length (c1 1)) := Later.cell_of l2.out (by simp [go_sem])
    have a2 : w2.cell? ⟨w1.heap.size, 2, none⟩ = some (.slice (A1 2) m.fu.length (c1 2)) := Later.cell_of l2.out (by simp [go_sem])
    have a3 : w2.cell? ⟨w1.heap.size, 3, none⟩ = some (.slice (A1 3) m.ta.length (c1 3)) := Later.cell_of l2.out (by simp [go_sem])
    have a4 : w2.cell? ⟨w1.heap.size, 4, none⟩ = some (.slice (A1 4) m.me.length (c1 4)) := Later.cell_of l2.out (by simp [go_sem])
    have a5 : w2.cell? ⟨w1.heap.size, 5, none⟩ = some (.slice (A1 5) m.gl.length (c1 5)) := Later.cell_of l2.out (by simp [go_sem])
    have a6 : w2.cell? ⟨w1.heap.size, 6, none⟩ = some (.slice (A1 6) m.ex.length (c1 6)) := Later.cell_of l2.out (by simp [go_sem])
    have a7 : w2.cell? ⟨w1.heap.size, 7, none⟩ = some (.int .i64 m.st) := Later.cell_of l2.out (by simp [go_sem])
    have a8 : w2.cell? ⟨w1.heap.size, 8, none⟩ = some (.slice (A1 8) m.el.length (c1 8)) := Later.cell_of l2.out (by simp [go_sem])
    have a9 : w2.cell? ⟨w1.heap.size, 9, none⟩ = some (.slice (A1 9) m.co.length (c1 9)) := Later.cell_of l2.out (by simp [go_sem])
    have a10 : w2.cell? ⟨w1.heap.size, 10, none⟩ = some (.slice (A1 10) m.da.length (c1 10)) := Later.cell_of l2.out (by simp [go_sem])
    have la := cell_lt a0
    have B2 : Hid (w1.heap.size < w2.heap.size) := la
    have M2' : Hid (ModC (fun k => w1.heap.size < k) w2 m [.slice (A2 0) m.ty.length (c2 0), .slice (A2 1) m.im.length (c2 1), .slice (A2 2) m.fu.length (c2 2), .slice (A2 3) m.ta.length (c2 3), .slice (A2 4) m.me.length (c2 4), .slice (A2 5) m.gl.length (c2 5), .slice (A2 6) m.ex.length (c2 6), .int .i64 m.st, .slice (A2 8) m.el.length (c2 8), .slice (A2 9) m.co.length (c2 9), .slice (A2 10) m.da.length (c2 10)]) := M2.out.move fun k hk hl => ⟨by have h := hk.1; simp at h; omega, rfl⟩
    clear l2 M2
    go_wp2_with fail
    refine (h3.out _).mono ?_
    clear h3
    rintro e w3 ⟨A3, c3, rfl, M3, l3⟩
    have K23 : Hid (Later w2 w3) := (La (Lz _)).trans l3.out
    have b0 : w3.cell? ⟨w2.heap.size, 0, none⟩ = some (.slice (A2 0) m.ty.length (c2 0)) := Later.cell_of l3.out (by simp [go_sem])
    have b1 : w3.cell? ⟨w2.heap.size, 1, none⟩ = some (.slice (A2 1) m.im.length (c2 1)) := Later.cell_of l3.out (by simp [go_sem])
    have b2 : w3.cell? ⟨w2.heap.size, 2, none⟩ = some (.slice (A2 2) m.fu.length (c2 2)) := Later.cell_of l3.out (by simp [go_sem])
    have b3 : w3.cell? ⟨w2.heap.size, 3, none⟩ = some (.slice (A2 3) m.ta.length (c2 3)) := Later.cell_of l3.out (by simp [go_sem])
    have b4 : w3.cell? ⟨w2.heap.size, 4, none⟩ = some (.slice (A2 4) m.me.length (c2 4)) := Later.cell_of l3.out (by simp [go_sem])
    have b5 : w3.cell? ⟨w2.heap.size, 5, none⟩ = some (.slice (A2 5) m.gl.length (c2 5)) := Later.cell_of l3.out (by simp [go_sem])
    have b6 : w3.cell? ⟨w2.heap.size, 6, none⟩ = some (.slice (A2 6) m.ex.length (c2 6)) := Later.cell_of l3.out (by simp [go_sem])
    have b7 : w3.cell? ⟨w2.heap.size, 7, none⟩ = some (.int .i64 m.st) := Later.cell_of l3.out (by simp [go_sem])
    have b8 : w3.cell? ⟨w2.heap.size, 8, none⟩ = some (.slice (A2 8) m.el.length (c2 8)) := Later.cell_of l3.out (by simp [go_sem])
    have b9 : w3.cell? ⟨w2.heap.size, 9, none⟩ = some (.slice (A2 9) m.co.length (c2 9)) := Later.cell_of l3.out (by simp [go_sem])
    have b10 : w3.cell? ⟨w2.heap.size, 10, none⟩ = some (.slice (A2 10) m.da.length (c2 10)) := Later.cell_of l3.out (by simp [go_sem])
    have lb := cell_lt b0
    replace a0 := K23.out.cell_of a0
    replace a1 := K23.out.cell_of a1
    replace a2 := K23.out.cell_of a2
    replace a3 := K23.out.cell_of a3
    replace a4 := K23.out.cell_of a4
    replace a5 := K23.out.cell_of a5
    replace a6 := K23.out.cell_of a6
    replace a7 := K23.out.cell_of a7
    replace a8 := K23.out.cell_of a8
    replace a9 := K23.out.cell_of a9
    replace a10 := K23.out.cell_of a10
    have la3 := cell_lt a0
    have M3' : Hid (ModC (fun k => w1.heap.size < k) w3 m [.slice (A3 0) m.ty.length (c3 0), .slice (A3 1) m.im.length (c3 1), .slice (A3 2) m.fu.length (c3 2), .slice (A3 3) m.ta.length (c3 3), .slice (A3 4) m.me.length (c3 4), .slice (A3 5) m.gl.length (c3 5), .slice (A3 6) m.ex.length (c3 6), .int .i64 m.st, .slice (A3 8) m.el.length (c3 8), .slice (A3 9) m.co.length (c3 9), .slice (A3 10) m.da.length (c3 10)]) := M3.out.move fun k hk hl => ⟨by have h : (w2.alloc _).heap.size ≤ k := hk; simp at h; have := B2.out; omega, rfl⟩
    have K13 : Hid (Later w1 w3) := K12.out.trans K23.out
    have M1' : Hid (ModC (fun k => w.heap.size ≤ k ∧ k < w1.heap.size ∧ Nf w1 k) w3 m [.slice (A1 0) m.ty.length (c1 0), .slice (A1 1) m.im.length (c1 1), .slice (A1 2) m.fu.length (c1 2), .slice (A1 3) m.ta.length (c1 3), .slice (A1 4) m.me.length (c1 4), .slice (A1 5) m.gl.length (c1 5), .slice (A1 6) m.ex.length (c1 6), .int .i64 m.st, .slice (A1 8) m.el.length (c1 8), .slice (A1 9) m.co.length (c1 9), .slice (A1 10) m.da.length (c1 10)]) := M1.out.move fun k hk hl => ⟨⟨hk.1, hl, hk.2⟩, K13.out.block hl⟩
    replace M2' : Hid (ModC (fun k => w1.heap.size < k) w3 m [.slice (A2 0) m.ty.length (c2 0), .slice (A2 1) m.im.length (c2 1), .slice (A2 2) m.fu.length (c2 2), .slice (A2 3) m.ta.length (c2 3), .slice (A2 4) m.me.length (c2 4), .slice (A2 5) m.gl.length (c2 5), .slice (A2 6) m.ex.length (c2 6), .int .i64 m.st, .slice (A2 8) m.el.length (c2 8), .slice (A2 9) m.co.length (c2 9), .slice (A2 10) m.da.length (c2 10)]) := M2'.out.move fun k hk hl => ⟨hk, K23.out.block hl⟩
    have hs1 : Hid (∀ W, Later w3 W → Later w3 W → _) := same_two hM.out M1' M3'
    clear l1 l3 M1 M3 K23 K12
    go_wp2_with fail
    refine (hs1.out _ (by repeat first | exact Lz _ | apply La | apply Ld) (by repeat first | exact Lz _ | apply La | apply Ld)).mono ?_
    clear hs1
    rintro e w4 ⟨rfl, l4⟩
    have K34 : Hid (Later w3 w4) := Later.trans (by repeat first | exact Lz _ | apply La | apply Ld) l4
    replace a0 := K34.out.cell_of a0
    replace b0 := K34.out.cell_of b0
    have c0_ : w4.cell? ⟨w3.heap.size, 0, none⟩ = some (.slice (A3 0) m.ty.length (c3 0)) := Later.cell_of l4 (by simp [go_sem])
    replace a1 := K34.out.cell_of a1
    replace b1 := K34.out.cell_of b1
    have c1_ : w4.cell? ⟨w3.heap.size, 1, none⟩ = some (.slice (A3 1) m.im.length (c3 1)) := Later.cell_of l4 (by simp [go_sem])
    replace a2 := K34.out.cell_of a2
    replace b2 := K34.out.cell_of b2
    have c2_ : w4.cell? ⟨w3.heap.size, 2, none⟩ = some (.slice (A3 2) m.fu.length (c3 2)) := Later.cell_of l4 (by simp [go_sem])
    replace a3 := K34.out.cell_of a3
    replace b3 := K34.out.cell_of b3
    have c3_ : w4.cell? ⟨w3.heap.size, 3, none⟩ = some (.slice (A3 3) m.ta.length (c3 3)) := Later.cell_of l4 (by simp [go_sem])
    replace a4 := K34.out.cell_of a4
    replace b4 := K34.out.cell_of b4
    have c4_ : w4.cell? ⟨w3.heap.size, 4, none⟩ = some (.slice (A3 4) m.me.length (c3 4)) := Later.cell_of l4 (by simp [go_sem])
    replace a5 := K34.out.cell_of a5
    replace b5 := K34.out.cell_of b5
    have c5_ : w4.cell? ⟨w3.heap.size, 5, none⟩ = some (.slice (A3 5) m.gl.length (c3 5)) := Later.cell_of l4 (by simp [go_sem])
    replace a6 := K34.out.cell_of a6
    replace b6 := K34.out.cell_of b6
    have c6_ : w4.cell? ⟨w3.heap.size, 6, none⟩ = some (.slice (A3 6) m.ex.length (c3 6)) := Later.cell_of l4 (by simp [go_sem])
    replace a7 := K34.out.cell_of a7
    replace b7 := K34.out.cell_of b7
    have c7_ : w4.cell? ⟨w3.heap.size, 7, none⟩ = some (.int .i64 m.st) := Later.cell_of l4 (by simp [go_sem])
    replace a8 := K34.out.cell_of a8
    replace b8 := K34.out.cell_of b8
    have c8_ : w4.cell? ⟨w3.heap.size, 8, none⟩ = some (.slice (A3 8) m.el.length (c3 8)) := Later.cell_of l4 (by simp [go_sem])
    replace a9 := K34.out.cell_of a9
    replace b9 := K34.out.cell_of b9
    have c9_ : w4.cell? ⟨w3.heap.size, 9, none⟩ = some (.slice (A3 9) m.co.length (c3 9)) := Later.cell_of l4 (by simp [go_sem])
    replace a10 := K34.out.cell_of a10
    replace b10 := K34.out.cell_of b10
    have c10_ : w4.cell? ⟨w3.heap.size, 10, none⟩ = some (.slice (A3 10) m.da.length (c3 10)) := Later.cell_of l4 (by simp [go_sem])
    have la4 := cell_lt a0
    have lb4 := cell_lt b0
    have lc4 := cell_lt c0_
    have B3 : Hid (w2.heap.size < w3.heap.size) := lb
    have M1q : Hid (ModC (fun k => w.heap.size ≤ k ∧ k < w1.heap.size ∧ Nf w1 k) w4 m [.slice (A1 0) m.ty.length (c1 0), .slice (A1 1) m.im.length (c1 1), .slice (A1 2) m.fu.length (c1 2), .slice (A1 3) m.ta.length (c1 3), .slice (A1 4) m.me.length (c1 4), .slice (A1 5) m.gl.length (c1 5), .slice (A1 6) m.ex.length (c1 6), .int .i64 m.st, .slice (A1 8) m.el.length (c1 8), .slice (A1 9) m.co.length (c1 9), .slice (A1 10) m.da.length (c1 10)]) := M1'.out.move fun k hk hl => ⟨hk, K34.out.block hl⟩
    have M2q : Hid (ModC (fun k => w1.heap.size < k) w4 m [.slice (A2 0) m.ty.length (c2 0), .slice (A2 1) m.im.length (c2 1), .slice (A2 2) m.fu.length (c2 2), .slice (A2 3) m.ta.length (c2 3), .slice (A2 4) m.me.length (c2 4), .slice (A2 5) m.gl.length (c2 5), .slice (A2 6) m.ex.length (c2 6), .int .i64 m.st, .slice (A2 8) m.el.length (c2 8), .slice (A2 9) m.co.length (c2 9), .slice (A2 10) m.da.length (c2 10)]) := M2'.out.move fun k hk hl => ⟨hk, K34.out.block hl⟩
    have M3q : Hid (ModC (fun k => w1.heap.size < k) w4 m [.slice (A3 0) m.ty.length (c3 0), .slice (A3 1) m.im.length (c3 1), .slice (A3 2) m.fu.length (c3 2), .slice (A3 3) m.ta.length (c3 3), .slice (A3 4) m.me.length (c3 4), .slice (A3 5) m.gl.length (c3 5), .slice (A3 6) m.ex.length (c3 6), .int .i64 m.st, .slice (A3 8) m.el.length (c3 8), .slice (A3 9) m.co.length (c3 9), .slice (A3 10) m.da.length (c3 10)]) := M3'.out.move fun k hk hl => ⟨hk, K34.out.block hl⟩
    have K14 : Hid (Later w1 w4) := K13.out.trans K34.out
    have L4 : Hid (Later w w4) := L1.out.trans K14.out
    clear l4 K34 K13 M1' M2' M3' la lb la3
    go_wp2_with (go_at_call 7; refine (hn.out _ _).mono ?_; rintro e W ⟨rfl, hw⟩; subst hw)
    refine (spm_any (Z := fun k => w.heap.size ≤ k ∧ k < w1.heap.size ∧ Nf w1 k) hM.out (fun k i hk _ => (World.frozen?_of_block (w := w1) (a := ⟨k, i, none⟩) (K14.out.block hk.2.1)).trans (hk.2.2 i)) (fun k hk => Nat.lt_of_lt_of_le hk.2.1 K14.out.size) M1q.out).mono ?_
    rintro e w5 ⟨rfl, S5⟩
    have N2 : Hid (ModC (fun k => w1.heap.size < k) w5 m [.slice (A2 0) m.ty.length (c2 0), .slice (A2 1) m.im.length (c2 1), .slice (A2 2) m.fu.length (c2 2), .slice (A2 3) m.ta.length (c2 3), .slice (A2 4) m.me.length (c2 4), .slice (A2 5) m.gl.length (c2 5), .slice (A2 6) m.ex.length (c2 6), .int .i64 m.st, .slice (A2 8) m.el.length (c2 8), .slice (A2 9) m.co.length (c2 9), .slice (A2 10) m.da.length (c2 10)]) := M2q.out.move fun k hk hl => ⟨hk, S5.out.block k hl (fun z => by have h1 := z.2.1; have h2 : w1.heap.size < k := hk; omega)⟩
    have N3 : Hid (ModC (fun k => w1.heap.size < k) w5 m [.slice (A3 0) m.ty.length (c3 0), .slice (A3 1) m.im.length (c3 1), .slice (A3 2) m.fu.length (c3 2), .slice (A3 3) m.ta.length (c3 3), .slice (A3 4) m.me.length (c3 4), .slice (A3 5) m.gl.length (c3 5), .slice (A3 6) m.ex.length (c3 6), .int .i64 m.st, .slice (A3 8) m.el.length (c3 8), .slice (A3 9) m.co.length (c3 9), .slice (A3 10) m.da.length (c3 10)]) := M3q.out.move fun k hk hl => ⟨hk, S5.out.block k hl (fun z => by have h1 := z.2.1; have h2 : w1.heap.size < k := hk; omega)⟩
    have hs2 : Hid (∀ W, Later w5 W → Later w5 W → _) := same_two hM.out N2 N3
    replace b0 := Wr.cell S5.out (fun z => by have h1 := z.2.1; have h2 := B2.out; omega) b0
    replace c0_ := Wr.cell S5.out (fun z => by have h1 := z.2.1; have h2 := B2.out; have h3 := B3.out; omega) c0_
    replace b1 := Wr.cell S5.out (fun z => by have h1 := z.2.1; have h2 := B2.out; omega) b1
    replace c1_ := Wr.cell S5.out (fun z => by have h1 := z.2.1; have h2 := B2.out; have h3 := B3.out; omega) c1_
    replace b2 := Wr.cell S5.out (fun z => by have h1 := z.2.1; have h2 := B2.out; omega) b2
    replace c2_ := Wr.cell S5.out (fun z => by have h1 := z.2.1; have h2 := B2.out; have h3 := B3.out; omega) c2_
    replace b3 := Wr.cell S5.out (fun z => by have h1 := z.2.1; have h2 := B2.out; omega) b3
    replace c3_ := Wr.cell S5.out (fun z => by have h1 := z.2.1; have h2 := B2.out; have h3 := B3.out; omega) c3_
    replace b4 := Wr.cell S5.out (fun z => by have h1 := z.2.1; have h2 := B2.out; omega) b4
    replace c4_ := Wr.cell S5.out (fun z => by have h1 := z.2.1; have h2 := B2.out; have h3 := B3.out; omega) c4_
    replace b5 := Wr.cell S5.out (fun z => by have h1 := z.2.1; have h2 := B2.out; omega) b5
    replace c5_ := Wr.cell S5.out (fun z => by have h1 := z.2.1; have h2 := B2.out; have h3 := B3.out; omega) c5_
    replace b6 := Wr.cell S5.out (fun z => by have h1 := z.2.1; have h2 := B2.out; omega) b6
    replace c6_ := Wr.cell S5.out (fun z => by have h1 := z.2.1; have h2 := B2.out; have h3 := B3.out; omega) c6_
    replace b7 := Wr.cell S5.out (fun z => by have h1 := z.2.1; have h2 := B2.out; omega) b7
    replace c7_ := Wr.cell S5.out (fun z => by have h1 := z.2.1; have h2 := B2.out; have h3 := B3.out; omega) c7_
    replace b8 := Wr.cell S5.out (fun z => by have h1 := z.2.1; have h2 := B2.out; omega) b8
    replace c8_ := Wr.cell S5.out (fun z => by have h1 := z.2.1; have h2 := B2.out; have h3 := B3.out; omega) c8_
    replace b9 := Wr.cell S5.out (fun z => by have h1 := z.2.1; have h2 := B2.out; omega) b9
    replace c9_ := Wr.cell S5.out (fun z => by have h1 := z.2.1; have h2 := B2.out; have h3 := B3.out; omega) c9_
    replace b10 := Wr.cell S5.out (fun z => by have h1 := z.2.1; have h2 := B2.out; omega) b10
    replace c10_ := Wr.cell S5.out (fun z => by have h1 := z.2.1; have h2 := B2.out; have h3 := B3.out; omega) c10_
    have lb5 := cell_lt b0
    have lc5 := cell_lt c0_
    have L5 : Hid (Later w w5) := Wr.later ((Wr.of_later L4.out).trans S5.out) (fun k hk => hk.1)
    clear a0 a1 a2 a3 a4 a5 a6 a7 a8 a9 a10 la4 lb4 lc4 M1q M2q M3q N2 N3 S5 L4 K14 L1
    go_wp2_with (first | (go_at_call 6; refine (hs2.out _ (by repeat first | exact Lz _ | apply La | apply Ld) (by repeat first | exact Lz _ | apply La | apply Ld)).mono ?_; clear hs2; rintro e w6 ⟨rfl, l6⟩; replace l6 : Hid _ := l6) | (go_at_call 9; refine (awake_any _).mono ?_; rintro e w7 ⟨rfl, l7⟩))
    go_ret
    exact ⟨rfl, L5.out.trans (Later.trans (Later.trans (by repeat first | exact Lz _ | apply La | apply Ld) l6.out) l7.out)⟩
theorem dm_q {s : ByteArray} {m : Md} {cc : Int} (hs : s.size < 9223372036854775000) (hr : unM s = (m, cc)) (W : World) : Calls Tryz.prog 4 #[.string s] W (DqP W m cc) := by
  refine (dmodule_any s hs W).mono ?_
  rw [hr]
  rintro e w' h
  obtain ⟨L, rfl, C, l⟩ := h.out
  have C2 := C
  obtain ⟨v0, v1, v2, v3, v4, v5, v6, v8, v9, v10, e, ⟨A0, c0, rfl, _⟩, ⟨A1, c1, rfl, _⟩, ⟨A2, c2, rfl, _⟩, ⟨A3, c3, rfl, _⟩, ⟨A4, c4, rfl, _⟩, ⟨A5, c5, rfl, _⟩, ⟨A6, c6, rfl, _⟩, ⟨A8, c8, rfl, _⟩, ⟨A9, c9, rfl, _⟩, ⟨A10, c10, rfl, _⟩⟩ := C
  subst e
  exact ⟨fun k => [A0, A1, A2, A3, A4, A5, A6, none, A8, A9, A10].getD k none, fun k => [c0, c1, c2, c3, c4, c5, c6, 0, c8, c9, c10].getD k 0, rfl, C2.move fun k hk hl => ⟨hk, rfl⟩, l⟩
theorem walk (s : ByteArray) (hs : s.size ≤ 140737488351232) (hd : Bool) (w : World) : Calls Tryz.prog 3 #[.string s, .bool hd] w fun e w' => e = .returned (.bool true) ∧ Later w w' := by
  have hz : (hd8 ++ s).size < 9223372036854775000 := by
    rw [ByteArray.size_append]
    show 8 + _ < _
    omega
  cases hd
  · exact core s s false (Or.inr ⟨rfl, rfl⟩) hs (unM s).1 (unM s).2 rfl (fun W => dm_q (by omega) rfl W) w
  · exact core s (hd8 ++ s) true (Or.inl ⟨rfl, rfl⟩) hs (unM (hd8 ++ s)).1 (unM (hd8 ++ s)).2 rfl (fun W => dm_q hz rfl W) w

set_option maxRecDepth 100000 in
theorem lifted (os : Os) (started : os.Started) (H : Type) (enc : TypeId × Value → H) :
    ReturnsInHanded {} Tryz.checked os 3 .any (Rows.decodesSpec.pre6 enc Tryz.prog Tryz.f3 Rows.decodesRow.domain false) (Rows.decodesSpec.post enc Tryz.prog Tryz.f3 false true false false) := by
  refine returnsInHanded_of_change_sized (C := Tryz.checked) own started (by kernel_rfl) Tryz.func3
    (ChangeSpec.witness6 (enc := enc) (C := Tryz.checked) false ⟨#[], #[.string ⟨#[]⟩, .bool false], []⟩ 8 (by kernel_rfl) (by kernel_rfl) (by kernel_rfl) (by kernel_rfl)) ?_
  intro W base args ds gs before hval0 hW _ hsz0 _
  have hval : ∀ (j : Nat) t v, Tryz.f3.params[j]? = some t → args[j]? = some v → Value.okWide Tryz.prog W .any base t v := hval0
  have hW' := hW
  obtain ⟨p, q, hA0, hV, rfl, hfz, hnd⟩ := hW
  have hA : DataW.TrodAll enc Tryz.prog W 0 (fun _ => true) true Tryz.f3.params.toList args.toList ds p := hA0
  rw [Tryz.params3] at hA hval
  obtain ⟨v0, vs0, d0, ds0, p0, q0, hargs, rfl, rfl, h0, r0⟩ := trodAll_cons hA
  obtain ⟨v1, vs1, d1, ds1, p1, q1, rfl, rfl, rfl, h1, r1⟩ := trodAll_cons r0
  obtain ⟨rfl, rfl, rfl⟩ := trodAll_nil r1
  obtain rfl : args = #[v0, v1] := by cases args; simp_all
  obtain ⟨rfl, rfl⟩ := trodVars_none hV
  obtain ⟨a0, rfl, rfl, rfl, w0⟩ := ChangeMaps.open_string Tryz.underlying9 (hval 0 9 v0 rfl rfl) h0
  have hs0 : a0.size ≤ 140737488351232 := by
    have hs := sized_string hsz0 (j := 0) (t := 9) (bytes := a0.data.toList) rfl rfl
    unfold reachBytes at hs
    simpa using hs
  obtain ⟨a1, rfl, rfl, rfl⟩ := open_bool Tryz.underlying4 (hval 1 4 v1 rfl rfl) h1
  clear hA0 hval0
  simp only [List.append_nil, List.nil_append] at hW'
  have hlt : ∀ x ∈ ([] : List MemPlace), x.block < W.heap.size := fun x hx => by simpa using hW'.lt x hx
  refine (walk a0 hs0 a1 W ).mono fun e W' ⟨he, hl⟩ => ?_
  subst he
  have hbel : Below W.heap.size W W' := by obtain ⟨bs, nn, rfl⟩ := hl; exact ⟨rfl, rfl, rfl, by rw [World.far_size]; omega, fun k hk => World.far_block W bs nn k hk⟩
  have hx : ∀ sp : Nat → Bool, (∀ p ∈ ([] : List MemPlace), sp p.block = true) → DataW.TrodAll enc Tryz.prog W' 0 sp true [9, 4] [.string a0, .bool a1] [.lit (.string a0.data.toList), .lit (.bool a1)] (([] : List MemPlace)) := fun sp hsp => by simpa using (trodAll_cons_mk (ChangeMaps.shut_string Tryz.underlying9 w0) (trodAll_cons_mk (shut_bool Tryz.underlying4 _) trodAll_mk0))
  exact ⟨_, rfl, post_none hW' (fun _ _ _ => (trodAll_cons_mk (shut_bool Tryz.underlying4 _) trodAll_mk0)) (fun sp => hx sp (fun p hp => absurd hp List.not_mem_nil)) (fun _ => rfl) (hbel.frame _) (ok_one (by kernel_rfl) rfl (okWide_bool_mk Tryz.underlying4 _))⟩

theorem over : Rows.decodesRow.holds Tryz.pinned (OpenSpec.ofChange Rows.decodesSpec) :=
  OpenClaim.holds_of_wide 3 Tryz.f3 rfl rfl rfl rfl rfl rfl rfl ⟨rfl, rfl, rfl, rfl, rfl⟩ rfl rfl rfl rfl rfl (by kernel_rfl) Tryz.func3 (by kernel_rfl)
    (of_decide_eq_true (by kernel_rfl)) (by unfold Func.isWrapper; first | (rw [if_pos (by decide +kernel)]; kernel_rfl) | (rw [if_neg (by decide +kernel)]; exact ⟨rfl, rfl⟩))
    (fun os started H enc _ => lifted os started H enc)


theorem proved : Rows.DecodesSaid := over
end Go.Proofs.YtngciahmoenkiaaGreat.decodes
namespace Go.Proofs.YtngciahmoenkiaaGreat
theorem decodes_holds : Rows.DecodesSaid := decodes.proved
#print axioms decodes_holds
end Go.Proofs.YtngciahmoenkiaaGreat
