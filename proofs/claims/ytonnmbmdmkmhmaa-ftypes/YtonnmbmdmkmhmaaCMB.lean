/- Over this seat's translation: a module copied (peloruslaw0: CopyModule). -/
import Derived.Test.YtonnmbmdmkmhmaaCMA
import Derived.Test.YtonnmbmdmkmhmaaMV
import Derived.Test.YtonnmbmdmkmhmaaIC
import Derived.Test.YtonnmbmdmkmhmaaFS
import Derived.LoopTactic
import Derived.Deep.RegionHeld3
set_option linter.unusedVariables false
set_option linter.unusedSimpArgs false
set_option maxRecDepth 100000
set_option maxHeartbeats 8000000
namespace Go.Proofs.Ytonnmbmdmkmhmaa
open Go.RowKit
def ldq0 (s : String) : Oper := { dst := some 19, op := Op.load 22 (Operand.tmp 18), type := 22, pos := s, after := #[{ on := 0, ground := Ground.data }], guard := none }
theorem ldq0_eq (s : String) : ({ dst := some 19, op := Op.load 22 (Operand.tmp 18), type := 22, pos := s, after := #[{ on := 0, ground := Ground.data }], guard := none } : Oper) = ldq0 s := rfl
attribute [local go_sem] ldq0
def ldq5 (s : String) : Oper := { dst := some 69, op := Op.load 26 (Operand.tmp 68), type := 26, pos := s, after := #[{ on := 0, ground := Ground.data }], guard := none }
theorem ldq5_eq (s : String) : ({ dst := some 69, op := Op.load 26 (Operand.tmp 68), type := 26, pos := s, after := #[{ on := 0, ground := Ground.data }], guard := none } : Oper) = ldq5 s := rfl
attribute [local go_sem] ldq5
def ldq8 (s : String) : Oper := { dst := some 107, op := Op.load 28 (Operand.tmp 106), type := 28, pos := s, after := #[{ on := 0, ground := Ground.data }], guard := none }
theorem ldq8_eq (s : String) : ({ dst := some 107, op := Op.load 28 (Operand.tmp 106), type := 28, pos := s, after := #[{ on := 0, ground := Ground.data }], guard := none } : Oper) = ldq8 s := rfl
attribute [local go_sem] ldq8
def ldq9 (s : String) : Oper := { dst := some 136, op := Op.load 29 (Operand.tmp 135), type := 29, pos := s, after := #[{ on := 0, ground := Ground.data }], guard := none }
theorem ldq9_eq (s : String) : ({ dst := some 136, op := Op.load 29 (Operand.tmp 135), type := 29, pos := s, after := #[{ on := 0, ground := Ground.data }], guard := none } : Oper) = ldq9 s := rfl
attribute [local go_sem] ldq9
def ldq10 (s : String) : Oper := { dst := some 165, op := Op.load 30 (Operand.tmp 164), type := 30, pos := s, after := #[{ on := 0, ground := Ground.data }], guard := none }
theorem ldq10_eq (s : String) : ({ dst := some 165, op := Op.load 30 (Operand.tmp 164), type := 30, pos := s, after := #[{ on := 0, ground := Ground.data }], guard := none } : Oper) = ldq10 s := rfl
attribute [local go_sem] ldq10
theorem flat_fIm (x : Imp) : ∀ y ∈ fIm x, Flat y := fun y hy => by
  simp [fIm] at hy
  rcases hy with rfl | rfl | rfl | rfl | rfl | rfl | rfl <;> trivial
theorem flat_f1 (x : Int) : ∀ y ∈ f1 x, Flat y := fun y hy => by
  simp [f1] at hy
  rcases hy with rfl <;> trivial
theorem flat_fLi (x : Int × Int) : ∀ y ∈ fLi x, Flat y := fun y hy => by
  simp [fLi] at hy
  rcases hy with rfl | rfl <;> trivial
theorem flat_fEx (x : ByteArray × Int × Int) : ∀ y ∈ fEx x, Flat y := fun y hy => by
  simp [fEx] at hy
  rcases hy with rfl | rfl | rfl <;> trivial
theorem cmod_any {Z : Nat → Prop} {m : Md} (hm : MdV m) {w : World} {LA : List Value} (hA : ModC Z w m LA) :
    Calls Try.prog 5 #[.agg LA.toArray] w fun e w' => ∃ L, e = .returned (.agg L.toArray) ∧ Hid (ModC (w.heap.size ≤ ·) w' m L) ∧ Hid (Later w w') := by
  obtain ⟨v0, v1, v2, v3, v4, v5, v6, v8, v9, v10, eA, ⟨A0, a0, rfl, r0⟩, ⟨A1, a1, rfl, r1⟩, ⟨A2, a2, rfl, r2⟩, ⟨A3, a3, rfl, r3⟩, ⟨A4, a4, rfl, r4⟩, ⟨A5, a5, rfl, r5⟩, ⟨A6, a6, rfl, r6⟩, ⟨A8, a8, rfl, r8⟩, ⟨A9, a9, rfl, r9⟩, ⟨A10, a10, rfl, r10⟩⟩ := hA
  have R0 : Hid (Rt fTy Z w A0 m.ty) := r0
  have R1 : Hid (Rt fIm Z w A1 m.im) := r1
  have R2 : Hid (Rt f1 Z w A2 m.fu) := r2
  have R3 : Hid (Rt fLi Z w A3 m.ta) := r3
  have R4 : Hid (Rt fLi Z w A4 m.me) := r4
  have R5 : Hid (Rt fGl Z w A5 m.gl) := r5
  have R6 : Hid (Rt fEx Z w A6 m.ex) := r6
  have R8 : Hid (Rt fEl Z w A8 m.el) := r8
  have R9 : Hid (Rt fCo Z w A9 m.co) := r9
  have R10 : Hid (Rt fDa Z w A10 m.da) := r10
  clear r0 r1 r2 r3 r4 r5 r6 r8 r9 r10
  subst eA
  go_enter Try.func5, Try.ntmps5
  go_wp2_with fail
  obtain ⟨W0, hW0⟩ : ∃ W0 : World, W0 = ((w.alloc (.cells #[.slice A0 m.ty.length a0, .slice A1 m.im.length a1, .slice A2 m.fu.length a2, .slice A3 m.ta.length a3, .slice A4 m.me.length a4, .slice A5 m.gl.length a5, .slice A6 m.ex.length a6, .int .i64 m.st, .slice A8 m.el.length a8, .slice A9 m.co.length a9, .slice A10 m.da.length a10] 32)).alloc (.cells #[.slice none 0 0, .slice none 0 0, .slice none 0 0, .slice none 0 0, .slice none 0 0, .slice none 0 0, .slice none 0 0, .int .i64 0, .slice none 0 0, .slice none 0 0, .slice none 0 0] 32)).alloc (.cells #[.slice none 0 0, .slice A1 m.im.length a1, .slice A2 m.fu.length a2, .slice A3 m.ta.length a3, .slice A4 m.me.length a4, .slice A5 m.gl.length a5, .slice A6 m.ex.length a6, .int .i64 m.st, .slice A8 m.el.length a8, .slice A9 m.co.length a9, .slice A10 m.da.length a10] 32) := ⟨_, rfl⟩
  rw [← hW0]
  obtain ⟨pa, hpa⟩ : ∃ pa, pa = w.heap.size := ⟨_, rfl⟩
  obtain ⟨q, hq⟩ : ∃ q, q = w.heap.size + 2 := ⟨_, rfl⟩
  have L0 : Hid (Later w W0) := by rw [hW0]; exact La (La (La (Lz _)))
  have z0 : Hid (W0.heap.size = w.heap.size + 3) := by show _ = _; rw [hW0]; simp
  have C0 : Hid (Cq pa q [.slice A0 m.ty.length a0, .slice A1 m.im.length a1, .slice A2 m.fu.length a2, .slice A3 m.ta.length a3, .slice A4 m.me.length a4, .slice A5 m.gl.length a5, .slice A6 m.ex.length a6, .int .i64 m.st, .slice A8 m.el.length a8, .slice A9 m.co.length a9, .slice A10 m.da.length a10] W0 W0 [.slice none 0 0, .slice A1 m.im.length a1, .slice A2 m.fu.length a2, .slice A3 m.ta.length a3, .slice A4 m.me.length a4, .slice A5 m.gl.length a5, .slice A6 m.ex.length a6, .int .i64 m.st, .slice A8 m.el.length a8, .slice A9 m.co.length a9, .slice A10 m.da.length a10]) := by
    rw [hW0, hpa, hq]
    refine ⟨Wr.refl _ _, (rl_new w 32 [.slice A0 m.ty.length a0, .slice A1 m.im.length a1, .slice A2 m.fu.length a2, .slice A3 m.ta.length a3, .slice A4 m.me.length a4, .slice A5 m.gl.length a5, .slice A6 m.ex.length a6, .int .i64 m.st, .slice A8 m.el.length a8, .slice A9 m.co.length a9, .slice A10 m.da.length a10]).later (La (La (Lz _))), ?_⟩
    have := rl_new ((w.alloc (.cells #[.slice A0 m.ty.length a0, .slice A1 m.im.length a1, .slice A2 m.fu.length a2, .slice A3 m.ta.length a3, .slice A4 m.me.length a4, .slice A5 m.gl.length a5, .slice A6 m.ex.length a6, .int .i64 m.st, .slice A8 m.el.length a8, .slice A9 m.co.length a9, .slice A10 m.da.length a10] 32)).alloc (.cells #[.slice none 0 0, .slice none 0 0, .slice none 0 0, .slice none 0 0, .slice none 0 0, .slice none 0 0, .slice none 0 0, .int .i64 0, .slice none 0 0, .slice none 0 0, .slice none 0 0] 32)) 32 [.slice none 0 0, .slice A1 m.im.length a1, .slice A2 m.fu.length a2, .slice A3 m.ta.length a3, .slice A4 m.me.length a4, .slice A5 m.gl.length a5, .slice A6 m.ex.length a6, .int .i64 m.st, .slice A8 m.el.length a8, .slice A9 m.co.length a9, .slice A10 m.da.length a10]
    simpa using this
  have hpq : pa ≠ q := by omega
  have hpr : Hid (pa + 1 ≠ q) := by show _ ≠ _; omega
  have QW0 : Hid (Rl W0 (pa + 1) 32 [.slice none 0 0, .slice none 0 0, .slice none 0 0, .slice none 0 0, .slice none 0 0, .slice none 0 0, .slice none 0 0, .int .i64 0, .slice none 0 0, .slice none 0 0, .slice none 0 0]) := by
    rw [hW0, hpa]
    rw [show w.heap.size + 1 = (w.alloc (.cells #[.slice A0 m.ty.length a0, .slice A1 m.im.length a1, .slice A2 m.fu.length a2, .slice A3 m.ta.length a3, .slice A4 m.me.length a4, .slice A5 m.gl.length a5, .slice A6 m.ex.length a6, .int .i64 m.st, .slice A8 m.el.length a8, .slice A9 m.co.length a9, .slice A10 m.da.length a10] 32)).heap.size from (World.size_alloc _ _).symm]
    exact Rl.later (W' := ((w.alloc (.cells #[.slice A0 m.ty.length a0, .slice A1 m.im.length a1, .slice A2 m.fu.length a2, .slice A3 m.ta.length a3, .slice A4 m.me.length a4, .slice A5 m.gl.length a5, .slice A6 m.ex.length a6, .int .i64 m.st, .slice A8 m.el.length a8, .slice A9 m.co.length a9, .slice A10 m.da.length a10] 32)).alloc (.cells #[.slice none 0 0, .slice none 0 0, .slice none 0 0, .slice none 0 0, .slice none 0 0, .slice none 0 0, .slice none 0 0, .int .i64 0, .slice none 0 0, .slice none 0 0, .slice none 0 0] 32)).alloc (.cells #[.slice none 0 0, .slice A1 m.im.length a1, .slice A2 m.fu.length a2, .slice A3 m.ta.length a3, .slice A4 m.me.length a4, .slice A5 m.gl.length a5, .slice A6 m.ex.length a6, .int .i64 m.st, .slice A8 m.el.length a8, .slice A9 m.co.length a9, .slice A10 m.da.length a10] 32)) (rl_new (w.alloc (.cells #[.slice A0 m.ty.length a0, .slice A1 m.im.length a1, .slice A2 m.fu.length a2, .slice A3 m.ta.length a3, .slice A4 m.me.length a4, .slice A5 m.gl.length a5, .slice A6 m.ex.length a6, .int .i64 m.st, .slice A8 m.el.length a8, .slice A9 m.co.length a9, .slice A10 m.da.length a10] 32)) 32 [.slice none 0 0, .slice none 0 0, .slice none 0 0, .slice none 0 0, .slice none 0 0, .slice none 0 0, .slice none 0 0, .int .i64 0, .slice none 0 0, .slice none 0 0, .slice none 0 0]) (La (Lz _))
  have hps : Hid (w.heap.size ≤ pa + 1 ∧ pa + 1 < W0.heap.size) := by rw [z0.out]; exact ⟨by omega, by omega⟩
  have hqw : Hid (w.heap.size ≤ q ∧ pa < W0.heap.size ∧ q < W0.heap.size) := by rw [z0.out]; exact ⟨by omega, by omega, by omega⟩
  rw [show w.heap.size + 1 + 1 = q by omega, ← hpa]
  clear hW0 hpa hq
  replace hpq : Hid (pa ≠ q) := hpq
  have YW0 : Hid (W0.heap.size ≤ W0.heap.size ∧ Later w W0 ∧ pa < W0.heap.size ∧ q < W0.heap.size) := ⟨Nat.le_refl _, L0.out, hqw.out.2.1, hqw.out.2.2⟩
  have CW0 := C0
  obtain ⟨n0, hn0⟩ : ∃ n, n = m.ty.length := ⟨_, rfl⟩
  have hb0 : n0 * 48 ≤ 140737488351232 := by rw [hn0]; exact hm.ty.2
  have h10 : n0 ≤ 140737488351232 := by omega
  replace hb0 : Hid (n0 * 48 ≤ 140737488351232) := hb0
  replace hn0 : Hid (n0 = m.ty.length) := hn0
  go_loopw [4] (fun i wr => ∃ (d : List _) (r : List _) (A : Option Addr) (cap : Nat), i = .int .i64 (d.length : Nat) ∧ d ++ r = m.ty ∧ Lc fTy 34 2 pa q 0 [.slice A0 m.ty.length a0, .slice A1 m.im.length a1, .slice A2 m.fu.length a2, .slice A3 m.ta.length a3, .slice A4 m.me.length a4, .slice A5 m.gl.length a5, .slice A6 m.ex.length a6, .int .i64 m.st, .slice A8 m.el.length a8, .slice A9 m.co.length a9, .slice A10 m.da.length a10] W0 wr [.slice none 0 0, .slice A1 m.im.length a1, .slice A2 m.fu.length a2, .slice A3 m.ta.length a3, .slice A4 m.me.length a4, .slice A5 m.gl.length a5, .slice A6 m.ex.length a6, .int .i64 m.st, .slice A8 m.el.length a8, .slice A9 m.co.length a9, .slice A10 m.da.length a10] (.slice A d.length cap) d) (fun i _ => n0 - (intOf i).toNat)
  case atStart => exact ⟨[], m.ty, none, 0, rfl, rfl, Lc.start CW0.out rfl⟩
  case round =>
    obtain ⟨d, r, A, cap, rfl, hd, hC⟩ := hrel
    have hdl : d.length + r.length = n0 := by rw [hn0.out, ← hd, List.length_append]
    have k0 : wr.cell? ⟨pa, 0, none⟩ = some (.slice A0 n0 a0) := by rw [hn0.out]; exact hC.1.arg 0 rfl
    have b0 : wr.cell? ⟨q, 0, none⟩ = some (.slice A d.length cap) := (hC.cell (by simp)).1
    have bl := cell_lt b0
    have kl := cell_lt k0
    have Lw : Later w wr := hC.1.low YW0.out.2.1 hqw.out.1
    cases r with
    | cons x r =>
      have hlt : d.length < n0 := by simp at hdl; omega
      have hl1 : (d.length : Int) < (n0 : Int) := by omega
      have hdm : d.length < m.ty.length := by rw [← hn0.out]; exact hlt
      obtain ⟨g, o, c, eA, hz, hc, hi⟩ := Rt.at (f := fTy) 2 (fun _ => rfl) (Rt.later (f := fTy) (fun _ => Nat.succ_pos _) Lw R0.out) d.length hdm
      rw [eA] at k0
      have hgx : g < w.heap.size := by
        rcases R0.out with h0 | ⟨g2, o2, L2, e2, _, h2, i2⟩
        · rw [h0] at hdm; exact absurd hdm (by simp)
        · rw [eA] at e2; cases e2; exact cell_lt (h2 0 _ (List.getElem?_eq_getElem (by rw [i2.length, flat_len fTy 2 (fun _ => rfl)]; omega)))
      have hx := hm.ty.1 _ (List.getElem_mem hdm)
      have hxe : m.ty[d.length] = x := by simp [← hd]
      rw [hxe] at hi hx
      obtain ⟨x0, x1⟩ := x
      obtain ⟨y0, c0, rfl, ⟨P0, p0, rfl, hP0⟩, y1, c1, rfl, ⟨P1, p1, rfl, hP1⟩, hnil⟩ := hi
      have c0 := hc 0 _ rfl
      have c1 := hc 1 _ rfl
      simp only [Nat.add_zero] at c0
      have lc := cell_lt c0
      have s0 : Hid (∀ W b, Later wr W → ∃ r w', (Builtin.append_ #[24, 24] 24 #[.slice (some ⟨b, 0, none⟩) 0 0, .slice P0 x0.length p0]).run Try.prog W = .ok r w' ∧ ∃ g cz, r = .slice (some ⟨g, 0, none⟩) x0.length cz ∧ Lq (wr.heap.size ≤ ·) w' (some ⟨g, 0, none⟩) x0 ∧ Later W w' ∧ w'.cell? ⟨q, 0, none⟩ = some (.slice A d.length cap) ∧ q < w'.heap.size) := fun W b hW => by
        obtain ⟨r, w', h1, g, cz, h2, h3, h4⟩ := app_lq P0 x0 b p0 24 _ W hx.1.2 (hP0.later hW)
        exact ⟨r, w', h1, g, cz, h2, h3.mono (fun k hk => Nat.le_trans hW.size hk.1), h4, (hW.trans h4).cell_of b0, cell_lt ((hW.trans h4).cell_of b0)⟩
      have s1 : Hid (∀ W b, Later wr W → ∃ r w', (Builtin.append_ #[24, 24] 24 #[.slice (some ⟨b, 0, none⟩) 0 0, .slice P1 x1.length p1]).run Try.prog W = .ok r w' ∧ ∃ g cz, r = .slice (some ⟨g, 0, none⟩) x1.length cz ∧ Lq (wr.heap.size ≤ ·) w' (some ⟨g, 0, none⟩) x1 ∧ Later W w' ∧ w'.cell? ⟨q, 0, none⟩ = some (.slice A d.length cap) ∧ q < w'.heap.size) := fun W b hW => by
        obtain ⟨r, w', h1, g, cz, h2, h3, h4⟩ := app_lq P1 x1 b p1 24 _ W hx.2.2 (hP1.later hW)
        exact ⟨r, w', h1, g, cz, h2, h3.mono (fun k hk => Nat.le_trans hW.size hk.1), h4, (hW.trans h4).cell_of b0, cell_lt ((hW.trans h4).cell_of b0)⟩
      have s9 : Hid (∀ W g0 n0 g1 n1, Later wr W → Lq (wr.heap.size ≤ ·) W (some ⟨g0, 0, none⟩) x0 → Lq (wr.heap.size ≤ ·) W (some ⟨g1, 0, none⟩) x1 → ∃ r w', (Builtin.append_ #[22, 22] 22 #[.slice A d.length cap, .slice (some ⟨W.heap.size, 0, none⟩) 1 1]).run Try.prog (W.alloc (.cells #[.slice (some ⟨g0, 0, none⟩) x0.length n0, .slice (some ⟨g1, 0, none⟩) x1.length n1] 34)) = .ok r w' ∧ ∃ g cap', r = .slice (some ⟨g, 0, none⟩) (d.length + 1) cap' ∧ (w'.cell? ⟨q, 0, none⟩ = some (.slice A d.length cap) ∧ w'.frozen? ⟨q, 0, none⟩ = false ∧ q < w'.heap.size) ∧ Wr (fun k => k = q ∨ W0.heap.size ≤ k) wr w' ∧ Hid (Lc fTy 34 2 pa q 0 [.slice A0 m.ty.length a0, .slice A1 m.im.length a1, .slice A2 m.fu.length a2, .slice A3 m.ta.length a3, .slice A4 m.me.length a4, .slice A5 m.gl.length a5, .slice A6 m.ex.length a6, .int .i64 m.st, .slice A8 m.el.length a8, .slice A9 m.co.length a9, .slice A10 m.da.length a10] W0 (w'.setCell ⟨q, 0, none⟩ (.slice (some ⟨g, 0, none⟩) (d.length + 1) cap')) [.slice none 0 0, .slice A1 m.im.length a1, .slice A2 m.fu.length a2, .slice A3 m.ta.length a3, .slice A4 m.me.length a4, .slice A5 m.gl.length a5, .slice A6 m.ex.length a6, .int .i64 m.st, .slice A8 m.el.length a8, .slice A9 m.co.length a9, .slice A10 m.da.length a10] (.slice (some ⟨g, 0, none⟩) (d.length + 1) cap') (d ++ [(x0, x1)]))) := fun W g0 n0 g1 n1 hW q0 q1 => by
        obtain ⟨g, cap', w', h1, h2, h4, h3⟩ := hC.more YW0.out.2.2.1 YW0.out.2.2.2 hpq.out (by simp) ti_fty 22 (x0, x1) rfl [.slice (some ⟨g0, 0, none⟩) x0.length n0, .slice (some ⟨g1, 0, none⟩) x1.length n1] (by have := hb0.out; omega) (by omega) hW ⟨_, _, rfl, ⟨_, _, rfl, q0⟩, ⟨_, _, rfl, ⟨_, _, rfl, q1⟩, rfl⟩⟩
        exact ⟨_, w', h1, g, cap', rfl, h2, (Wr.of_later hW).trans (h4.mono (fun _ _ e => Or.inr e)), h3⟩
      have hkeep : Hid (∀ W, Wr (fun k => k = q ∨ W0.heap.size ≤ k) wr W → (Wr (fun k => k = q ∨ W0.heap.size ≤ k) wr W ∧ W.cell? ⟨pa, 0, none⟩ = some (.slice (some ⟨g, o, none⟩) n0 a0) ∧ W.cell? ⟨g, o + d.length * 2, none⟩ = some (.slice P0 x0.length p0) ∧ W.cell? ⟨g, o + d.length * 2 + 1, none⟩ = some (.slice P1 x1.length p1) ∧ pa < W.heap.size ∧ g < W.heap.size ∧ q < W.heap.size)) := fun W hW => by
        have u1 : ¬ (pa = q ∨ W0.heap.size ≤ pa) := fun e => by rcases e with e | e; exact hpq.out e; have := YW0.out.2.2.1; omega
        have u2 : ¬ (g = q ∨ W0.heap.size ≤ g) := fun e => by have := hqw.out.1; have := YW0.out.2.1.size; omega
        have u3 := hW.size
        exact ⟨hW, hW.cell u1 k0, hW.cell u2 c0, hW.cell u2 c1, by omega, by omega, by omega⟩
      have hd2 : Hid (d ++ (x0, x1) :: r = m.ty) := hd
      clear eA hdl hdm hd hc hz hnil hC hgx hx hxe Lw hP0 hP1
      have hb9 : ¬ (pa = q) := hpq.out
      go_wp2_with fail
      rw [ldq0_eq]
      refine wp_region_noPanic ?_
      go_region_held3 (fun W => Wr (fun k => k = q ∨ W0.heap.size ≤ k) wr W ∧ W.cell? ⟨pa, 0, none⟩ = some (.slice (some ⟨g, o, none⟩) n0 a0) ∧ W.cell? ⟨g, o + d.length * 2, none⟩ = some (.slice P0 x0.length p0) ∧ W.cell? ⟨g, o + d.length * 2 + 1, none⟩ = some (.slice P1 x1.length p1) ∧ pa < W.heap.size ∧ g < W.heap.size ∧ q < W.heap.size) (refine hkeep.out _ ?_ <;> (repeat first | assumption | exact Wr.refl _ _ | refine Wr.ltr ?_ (La (Lz _)) | refine Wr.ltr ?_ (Ld (Lz _)) | refine Wr.set ?_ _ _ (Or.inl (Or.inl rfl)) | refine Wr.ltr ?_ (by assumption))) (first | (refine' step_app_ex (by rfl) _ _ 24 (by rfl) _ _ (by rfl) (by rfl) (s0.out _ _ (by repeat first | exact Lz _ | apply La | apply Ld | refine Later.trans ?_ (by assumption))) ?_; rintro _ w0 ⟨g0, m0, rfl, q0, l0, k0, kk0⟩) | (refine' step_app_ex (by rfl) _ _ 24 (by rfl) _ _ (by rfl) (by rfl) (s1.out _ _ (by repeat first | exact Lz _ | apply La | apply Ld | refine Later.trans ?_ (by assumption))) ?_; rintro _ w1 ⟨g1, m1, rfl, q1, l1, k1, kk1⟩) | (refine' step_app_ex (by rfl) _ _ 22 (by rfl) _ _ (by rfl) (by rfl) (s9.out _ _ _ _ _ (by repeat first | exact Lz _ | apply La | apply Ld | refine Later.trans ?_ (by assumption)) (q0.later (by repeat first | exact Lz _ | apply La | apply Ld | refine Later.trans ?_ (by assumption))) (q1.later (by repeat first | exact Lz _ | apply La | apply Ld | refine Later.trans ?_ (by assumption)))) ?_; rintro _ w9 ⟨g9, cap9, rfl, ⟨t0, t1, t2⟩, hv, hn9⟩))
      all_goals
        clear hkeep s9 s0 s1
        refine NoPanic.normal ?_
        go_wp2_with fail
        refine ⟨⟨d ++ [(x0, x1)], r, some ⟨g9, 0, none⟩, cap9, by simp, by rw [List.append_assoc]; exact hd2.out, by rw [List.length_append]; exact hn9.out⟩, ?_⟩
        simp [intOf]
        omega
    | nil =>
      have hde : d = m.ty := by simpa using hd
      subst hde
      have hl1 : ¬ (m.ty.length : Int) < (n0 : Int) := by rw [hn0.out]; omega
      obtain ⟨hC1, hF⟩ := hC.done
      obtain ⟨B0, hB0⟩ : ∃ B, B = A := ⟨_, rfl⟩
      obtain ⟨e0, he0⟩ : ∃ e, e = cap := ⟨_, rfl⟩
      subst hB0 he0
      obtain ⟨V0, hV⟩ : ∃ V, V = wr := ⟨_, rfl⟩
      subst hV
      have YV0 : Hid (W0.heap.size ≤ V0.heap.size ∧ Later w V0 ∧ pa < V0.heap.size ∧ q < V0.heap.size) := by
        have t1 := (hC1.1).size
        have t2 := YW0.out
        exact ⟨by omega, ((Wr.of_later t2.2.1).trans (hC1.1)).later (fun k e => by have e : k = q := e; have := hqw.out.1; omega), by omega, by omega⟩
      have CV0 : Hid (Cq pa q [.slice A0 m.ty.length a0, .slice A1 m.im.length a1, .slice A2 m.fu.length a2, .slice A3 m.ta.length a3, .slice A4 m.me.length a4, .slice A5 m.gl.length a5, .slice A6 m.ex.length a6, .int .i64 m.st, .slice A8 m.el.length a8, .slice A9 m.co.length a9, .slice A10 m.da.length a10] V0 V0 [.slice B0 m.ty.length e0, .slice A1 m.im.length a1, .slice A2 m.fu.length a2, .slice A3 m.ta.length a3, .slice A4 m.me.length a4, .slice A5 m.gl.length a5, .slice A6 m.ex.length a6, .int .i64 m.st, .slice A8 m.el.length a8, .slice A9 m.co.length a9, .slice A10 m.da.length a10]) := ⟨Wr.refl _ _, hC1.2.1, hC1.2.2⟩
      have QV0 : Hid (Rl V0 (pa + 1) 32 [.slice none 0 0, .slice none 0 0, .slice none 0 0, .slice none 0 0, .slice none 0 0, .slice none 0 0, .slice none 0 0, .int .i64 0, .slice none 0 0, .slice none 0 0, .slice none 0 0]) := QW0.out.wr (hC1.1) hpr.out
      have D0V0 : Hid (Fc fTy (fun k => W0.heap.size ≤ k) V0 m.ty (.slice B0 m.ty.length e0)) := hF.move (fun _ => Nat.succ_pos _) (fun k hk hl => ⟨Nat.le_trans YW0.out.1 hk, rfl⟩)
      clear YW0 CW0 QW0
      clear hC hC1 hF hd hdl b0 k0 bl kl Lw
      have s1 : Hid (∀ W b, Later w W → ∃ r w', (Builtin.append_ #[23, 23] 23 #[.slice (some ⟨b, 0, none⟩) 0 0, .slice A1 m.im.length a1]).run Try.prog W = .ok r w' ∧ ∃ g cap, r = .slice (some ⟨g, 0, none⟩) m.im.length cap ∧ Hid (Rt fIm (fun k => W.heap.size ≤ k) w' (some ⟨g, 0, none⟩) m.im) ∧ Hid (Later W w')) := fun W b hW => by
        obtain ⟨r, w', h1, g, cap, h2, h3, h4⟩ := app_rows fIm ti_imp (fun _ => rfl) flat_fIm A1 m.im b a1 23 Z W (by decide) hm.im.2 (Rt.later (f := fIm) (fun _ => Nat.succ_pos _) hW R1.out)
        exact ⟨r, w', h1, g, cap, h2, h3.move (fun _ => Nat.succ_pos _) (fun k hk hl => ⟨hk.1, rfl⟩), h4⟩
      have s2 : Hid (∀ W b, Later w W → ∃ r w', (Builtin.append_ #[24, 24] 24 #[.slice (some ⟨b, 0, none⟩) 0 0, .slice A2 m.fu.length a2]).run Try.prog W = .ok r w' ∧ ∃ g cap, r = .slice (some ⟨g, 0, none⟩) m.fu.length cap ∧ Hid (Rt f1 (fun k => W.heap.size ≤ k) w' (some ⟨g, 0, none⟩) m.fu) ∧ Hid (Later W w')) := fun W b hW => by
        obtain ⟨r, w', h1, g, cap, h2, h3, h4⟩ := app_rows f1 ti_int (fun _ => rfl) flat_f1 A2 m.fu b a2 24 Z W (by decide) hm.fu.2 (Rt.later (f := f1) (fun _ => Nat.succ_pos _) hW R2.out)
        exact ⟨r, w', h1, g, cap, h2, h3.move (fun _ => Nat.succ_pos _) (fun k hk hl => ⟨hk.1, rfl⟩), h4⟩
      have s3 : Hid (∀ W b, Later w W → ∃ r w', (Builtin.append_ #[25, 25] 25 #[.slice (some ⟨b, 0, none⟩) 0 0, .slice A3 m.ta.length a3]).run Try.prog W = .ok r w' ∧ ∃ g cap, r = .slice (some ⟨g, 0, none⟩) m.ta.length cap ∧ Hid (Rt fLi (fun k => W.heap.size ≤ k) w' (some ⟨g, 0, none⟩) m.ta) ∧ Hid (Later W w')) := fun W b hW => by
        obtain ⟨r, w', h1, g, cap, h2, h3, h4⟩ := app_rows fLi ti_lim (fun _ => rfl) flat_fLi A3 m.ta b a3 25 Z W (by decide) hm.ta.2 (Rt.later (f := fLi) (fun _ => Nat.succ_pos _) hW R3.out)
        exact ⟨r, w', h1, g, cap, h2, h3.move (fun _ => Nat.succ_pos _) (fun k hk hl => ⟨hk.1, rfl⟩), h4⟩
      have s4 : Hid (∀ W b, Later w W → ∃ r w', (Builtin.append_ #[25, 25] 25 #[.slice (some ⟨b, 0, none⟩) 0 0, .slice A4 m.me.length a4]).run Try.prog W = .ok r w' ∧ ∃ g cap, r = .slice (some ⟨g, 0, none⟩) m.me.length cap ∧ Hid (Rt fLi (fun k => W.heap.size ≤ k) w' (some ⟨g, 0, none⟩) m.me) ∧ Hid (Later W w')) := fun W b hW => by
        obtain ⟨r, w', h1, g, cap, h2, h3, h4⟩ := app_rows fLi ti_lim (fun _ => rfl) flat_fLi A4 m.me b a4 25 Z W (by decide) hm.me.2 (Rt.later (f := fLi) (fun _ => Nat.succ_pos _) hW R4.out)
        exact ⟨r, w', h1, g, cap, h2, h3.move (fun _ => Nat.succ_pos _) (fun k hk hl => ⟨hk.1, rfl⟩), h4⟩
      have ca0 := CV0.out.arg 0 rfl
      have cq0 := (CV0.out.cell 0 rfl).1
      have fq0 := (CV0.out.cell 0 rfl).2.1
      have ca1 := CV0.out.arg 1 rfl
      have lq := YV0.out.2.2.2
      have la := YV0.out.2.2.1
      have hb9 : ¬ (pa = q) := hpq.out
      have y0 : Hid (Later w V0) := YV0.out.2.1
      have d0 : Hid (Cq pa q [.slice A0 m.ty.length a0, .slice A1 m.im.length a1, .slice A2 m.fu.length a2, .slice A3 m.ta.length a3, .slice A4 m.me.length a4, .slice A5 m.gl.length a5, .slice A6 m.ex.length a6, .int .i64 m.st, .slice A8 m.el.length a8, .slice A9 m.co.length a9, .slice A10 m.da.length a10] V0 V0 [.slice B0 m.ty.length e0, .slice A1 m.im.length a1, .slice A2 m.fu.length a2, .slice A3 m.ta.length a3, .slice A4 m.me.length a4, .slice A5 m.gl.length a5, .slice A6 m.ex.length a6, .int .i64 m.st, .slice A8 m.el.length a8, .slice A9 m.co.length a9, .slice A10 m.da.length a10]) := CV0
      go_wp2_with (first | (at_builtin; refine wpList_app_ex rfl _ _ 23 rfl _ _ rfl rfl (s1.out _ _ (La y0.out)) ?_; rintro _ X1 ⟨B1, e1, rfl, r1, l1⟩; have x1 : Hid (Later V0 X1) := (La (Lz _)).trans l1.out; have c1 := d0.out.later x1.out; have cq1 := (c1.cell 1 rfl).1; have fq1 := (c1.cell 1 rfl).2.1; have lq1 := (c1.cell 1 rfl).2.2; have la1 := c1.2.1.lt; have ca2 := c1.arg 2 rfl; have d1 : Hid (Cq pa q [.slice A0 m.ty.length a0, .slice A1 m.im.length a1, .slice A2 m.fu.length a2, .slice A3 m.ta.length a3, .slice A4 m.me.length a4, .slice A5 m.gl.length a5, .slice A6 m.ex.length a6, .int .i64 m.st, .slice A8 m.el.length a8, .slice A9 m.co.length a9, .slice A10 m.da.length a10] V0 (X1.setCell ⟨q, 1, none⟩ (.slice (some ⟨B1, 0, none⟩) m.im.length e1)) [.slice B0 m.ty.length e0, .slice (some ⟨B1, 0, none⟩) m.im.length e1, .slice A2 m.fu.length a2, .slice A3 m.ta.length a3, .slice A4 m.me.length a4, .slice A5 m.gl.length a5, .slice A6 m.ex.length a6, .int .i64 m.st, .slice A8 m.el.length a8, .slice A9 m.co.length a9, .slice A10 m.da.length a10]) := c1.set hpq.out 1 (.slice (some ⟨B1, 0, none⟩) m.im.length e1); have y1 : Hid (Later w (X1.setCell ⟨q, 1, none⟩ (.slice (some ⟨B1, 0, none⟩) m.im.length e1))) := later_set (y0.out.trans x1.out) hqw.out.1 _ _; clear c1 s1 l1) | (at_builtin; refine wpList_app_ex rfl _ _ 24 rfl _ _ rfl rfl (s2.out _ _ (La y1.out)) ?_; rintro _ X2 ⟨B2, e2, rfl, r2, l2⟩; have x2 : Hid (Later (X1.setCell ⟨q, 1, none⟩ (.slice (some ⟨B1, 0, none⟩) m.im.length e1)) X2) := (La (Lz _)).trans l2.out; have c2 := d1.out.later x2.out; have cq2 := (c2.cell 2 rfl).1; have fq2 := (c2.cell 2 rfl).2.1; have lq2 := (c2.cell 2 rfl).2.2; have la2 := c2.2.1.lt; have ca3 := c2.arg 3 rfl; have d2 : Hid (Cq pa q [.slice A0 m.ty.length a0, .slice A1 m.im.length a1, .slice A2 m.fu.length a2, .slice A3 m.ta.length a3, .slice A4 m.me.length a4, .slice A5 m.gl.length a5, .slice A6 m.ex.length a6, .int .i64 m.st, .slice A8 m.el.length a8, .slice A9 m.co.length a9, .slice A10 m.da.length a10] V0 (X2.setCell ⟨q, 2, none⟩ (.slice (some ⟨B2, 0, none⟩) m.fu.length e2)) [.slice B0 m.ty.length e0, .slice (some ⟨B1, 0, none⟩) m.im.length e1, .slice (some ⟨B2, 0, none⟩) m.fu.length e2, .slice A3 m.ta.length a3, .slice A4 m.me.length a4, .slice A5 m.gl.length a5, .slice A6 m.ex.length a6, .int .i64 m.st, .slice A8 m.el.length a8, .slice A9 m.co.length a9, .slice A10 m.da.length a10]) := c2.set hpq.out 2 (.slice (some ⟨B2, 0, none⟩) m.fu.length e2); have y2 : Hid (Later w (X2.setCell ⟨q, 2, none⟩ (.slice (some ⟨B2, 0, none⟩) m.fu.length e2))) := later_set (y1.out.trans x2.out) hqw.out.1 _ _; clear c2 s2 l2) | (at_builtin; refine wpList_app_ex rfl _ _ 25 rfl _ _ rfl rfl (s3.out _ _ (La y2.out)) ?_; rintro _ X3 ⟨B3, e3, rfl, r3, l3⟩; have x3 : Hid (Later (X2.setCell ⟨q, 2, none⟩ (.slice (some ⟨B2, 0, none⟩) m.fu.length e2)) X3) := (La (Lz _)).trans l3.out; have c3 := d2.out.later x3.out; have cq3 := (c3.cell 3 rfl).1; have fq3 := (c3.cell 3 rfl).2.1; have lq3 := (c3.cell 3 rfl).2.2; have la3 := c3.2.1.lt; have ca4 := c3.arg 4 rfl; have d3 : Hid (Cq pa q [.slice A0 m.ty.length a0, .slice A1 m.im.length a1, .slice A2 m.fu.length a2, .slice A3 m.ta.length a3, .slice A4 m.me.length a4, .slice A5 m.gl.length a5, .slice A6 m.ex.length a6, .int .i64 m.st, .slice A8 m.el.length a8, .slice A9 m.co.length a9, .slice A10 m.da.length a10] V0 (X3.setCell ⟨q, 3, none⟩ (.slice (some ⟨B3, 0, none⟩) m.ta.length e3)) [.slice B0 m.ty.length e0, .slice (some ⟨B1, 0, none⟩) m.im.length e1, .slice (some ⟨B2, 0, none⟩) m.fu.length e2, .slice (some ⟨B3, 0, none⟩) m.ta.length e3, .slice A4 m.me.length a4, .slice A5 m.gl.length a5, .slice A6 m.ex.length a6, .int .i64 m.st, .slice A8 m.el.length a8, .slice A9 m.co.length a9, .slice A10 m.da.length a10]) := c3.set hpq.out 3 (.slice (some ⟨B3, 0, none⟩) m.ta.length e3); have y3 : Hid (Later w (X3.setCell ⟨q, 3, none⟩ (.slice (some ⟨B3, 0, none⟩) m.ta.length e3))) := later_set (y2.out.trans x3.out) hqw.out.1 _ _; clear c3 s3 l3) | (at_builtin; refine wpList_app_ex rfl _ _ 25 rfl _ _ rfl rfl (s4.out _ _ (La y3.out)) ?_; rintro _ X4 ⟨B4, e4, rfl, r4, l4⟩; have x4 : Hid (Later (X3.setCell ⟨q, 3, none⟩ (.slice (some ⟨B3, 0, none⟩) m.ta.length e3)) X4) := (La (Lz _)).trans l4.out; have c4 := d3.out.later x4.out; have cq4 := (c4.cell 4 rfl).1; have fq4 := (c4.cell 4 rfl).2.1; have lq4 := (c4.cell 4 rfl).2.2; have la4 := c4.2.1.lt; have cq5 := (c4.cell 5 rfl).1; have fq5 := (c4.cell 5 rfl).2.1; have d4 : Hid (Cq pa q [.slice A0 m.ty.length a0, .slice A1 m.im.length a1, .slice A2 m.fu.length a2, .slice A3 m.ta.length a3, .slice A4 m.me.length a4, .slice A5 m.gl.length a5, .slice A6 m.ex.length a6, .int .i64 m.st, .slice A8 m.el.length a8, .slice A9 m.co.length a9, .slice A10 m.da.length a10] V0 (X4.setCell ⟨q, 4, none⟩ (.slice (some ⟨B4, 0, none⟩) m.me.length e4)) [.slice B0 m.ty.length e0, .slice (some ⟨B1, 0, none⟩) m.im.length e1, .slice (some ⟨B2, 0, none⟩) m.fu.length e2, .slice (some ⟨B3, 0, none⟩) m.ta.length e3, .slice (some ⟨B4, 0, none⟩) m.me.length e4, .slice A5 m.gl.length a5, .slice A6 m.ex.length a6, .int .i64 m.st, .slice A8 m.el.length a8, .slice A9 m.co.length a9, .slice A10 m.da.length a10]) := c4.set hpq.out 4 (.slice (some ⟨B4, 0, none⟩) m.me.length e4); have y4 : Hid (Later w (X4.setCell ⟨q, 4, none⟩ (.slice (some ⟨B4, 0, none⟩) m.me.length e4))) := later_set (y3.out.trans x4.out) hqw.out.1 _ _; clear c4 s4 l4))
      obtain ⟨V4, hV4⟩ : ∃ V, V = (X4.setCell ⟨q, 4, none⟩ (.slice (some ⟨B4, 0, none⟩) m.me.length e4)).setCell ⟨q, 5, none⟩ (.slice none 0 0) := ⟨_, rfl⟩
      rw [← hV4]
      have c0 : Cq pa q [.slice A0 m.ty.length a0, .slice A1 m.im.length a1, .slice A2 m.fu.length a2, .slice A3 m.ta.length a3, .slice A4 m.me.length a4, .slice A5 m.gl.length a5, .slice A6 m.ex.length a6, .int .i64 m.st, .slice A8 m.el.length a8, .slice A9 m.co.length a9, .slice A10 m.da.length a10] V0 V4 [.slice B0 m.ty.length e0, .slice (some ⟨B1, 0, none⟩) m.im.length e1, .slice (some ⟨B2, 0, none⟩) m.fu.length e2, .slice (some ⟨B3, 0, none⟩) m.ta.length e3, .slice (some ⟨B4, 0, none⟩) m.me.length e4, .slice none 0 0, .slice A6 m.ex.length a6, .int .i64 m.st, .slice A8 m.el.length a8, .slice A9 m.co.length a9, .slice A10 m.da.length a10] := by rw [hV4]; exact (d4.out.set hpq.out 5 (.slice none 0 0))
      have t1 : Wr (fun k => k = q) X1 V4 := by rw [hV4]; exact ((((((((((((Wr.refl (fun k => k = q) X1).set 1 _ (Or.inl rfl)).ltr x2.out).set 2 _ (Or.inl rfl))).ltr x3.out).set 3 _ (Or.inl rfl))).ltr x4.out).set 4 _ (Or.inl rfl))).set 5 _ (Or.inl rfl))
      have u1 : Hid (Fc fIm (fun k => W0.heap.size ≤ k) V4 m.im (.slice (some ⟨B1, 0, none⟩) m.im.length e1)) := ⟨_, _, rfl, r1.out.move (fun _ => Nat.succ_pos _) (fun k hk hl => by
        have h1 := YV0.out.1
        have h2 := hqw.out.2.2
        have hk : (World.alloc _ _).heap.size ≤ k := hk
        simp at hk
        exact ⟨by omega, t1.block k hl (fun e => by have e : k = q := e; omega)⟩)⟩
      have t2 : Wr (fun k => k = q) X2 V4 := by rw [hV4]; exact (((((((((Wr.refl (fun k => k = q) X2).set 2 _ (Or.inl rfl)).ltr x3.out).set 3 _ (Or.inl rfl))).ltr x4.out).set 4 _ (Or.inl rfl))).set 5 _ (Or.inl rfl))
      have u2 : Hid (Fc f1 (fun k => W0.heap.size ≤ k) V4 m.fu (.slice (some ⟨B2, 0, none⟩) m.fu.length e2)) := ⟨_, _, rfl, r2.out.move (fun _ => Nat.succ_pos _) (fun k hk hl => by
        have h1 := YV0.out.1
        have h2 := hqw.out.2.2
        have h31 := x1.out.size
        have hk : (World.alloc _ _).heap.size ≤ k := hk
        simp at hk h31
        exact ⟨by omega, t2.block k hl (fun e => by have e : k = q := e; omega)⟩)⟩
      have t3 : Wr (fun k => k = q) X3 V4 := by rw [hV4]; exact ((((((Wr.refl (fun k => k = q) X3).set 3 _ (Or.inl rfl)).ltr x4.out).set 4 _ (Or.inl rfl))).set 5 _ (Or.inl rfl))
      have u3 : Hid (Fc fLi (fun k => W0.heap.size ≤ k) V4 m.ta (.slice (some ⟨B3, 0, none⟩) m.ta.length e3)) := ⟨_, _, rfl, r3.out.move (fun _ => Nat.succ_pos _) (fun k hk hl => by
        have h1 := YV0.out.1
        have h2 := hqw.out.2.2
        have h31 := x1.out.size
        have h32 := x2.out.size
        have hk : (World.alloc _ _).heap.size ≤ k := hk
        simp at hk h31 h32
        exact ⟨by omega, t3.block k hl (fun e => by have e : k = q := e; omega)⟩)⟩
      have t4 : Wr (fun k => k = q) X4 V4 := by rw [hV4]; exact (((Wr.refl (fun k => k = q) X4).set 4 _ (Or.inl rfl)).set 5 _ (Or.inl rfl))
      have u4 : Hid (Fc fLi (fun k => W0.heap.size ≤ k) V4 m.me (.slice (some ⟨B4, 0, none⟩) m.me.length e4)) := ⟨_, _, rfl, r4.out.move (fun _ => Nat.succ_pos _) (fun k hk hl => by
        have h1 := YV0.out.1
        have h2 := hqw.out.2.2
        have h31 := x1.out.size
        have h32 := x2.out.size
        have h33 := x3.out.size
        have hk : (World.alloc _ _).heap.size ≤ k := hk
        simp at hk h31 h32 h33
        exact ⟨by omega, t4.block k hl (fun e => by have e : k = q := e; omega)⟩)⟩
      have YV4 : Hid (W0.heap.size ≤ V4.heap.size ∧ Later w V4 ∧ pa < V4.heap.size ∧ q < V4.heap.size) := by
        have t1 := (c0.1).size
        have t2 := YV0.out
        exact ⟨by omega, ((Wr.of_later t2.2.1).trans (c0.1)).later (fun k e => by have e : k = q := e; have := hqw.out.1; omega), by omega, by omega⟩
      have CV4 : Hid (Cq pa q [.slice A0 m.ty.length a0, .slice A1 m.im.length a1, .slice A2 m.fu.length a2, .slice A3 m.ta.length a3, .slice A4 m.me.length a4, .slice A5 m.gl.length a5, .slice A6 m.ex.length a6, .int .i64 m.st, .slice A8 m.el.length a8, .slice A9 m.co.length a9, .slice A10 m.da.length a10] V4 V4 [.slice B0 m.ty.length e0, .slice (some ⟨B1, 0, none⟩) m.im.length e1, .slice (some ⟨B2, 0, none⟩) m.fu.length e2, .slice (some ⟨B3, 0, none⟩) m.ta.length e3, .slice (some ⟨B4, 0, none⟩) m.me.length e4, .slice none 0 0, .slice A6 m.ex.length a6, .int .i64 m.st, .slice A8 m.el.length a8, .slice A9 m.co.length a9, .slice A10 m.da.length a10]) := ⟨Wr.refl _ _, c0.2.1, c0.2.2⟩
      have D0V4 : Hid (Fc fTy (fun k => W0.heap.size ≤ k) V4 m.ty (.slice B0 m.ty.length e0)) := D0V0.out.move (fun _ => Nat.succ_pos _) (fun k hk hl => ⟨hk, (c0.1).block k hl (fun e => by have e : k = q := e; have := hqw.out.2; have hk : W0.heap.size ≤ k := hk; omega)⟩)
      have QV4 : Hid (Rl V4 (pa + 1) 32 [.slice none 0 0, .slice none 0 0, .slice none 0 0, .slice none 0 0, .slice none 0 0, .slice none 0 0, .slice none 0 0, .int .i64 0, .slice none 0 0, .slice none 0 0, .slice none 0 0]) := QV0.out.wr (c0.1) hpr.out
      clear YV0 CV0 QV0 D0V0
      have D1V4 := u1
      have D2V4 := u2
      have D3V4 := u3
      have D4V4 := u4
      clear x1 x2 x3 x4 d0 d1 d2 d3 d4 y0 y1 y2 y3 y4 r1 r2 r3 r4 t1 t2 t3 t4 u1 u2 u3 u4 cq1 cq2 cq3 cq4 fq1 fq2 fq3 fq4 lq1 lq2 lq3 lq4 la1 la2 la3 la4 ca1 ca2 ca3 ca4 c0 lq la hb9 hV4 cq5 fq5 ca0 cq0 fq0
      refine (show ∀ z9 z10 z11 z12 z13 z14 z15 z16 z17 z18 z19 z20 z21 z22 z23 z24 z25 z26 z27 z28 z29 z30 z31 z32 z33 z34 z35 z36 z37 z38 z39 z40 z41 z42 z43 z44 z45 z46 z47 z48 z49 z50 z51 z52 z53 z54 z55 z56 z57 z58 z59 z60 z61 z62 z63 z64 z65 z66 z67 z68 z69 z70 z71 z72 z73 z74 z75 z76 z77 z78 z79 z80 z81 z82 z83 z84 z85 z86 z87 z88 z89 z90 z91 z92 z93 z94 z95 z96 z97 z98 z99 z100 z101 z102 z103 z104 z105 z106 z107 z108 z109 z110 z111 z112 z113 z114 z115 z116 z117 z118 z119 z120 z121 z122 z123 z124 z125 z126 z127 z128 z129 z130 z131 z132 z133 z134 z135 z136 z137 z138 z139 z140 z141 z142 z143 z144 z145 z146 z147 z148 z149 z150 z151 z152 z153 z154 z155 z156 z157 z158 z159 z160 z161 z162 z163 z164 z165 z166 z167 z168 z169 z170 z171 z172 z173 z174 z175 z176 z177 z178 z179 z180 z181 z182 z183 : Value, Code.wp _ _ _ ⟨List.toArray (_ :: _ :: _ :: _ :: _ :: _ :: _ :: _ :: _ :: z9 :: z10 :: z11 :: z12 :: z13 :: z14 :: z15 :: z16 :: z17 :: z18 :: z19 :: z20 :: z21 :: z22 :: z23 :: z24 :: z25 :: z26 :: z27 :: z28 :: z29 :: z30 :: z31 :: z32 :: z33 :: z34 :: z35 :: z36 :: z37 :: z38 :: z39 :: z40 :: z41 :: z42 :: z43 :: z44 :: z45 :: z46 :: z47 :: z48 :: z49 :: z50 :: z51 :: z52 :: z53 :: z54 :: z55 :: z56 :: z57 :: z58 :: z59 :: z60 :: z61 :: z62 :: z63 :: z64 :: z65 :: z66 :: z67 :: z68 :: z69 :: z70 :: z71 :: z72 :: z73 :: z74 :: z75 :: z76 :: z77 :: z78 :: z79 :: z80 :: z81 :: z82 :: z83 :: z84 :: z85 :: z86 :: z87 :: z88 :: z89 :: z90 :: z91 :: z92 :: z93 :: z94 :: z95 :: z96 :: z97 :: z98 :: z99 :: z100 :: z101 :: z102 :: z103 :: z104 :: z105 :: z106 :: z107 :: z108 :: z109 :: z110 :: z111 :: z112 :: z113 :: z114 :: z115 :: z116 :: z117 :: z118 :: z119 :: z120 :: z121 :: z122 :: z123 :: z124 :: z125 :: z126 :: z127 :: z128 :: z129 :: z130 :: z131 :: z132 :: z133 :: z134 :: z135 :: z136 :: z137 :: z138 :: z139 :: z140 :: z141 :: z142 :: z143 :: z144 :: z145 :: z146 :: z147 :: z148 :: z149 :: z150 :: z151 :: z152 :: z153 :: z154 :: z155 :: z156 :: z157 :: z158 :: z159 :: z160 :: z161 :: z162 :: z163 :: z164 :: z165 :: z166 :: z167 :: z168 :: z169 :: z170 :: z171 :: z172 :: z173 :: z174 :: z175 :: z176 :: z177 :: z178 :: z179 :: z180 :: z181 :: z182 :: z183 :: []), _⟩ _ from ?_) _ _ _ _ _ _ _ _ _ _ _ _ _ _ _ _ _ _ _ _ _ _ _ _ _ _ _ _ _ _ _ _ _ _ _ _ _ _ _ _ _ _ _ _ _ _ _ _ _ _ _ _ _ _ _ _ _ _ _ _ _ _ _ _ _ _ _ _ _ _ _ _ _ _ _ _ _ _ _ _ _ _ _ _ _ _ _ _ _ _ _ _ _ _ _ _ _ _ _ _ _ _ _ _ _ _ _ _ _ _ _ _ _ _ _ _ _ _ _ _ _ _ _ _ _ _ _ _ _ _ _ _ _ _ _ _ _ _ _ _ _ _ _ _ _ _ _ _ _ _ _ _ _ _ _ _ _ _ _ _ _ _ _ _ _ _ _ _ _ _ _ _ _ _ _
      intro z9 z10 z11 z12 z13 z14 z15 z16 z17 z18 z19 z20 z21 z22 z23 z24 z25 z26 z27 z28 z29 z30 z31 z32 z33 z34 z35 z36 z37 z38 z39 z40 z41 z42 z43 z44 z45 z46 z47 z48 z49 z50 z51 z52 z53 z54 z55 z56 z57 z58 z59 z60 z61 z62 z63 z64 z65 z66 z67 z68 z69 z70 z71 z72 z73 z74 z75 z76 z77 z78 z79 z80 z81 z82 z83 z84 z85 z86 z87 z88 z89 z90 z91 z92 z93 z94 z95 z96 z97 z98 z99 z100 z101 z102 z103 z104 z105 z106 z107 z108 z109 z110 z111 z112 z113 z114 z115 z116 z117 z118 z119 z120 z121 z122 z123 z124 z125 z126 z127 z128 z129 z130 z131 z132 z133 z134 z135 z136 z137 z138 z139 z140 z141 z142 z143 z144 z145 z146 z147 z148 z149 z150 z151 z152 z153 z154 z155 z156 z157 z158 z159 z160 z161 z162 z163 z164 z165 z166 z167 z168 z169 z170 z171 z172 z173 z174 z175 z176 z177 z178 z179 z180 z181 z182 z183
      obtain ⟨n5, hn5⟩ : ∃ n, n = m.gl.length := ⟨_, rfl⟩
      have hb5 : n5 * 40 ≤ 140737488351232 := by rw [hn5]; exact hm.gl.2
      have h15 : n5 ≤ 140737488351232 := by omega
      replace hb5 : Hid (n5 * 40 ≤ 140737488351232) := hb5
      replace hn5 : Hid (n5 = m.gl.length) := hn5
      go_loopw [5] (fun i wr => ∃ (d : List _) (r : List _) (A : Option Addr) (cap : Nat), i = .int .i64 (d.length : Nat) ∧ d ++ r = m.gl ∧ Lc fGl 61 3 pa q 5 [.slice A0 m.ty.length a0, .slice A1 m.im.length a1, .slice A2 m.fu.length a2, .slice A3 m.ta.length a3, .slice A4 m.me.length a4, .slice A5 m.gl.length a5, .slice A6 m.ex.length a6, .int .i64 m.st, .slice A8 m.el.length a8, .slice A9 m.co.length a9, .slice A10 m.da.length a10] V4 wr [.slice B0 m.ty.length e0, .slice (some ⟨B1, 0, none⟩) m.im.length e1, .slice (some ⟨B2, 0, none⟩) m.fu.length e2, .slice (some ⟨B3, 0, none⟩) m.ta.length e3, .slice (some ⟨B4, 0, none⟩) m.me.length e4, .slice none 0 0, .slice A6 m.ex.length a6, .int .i64 m.st, .slice A8 m.el.length a8, .slice A9 m.co.length a9, .slice A10 m.da.length a10] (.slice A d.length cap) d) (fun i _ => n5 - (intOf i).toNat)
      case atStart => exact ⟨[], m.gl, none, 0, rfl, rfl, Lc.start CV4.out rfl⟩
      case round =>
        obtain ⟨d, r, A, cap, rfl, hd, hC⟩ := hrel
        have hdl : d.length + r.length = n5 := by rw [hn5.out, ← hd, List.length_append]
        have k0 : wr.cell? ⟨pa, 5, none⟩ = some (.slice A5 n5 a5) := by rw [hn5.out]; exact hC.1.arg 5 rfl
        have b0 : wr.cell? ⟨q, 5, none⟩ = some (.slice A d.length cap) := (hC.cell (by simp)).1
        have bl := cell_lt b0
        have kl := cell_lt k0
        have Lw : Later w wr := hC.1.low YV4.out.2.1 hqw.out.1
        cases r with
        | cons x r =>
          have hlt : d.length < n5 := by simp at hdl; omega
          have hl1 : (d.length : Int) < (n5 : Int) := by omega
          have hdm : d.length < m.gl.length := by rw [← hn5.out]; exact hlt
          obtain ⟨g, o, c, eA, hz, hc, hi⟩ := Rt.at (f := fGl) 3 (fun _ => rfl) (Rt.later (f := fGl) (fun _ => Nat.succ_pos _) Lw R5.out) d.length hdm
          rw [eA] at k0
          have hgx : g < w.heap.size := by
            rcases R5.out with h0 | ⟨g2, o2, L2, e2, _, h2, i2⟩
            · rw [h0] at hdm; exact absurd hdm (by simp)
            · rw [eA] at e2; cases e2; exact cell_lt (h2 0 _ (List.getElem?_eq_getElem (by rw [i2.length, flat_len fGl 3 (fun _ => rfl)]; omega)))
          have hx := hm.gl.1 _ (List.getElem_mem hdm)
          have hxe : m.gl[d.length] = x := by simp [← hd]
          rw [hxe] at hi hx
          obtain ⟨x0, x1, x2⟩ := x
          obtain ⟨y0, c0, rfl, ez0, y1, c1, rfl, ez1, y2, c2, rfl, ⟨P2, p2, rfl, hP2⟩, hnil⟩ := hi
          have ez0 : y0 = .int .i64 x0 := ez0
          subst ez0
          have ez1 : y1 = .bool x1 := ez1
          subst ez1
          have c0 := hc 0 _ rfl
          have c1 := hc 1 _ rfl
          have c2 := hc 2 _ rfl
          simp only [Nat.add_zero] at c0
          have lc := cell_lt c0
          have s2 : Hid (∀ W, Later wr W → Calls Try.prog 21 #[.slice P2 x2.len p2] W fun e w' => ∃ A' c', e = .returned (.slice A' x2.len c') ∧ Tr (wr.heap.size ≤ ·) w' A' x2 ∧ Later W w' ∧ w'.cell? ⟨q, 5, none⟩ = some (.slice A d.length cap) ∧ q < w'.heap.size) := fun W hW => (copyI_any _ x2 (Nat.le_refl _) hx.2.1 hx.2.2 _ W P2 p2 (hP2.later hW)).mono (by
            rintro e w' ⟨A', c', rfl, h1, h2⟩
            exact ⟨A', c', rfl, h1.out.mono (fun k hk => Nat.le_trans hW.size hk), h2, (hW.trans h2.out).cell_of b0, cell_lt ((hW.trans h2.out).cell_of b0)⟩)
          have s9 : Hid (∀ W Bz2 n2, Later wr W → Tr (wr.heap.size ≤ ·) W Bz2 x2 → ∃ r w', (Builtin.append_ #[26, 26] 26 #[.slice A d.length cap, .slice (some ⟨W.heap.size, 0, none⟩) 1 1]).run Try.prog (W.alloc (.cells #[.int .i64 x0, .bool x1, .slice Bz2 x2.len n2] 61)) = .ok r w' ∧ ∃ g cap', r = .slice (some ⟨g, 0, none⟩) (d.length + 1) cap' ∧ (w'.cell? ⟨q, 5, none⟩ = some (.slice A d.length cap) ∧ w'.frozen? ⟨q, 5, none⟩ = false ∧ q < w'.heap.size) ∧ Wr (fun k => k = q ∨ V4.heap.size ≤ k) wr w' ∧ Hid (Lc fGl 61 3 pa q 5 [.slice A0 m.ty.length a0, .slice A1 m.im.length a1, .slice A2 m.fu.length a2, .slice A3 m.ta.length a3, .slice A4 m.me.length a4, .slice A5 m.gl.length a5, .slice A6 m.ex.length a6, .int .i64 m.st, .slice A8 m.el.length a8, .slice A9 m.co.length a9, .slice A10 m.da.length a10] V4 (w'.setCell ⟨q, 5, none⟩ (.slice (some ⟨g, 0, none⟩) (d.length + 1) cap')) [.slice B0 m.ty.length e0, .slice (some ⟨B1, 0, none⟩) m.im.length e1, .slice (some ⟨B2, 0, none⟩) m.fu.length e2, .slice (some ⟨B3, 0, none⟩) m.ta.length e3, .slice (some ⟨B4, 0, none⟩) m.me.length e4, .slice none 0 0, .slice A6 m.ex.length a6, .int .i64 m.st, .slice A8 m.el.length a8, .slice A9 m.co.length a9, .slice A10 m.da.length a10] (.slice (some ⟨g, 0, none⟩) (d.length + 1) cap') (d ++ [(x0, x1, x2)]))) := fun W Bz2 n2 hW q2 => by
            obtain ⟨g, cap', w', h1, h2, h4, h3⟩ := hC.more YV4.out.2.2.1 YV4.out.2.2.2 hpq.out (by simp) ti_glo 26 (x0, x1, x2) rfl [.int .i64 x0, .bool x1, .slice Bz2 x2.len n2] (by have := hb5.out; omega) (by omega) hW ⟨_, _, rfl, rfl, ⟨_, _, rfl, rfl, ⟨_, _, rfl, ⟨_, _, rfl, q2⟩, rfl⟩⟩⟩
            exact ⟨_, w', h1, g, cap', rfl, h2, (Wr.of_later hW).trans (h4.mono (fun _ _ e => Or.inr e)), h3⟩
          have hkeep : Hid (∀ W, Wr (fun k => k = q ∨ V4.heap.size ≤ k) wr W → (Wr (fun k => k = q ∨ V4.heap.size ≤ k) wr W ∧ W.cell? ⟨pa, 5, none⟩ = some (.slice (some ⟨g, o, none⟩) n5 a5) ∧ W.cell? ⟨g, o + d.length * 3, none⟩ = some (.int .i64 x0) ∧ W.cell? ⟨g, o + d.length * 3 + 1, none⟩ = some (.bool x1) ∧ W.cell? ⟨g, o + d.length * 3 + 2, none⟩ = some (.slice P2 x2.len p2) ∧ pa < W.heap.size ∧ g < W.heap.size ∧ q < W.heap.size)) := fun W hW => by
            have u1 : ¬ (pa = q ∨ V4.heap.size ≤ pa) := fun e => by rcases e with e | e; exact hpq.out e; have := YV4.out.2.2.1; omega
            have u2 : ¬ (g = q ∨ V4.heap.size ≤ g) := fun e => by have := hqw.out.1; have := YV4.out.2.1.size; omega
            have u3 := hW.size
            exact ⟨hW, hW.cell u1 k0, hW.cell u2 c0, hW.cell u2 c1, hW.cell u2 c2, by omega, by omega, by omega⟩
          have hd2 : Hid (d ++ (x0, x1, x2) :: r = m.gl) := hd
          clear eA hdl hdm hd hc hz hnil hC hgx hx hxe Lw hP2
          have hb9 : ¬ (pa = q) := hpq.out
          go_wp2_with fail
          rw [ldq5_eq]
          refine wp_region_noPanic ?_
          go_region_held3 (fun W => Wr (fun k => k = q ∨ V4.heap.size ≤ k) wr W ∧ W.cell? ⟨pa, 5, none⟩ = some (.slice (some ⟨g, o, none⟩) n5 a5) ∧ W.cell? ⟨g, o + d.length * 3, none⟩ = some (.int .i64 x0) ∧ W.cell? ⟨g, o + d.length * 3 + 1, none⟩ = some (.bool x1) ∧ W.cell? ⟨g, o + d.length * 3 + 2, none⟩ = some (.slice P2 x2.len p2) ∧ pa < W.heap.size ∧ g < W.heap.size ∧ q < W.heap.size) (refine hkeep.out _ ?_ <;> (repeat first | assumption | exact Wr.refl _ _ | refine Wr.ltr ?_ (La (Lz _)) | refine Wr.ltr ?_ (Ld (Lz _)) | refine Wr.set ?_ _ _ (Or.inl (Or.inl rfl)) | refine Wr.ltr ?_ (by assumption))) (first | (go_at_call 21; refine (s2.out _ (by repeat first | exact Lz _ | apply La | apply Ld | refine Later.trans ?_ (by assumption))).mono ?_; rintro _ w2 ⟨Bz2, m2, rfl, q2, l2, k2, kk2⟩) | (refine' step_app_ex (by rfl) _ _ 26 (by rfl) _ _ (by rfl) (by rfl) (s9.out _ _ _ (by repeat first | exact Lz _ | apply La | apply Ld | refine Later.trans ?_ (by assumption)) (q2.later (by repeat first | exact Lz _ | apply La | apply Ld | refine Later.trans ?_ (by assumption)))) ?_; rintro _ w9 ⟨g9, cap9, rfl, ⟨t0, t1, t2⟩, hv, hn9⟩))
          all_goals
            clear hkeep s9 s2
            refine NoPanic.normal ?_
            go_wp2_with fail
            refine ⟨⟨d ++ [(x0, x1, x2)], r, some ⟨g9, 0, none⟩, cap9, by simp, by rw [List.append_assoc]; exact hd2.out, by rw [List.length_append]; exact hn9.out⟩, ?_⟩
            simp [intOf]
            omega
        | nil =>
          have hde : d = m.gl := by simpa using hd
          subst hde
          have hl1 : ¬ (m.gl.length : Int) < (n5 : Int) := by rw [hn5.out]; omega
          obtain ⟨hC1, hF⟩ := hC.done
          obtain ⟨B5, hB5⟩ : ∃ B, B = A := ⟨_, rfl⟩
          obtain ⟨e5, he5⟩ : ∃ e, e = cap := ⟨_, rfl⟩
          subst hB5 he5
          obtain ⟨V5, hV⟩ : ∃ V, V = wr := ⟨_, rfl⟩
          subst hV
          have YV5 : Hid (W0.heap.size ≤ V5.heap.size ∧ Later w V5 ∧ pa < V5.heap.size ∧ q < V5.heap.size) := by
            have t1 := (hC1.1).size
            have t2 := YV4.out
            exact ⟨by omega, ((Wr.of_later t2.2.1).trans (hC1.1)).later (fun k e => by have e : k = q := e; have := hqw.out.1; omega), by omega, by omega⟩
          have CV5 : Hid (Cq pa q [.slice A0 m.ty.length a0, .slice A1 m.im.length a1, .slice A2 m.fu.length a2, .slice A3 m.ta.length a3, .slice A4 m.me.length a4, .slice A5 m.gl.length a5, .slice A6 m.ex.length a6, .int .i64 m.st, .slice A8 m.el.length a8, .slice A9 m.co.length a9, .slice A10 m.da.length a10] V5 V5 [.slice B0 m.ty.length e0, .slice (some ⟨B1, 0, none⟩) m.im.length e1, .slice (some ⟨B2, 0, none⟩) m.fu.length e2, .slice (some ⟨B3, 0, none⟩) m.ta.length e3, .slice (some ⟨B4, 0, none⟩) m.me.length e4, .slice B5 m.gl.length e5, .slice A6 m.ex.length a6, .int .i64 m.st, .slice A8 m.el.length a8, .slice A9 m.co.length a9, .slice A10 m.da.length a10]) := ⟨Wr.refl _ _, hC1.2.1, hC1.2.2⟩
          have D0V5 : Hid (Fc fTy (fun k => W0.heap.size ≤ k) V5 m.ty (.slice B0 m.ty.length e0)) := D0V4.out.move (fun _ => Nat.succ_pos _) (fun k hk hl => ⟨hk, (hC1.1).block k hl (fun e => by have e : k = q := e; have := hqw.out.2; have hk : W0.heap.size ≤ k := hk; omega)⟩)
          have D1V5 : Hid (Fc fIm (fun k => W0.heap.size ≤ k) V5 m.im (.slice (some ⟨B1, 0, none⟩) m.im.length e1)) := D1V4.out.move (fun _ => Nat.succ_pos _) (fun k hk hl => ⟨hk, (hC1.1).block k hl (fun e => by have e : k = q := e; have := hqw.out.2; have hk : W0.heap.size ≤ k := hk; omega)⟩)
          have D2V5 : Hid (Fc f1 (fun k => W0.heap.size ≤ k) V5 m.fu (.slice (some ⟨B2, 0, none⟩) m.fu.length e2)) := D2V4.out.move (fun _ => Nat.succ_pos _) (fun k hk hl => ⟨hk, (hC1.1).block k hl (fun e => by have e : k = q := e; have := hqw.out.2; have hk : W0.heap.size ≤ k := hk; omega)⟩)
          have D3V5 : Hid (Fc fLi (fun k => W0.heap.size ≤ k) V5 m.ta (.slice (some ⟨B3, 0, none⟩) m.ta.length e3)) := D3V4.out.move (fun _ => Nat.succ_pos _) (fun k hk hl => ⟨hk, (hC1.1).block k hl (fun e => by have e : k = q := e; have := hqw.out.2; have hk : W0.heap.size ≤ k := hk; omega)⟩)
          have D4V5 : Hid (Fc fLi (fun k => W0.heap.size ≤ k) V5 m.me (.slice (some ⟨B4, 0, none⟩) m.me.length e4)) := D4V4.out.move (fun _ => Nat.succ_pos _) (fun k hk hl => ⟨hk, (hC1.1).block k hl (fun e => by have e : k = q := e; have := hqw.out.2; have hk : W0.heap.size ≤ k := hk; omega)⟩)
          have QV5 : Hid (Rl V5 (pa + 1) 32 [.slice none 0 0, .slice none 0 0, .slice none 0 0, .slice none 0 0, .slice none 0 0, .slice none 0 0, .slice none 0 0, .int .i64 0, .slice none 0 0, .slice none 0 0, .slice none 0 0]) := QV4.out.wr (hC1.1) hpr.out
          have D5V5 : Hid (Fc fGl (fun k => W0.heap.size ≤ k) V5 m.gl (.slice B5 m.gl.length e5)) := hF.move (fun _ => Nat.succ_pos _) (fun k hk hl => ⟨Nat.le_trans YV4.out.1 hk, rfl⟩)
          clear YV4 CV4 QV4 D0V4 D1V4 D2V4 D3V4 D4V4
          clear hC hC1 hF hd hdl b0 k0 bl kl Lw
          have s6 : Hid (∀ W b, Later w W → ∃ r w', (Builtin.append_ #[27, 27] 27 #[.slice (some ⟨b, 0, none⟩) 0 0, .slice A6 m.ex.length a6]).run Try.prog W = .ok r w' ∧ ∃ g cap, r = .slice (some ⟨g, 0, none⟩) m.ex.length cap ∧ Hid (Rt fEx (fun k => W.heap.size ≤ k) w' (some ⟨g, 0, none⟩) m.ex) ∧ Hid (Later W w')) := fun W b hW => by
            obtain ⟨r, w', h1, g, cap, h2, h3, h4⟩ := app_rows fEx ti_exp (fun _ => rfl) flat_fEx A6 m.ex b a6 27 Z W (by decide) hm.ex.2 (Rt.later (f := fEx) (fun _ => Nat.succ_pos _) hW R6.out)
            exact ⟨r, w', h1, g, cap, h2, h3.move (fun _ => Nat.succ_pos _) (fun k hk hl => ⟨hk.1, rfl⟩), h4⟩
          have ca5 := CV5.out.arg 5 rfl
          have cq5 := (CV5.out.cell 5 rfl).1
          have fq5 := (CV5.out.cell 5 rfl).2.1
          have ca6 := CV5.out.arg 6 rfl
          have lq := YV5.out.2.2.2
          have la := YV5.out.2.2.1
          have hb9 : ¬ (pa = q) := hpq.out
          have y5 : Hid (Later w V5) := YV5.out.2.1
          have d5 : Hid (Cq pa q [.slice A0 m.ty.length a0, .slice A1 m.im.length a1, .slice A2 m.fu.length a2, .slice A3 m.ta.length a3, .slice A4 m.me.length a4, .slice A5 m.gl.length a5, .slice A6 m.ex.length a6, .int .i64 m.st, .slice A8 m.el.length a8, .slice A9 m.co.length a9, .slice A10 m.da.length a10] V5 V5 [.slice B0 m.ty.length e0, .slice (some ⟨B1, 0, none⟩) m.im.length e1, .slice (some ⟨B2, 0, none⟩) m.fu.length e2, .slice (some ⟨B3, 0, none⟩) m.ta.length e3, .slice (some ⟨B4, 0, none⟩) m.me.length e4, .slice B5 m.gl.length e5, .slice A6 m.ex.length a6, .int .i64 m.st, .slice A8 m.el.length a8, .slice A9 m.co.length a9, .slice A10 m.da.length a10]) := CV5
          go_wp2_with (first | (at_builtin; refine wpList_app_ex rfl _ _ 27 rfl _ _ rfl rfl (s6.out _ _ (La y5.out)) ?_; rintro _ X6 ⟨B6, e6, rfl, r6, l6⟩; have x6 : Hid (Later V5 X6) := (La (Lz _)).trans l6.out; have c6 := d5.out.later x6.out; have cq6 := (c6.cell 6 rfl).1; have fq6 := (c6.cell 6 rfl).2.1; have lq6 := (c6.cell 6 rfl).2.2; have la6 := c6.2.1.lt; have cq8 := (c6.cell 8 rfl).1; have fq8 := (c6.cell 8 rfl).2.1; have d6 : Hid (Cq pa q [.slice A0 m.ty.length a0, .slice A1 m.im.length a1, .slice A2 m.fu.length a2, .slice A3 m.ta.length a3, .slice A4 m.me.length a4, .slice A5 m.gl.length a5, .slice A6 m.ex.length a6, .int .i64 m.st, .slice A8 m.el.length a8, .slice A9 m.co.length a9, .slice A10 m.da.length a10] V5 (X6.setCell ⟨q, 6, none⟩ (.slice (some ⟨B6, 0, none⟩) m.ex.length e6)) [.slice B0 m.ty.length e0, .slice (some ⟨B1, 0, none⟩) m.im.length e1, .slice (some ⟨B2, 0, none⟩) m.fu.length e2, .slice (some ⟨B3, 0, none⟩) m.ta.length e3, .slice (some ⟨B4, 0, none⟩) m.me.length e4, .slice B5 m.gl.length e5, .slice (some ⟨B6, 0, none⟩) m.ex.length e6, .int .i64 m.st, .slice A8 m.el.length a8, .slice A9 m.co.length a9, .slice A10 m.da.length a10]) := c6.set hpq.out 6 (.slice (some ⟨B6, 0, none⟩) m.ex.length e6); have y6 : Hid (Later w (X6.setCell ⟨q, 6, none⟩ (.slice (some ⟨B6, 0, none⟩) m.ex.length e6))) := later_set (y5.out.trans x6.out) hqw.out.1 _ _; clear c6 s6 l6))
          obtain ⟨V6, hV6⟩ : ∃ V, V = (X6.setCell ⟨q, 6, none⟩ (.slice (some ⟨B6, 0, none⟩) m.ex.length e6)).setCell ⟨q, 8, none⟩ (.slice none 0 0) := ⟨_, rfl⟩
          rw [← hV6]
          have c0 : Cq pa q [.slice A0 m.ty.length a0, .slice A1 m.im.length a1, .slice A2 m.fu.length a2, .slice A3 m.ta.length a3, .slice A4 m.me.length a4, .slice A5 m.gl.length a5, .slice A6 m.ex.length a6, .int .i64 m.st, .slice A8 m.el.length a8, .slice A9 m.co.length a9, .slice A10 m.da.length a10] V5 V6 [.slice B0 m.ty.length e0, .slice (some ⟨B1, 0, none⟩) m.im.length e1, .slice (some ⟨B2, 0, none⟩) m.fu.length e2, .slice (some ⟨B3, 0, none⟩) m.ta.length e3, .slice (some ⟨B4, 0, none⟩) m.me.length e4, .slice B5 m.gl.length e5, .slice (some ⟨B6, 0, none⟩) m.ex.length e6, .int .i64 m.st, .slice none 0 0, .slice A9 m.co.length a9, .slice A10 m.da.length a10] := by rw [hV6]; exact (d6.out.set hpq.out 8 (.slice none 0 0))
          have t6 : Wr (fun k => k = q) X6 V6 := by rw [hV6]; exact (((Wr.refl (fun k => k = q) X6).set 6 _ (Or.inl rfl)).set 8 _ (Or.inl rfl))
          have u6 : Hid (Fc fEx (fun k => W0.heap.size ≤ k) V6 m.ex (.slice (some ⟨B6, 0, none⟩) m.ex.length e6)) := ⟨_, _, rfl, r6.out.move (fun _ => Nat.succ_pos _) (fun k hk hl => by
            have h1 := YV5.out.1
            have h2 := hqw.out.2.2
            have hk : (World.alloc _ _).heap.size ≤ k := hk
            simp at hk
            exact ⟨by omega, t6.block k hl (fun e => by have e : k = q := e; omega)⟩)⟩
          have YV6 : Hid (W0.heap.size ≤ V6.heap.size ∧ Later w V6 ∧ pa < V6.heap.size ∧ q < V6.heap.size) := by
            have t1 := (c0.1).size
            have t2 := YV5.out
            exact ⟨by omega, ((Wr.of_later t2.2.1).trans (c0.1)).later (fun k e => by have e : k = q := e; have := hqw.out.1; omega), by omega, by omega⟩
          have CV6 : Hid (Cq pa q [.slice A0 m.ty.length a0, .slice A1 m.im.length a1, .slice A2 m.fu.length a2, .slice A3 m.ta.length a3, .slice A4 m.me.length a4, .slice A5 m.gl.length a5, .slice A6 m.ex.length a6, .int .i64 m.st, .slice A8 m.el.length a8, .slice A9 m.co.length a9, .slice A10 m.da.length a10] V6 V6 [.slice B0 m.ty.length e0, .slice (some ⟨B1, 0, none⟩) m.im.length e1, .slice (some ⟨B2, 0, none⟩) m.fu.length e2, .slice (some ⟨B3, 0, none⟩) m.ta.length e3, .slice (some ⟨B4, 0, none⟩) m.me.length e4, .slice B5 m.gl.length e5, .slice (some ⟨B6, 0, none⟩) m.ex.length e6, .int .i64 m.st, .slice none 0 0, .slice A9 m.co.length a9, .slice A10 m.da.length a10]) := ⟨Wr.refl _ _, c0.2.1, c0.2.2⟩
          have D0V6 : Hid (Fc fTy (fun k => W0.heap.size ≤ k) V6 m.ty (.slice B0 m.ty.length e0)) := D0V5.out.move (fun _ => Nat.succ_pos _) (fun k hk hl => ⟨hk, (c0.1).block k hl (fun e => by have e : k = q := e; have := hqw.out.2; have hk : W0.heap.size ≤ k := hk; omega)⟩)
          have D1V6 : Hid (Fc fIm (fun k => W0.heap.size ≤ k) V6 m.im (.slice (some ⟨B1, 0, none⟩) m.im.length e1)) := D1V5.out.move (fun _ => Nat.succ_pos _) (fun k hk hl => ⟨hk, (c0.1).block k hl (fun e => by have e : k = q := e; have := hqw.out.2; have hk : W0.heap.size ≤ k := hk; omega)⟩)
          have D2V6 : Hid (Fc f1 (fun k => W0.heap.size ≤ k) V6 m.fu (.slice (some ⟨B2, 0, none⟩) m.fu.length e2)) := D2V5.out.move (fun _ => Nat.succ_pos _) (fun k hk hl => ⟨hk, (c0.1).block k hl (fun e => by have e : k = q := e; have := hqw.out.2; have hk : W0.heap.size ≤ k := hk; omega)⟩)
          have D3V6 : Hid (Fc fLi (fun k => W0.heap.size ≤ k) V6 m.ta (.slice (some ⟨B3, 0, none⟩) m.ta.length e3)) := D3V5.out.move (fun _ => Nat.succ_pos _) (fun k hk hl => ⟨hk, (c0.1).block k hl (fun e => by have e : k = q := e; have := hqw.out.2; have hk : W0.heap.size ≤ k := hk; omega)⟩)
          have D4V6 : Hid (Fc fLi (fun k => W0.heap.size ≤ k) V6 m.me (.slice (some ⟨B4, 0, none⟩) m.me.length e4)) := D4V5.out.move (fun _ => Nat.succ_pos _) (fun k hk hl => ⟨hk, (c0.1).block k hl (fun e => by have e : k = q := e; have := hqw.out.2; have hk : W0.heap.size ≤ k := hk; omega)⟩)
          have D5V6 : Hid (Fc fGl (fun k => W0.heap.size ≤ k) V6 m.gl (.slice B5 m.gl.length e5)) := D5V5.out.move (fun _ => Nat.succ_pos _) (fun k hk hl => ⟨hk, (c0.1).block k hl (fun e => by have e : k = q := e; have := hqw.out.2; have hk : W0.heap.size ≤ k := hk; omega)⟩)
          have QV6 : Hid (Rl V6 (pa + 1) 32 [.slice none 0 0, .slice none 0 0, .slice none 0 0, .slice none 0 0, .slice none 0 0, .slice none 0 0, .slice none 0 0, .int .i64 0, .slice none 0 0, .slice none 0 0, .slice none 0 0]) := QV5.out.wr (c0.1) hpr.out
          clear YV5 CV5 QV5 D0V5 D1V5 D2V5 D3V5 D4V5 D5V5
          have D6V6 := u6
          clear x6 d5 d6 y5 y6 r6 t6 u6 cq6 fq6 lq6 la6 ca6 c0 lq la hb9 hV6 cq8 fq8 ca5 cq5 fq5
          refine (show ∀ z9 z10 z11 z12 z13 z14 z15 z16 z17 z18 z19 z20 z21 z22 z23 z24 z25 z26 z27 z28 z29 z30 z31 z32 z33 z34 z35 z36 z37 z38 z39 z40 z41 z42 z43 z44 z45 z46 z47 z48 z49 z50 z51 z52 z53 z54 z55 z56 z57 z58 z59 z60 z61 z62 z63 z64 z65 z66 z67 z68 z69 z70 z71 z72 z73 z74 z75 z76 z77 z78 z79 z80 z81 z82 z83 z84 z85 z86 z87 z88 z89 z90 z91 z92 z93 z94 z95 z96 z97 z98 z99 z100 z101 z102 z103 z104 z105 z106 z107 z108 z109 z110 z111 z112 z113 z114 z115 z116 z117 z118 z119 z120 z121 z122 z123 z124 z125 z126 z127 z128 z129 z130 z131 z132 z133 z134 z135 z136 z137 z138 z139 z140 z141 z142 z143 z144 z145 z146 z147 z148 z149 z150 z151 z152 z153 z154 z155 z156 z157 z158 z159 z160 z161 z162 z163 z164 z165 z166 z167 z168 z169 z170 z171 z172 z173 z174 z175 z176 z177 z178 z179 z180 z181 z182 z183 : Value, Code.wp _ _ _ ⟨List.toArray (_ :: _ :: _ :: _ :: _ :: _ :: _ :: _ :: _ :: z9 :: z10 :: z11 :: z12 :: z13 :: z14 :: z15 :: z16 :: z17 :: z18 :: z19 :: z20 :: z21 :: z22 :: z23 :: z24 :: z25 :: z26 :: z27 :: z28 :: z29 :: z30 :: z31 :: z32 :: z33 :: z34 :: z35 :: z36 :: z37 :: z38 :: z39 :: z40 :: z41 :: z42 :: z43 :: z44 :: z45 :: z46 :: z47 :: z48 :: z49 :: z50 :: z51 :: z52 :: z53 :: z54 :: z55 :: z56 :: z57 :: z58 :: z59 :: z60 :: z61 :: z62 :: z63 :: z64 :: z65 :: z66 :: z67 :: z68 :: z69 :: z70 :: z71 :: z72 :: z73 :: z74 :: z75 :: z76 :: z77 :: z78 :: z79 :: z80 :: z81 :: z82 :: z83 :: z84 :: z85 :: z86 :: z87 :: z88 :: z89 :: z90 :: z91 :: z92 :: z93 :: z94 :: z95 :: z96 :: z97 :: z98 :: z99 :: z100 :: z101 :: z102 :: z103 :: z104 :: z105 :: z106 :: z107 :: z108 :: z109 :: z110 :: z111 :: z112 :: z113 :: z114 :: z115 :: z116 :: z117 :: z118 :: z119 :: z120 :: z121 :: z122 :: z123 :: z124 :: z125 :: z126 :: z127 :: z128 :: z129 :: z130 :: z131 :: z132 :: z133 :: z134 :: z135 :: z136 :: z137 :: z138 :: z139 :: z140 :: z141 :: z142 :: z143 :: z144 :: z145 :: z146 :: z147 :: z148 :: z149 :: z150 :: z151 :: z152 :: z153 :: z154 :: z155 :: z156 :: z157 :: z158 :: z159 :: z160 :: z161 :: z162 :: z163 :: z164 :: z165 :: z166 :: z167 :: z168 :: z169 :: z170 :: z171 :: z172 :: z173 :: z174 :: z175 :: z176 :: z177 :: z178 :: z179 :: z180 :: z181 :: z182 :: z183 :: []), _⟩ _ from ?_) _ _ _ _ _ _ _ _ _ _ _ _ _ _ _ _ _ _ _ _ _ _ _ _ _ _ _ _ _ _ _ _ _ _ _ _ _ _ _ _ _ _ _ _ _ _ _ _ _ _ _ _ _ _ _ _ _ _ _ _ _ _ _ _ _ _ _ _ _ _ _ _ _ _ _ _ _ _ _ _ _ _ _ _ _ _ _ _ _ _ _ _ _ _ _ _ _ _ _ _ _ _ _ _ _ _ _ _ _ _ _ _ _ _ _ _ _ _ _ _ _ _ _ _ _ _ _ _ _ _ _ _ _ _ _ _ _ _ _ _ _ _ _ _ _ _ _ _ _ _ _ _ _ _ _ _ _ _ _ _ _ _ _ _ _ _ _ _ _ _ _ _ _ _ _
          intro z9 z10 z11 z12 z13 z14 z15 z16 z17 z18 z19 z20 z21 z22 z23 z24 z25 z26 z27 z28 z29 z30 z31 z32 z33 z34 z35 z36 z37 z38 z39 z40 z41 z42 z43 z44 z45 z46 z47 z48 z49 z50 z51 z52 z53 z54 z55 z56 z57 z58 z59 z60 z61 z62 z63 z64 z65 z66 z67 z68 z69 z70 z71 z72 z73 z74 z75 z76 z77 z78 z79 z80 z81 z82 z83 z84 z85 z86 z87 z88 z89 z90 z91 z92 z93 z94 z95 z96 z97 z98 z99 z100 z101 z102 z103 z104 z105 z106 z107 z108 z109 z110 z111 z112 z113 z114 z115 z116 z117 z118 z119 z120 z121 z122 z123 z124 z125 z126 z127 z128 z129 z130 z131 z132 z133 z134 z135 z136 z137 z138 z139 z140 z141 z142 z143 z144 z145 z146 z147 z148 z149 z150 z151 z152 z153 z154 z155 z156 z157 z158 z159 z160 z161 z162 z163 z164 z165 z166 z167 z168 z169 z170 z171 z172 z173 z174 z175 z176 z177 z178 z179 z180 z181 z182 z183
          obtain ⟨n8, hn8⟩ : ∃ n, n = m.el.length := ⟨_, rfl⟩
          have hb8 : n8 * 48 ≤ 140737488351232 := by rw [hn8]; exact hm.el.2
          have h18 : n8 ≤ 140737488351232 := by omega
          replace hb8 : Hid (n8 * 48 ≤ 140737488351232) := hb8
          replace hn8 : Hid (n8 = m.el.length) := hn8
          go_loopw [6] (fun i wr => ∃ (d : List _) (r : List _) (A : Option Addr) (cap : Nat), i = .int .i64 (d.length : Nat) ∧ d ++ r = m.el ∧ Lc fEl 65 2 pa q 8 [.slice A0 m.ty.length a0, .slice A1 m.im.length a1, .slice A2 m.fu.length a2, .slice A3 m.ta.length a3, .slice A4 m.me.length a4, .slice A5 m.gl.length a5, .slice A6 m.ex.length a6, .int .i64 m.st, .slice A8 m.el.length a8, .slice A9 m.co.length a9, .slice A10 m.da.length a10] V6 wr [.slice B0 m.ty.length e0, .slice (some ⟨B1, 0, none⟩) m.im.length e1, .slice (some ⟨B2, 0, none⟩) m.fu.length e2, .slice (some ⟨B3, 0, none⟩) m.ta.length e3, .slice (some ⟨B4, 0, none⟩) m.me.length e4, .slice B5 m.gl.length e5, .slice (some ⟨B6, 0, none⟩) m.ex.length e6, .int .i64 m.st, .slice none 0 0, .slice A9 m.co.length a9, .slice A10 m.da.length a10] (.slice A d.length cap) d) (fun i _ => n8 - (intOf i).toNat)
          case atStart => exact ⟨[], m.el, none, 0, rfl, rfl, Lc.start CV6.out rfl⟩
          case round =>
            obtain ⟨d, r, A, cap, rfl, hd, hC⟩ := hrel
            have hdl : d.length + r.length = n8 := by rw [hn8.out, ← hd, List.length_append]
            have k0 : wr.cell? ⟨pa, 8, none⟩ = some (.slice A8 n8 a8) := by rw [hn8.out]; exact hC.1.arg 8 rfl
            have b0 : wr.cell? ⟨q, 8, none⟩ = some (.slice A d.length cap) := (hC.cell (by simp)).1
            have bl := cell_lt b0
            have kl := cell_lt k0
            have Lw : Later w wr := hC.1.low YV6.out.2.1 hqw.out.1
            cases r with
            | cons x r =>
              have hlt : d.length < n8 := by simp at hdl; omega
              have hl1 : (d.length : Int) < (n8 : Int) := by omega
              have hdm : d.length < m.el.length := by rw [← hn8.out]; exact hlt
              obtain ⟨g, o, c, eA, hz, hc, hi⟩ := Rt.at (f := fEl) 2 (fun _ => rfl) (Rt.later (f := fEl) (fun _ => Nat.succ_pos _) Lw R8.out) d.length hdm
              rw [eA] at k0
              have hgx : g < w.heap.size := by
                rcases R8.out with h0 | ⟨g2, o2, L2, e2, _, h2, i2⟩
                · rw [h0] at hdm; exact absurd hdm (by simp)
                · rw [eA] at e2; cases e2; exact cell_lt (h2 0 _ (List.getElem?_eq_getElem (by rw [i2.length, flat_len fEl 2 (fun _ => rfl)]; omega)))
              have hx := hm.el.1 _ (List.getElem_mem hdm)
              have hxe : m.el[d.length] = x := by simp [← hd]
              rw [hxe] at hi hx
              obtain ⟨x0, x1⟩ := x
              obtain ⟨y0, c0, rfl, ⟨P0, p0, rfl, hP0⟩, y1, c1, rfl, ⟨P1, p1, rfl, hP1⟩, hnil⟩ := hi
              have c0 := hc 0 _ rfl
              have c1 := hc 1 _ rfl
              simp only [Nat.add_zero] at c0
              have lc := cell_lt c0
              have s0 : Hid (∀ W, Later wr W → Calls Try.prog 21 #[.slice P0 x0.len p0] W fun e w' => ∃ A' c', e = .returned (.slice A' x0.len c') ∧ Tr (wr.heap.size ≤ ·) w' A' x0 ∧ Later W w' ∧ w'.cell? ⟨q, 8, none⟩ = some (.slice A d.length cap) ∧ q < w'.heap.size) := fun W hW => (copyI_any _ x0 (Nat.le_refl _) hx.1.1 hx.1.2 _ W P0 p0 (hP0.later hW)).mono (by
                rintro e w' ⟨A', c', rfl, h1, h2⟩
                exact ⟨A', c', rfl, h1.out.mono (fun k hk => Nat.le_trans hW.size hk), h2, (hW.trans h2.out).cell_of b0, cell_lt ((hW.trans h2.out).cell_of b0)⟩)
              have s1 : Hid (∀ W b, Later wr W → ∃ r w', (Builtin.append_ #[24, 24] 24 #[.slice (some ⟨b, 0, none⟩) 0 0, .slice P1 x1.length p1]).run Try.prog W = .ok r w' ∧ ∃ g cz, r = .slice (some ⟨g, 0, none⟩) x1.length cz ∧ Lq (wr.heap.size ≤ ·) w' (some ⟨g, 0, none⟩) x1 ∧ Later W w' ∧ w'.cell? ⟨q, 8, none⟩ = some (.slice A d.length cap) ∧ q < w'.heap.size) := fun W b hW => by
                obtain ⟨r, w', h1, g, cz, h2, h3, h4⟩ := app_lq P1 x1 b p1 24 _ W hx.2.2 (hP1.later hW)
                exact ⟨r, w', h1, g, cz, h2, h3.mono (fun k hk => Nat.le_trans hW.size hk.1), h4, (hW.trans h4).cell_of b0, cell_lt ((hW.trans h4).cell_of b0)⟩
              have s9 : Hid (∀ W Bz0 n0 g1 n1, Later wr W → Tr (wr.heap.size ≤ ·) W Bz0 x0 → Lq (wr.heap.size ≤ ·) W (some ⟨g1, 0, none⟩) x1 → ∃ r w', (Builtin.append_ #[28, 28] 28 #[.slice A d.length cap, .slice (some ⟨W.heap.size, 0, none⟩) 1 1]).run Try.prog (W.alloc (.cells #[.slice Bz0 x0.len n0, .slice (some ⟨g1, 0, none⟩) x1.length n1] 65)) = .ok r w' ∧ ∃ g cap', r = .slice (some ⟨g, 0, none⟩) (d.length + 1) cap' ∧ (w'.cell? ⟨q, 8, none⟩ = some (.slice A d.length cap) ∧ w'.frozen? ⟨q, 8, none⟩ = false ∧ q < w'.heap.size) ∧ Wr (fun k => k = q ∨ V6.heap.size ≤ k) wr w' ∧ Hid (Lc fEl 65 2 pa q 8 [.slice A0 m.ty.length a0, .slice A1 m.im.length a1, .slice A2 m.fu.length a2, .slice A3 m.ta.length a3, .slice A4 m.me.length a4, .slice A5 m.gl.length a5, .slice A6 m.ex.length a6, .int .i64 m.st, .slice A8 m.el.length a8, .slice A9 m.co.length a9, .slice A10 m.da.length a10] V6 (w'.setCell ⟨q, 8, none⟩ (.slice (some ⟨g, 0, none⟩) (d.length + 1) cap')) [.slice B0 m.ty.length e0, .slice (some ⟨B1, 0, none⟩) m.im.length e1, .slice (some ⟨B2, 0, none⟩) m.fu.length e2, .slice (some ⟨B3, 0, none⟩) m.ta.length e3, .slice (some ⟨B4, 0, none⟩) m.me.length e4, .slice B5 m.gl.length e5, .slice (some ⟨B6, 0, none⟩) m.ex.length e6, .int .i64 m.st, .slice none 0 0, .slice A9 m.co.length a9, .slice A10 m.da.length a10] (.slice (some ⟨g, 0, none⟩) (d.length + 1) cap') (d ++ [(x0, x1)]))) := fun W Bz0 n0 g1 n1 hW q0 q1 => by
                obtain ⟨g, cap', w', h1, h2, h4, h3⟩ := hC.more YV6.out.2.2.1 YV6.out.2.2.2 hpq.out (by simp) ti_elm 28 (x0, x1) rfl [.slice Bz0 x0.len n0, .slice (some ⟨g1, 0, none⟩) x1.length n1] (by have := hb8.out; omega) (by omega) hW ⟨_, _, rfl, ⟨_, _, rfl, q0⟩, ⟨_, _, rfl, ⟨_, _, rfl, q1⟩, rfl⟩⟩
                exact ⟨_, w', h1, g, cap', rfl, h2, (Wr.of_later hW).trans (h4.mono (fun _ _ e => Or.inr e)), h3⟩
              have hkeep : Hid (∀ W, Wr (fun k => k = q ∨ V6.heap.size ≤ k) wr W → (Wr (fun k => k = q ∨ V6.heap.size ≤ k) wr W ∧ W.cell? ⟨pa, 8, none⟩ = some (.slice (some ⟨g, o, none⟩) n8 a8) ∧ W.cell? ⟨g, o + d.length * 2, none⟩ = some (.slice P0 x0.len p0) ∧ W.cell? ⟨g, o + d.length * 2 + 1, none⟩ = some (.slice P1 x1.length p1) ∧ pa < W.heap.size ∧ g < W.heap.size ∧ q < W.heap.size)) := fun W hW => by
                have u1 : ¬ (pa = q ∨ V6.heap.size ≤ pa) := fun e => by rcases e with e | e; exact hpq.out e; have := YV6.out.2.2.1; omega
                have u2 : ¬ (g = q ∨ V6.heap.size ≤ g) := fun e => by have := hqw.out.1; have := YV6.out.2.1.size; omega
                have u3 := hW.size
                exact ⟨hW, hW.cell u1 k0, hW.cell u2 c0, hW.cell u2 c1, by omega, by omega, by omega⟩
              have hd2 : Hid (d ++ (x0, x1) :: r = m.el) := hd
              clear eA hdl hdm hd hc hz hnil hC hgx hx hxe Lw hP0 hP1
              have hb9 : ¬ (pa = q) := hpq.out
              go_wp2_with fail
              rw [ldq8_eq]
              refine wp_region_noPanic ?_
              go_region_held3 (fun W => Wr (fun k => k = q ∨ V6.heap.size ≤ k) wr W ∧ W.cell? ⟨pa, 8, none⟩ = some (.slice (some ⟨g, o, none⟩) n8 a8) ∧ W.cell? ⟨g, o + d.length * 2, none⟩ = some (.slice P0 x0.len p0) ∧ W.cell? ⟨g, o + d.length * 2 + 1, none⟩ = some (.slice P1 x1.length p1) ∧ pa < W.heap.size ∧ g < W.heap.size ∧ q < W.heap.size) (refine hkeep.out _ ?_ <;> (repeat first | assumption | exact Wr.refl _ _ | refine Wr.ltr ?_ (La (Lz _)) | refine Wr.ltr ?_ (Ld (Lz _)) | refine Wr.set ?_ _ _ (Or.inl (Or.inl rfl)) | refine Wr.ltr ?_ (by assumption))) (first | (go_at_call 21; refine (s0.out _ (by repeat first | exact Lz _ | apply La | apply Ld | refine Later.trans ?_ (by assumption))).mono ?_; rintro _ w0 ⟨Bz0, m0, rfl, q0, l0, k0, kk0⟩) | (refine' step_app_ex (by rfl) _ _ 24 (by rfl) _ _ (by rfl) (by rfl) (s1.out _ _ (by repeat first | exact Lz _ | apply La | apply Ld | refine Later.trans ?_ (by assumption))) ?_; rintro _ w1 ⟨g1, m1, rfl, q1, l1, k1, kk1⟩) | (refine' step_app_ex (by rfl) _ _ 28 (by rfl) _ _ (by rfl) (by rfl) (s9.out _ _ _ _ _ (by repeat first | exact Lz _ | apply La | apply Ld | refine Later.trans ?_ (by assumption)) (q0.later (by repeat first | exact Lz _ | apply La | apply Ld | refine Later.trans ?_ (by assumption))) (q1.later (by repeat first | exact Lz _ | apply La | apply Ld | refine Later.trans ?_ (by assumption)))) ?_; rintro _ w9 ⟨g9, cap9, rfl, ⟨t0, t1, t2⟩, hv, hn9⟩))
              all_goals
                clear hkeep s9 s0 s1
                refine NoPanic.normal ?_
                go_wp2_with fail
                refine ⟨⟨d ++ [(x0, x1)], r, some ⟨g9, 0, none⟩, cap9, by simp, by rw [List.append_assoc]; exact hd2.out, by rw [List.length_append]; exact hn9.out⟩, ?_⟩
                simp [intOf]
                omega
            | nil =>
              have hde : d = m.el := by simpa using hd
              subst hde
              have hl1 : ¬ (m.el.length : Int) < (n8 : Int) := by rw [hn8.out]; omega
              obtain ⟨hC1, hF⟩ := hC.done
              obtain ⟨B8, hB8⟩ : ∃ B, B = A := ⟨_, rfl⟩
              obtain ⟨e8, he8⟩ : ∃ e, e = cap := ⟨_, rfl⟩
              subst hB8 he8
              obtain ⟨V8, hV⟩ : ∃ V, V = wr := ⟨_, rfl⟩
              subst hV
              have YV8 : Hid (W0.heap.size ≤ V8.heap.size ∧ Later w V8 ∧ pa < V8.heap.size ∧ q < V8.heap.size) := by
                have t1 := (hC1.1).size
                have t2 := YV6.out
                exact ⟨by omega, ((Wr.of_later t2.2.1).trans (hC1.1)).later (fun k e => by have e : k = q := e; have := hqw.out.1; omega), by omega, by omega⟩
              have CV8 : Hid (Cq pa q [.slice A0 m.ty.length a0, .slice A1 m.im.length a1, .slice A2 m.fu.length a2, .slice A3 m.ta.length a3, .slice A4 m.me.length a4, .slice A5 m.gl.length a5, .slice A6 m.ex.length a6, .int .i64 m.st, .slice A8 m.el.length a8, .slice A9 m.co.length a9, .slice A10 m.da.length a10] V8 V8 [.slice B0 m.ty.length e0, .slice (some ⟨B1, 0, none⟩) m.im.length e1, .slice (some ⟨B2, 0, none⟩) m.fu.length e2, .slice (some ⟨B3, 0, none⟩) m.ta.length e3, .slice (some ⟨B4, 0, none⟩) m.me.length e4, .slice B5 m.gl.length e5, .slice (some ⟨B6, 0, none⟩) m.ex.length e6, .int .i64 m.st, .slice B8 m.el.length e8, .slice A9 m.co.length a9, .slice A10 m.da.length a10]) := ⟨Wr.refl _ _, hC1.2.1, hC1.2.2⟩
              have D0V8 : Hid (Fc fTy (fun k => W0.heap.size ≤ k) V8 m.ty (.slice B0 m.ty.length e0)) := D0V6.out.move (fun _ => Nat.succ_pos _) (fun k hk hl => ⟨hk, (hC1.1).block k hl (fun e => by have e : k = q := e; have := hqw.out.2; have hk : W0.heap.size ≤ k := hk; omega)⟩)
              have D1V8 : Hid (Fc fIm (fun k => W0.heap.size ≤ k) V8 m.im (.slice (some ⟨B1, 0, none⟩) m.im.length e1)) := D1V6.out.move (fun _ => Nat.succ_pos _) (fun k hk hl => ⟨hk, (hC1.1).block k hl (fun e => by have e : k = q := e; have := hqw.out.2; have hk : W0.heap.size ≤ k := hk; omega)⟩)
              have D2V8 : Hid (Fc f1 (fun k => W0.heap.size ≤ k) V8 m.fu (.slice (some ⟨B2, 0, none⟩) m.fu.length e2)) := D2V6.out.move (fun _ => Nat.succ_pos _) (fun k hk hl => ⟨hk, (hC1.1).block k hl (fun e => by have e : k = q := e; have := hqw.out.2; have hk : W0.heap.size ≤ k := hk; omega)⟩)
              have D3V8 : Hid (Fc fLi (fun k => W0.heap.size ≤ k) V8 m.ta (.slice (some ⟨B3, 0, none⟩) m.ta.length e3)) := D3V6.out.move (fun _ => Nat.succ_pos _) (fun k hk hl => ⟨hk, (hC1.1).block k hl (fun e => by have e : k = q := e; have := hqw.out.2; have hk : W0.heap.size ≤ k := hk; omega)⟩)
              have D4V8 : Hid (Fc fLi (fun k => W0.heap.size ≤ k) V8 m.me (.slice (some ⟨B4, 0, none⟩) m.me.length e4)) := D4V6.out.move (fun _ => Nat.succ_pos _) (fun k hk hl => ⟨hk, (hC1.1).block k hl (fun e => by have e : k = q := e; have := hqw.out.2; have hk : W0.heap.size ≤ k := hk; omega)⟩)
              have D5V8 : Hid (Fc fGl (fun k => W0.heap.size ≤ k) V8 m.gl (.slice B5 m.gl.length e5)) := D5V6.out.move (fun _ => Nat.succ_pos _) (fun k hk hl => ⟨hk, (hC1.1).block k hl (fun e => by have e : k = q := e; have := hqw.out.2; have hk : W0.heap.size ≤ k := hk; omega)⟩)
              have D6V8 : Hid (Fc fEx (fun k => W0.heap.size ≤ k) V8 m.ex (.slice (some ⟨B6, 0, none⟩) m.ex.length e6)) := D6V6.out.move (fun _ => Nat.succ_pos _) (fun k hk hl => ⟨hk, (hC1.1).block k hl (fun e => by have e : k = q := e; have := hqw.out.2; have hk : W0.heap.size ≤ k := hk; omega)⟩)
              have QV8 : Hid (Rl V8 (pa + 1) 32 [.slice none 0 0, .slice none 0 0, .slice none 0 0, .slice none 0 0, .slice none 0 0, .slice none 0 0, .slice none 0 0, .int .i64 0, .slice none 0 0, .slice none 0 0, .slice none 0 0]) := QV6.out.wr (hC1.1) hpr.out
              have D8V8 : Hid (Fc fEl (fun k => W0.heap.size ≤ k) V8 m.el (.slice B8 m.el.length e8)) := hF.move (fun _ => Nat.succ_pos _) (fun k hk hl => ⟨Nat.le_trans YV6.out.1 hk, rfl⟩)
              clear YV6 CV6 QV6 D0V6 D1V6 D2V6 D3V6 D4V6 D5V6 D6V6
              clear hC hC1 hF hd hdl b0 k0 bl kl Lw
              have cq8 := (CV8.out.cell 8 rfl).1
              have fq8 := (CV8.out.cell 8 rfl).2.1
              have cq9 := (CV8.out.cell 9 rfl).1
              have fq9 := (CV8.out.cell 9 rfl).2.1
              have ca8 := CV8.out.arg 8 rfl
              have lq := YV8.out.2.2.2
              have la := YV8.out.2.2.1
              have hb9 : ¬ (pa = q) := hpq.out
              go_wp2_with fail
              obtain ⟨U9, hU9⟩ : ∃ V, V = V8.setCell ⟨q, 9, none⟩ (.slice none 0 0) := ⟨_, rfl⟩
              rw [← hU9]
              have c0 : Cq pa q [.slice A0 m.ty.length a0, .slice A1 m.im.length a1, .slice A2 m.fu.length a2, .slice A3 m.ta.length a3, .slice A4 m.me.length a4, .slice A5 m.gl.length a5, .slice A6 m.ex.length a6, .int .i64 m.st, .slice A8 m.el.length a8, .slice A9 m.co.length a9, .slice A10 m.da.length a10] V8 U9 [.slice B0 m.ty.length e0, .slice (some ⟨B1, 0, none⟩) m.im.length e1, .slice (some ⟨B2, 0, none⟩) m.fu.length e2, .slice (some ⟨B3, 0, none⟩) m.ta.length e3, .slice (some ⟨B4, 0, none⟩) m.me.length e4, .slice B5 m.gl.length e5, .slice (some ⟨B6, 0, none⟩) m.ex.length e6, .int .i64 m.st, .slice B8 m.el.length e8, .slice none 0 0, .slice A10 m.da.length a10] := by rw [hU9]; exact CV8.out.set hpq.out 9 (.slice none 0 0)
              have YU9 : Hid (W0.heap.size ≤ U9.heap.size ∧ Later w U9 ∧ pa < U9.heap.size ∧ q < U9.heap.size) := by
                have t1 := (c0.1).size
                have t2 := YV8.out
                exact ⟨by omega, ((Wr.of_later t2.2.1).trans (c0.1)).later (fun k e => by have e : k = q := e; have := hqw.out.1; omega), by omega, by omega⟩
              have CU9 : Hid (Cq pa q [.slice A0 m.ty.length a0, .slice A1 m.im.length a1, .slice A2 m.fu.length a2, .slice A3 m.ta.length a3, .slice A4 m.me.length a4, .slice A5 m.gl.length a5, .slice A6 m.ex.length a6, .int .i64 m.st, .slice A8 m.el.length a8, .slice A9 m.co.length a9, .slice A10 m.da.length a10] U9 U9 [.slice B0 m.ty.length e0, .slice (some ⟨B1, 0, none⟩) m.im.length e1, .slice (some ⟨B2, 0, none⟩) m.fu.length e2, .slice (some ⟨B3, 0, none⟩) m.ta.length e3, .slice (some ⟨B4, 0, none⟩) m.me.length e4, .slice B5 m.gl.length e5, .slice (some ⟨B6, 0, none⟩) m.ex.length e6, .int .i64 m.st, .slice B8 m.el.length e8, .slice none 0 0, .slice A10 m.da.length a10]) := ⟨Wr.refl _ _, c0.2.1, c0.2.2⟩
              have D0U9 : Hid (Fc fTy (fun k => W0.heap.size ≤ k) U9 m.ty (.slice B0 m.ty.length e0)) := D0V8.out.move (fun _ => Nat.succ_pos _) (fun k hk hl => ⟨hk, (c0.1).block k hl (fun e => by have e : k = q := e; have := hqw.out.2; have hk : W0.heap.size ≤ k := hk; omega)⟩)
              have D1U9 : Hid (Fc fIm (fun k => W0.heap.size ≤ k) U9 m.im (.slice (some ⟨B1, 0, none⟩) m.im.length e1)) := D1V8.out.move (fun _ => Nat.succ_pos _) (fun k hk hl => ⟨hk, (c0.1).block k hl (fun e => by have e : k = q := e; have := hqw.out.2; have hk : W0.heap.size ≤ k := hk; omega)⟩)
              have D2U9 : Hid (Fc f1 (fun k => W0.heap.size ≤ k) U9 m.fu (.slice (some ⟨B2, 0, none⟩) m.fu.length e2)) := D2V8.out.move (fun _ => Nat.succ_pos _) (fun k hk hl => ⟨hk, (c0.1).block k hl (fun e => by have e : k = q := e; have := hqw.out.2; have hk : W0.heap.size ≤ k := hk; omega)⟩)
              have D3U9 : Hid (Fc fLi (fun k => W0.heap.size ≤ k) U9 m.ta (.slice (some ⟨B3, 0, none⟩) m.ta.length e3)) := D3V8.out.move (fun _ => Nat.succ_pos _) (fun k hk hl => ⟨hk, (c0.1).block k hl (fun e => by have e : k = q := e; have := hqw.out.2; have hk : W0.heap.size ≤ k := hk; omega)⟩)
              have D4U9 : Hid (Fc fLi (fun k => W0.heap.size ≤ k) U9 m.me (.slice (some ⟨B4, 0, none⟩) m.me.length e4)) := D4V8.out.move (fun _ => Nat.succ_pos _) (fun k hk hl => ⟨hk, (c0.1).block k hl (fun e => by have e : k = q := e; have := hqw.out.2; have hk : W0.heap.size ≤ k := hk; omega)⟩)
              have D5U9 : Hid (Fc fGl (fun k => W0.heap.size ≤ k) U9 m.gl (.slice B5 m.gl.length e5)) := D5V8.out.move (fun _ => Nat.succ_pos _) (fun k hk hl => ⟨hk, (c0.1).block k hl (fun e => by have e : k = q := e; have := hqw.out.2; have hk : W0.heap.size ≤ k := hk; omega)⟩)
              have D6U9 : Hid (Fc fEx (fun k => W0.heap.size ≤ k) U9 m.ex (.slice (some ⟨B6, 0, none⟩) m.ex.length e6)) := D6V8.out.move (fun _ => Nat.succ_pos _) (fun k hk hl => ⟨hk, (c0.1).block k hl (fun e => by have e : k = q := e; have := hqw.out.2; have hk : W0.heap.size ≤ k := hk; omega)⟩)
              have D8U9 : Hid (Fc fEl (fun k => W0.heap.size ≤ k) U9 m.el (.slice B8 m.el.length e8)) := D8V8.out.move (fun _ => Nat.succ_pos _) (fun k hk hl => ⟨hk, (c0.1).block k hl (fun e => by have e : k = q := e; have := hqw.out.2; have hk : W0.heap.size ≤ k := hk; omega)⟩)
              have QU9 : Hid (Rl U9 (pa + 1) 32 [.slice none 0 0, .slice none 0 0, .slice none 0 0, .slice none 0 0, .slice none 0 0, .slice none 0 0, .slice none 0 0, .int .i64 0, .slice none 0 0, .slice none 0 0, .slice none 0 0]) := QV8.out.wr (c0.1) hpr.out
              clear YV8 CV8 QV8 D0V8 D1V8 D2V8 D3V8 D4V8 D5V8 D6V8 D8V8
              clear c0 cq8 fq8 cq9 fq9 ca8 lq la hb9 hU9
              refine (show ∀ z9 z10 z11 z12 z13 z14 z15 z16 z17 z18 z19 z20 z21 z22 z23 z24 z25 z26 z27 z28 z29 z30 z31 z32 z33 z34 z35 z36 z37 z38 z39 z40 z41 z42 z43 z44 z45 z46 z47 z48 z49 z50 z51 z52 z53 z54 z55 z56 z57 z58 z59 z60 z61 z62 z63 z64 z65 z66 z67 z68 z69 z70 z71 z72 z73 z74 z75 z76 z77 z78 z79 z80 z81 z82 z83 z84 z85 z86 z87 z88 z89 z90 z91 z92 z93 z94 z95 z96 z97 z98 z99 z100 z101 z102 z103 z104 z105 z106 z107 z108 z109 z110 z111 z112 z113 z114 z115 z116 z117 z118 z119 z120 z121 z122 z123 z124 z125 z126 z127 z128 z129 z130 z131 z132 z133 z134 z135 z136 z137 z138 z139 z140 z141 z142 z143 z144 z145 z146 z147 z148 z149 z150 z151 z152 z153 z154 z155 z156 z157 z158 z159 z160 z161 z162 z163 z164 z165 z166 z167 z168 z169 z170 z171 z172 z173 z174 z175 z176 z177 z178 z179 z180 z181 z182 z183 : Value, Code.wp _ _ _ ⟨List.toArray (_ :: _ :: _ :: _ :: _ :: _ :: _ :: _ :: _ :: z9 :: z10 :: z11 :: z12 :: z13 :: z14 :: z15 :: z16 :: z17 :: z18 :: z19 :: z20 :: z21 :: z22 :: z23 :: z24 :: z25 :: z26 :: z27 :: z28 :: z29 :: z30 :: z31 :: z32 :: z33 :: z34 :: z35 :: z36 :: z37 :: z38 :: z39 :: z40 :: z41 :: z42 :: z43 :: z44 :: z45 :: z46 :: z47 :: z48 :: z49 :: z50 :: z51 :: z52 :: z53 :: z54 :: z55 :: z56 :: z57 :: z58 :: z59 :: z60 :: z61 :: z62 :: z63 :: z64 :: z65 :: z66 :: z67 :: z68 :: z69 :: z70 :: z71 :: z72 :: z73 :: z74 :: z75 :: z76 :: z77 :: z78 :: z79 :: z80 :: z81 :: z82 :: z83 :: z84 :: z85 :: z86 :: z87 :: z88 :: z89 :: z90 :: z91 :: z92 :: z93 :: z94 :: z95 :: z96 :: z97 :: z98 :: z99 :: z100 :: z101 :: z102 :: z103 :: z104 :: z105 :: z106 :: z107 :: z108 :: z109 :: z110 :: z111 :: z112 :: z113 :: z114 :: z115 :: z116 :: z117 :: z118 :: z119 :: z120 :: z121 :: z122 :: z123 :: z124 :: z125 :: z126 :: z127 :: z128 :: z129 :: z130 :: z131 :: z132 :: z133 :: z134 :: z135 :: z136 :: z137 :: z138 :: z139 :: z140 :: z141 :: z142 :: z143 :: z144 :: z145 :: z146 :: z147 :: z148 :: z149 :: z150 :: z151 :: z152 :: z153 :: z154 :: z155 :: z156 :: z157 :: z158 :: z159 :: z160 :: z161 :: z162 :: z163 :: z164 :: z165 :: z166 :: z167 :: z168 :: z169 :: z170 :: z171 :: z172 :: z173 :: z174 :: z175 :: z176 :: z177 :: z178 :: z179 :: z180 :: z181 :: z182 :: z183 :: []), _⟩ _ from ?_) _ _ _ _ _ _ _ _ _ _ _ _ _ _ _ _ _ _ _ _ _ _ _ _ _ _ _ _ _ _ _ _ _ _ _ _ _ _ _ _ _ _ _ _ _ _ _ _ _ _ _ _ _ _ _ _ _ _ _ _ _ _ _ _ _ _ _ _ _ _ _ _ _ _ _ _ _ _ _ _ _ _ _ _ _ _ _ _ _ _ _ _ _ _ _ _ _ _ _ _ _ _ _ _ _ _ _ _ _ _ _ _ _ _ _ _ _ _ _ _ _ _ _ _ _ _ _ _ _ _ _ _ _ _ _ _ _ _ _ _ _ _ _ _ _ _ _ _ _ _ _ _ _ _ _ _ _ _ _ _ _ _ _ _ _ _ _ _ _ _ _ _ _ _ _
              intro z9 z10 z11 z12 z13 z14 z15 z16 z17 z18 z19 z20 z21 z22 z23 z24 z25 z26 z27 z28 z29 z30 z31 z32 z33 z34 z35 z36 z37 z38 z39 z40 z41 z42 z43 z44 z45 z46 z47 z48 z49 z50 z51 z52 z53 z54 z55 z56 z57 z58 z59 z60 z61 z62 z63 z64 z65 z66 z67 z68 z69 z70 z71 z72 z73 z74 z75 z76 z77 z78 z79 z80 z81 z82 z83 z84 z85 z86 z87 z88 z89 z90 z91 z92 z93 z94 z95 z96 z97 z98 z99 z100 z101 z102 z103 z104 z105 z106 z107 z108 z109 z110 z111 z112 z113 z114 z115 z116 z117 z118 z119 z120 z121 z122 z123 z124 z125 z126 z127 z128 z129 z130 z131 z132 z133 z134 z135 z136 z137 z138 z139 z140 z141 z142 z143 z144 z145 z146 z147 z148 z149 z150 z151 z152 z153 z154 z155 z156 z157 z158 z159 z160 z161 z162 z163 z164 z165 z166 z167 z168 z169 z170 z171 z172 z173 z174 z175 z176 z177 z178 z179 z180 z181 z182 z183
              obtain ⟨n9, hn9⟩ : ∃ n, n = m.co.length := ⟨_, rfl⟩
              have hb9 : n9 * 48 ≤ 140737488351232 := by rw [hn9]; exact hm.co.2
              have h19 : n9 ≤ 140737488351232 := by omega
              replace hb9 : Hid (n9 * 48 ≤ 140737488351232) := hb9
              replace hn9 : Hid (n9 = m.co.length) := hn9
              go_loopw [7] (fun i wr => ∃ (d : List _) (r : List _) (A : Option Addr) (cap : Nat), i = .int .i64 (d.length : Nat) ∧ d ++ r = m.co ∧ Lc fCo 67 2 pa q 9 [.slice A0 m.ty.length a0, .slice A1 m.im.length a1, .slice A2 m.fu.length a2, .slice A3 m.ta.length a3, .slice A4 m.me.length a4, .slice A5 m.gl.length a5, .slice A6 m.ex.length a6, .int .i64 m.st, .slice A8 m.el.length a8, .slice A9 m.co.length a9, .slice A10 m.da.length a10] U9 wr [.slice B0 m.ty.length e0, .slice (some ⟨B1, 0, none⟩) m.im.length e1, .slice (some ⟨B2, 0, none⟩) m.fu.length e2, .slice (some ⟨B3, 0, none⟩) m.ta.length e3, .slice (some ⟨B4, 0, none⟩) m.me.length e4, .slice B5 m.gl.length e5, .slice (some ⟨B6, 0, none⟩) m.ex.length e6, .int .i64 m.st, .slice B8 m.el.length e8, .slice none 0 0, .slice A10 m.da.length a10] (.slice A d.length cap) d) (fun i _ => n9 - (intOf i).toNat)
              case atStart => exact ⟨[], m.co, none, 0, rfl, rfl, Lc.start CU9.out rfl⟩
              case round =>
                obtain ⟨d, r, A, cap, rfl, hd, hC⟩ := hrel
                have hdl : d.length + r.length = n9 := by rw [hn9.out, ← hd, List.length_append]
                have k0 : wr.cell? ⟨pa, 9, none⟩ = some (.slice A9 n9 a9) := by rw [hn9.out]; exact hC.1.arg 9 rfl
                have b0 : wr.cell? ⟨q, 9, none⟩ = some (.slice A d.length cap) := (hC.cell (by simp)).1
                have bl := cell_lt b0
                have kl := cell_lt k0
                have Lw : Later w wr := hC.1.low YU9.out.2.1 hqw.out.1
                cases r with
                | cons x r =>
                  have hlt : d.length < n9 := by simp at hdl; omega
                  have hl1 : (d.length : Int) < (n9 : Int) := by omega
                  have hdm : d.length < m.co.length := by rw [← hn9.out]; exact hlt
                  obtain ⟨g, o, c, eA, hz, hc, hi⟩ := Rt.at (f := fCo) 2 (fun _ => rfl) (Rt.later (f := fCo) (fun _ => Nat.succ_pos _) Lw R9.out) d.length hdm
                  rw [eA] at k0
                  have hgx : g < w.heap.size := by
                    rcases R9.out with h0 | ⟨g2, o2, L2, e2, _, h2, i2⟩
                    · rw [h0] at hdm; exact absurd hdm (by simp)
                    · rw [eA] at e2; cases e2; exact cell_lt (h2 0 _ (List.getElem?_eq_getElem (by rw [i2.length, flat_len fCo 2 (fun _ => rfl)]; omega)))
                  have hx := hm.co.1 _ (List.getElem_mem hdm)
                  have hxe : m.co[d.length] = x := by simp [← hd]
                  rw [hxe] at hi hx
                  obtain ⟨x0, x1⟩ := x
                  obtain ⟨y0, c0, rfl, ⟨P0, p0, rfl, hP0⟩, y1, c1, rfl, ⟨P1, p1, rfl, hP1⟩, hnil⟩ := hi
                  have c0 := hc 0 _ rfl
                  have c1 := hc 1 _ rfl
                  simp only [Nat.add_zero] at c0
                  have lc := cell_lt c0
                  have s0 : Hid (∀ W b, Later wr W → ∃ r w', (Builtin.append_ #[24, 24] 24 #[.slice (some ⟨b, 0, none⟩) 0 0, .slice P0 x0.length p0]).run Try.prog W = .ok r w' ∧ ∃ g cz, r = .slice (some ⟨g, 0, none⟩) x0.length cz ∧ Lq (wr.heap.size ≤ ·) w' (some ⟨g, 0, none⟩) x0 ∧ Later W w' ∧ w'.cell? ⟨q, 9, none⟩ = some (.slice A d.length cap) ∧ q < w'.heap.size) := fun W b hW => by
                    obtain ⟨r, w', h1, g, cz, h2, h3, h4⟩ := app_lq P0 x0 b p0 24 _ W hx.1.2 (hP0.later hW)
                    exact ⟨r, w', h1, g, cz, h2, h3.mono (fun k hk => Nat.le_trans hW.size hk.1), h4, (hW.trans h4).cell_of b0, cell_lt ((hW.trans h4).cell_of b0)⟩
                  have s1 : Hid (∀ W, Later wr W → Calls Try.prog 21 #[.slice P1 x1.len p1] W fun e w' => ∃ A' c', e = .returned (.slice A' x1.len c') ∧ Tr (wr.heap.size ≤ ·) w' A' x1 ∧ Later W w' ∧ w'.cell? ⟨q, 9, none⟩ = some (.slice A d.length cap) ∧ q < w'.heap.size) := fun W hW => (copyI_any _ x1 (Nat.le_refl _) hx.2.1 hx.2.2 _ W P1 p1 (hP1.later hW)).mono (by
                    rintro e w' ⟨A', c', rfl, h1, h2⟩
                    exact ⟨A', c', rfl, h1.out.mono (fun k hk => Nat.le_trans hW.size hk), h2, (hW.trans h2.out).cell_of b0, cell_lt ((hW.trans h2.out).cell_of b0)⟩)
                  have s9 : Hid (∀ W g0 n0 Bz1 n1, Later wr W → Lq (wr.heap.size ≤ ·) W (some ⟨g0, 0, none⟩) x0 → Tr (wr.heap.size ≤ ·) W Bz1 x1 → ∃ r w', (Builtin.append_ #[29, 29] 29 #[.slice A d.length cap, .slice (some ⟨W.heap.size, 0, none⟩) 1 1]).run Try.prog (W.alloc (.cells #[.slice (some ⟨g0, 0, none⟩) x0.length n0, .slice Bz1 x1.len n1] 67)) = .ok r w' ∧ ∃ g cap', r = .slice (some ⟨g, 0, none⟩) (d.length + 1) cap' ∧ (w'.cell? ⟨q, 9, none⟩ = some (.slice A d.length cap) ∧ w'.frozen? ⟨q, 9, none⟩ = false ∧ q < w'.heap.size) ∧ Wr (fun k => k = q ∨ U9.heap.size ≤ k) wr w' ∧ Hid (Lc fCo 67 2 pa q 9 [.slice A0 m.ty.length a0, .slice A1 m.im.length a1, .slice A2 m.fu.length a2, .slice A3 m.ta.length a3, .slice A4 m.me.length a4, .slice A5 m.gl.length a5, .slice A6 m.ex.length a6, .int .i64 m.st, .slice A8 m.el.length a8, .slice A9 m.co.length a9, .slice A10 m.da.length a10] U9 (w'.setCell ⟨q, 9, none⟩ (.slice (some ⟨g, 0, none⟩) (d.length + 1) cap')) [.slice B0 m.ty.length e0, .slice (some ⟨B1, 0, none⟩) m.im.length e1, .slice (some ⟨B2, 0, none⟩) m.fu.length e2, .slice (some ⟨B3, 0, none⟩) m.ta.length e3, .slice (some ⟨B4, 0, none⟩) m.me.length e4, .slice B5 m.gl.length e5, .slice (some ⟨B6, 0, none⟩) m.ex.length e6, .int .i64 m.st, .slice B8 m.el.length e8, .slice none 0 0, .slice A10 m.da.length a10] (.slice (some ⟨g, 0, none⟩) (d.length + 1) cap') (d ++ [(x0, x1)]))) := fun W g0 n0 Bz1 n1 hW q0 q1 => by
                    obtain ⟨g, cap', w', h1, h2, h4, h3⟩ := hC.more YU9.out.2.2.1 YU9.out.2.2.2 hpq.out (by simp) ti_cod 29 (x0, x1) rfl [.slice (some ⟨g0, 0, none⟩) x0.length n0, .slice Bz1 x1.len n1] (by have := hb9.out; omega) (by omega) hW ⟨_, _, rfl, ⟨_, _, rfl, q0⟩, ⟨_, _, rfl, ⟨_, _, rfl, q1⟩, rfl⟩⟩
                    exact ⟨_, w', h1, g, cap', rfl, h2, (Wr.of_later hW).trans (h4.mono (fun _ _ e => Or.inr e)), h3⟩
                  have hkeep : Hid (∀ W, Wr (fun k => k = q ∨ U9.heap.size ≤ k) wr W → (Wr (fun k => k = q ∨ U9.heap.size ≤ k) wr W ∧ W.cell? ⟨pa, 9, none⟩ = some (.slice (some ⟨g, o, none⟩) n9 a9) ∧ W.cell? ⟨g, o + d.length * 2, none⟩ = some (.slice P0 x0.length p0) ∧ W.cell? ⟨g, o + d.length * 2 + 1, none⟩ = some (.slice P1 x1.len p1) ∧ pa < W.heap.size ∧ g < W.heap.size ∧ q < W.heap.size)) := fun W hW => by
                    have u1 : ¬ (pa = q ∨ U9.heap.size ≤ pa) := fun e => by rcases e with e | e; exact hpq.out e; have := YU9.out.2.2.1; omega
                    have u2 : ¬ (g = q ∨ U9.heap.size ≤ g) := fun e => by have := hqw.out.1; have := YU9.out.2.1.size; omega
                    have u3 := hW.size
                    exact ⟨hW, hW.cell u1 k0, hW.cell u2 c0, hW.cell u2 c1, by omega, by omega, by omega⟩
                  have hd2 : Hid (d ++ (x0, x1) :: r = m.co) := hd
                  clear eA hdl hdm hd hc hz hnil hC hgx hx hxe Lw hP0 hP1
                  have hb9 : ¬ (pa = q) := hpq.out
                  go_wp2_with fail
                  rw [ldq9_eq]
                  refine wp_region_noPanic ?_
                  go_region_held3 (fun W => Wr (fun k => k = q ∨ U9.heap.size ≤ k) wr W ∧ W.cell? ⟨pa, 9, none⟩ = some (.slice (some ⟨g, o, none⟩) n9 a9) ∧ W.cell? ⟨g, o + d.length * 2, none⟩ = some (.slice P0 x0.length p0) ∧ W.cell? ⟨g, o + d.length * 2 + 1, none⟩ = some (.slice P1 x1.len p1) ∧ pa < W.heap.size ∧ g < W.heap.size ∧ q < W.heap.size) (refine hkeep.out _ ?_ <;> (repeat first | assumption | exact Wr.refl _ _ | refine Wr.ltr ?_ (La (Lz _)) | refine Wr.ltr ?_ (Ld (Lz _)) | refine Wr.set ?_ _ _ (Or.inl (Or.inl rfl)) | refine Wr.ltr ?_ (by assumption))) (first | (refine' step_app_ex (by rfl) _ _ 24 (by rfl) _ _ (by rfl) (by rfl) (s0.out _ _ (by repeat first | exact Lz _ | apply La | apply Ld | refine Later.trans ?_ (by assumption))) ?_; rintro _ w0 ⟨g0, m0, rfl, q0, l0, k0, kk0⟩) | (go_at_call 21; refine (s1.out _ (by repeat first | exact Lz _ | apply La | apply Ld | refine Later.trans ?_ (by assumption))).mono ?_; rintro _ w1 ⟨Bz1, m1, rfl, q1, l1, k1, kk1⟩) | (refine' step_app_ex (by rfl) _ _ 29 (by rfl) _ _ (by rfl) (by rfl) (s9.out _ _ _ _ _ (by repeat first | exact Lz _ | apply La | apply Ld | refine Later.trans ?_ (by assumption)) (q0.later (by repeat first | exact Lz _ | apply La | apply Ld | refine Later.trans ?_ (by assumption))) (q1.later (by repeat first | exact Lz _ | apply La | apply Ld | refine Later.trans ?_ (by assumption)))) ?_; rintro _ w9 ⟨g9, cap9, rfl, ⟨t0, t1, t2⟩, hv, hn9⟩))
                  all_goals
                    clear hkeep s9 s0 s1
                    refine NoPanic.normal ?_
                    go_wp2_with fail
                    refine ⟨⟨d ++ [(x0, x1)], r, some ⟨g9, 0, none⟩, cap9, by simp, by rw [List.append_assoc]; exact hd2.out, by rw [List.length_append]; exact hn9.out⟩, ?_⟩
                    simp [intOf]
                    omega
                | nil =>
                  have hde : d = m.co := by simpa using hd
                  subst hde
                  have hl1 : ¬ (m.co.length : Int) < (n9 : Int) := by rw [hn9.out]; omega
                  obtain ⟨hC1, hF⟩ := hC.done
                  obtain ⟨B9, hB9⟩ : ∃ B, B = A := ⟨_, rfl⟩
                  obtain ⟨e9, he9⟩ : ∃ e, e = cap := ⟨_, rfl⟩
                  subst hB9 he9
                  obtain ⟨V9, hV⟩ : ∃ V, V = wr := ⟨_, rfl⟩
                  subst hV
                  have YV9 : Hid (W0.heap.size ≤ V9.heap.size ∧ Later w V9 ∧ pa < V9.heap.size ∧ q < V9.heap.size) := by
                    have t1 := (hC1.1).size
                    have t2 := YU9.out
                    exact ⟨by omega, ((Wr.of_later t2.2.1).trans (hC1.1)).later (fun k e => by have e : k = q := e; have := hqw.out.1; omega), by omega, by omega⟩
                  have CV9 : Hid (Cq pa q [.slice A0 m.ty.length a0, .slice A1 m.im.length a1, .slice A2 m.fu.length a2, .slice A3 m.ta.length a3, .slice A4 m.me.length a4, .slice A5 m.gl.length a5, .slice A6 m.ex.length a6, .int .i64 m.st, .slice A8 m.el.length a8, .slice A9 m.co.length a9, .slice A10 m.da.length a10] V9 V9 [.slice B0 m.ty.length e0, .slice (some ⟨B1, 0, none⟩) m.im.length e1, .slice (some ⟨B2, 0, none⟩) m.fu.length e2, .slice (some ⟨B3, 0, none⟩) m.ta.length e3, .slice (some ⟨B4, 0, none⟩) m.me.length e4, .slice B5 m.gl.length e5, .slice (some ⟨B6, 0, none⟩) m.ex.length e6, .int .i64 m.st, .slice B8 m.el.length e8, .slice B9 m.co.length e9, .slice A10 m.da.length a10]) := ⟨Wr.refl _ _, hC1.2.1, hC1.2.2⟩
                  have D0V9 : Hid (Fc fTy (fun k => W0.heap.size ≤ k) V9 m.ty (.slice B0 m.ty.length e0)) := D0U9.out.move (fun _ => Nat.succ_pos _) (fun k hk hl => ⟨hk, (hC1.1).block k hl (fun e => by have e : k = q := e; have := hqw.out.2; have hk : W0.heap.size ≤ k := hk; omega)⟩)
                  have D1V9 : Hid (Fc fIm (fun k => W0.heap.size ≤ k) V9 m.im (.slice (some ⟨B1, 0, none⟩) m.im.length e1)) := D1U9.out.move (fun _ => Nat.succ_pos _) (fun k hk hl => ⟨hk, (hC1.1).block k hl (fun e => by have e : k = q := e; have := hqw.out.2; have hk : W0.heap.size ≤ k := hk; omega)⟩)
                  have D2V9 : Hid (Fc f1 (fun k => W0.heap.size ≤ k) V9 m.fu (.slice (some ⟨B2, 0, none⟩) m.fu.length e2)) := D2U9.out.move (fun _ => Nat.succ_pos _) (fun k hk hl => ⟨hk, (hC1.1).block k hl (fun e => by have e : k = q := e; have := hqw.out.2; have hk : W0.heap.size ≤ k := hk; omega)⟩)
                  have D3V9 : Hid (Fc fLi (fun k => W0.heap.size ≤ k) V9 m.ta (.slice (some ⟨B3, 0, none⟩) m.ta.length e3)) := D3U9.out.move (fun _ => Nat.succ_pos _) (fun k hk hl => ⟨hk, (hC1.1).block k hl (fun e => by have e : k = q := e; have := hqw.out.2; have hk : W0.heap.size ≤ k := hk; omega)⟩)
                  have D4V9 : Hid (Fc fLi (fun k => W0.heap.size ≤ k) V9 m.me (.slice (some ⟨B4, 0, none⟩) m.me.length e4)) := D4U9.out.move (fun _ => Nat.succ_pos _) (fun k hk hl => ⟨hk, (hC1.1).block k hl (fun e => by have e : k = q := e; have := hqw.out.2; have hk : W0.heap.size ≤ k := hk; omega)⟩)
                  have D5V9 : Hid (Fc fGl (fun k => W0.heap.size ≤ k) V9 m.gl (.slice B5 m.gl.length e5)) := D5U9.out.move (fun _ => Nat.succ_pos _) (fun k hk hl => ⟨hk, (hC1.1).block k hl (fun e => by have e : k = q := e; have := hqw.out.2; have hk : W0.heap.size ≤ k := hk; omega)⟩)
                  have D6V9 : Hid (Fc fEx (fun k => W0.heap.size ≤ k) V9 m.ex (.slice (some ⟨B6, 0, none⟩) m.ex.length e6)) := D6U9.out.move (fun _ => Nat.succ_pos _) (fun k hk hl => ⟨hk, (hC1.1).block k hl (fun e => by have e : k = q := e; have := hqw.out.2; have hk : W0.heap.size ≤ k := hk; omega)⟩)
                  have D8V9 : Hid (Fc fEl (fun k => W0.heap.size ≤ k) V9 m.el (.slice B8 m.el.length e8)) := D8U9.out.move (fun _ => Nat.succ_pos _) (fun k hk hl => ⟨hk, (hC1.1).block k hl (fun e => by have e : k = q := e; have := hqw.out.2; have hk : W0.heap.size ≤ k := hk; omega)⟩)
                  have QV9 : Hid (Rl V9 (pa + 1) 32 [.slice none 0 0, .slice none 0 0, .slice none 0 0, .slice none 0 0, .slice none 0 0, .slice none 0 0, .slice none 0 0, .int .i64 0, .slice none 0 0, .slice none 0 0, .slice none 0 0]) := QU9.out.wr (hC1.1) hpr.out
                  have D9V9 : Hid (Fc fCo (fun k => W0.heap.size ≤ k) V9 m.co (.slice B9 m.co.length e9)) := hF.move (fun _ => Nat.succ_pos _) (fun k hk hl => ⟨Nat.le_trans YU9.out.1 hk, rfl⟩)
                  clear YU9 CU9 QU9 D0U9 D1U9 D2U9 D3U9 D4U9 D5U9 D6U9 D8U9
                  clear hC hC1 hF hd hdl b0 k0 bl kl Lw
                  have cq9 := (CV9.out.cell 9 rfl).1
                  have fq9 := (CV9.out.cell 9 rfl).2.1
                  have cq10 := (CV9.out.cell 10 rfl).1
                  have fq10 := (CV9.out.cell 10 rfl).2.1
                  have ca9 := CV9.out.arg 9 rfl
                  have lq := YV9.out.2.2.2
                  have la := YV9.out.2.2.1
                  have hb9 : ¬ (pa = q) := hpq.out
                  go_wp2_with fail
                  obtain ⟨U10, hU10⟩ : ∃ V, V = V9.setCell ⟨q, 10, none⟩ (.slice none 0 0) := ⟨_, rfl⟩
                  rw [← hU10]
                  have c0 : Cq pa q [.slice A0 m.ty.length a0, .slice A1 m.im.length a1, .slice A2 m.fu.length a2, .slice A3 m.ta.length a3, .slice A4 m.me.length a4, .slice A5 m.gl.length a5, .slice A6 m.ex.length a6, .int .i64 m.st, .slice A8 m.el.length a8, .slice A9 m.co.length a9, .slice A10 m.da.length a10] V9 U10 [.slice B0 m.ty.length e0, .slice (some ⟨B1, 0, none⟩) m.im.length e1, .slice (some ⟨B2, 0, none⟩) m.fu.length e2, .slice (some ⟨B3, 0, none⟩) m.ta.length e3, .slice (some ⟨B4, 0, none⟩) m.me.length e4, .slice B5 m.gl.length e5, .slice (some ⟨B6, 0, none⟩) m.ex.length e6, .int .i64 m.st, .slice B8 m.el.length e8, .slice B9 m.co.length e9, .slice none 0 0] := by rw [hU10]; exact CV9.out.set hpq.out 10 (.slice none 0 0)
                  have YU10 : Hid (W0.heap.size ≤ U10.heap.size ∧ Later w U10 ∧ pa < U10.heap.size ∧ q < U10.heap.size) := by
                    have t1 := (c0.1).size
                    have t2 := YV9.out
                    exact ⟨by omega, ((Wr.of_later t2.2.1).trans (c0.1)).later (fun k e => by have e : k = q := e; have := hqw.out.1; omega), by omega, by omega⟩
                  have CU10 : Hid (Cq pa q [.slice A0 m.ty.length a0, .slice A1 m.im.length a1, .slice A2 m.fu.length a2, .slice A3 m.ta.length a3, .slice A4 m.me.length a4, .slice A5 m.gl.length a5, .slice A6 m.ex.length a6, .int .i64 m.st, .slice A8 m.el.length a8, .slice A9 m.co.length a9, .slice A10 m.da.length a10] U10 U10 [.slice B0 m.ty.length e0, .slice (some ⟨B1, 0, none⟩) m.im.length e1, .slice (some ⟨B2, 0, none⟩) m.fu.length e2, .slice (some ⟨B3, 0, none⟩) m.ta.length e3, .slice (some ⟨B4, 0, none⟩) m.me.length e4, .slice B5 m.gl.length e5, .slice (some ⟨B6, 0, none⟩) m.ex.length e6, .int .i64 m.st, .slice B8 m.el.length e8, .slice B9 m.co.length e9, .slice none 0 0]) := ⟨Wr.refl _ _, c0.2.1, c0.2.2⟩
                  have D0U10 : Hid (Fc fTy (fun k => W0.heap.size ≤ k) U10 m.ty (.slice B0 m.ty.length e0)) := D0V9.out.move (fun _ => Nat.succ_pos _) (fun k hk hl => ⟨hk, (c0.1).block k hl (fun e => by have e : k = q := e; have := hqw.out.2; have hk : W0.heap.size ≤ k := hk; omega)⟩)
                  have D1U10 : Hid (Fc fIm (fun k => W0.heap.size ≤ k) U10 m.im (.slice (some ⟨B1, 0, none⟩) m.im.length e1)) := D1V9.out.move (fun _ => Nat.succ_pos _) (fun k hk hl => ⟨hk, (c0.1).block k hl (fun e => by have e : k = q := e; have := hqw.out.2; have hk : W0.heap.size ≤ k := hk; omega)⟩)
                  have D2U10 : Hid (Fc f1 (fun k => W0.heap.size ≤ k) U10 m.fu (.slice (some ⟨B2, 0, none⟩) m.fu.length e2)) := D2V9.out.move (fun _ => Nat.succ_pos _) (fun k hk hl => ⟨hk, (c0.1).block k hl (fun e => by have e : k = q := e; have := hqw.out.2; have hk : W0.heap.size ≤ k := hk; omega)⟩)
                  have D3U10 : Hid (Fc fLi (fun k => W0.heap.size ≤ k) U10 m.ta (.slice (some ⟨B3, 0, none⟩) m.ta.length e3)) := D3V9.out.move (fun _ => Nat.succ_pos _) (fun k hk hl => ⟨hk, (c0.1).block k hl (fun e => by have e : k = q := e; have := hqw.out.2; have hk : W0.heap.size ≤ k := hk; omega)⟩)
                  have D4U10 : Hid (Fc fLi (fun k => W0.heap.size ≤ k) U10 m.me (.slice (some ⟨B4, 0, none⟩) m.me.length e4)) := D4V9.out.move (fun _ => Nat.succ_pos _) (fun k hk hl => ⟨hk, (c0.1).block k hl (fun e => by have e : k = q := e; have := hqw.out.2; have hk : W0.heap.size ≤ k := hk; omega)⟩)
                  have D5U10 : Hid (Fc fGl (fun k => W0.heap.size ≤ k) U10 m.gl (.slice B5 m.gl.length e5)) := D5V9.out.move (fun _ => Nat.succ_pos _) (fun k hk hl => ⟨hk, (c0.1).block k hl (fun e => by have e : k = q := e; have := hqw.out.2; have hk : W0.heap.size ≤ k := hk; omega)⟩)
                  have D6U10 : Hid (Fc fEx (fun k => W0.heap.size ≤ k) U10 m.ex (.slice (some ⟨B6, 0, none⟩) m.ex.length e6)) := D6V9.out.move (fun _ => Nat.succ_pos _) (fun k hk hl => ⟨hk, (c0.1).block k hl (fun e => by have e : k = q := e; have := hqw.out.2; have hk : W0.heap.size ≤ k := hk; omega)⟩)
                  have D8U10 : Hid (Fc fEl (fun k => W0.heap.size ≤ k) U10 m.el (.slice B8 m.el.length e8)) := D8V9.out.move (fun _ => Nat.succ_pos _) (fun k hk hl => ⟨hk, (c0.1).block k hl (fun e => by have e : k = q := e; have := hqw.out.2; have hk : W0.heap.size ≤ k := hk; omega)⟩)
                  have D9U10 : Hid (Fc fCo (fun k => W0.heap.size ≤ k) U10 m.co (.slice B9 m.co.length e9)) := D9V9.out.move (fun _ => Nat.succ_pos _) (fun k hk hl => ⟨hk, (c0.1).block k hl (fun e => by have e : k = q := e; have := hqw.out.2; have hk : W0.heap.size ≤ k := hk; omega)⟩)
                  have QU10 : Hid (Rl U10 (pa + 1) 32 [.slice none 0 0, .slice none 0 0, .slice none 0 0, .slice none 0 0, .slice none 0 0, .slice none 0 0, .slice none 0 0, .int .i64 0, .slice none 0 0, .slice none 0 0, .slice none 0 0]) := QV9.out.wr (c0.1) hpr.out
                  clear YV9 CV9 QV9 D0V9 D1V9 D2V9 D3V9 D4V9 D5V9 D6V9 D8V9 D9V9
                  clear c0 cq9 fq9 cq10 fq10 ca9 lq la hb9 hU10
                  refine (show ∀ z9 z10 z11 z12 z13 z14 z15 z16 z17 z18 z19 z20 z21 z22 z23 z24 z25 z26 z27 z28 z29 z30 z31 z32 z33 z34 z35 z36 z37 z38 z39 z40 z41 z42 z43 z44 z45 z46 z47 z48 z49 z50 z51 z52 z53 z54 z55 z56 z57 z58 z59 z60 z61 z62 z63 z64 z65 z66 z67 z68 z69 z70 z71 z72 z73 z74 z75 z76 z77 z78 z79 z80 z81 z82 z83 z84 z85 z86 z87 z88 z89 z90 z91 z92 z93 z94 z95 z96 z97 z98 z99 z100 z101 z102 z103 z104 z105 z106 z107 z108 z109 z110 z111 z112 z113 z114 z115 z116 z117 z118 z119 z120 z121 z122 z123 z124 z125 z126 z127 z128 z129 z130 z131 z132 z133 z134 z135 z136 z137 z138 z139 z140 z141 z142 z143 z144 z145 z146 z147 z148 z149 z150 z151 z152 z153 z154 z155 z156 z157 z158 z159 z160 z161 z162 z163 z164 z165 z166 z167 z168 z169 z170 z171 z172 z173 z174 z175 z176 z177 z178 z179 z180 z181 z182 z183 : Value, Code.wp _ _ _ ⟨List.toArray (_ :: _ :: _ :: _ :: _ :: _ :: _ :: _ :: _ :: z9 :: z10 :: z11 :: z12 :: z13 :: z14 :: z15 :: z16 :: z17 :: z18 :: z19 :: z20 :: z21 :: z22 :: z23 :: z24 :: z25 :: z26 :: z27 :: z28 :: z29 :: z30 :: z31 :: z32 :: z33 :: z34 :: z35 :: z36 :: z37 :: z38 :: z39 :: z40 :: z41 :: z42 :: z43 :: z44 :: z45 :: z46 :: z47 :: z48 :: z49 :: z50 :: z51 :: z52 :: z53 :: z54 :: z55 :: z56 :: z57 :: z58 :: z59 :: z60 :: z61 :: z62 :: z63 :: z64 :: z65 :: z66 :: z67 :: z68 :: z69 :: z70 :: z71 :: z72 :: z73 :: z74 :: z75 :: z76 :: z77 :: z78 :: z79 :: z80 :: z81 :: z82 :: z83 :: z84 :: z85 :: z86 :: z87 :: z88 :: z89 :: z90 :: z91 :: z92 :: z93 :: z94 :: z95 :: z96 :: z97 :: z98 :: z99 :: z100 :: z101 :: z102 :: z103 :: z104 :: z105 :: z106 :: z107 :: z108 :: z109 :: z110 :: z111 :: z112 :: z113 :: z114 :: z115 :: z116 :: z117 :: z118 :: z119 :: z120 :: z121 :: z122 :: z123 :: z124 :: z125 :: z126 :: z127 :: z128 :: z129 :: z130 :: z131 :: z132 :: z133 :: z134 :: z135 :: z136 :: z137 :: z138 :: z139 :: z140 :: z141 :: z142 :: z143 :: z144 :: z145 :: z146 :: z147 :: z148 :: z149 :: z150 :: z151 :: z152 :: z153 :: z154 :: z155 :: z156 :: z157 :: z158 :: z159 :: z160 :: z161 :: z162 :: z163 :: z164 :: z165 :: z166 :: z167 :: z168 :: z169 :: z170 :: z171 :: z172 :: z173 :: z174 :: z175 :: z176 :: z177 :: z178 :: z179 :: z180 :: z181 :: z182 :: z183 :: []), _⟩ _ from ?_) _ _ _ _ _ _ _ _ _ _ _ _ _ _ _ _ _ _ _ _ _ _ _ _ _ _ _ _ _ _ _ _ _ _ _ _ _ _ _ _ _ _ _ _ _ _ _ _ _ _ _ _ _ _ _ _ _ _ _ _ _ _ _ _ _ _ _ _ _ _ _ _ _ _ _ _ _ _ _ _ _ _ _ _ _ _ _ _ _ _ _ _ _ _ _ _ _ _ _ _ _ _ _ _ _ _ _ _ _ _ _ _ _ _ _ _ _ _ _ _ _ _ _ _ _ _ _ _ _ _ _ _ _ _ _ _ _ _ _ _ _ _ _ _ _ _ _ _ _ _ _ _ _ _ _ _ _ _ _ _ _ _ _ _ _ _ _ _ _ _ _ _ _ _ _
                  intro z9 z10 z11 z12 z13 z14 z15 z16 z17 z18 z19 z20 z21 z22 z23 z24 z25 z26 z27 z28 z29 z30 z31 z32 z33 z34 z35 z36 z37 z38 z39 z40 z41 z42 z43 z44 z45 z46 z47 z48 z49 z50 z51 z52 z53 z54 z55 z56 z57 z58 z59 z60 z61 z62 z63 z64 z65 z66 z67 z68 z69 z70 z71 z72 z73 z74 z75 z76 z77 z78 z79 z80 z81 z82 z83 z84 z85 z86 z87 z88 z89 z90 z91 z92 z93 z94 z95 z96 z97 z98 z99 z100 z101 z102 z103 z104 z105 z106 z107 z108 z109 z110 z111 z112 z113 z114 z115 z116 z117 z118 z119 z120 z121 z122 z123 z124 z125 z126 z127 z128 z129 z130 z131 z132 z133 z134 z135 z136 z137 z138 z139 z140 z141 z142 z143 z144 z145 z146 z147 z148 z149 z150 z151 z152 z153 z154 z155 z156 z157 z158 z159 z160 z161 z162 z163 z164 z165 z166 z167 z168 z169 z170 z171 z172 z173 z174 z175 z176 z177 z178 z179 z180 z181 z182 z183
                  obtain ⟨n10, hn10⟩ : ∃ n, n = m.da.length := ⟨_, rfl⟩
                  have hb10 : n10 * 40 ≤ 140737488351232 := by rw [hn10]; exact hm.da.2
                  have h110 : n10 ≤ 140737488351232 := by omega
                  replace hb10 : Hid (n10 * 40 ≤ 140737488351232) := hb10
                  replace hn10 : Hid (n10 = m.da.length) := hn10
                  go_loopw [8] (fun i wr => ∃ (d : List _) (r : List _) (A : Option Addr) (cap : Nat), i = .int .i64 (d.length : Nat) ∧ d ++ r = m.da ∧ Lc fDa 69 2 pa q 10 [.slice A0 m.ty.length a0, .slice A1 m.im.length a1, .slice A2 m.fu.length a2, .slice A3 m.ta.length a3, .slice A4 m.me.length a4, .slice A5 m.gl.length a5, .slice A6 m.ex.length a6, .int .i64 m.st, .slice A8 m.el.length a8, .slice A9 m.co.length a9, .slice A10 m.da.length a10] U10 wr [.slice B0 m.ty.length e0, .slice (some ⟨B1, 0, none⟩) m.im.length e1, .slice (some ⟨B2, 0, none⟩) m.fu.length e2, .slice (some ⟨B3, 0, none⟩) m.ta.length e3, .slice (some ⟨B4, 0, none⟩) m.me.length e4, .slice B5 m.gl.length e5, .slice (some ⟨B6, 0, none⟩) m.ex.length e6, .int .i64 m.st, .slice B8 m.el.length e8, .slice B9 m.co.length e9, .slice none 0 0] (.slice A d.length cap) d) (fun i _ => n10 - (intOf i).toNat)
                  case atStart => exact ⟨[], m.da, none, 0, rfl, rfl, Lc.start CU10.out rfl⟩
                  case round =>
                    obtain ⟨d, r, A, cap, rfl, hd, hC⟩ := hrel
                    have hdl : d.length + r.length = n10 := by rw [hn10.out, ← hd, List.length_append]
                    have k0 : wr.cell? ⟨pa, 10, none⟩ = some (.slice A10 n10 a10) := by rw [hn10.out]; exact hC.1.arg 10 rfl
                    have b0 : wr.cell? ⟨q, 10, none⟩ = some (.slice A d.length cap) := (hC.cell (by simp)).1
                    have bl := cell_lt b0
                    have kl := cell_lt k0
                    have Lw : Later w wr := hC.1.low YU10.out.2.1 hqw.out.1
                    cases r with
                    | cons x r =>
                      have hlt : d.length < n10 := by simp at hdl; omega
                      have hl1 : (d.length : Int) < (n10 : Int) := by omega
                      have hdm : d.length < m.da.length := by rw [← hn10.out]; exact hlt
                      obtain ⟨g, o, c, eA, hz, hc, hi⟩ := Rt.at (f := fDa) 2 (fun _ => rfl) (Rt.later (f := fDa) (fun _ => Nat.succ_pos _) Lw R10.out) d.length hdm
                      rw [eA] at k0
                      have hgx : g < w.heap.size := by
                        rcases R10.out with h0 | ⟨g2, o2, L2, e2, _, h2, i2⟩
                        · rw [h0] at hdm; exact absurd hdm (by simp)
                        · rw [eA] at e2; cases e2; exact cell_lt (h2 0 _ (List.getElem?_eq_getElem (by rw [i2.length, flat_len fDa 2 (fun _ => rfl)]; omega)))
                      have hx := hm.da.1 _ (List.getElem_mem hdm)
                      have hxe : m.da[d.length] = x := by simp [← hd]
                      rw [hxe] at hi hx
                      obtain ⟨x0, x1⟩ := x
                      obtain ⟨y0, c0, rfl, ⟨P0, p0, rfl, hP0⟩, y1, c1, rfl, ez1, hnil⟩ := hi
                      have ez1 : y1 = .string x1 := ez1
                      subst ez1
                      have c0 := hc 0 _ rfl
                      have c1 := hc 1 _ rfl
                      simp only [Nat.add_zero] at c0
                      have lc := cell_lt c0
                      have s0 : Hid (∀ W, Later wr W → Calls Try.prog 21 #[.slice P0 x0.len p0] W fun e w' => ∃ A' c', e = .returned (.slice A' x0.len c') ∧ Tr (wr.heap.size ≤ ·) w' A' x0 ∧ Later W w' ∧ w'.cell? ⟨q, 10, none⟩ = some (.slice A d.length cap) ∧ q < w'.heap.size) := fun W hW => (copyI_any _ x0 (Nat.le_refl _) hx.1.1 hx.1.2 _ W P0 p0 (hP0.later hW)).mono (by
                        rintro e w' ⟨A', c', rfl, h1, h2⟩
                        exact ⟨A', c', rfl, h1.out.mono (fun k hk => Nat.le_trans hW.size hk), h2, (hW.trans h2.out).cell_of b0, cell_lt ((hW.trans h2.out).cell_of b0)⟩)
                      have s9 : Hid (∀ W Bz0 n0, Later wr W → Tr (wr.heap.size ≤ ·) W Bz0 x0 → ∃ r w', (Builtin.append_ #[30, 30] 30 #[.slice A d.length cap, .slice (some ⟨W.heap.size, 0, none⟩) 1 1]).run Try.prog (W.alloc (.cells #[.slice Bz0 x0.len n0, .string x1] 69)) = .ok r w' ∧ ∃ g cap', r = .slice (some ⟨g, 0, none⟩) (d.length + 1) cap' ∧ (w'.cell? ⟨q, 10, none⟩ = some (.slice A d.length cap) ∧ w'.frozen? ⟨q, 10, none⟩ = false ∧ q < w'.heap.size) ∧ Wr (fun k => k = q ∨ U10.heap.size ≤ k) wr w' ∧ Hid (Lc fDa 69 2 pa q 10 [.slice A0 m.ty.length a0, .slice A1 m.im.length a1, .slice A2 m.fu.length a2, .slice A3 m.ta.length a3, .slice A4 m.me.length a4, .slice A5 m.gl.length a5, .slice A6 m.ex.length a6, .int .i64 m.st, .slice A8 m.el.length a8, .slice A9 m.co.length a9, .slice A10 m.da.length a10] U10 (w'.setCell ⟨q, 10, none⟩ (.slice (some ⟨g, 0, none⟩) (d.length + 1) cap')) [.slice B0 m.ty.length e0, .slice (some ⟨B1, 0, none⟩) m.im.length e1, .slice (some ⟨B2, 0, none⟩) m.fu.length e2, .slice (some ⟨B3, 0, none⟩) m.ta.length e3, .slice (some ⟨B4, 0, none⟩) m.me.length e4, .slice B5 m.gl.length e5, .slice (some ⟨B6, 0, none⟩) m.ex.length e6, .int .i64 m.st, .slice B8 m.el.length e8, .slice B9 m.co.length e9, .slice none 0 0] (.slice (some ⟨g, 0, none⟩) (d.length + 1) cap') (d ++ [(x0, x1)]))) := fun W Bz0 n0 hW q0 => by
                        obtain ⟨g, cap', w', h1, h2, h4, h3⟩ := hC.more YU10.out.2.2.1 YU10.out.2.2.2 hpq.out (by simp) ti_dat 30 (x0, x1) rfl [.slice Bz0 x0.len n0, .string x1] (by have := hb10.out; omega) (by omega) hW ⟨_, _, rfl, ⟨_, _, rfl, q0⟩, ⟨_, _, rfl, rfl, rfl⟩⟩
                        exact ⟨_, w', h1, g, cap', rfl, h2, (Wr.of_later hW).trans (h4.mono (fun _ _ e => Or.inr e)), h3⟩
                      have hkeep : Hid (∀ W, Wr (fun k => k = q ∨ U10.heap.size ≤ k) wr W → (Wr (fun k => k = q ∨ U10.heap.size ≤ k) wr W ∧ W.cell? ⟨pa, 10, none⟩ = some (.slice (some ⟨g, o, none⟩) n10 a10) ∧ W.cell? ⟨g, o + d.length * 2, none⟩ = some (.slice P0 x0.len p0) ∧ W.cell? ⟨g, o + d.length * 2 + 1, none⟩ = some (.string x1) ∧ pa < W.heap.size ∧ g < W.heap.size ∧ q < W.heap.size)) := fun W hW => by
                        have u1 : ¬ (pa = q ∨ U10.heap.size ≤ pa) := fun e => by rcases e with e | e; exact hpq.out e; have := YU10.out.2.2.1; omega
                        have u2 : ¬ (g = q ∨ U10.heap.size ≤ g) := fun e => by have := hqw.out.1; have := YU10.out.2.1.size; omega
                        have u3 := hW.size
                        exact ⟨hW, hW.cell u1 k0, hW.cell u2 c0, hW.cell u2 c1, by omega, by omega, by omega⟩
                      have hd2 : Hid (d ++ (x0, x1) :: r = m.da) := hd
                      clear eA hdl hdm hd hc hz hnil hC hgx hx hxe Lw hP0
                      have hb9 : ¬ (pa = q) := hpq.out
                      go_wp2_with fail
                      rw [ldq10_eq]
                      refine wp_region_noPanic ?_
                      go_region_held3 (fun W => Wr (fun k => k = q ∨ U10.heap.size ≤ k) wr W ∧ W.cell? ⟨pa, 10, none⟩ = some (.slice (some ⟨g, o, none⟩) n10 a10) ∧ W.cell? ⟨g, o + d.length * 2, none⟩ = some (.slice P0 x0.len p0) ∧ W.cell? ⟨g, o + d.length * 2 + 1, none⟩ = some (.string x1) ∧ pa < W.heap.size ∧ g < W.heap.size ∧ q < W.heap.size) (refine hkeep.out _ ?_ <;> (repeat first | assumption | exact Wr.refl _ _ | refine Wr.ltr ?_ (La (Lz _)) | refine Wr.ltr ?_ (Ld (Lz _)) | refine Wr.set ?_ _ _ (Or.inl (Or.inl rfl)) | refine Wr.ltr ?_ (by assumption))) (first | (go_at_call 21; refine (s0.out _ (by repeat first | exact Lz _ | apply La | apply Ld | refine Later.trans ?_ (by assumption))).mono ?_; rintro _ w0 ⟨Bz0, m0, rfl, q0, l0, k0, kk0⟩) | (refine' step_app_ex (by rfl) _ _ 30 (by rfl) _ _ (by rfl) (by rfl) (s9.out _ _ _ (by repeat first | exact Lz _ | apply La | apply Ld | refine Later.trans ?_ (by assumption)) (q0.later (by repeat first | exact Lz _ | apply La | apply Ld | refine Later.trans ?_ (by assumption)))) ?_; rintro _ w9 ⟨g9, cap9, rfl, ⟨t0, t1, t2⟩, hv, hn9⟩))
                      all_goals
                        clear hkeep s9 s0
                        refine NoPanic.normal ?_
                        go_wp2_with fail
                        refine ⟨⟨d ++ [(x0, x1)], r, some ⟨g9, 0, none⟩, cap9, by simp, by rw [List.append_assoc]; exact hd2.out, by rw [List.length_append]; exact hn9.out⟩, ?_⟩
                        simp [intOf]
                        omega
                    | nil =>
                      have hde : d = m.da := by simpa using hd
                      subst hde
                      have hl1 : ¬ (m.da.length : Int) < (n10 : Int) := by rw [hn10.out]; omega
                      obtain ⟨hC1, hF⟩ := hC.done
                      obtain ⟨B10, hB10⟩ : ∃ B, B = A := ⟨_, rfl⟩
                      obtain ⟨e10, he10⟩ : ∃ e, e = cap := ⟨_, rfl⟩
                      subst hB10 he10
                      obtain ⟨V10, hV⟩ : ∃ V, V = wr := ⟨_, rfl⟩
                      subst hV
                      have YV10 : Hid (W0.heap.size ≤ V10.heap.size ∧ Later w V10 ∧ pa < V10.heap.size ∧ q < V10.heap.size) := by
                        have t1 := (hC1.1).size
                        have t2 := YU10.out
                        exact ⟨by omega, ((Wr.of_later t2.2.1).trans (hC1.1)).later (fun k e => by have e : k = q := e; have := hqw.out.1; omega), by omega, by omega⟩
                      have CV10 : Hid (Cq pa q [.slice A0 m.ty.length a0, .slice A1 m.im.length a1, .slice A2 m.fu.length a2, .slice A3 m.ta.length a3, .slice A4 m.me.length a4, .slice A5 m.gl.length a5, .slice A6 m.ex.length a6, .int .i64 m.st, .slice A8 m.el.length a8, .slice A9 m.co.length a9, .slice A10 m.da.length a10] V10 V10 [.slice B0 m.ty.length e0, .slice (some ⟨B1, 0, none⟩) m.im.length e1, .slice (some ⟨B2, 0, none⟩) m.fu.length e2, .slice (some ⟨B3, 0, none⟩) m.ta.length e3, .slice (some ⟨B4, 0, none⟩) m.me.length e4, .slice B5 m.gl.length e5, .slice (some ⟨B6, 0, none⟩) m.ex.length e6, .int .i64 m.st, .slice B8 m.el.length e8, .slice B9 m.co.length e9, .slice B10 m.da.length e10]) := ⟨Wr.refl _ _, hC1.2.1, hC1.2.2⟩
                      have D0V10 : Hid (Fc fTy (fun k => W0.heap.size ≤ k) V10 m.ty (.slice B0 m.ty.length e0)) := D0U10.out.move (fun _ => Nat.succ_pos _) (fun k hk hl => ⟨hk, (hC1.1).block k hl (fun e => by have e : k = q := e; have := hqw.out.2; have hk : W0.heap.size ≤ k := hk; omega)⟩)
                      have D1V10 : Hid (Fc fIm (fun k => W0.heap.size ≤ k) V10 m.im (.slice (some ⟨B1, 0, none⟩) m.im.length e1)) := D1U10.out.move (fun _ => Nat.succ_pos _) (fun k hk hl => ⟨hk, (hC1.1).block k hl (fun e => by have e : k = q := e; have := hqw.out.2; have hk : W0.heap.size ≤ k := hk; omega)⟩)
                      have D2V10 : Hid (Fc f1 (fun k => W0.heap.size ≤ k) V10 m.fu (.slice (some ⟨B2, 0, none⟩) m.fu.length e2)) := D2U10.out.move (fun _ => Nat.succ_pos _) (fun k hk hl => ⟨hk, (hC1.1).block k hl (fun e => by have e : k = q := e; have := hqw.out.2; have hk : W0.heap.size ≤ k := hk; omega)⟩)
                      have D3V10 : Hid (Fc fLi (fun k => W0.heap.size ≤ k) V10 m.ta (.slice (some ⟨B3, 0, none⟩) m.ta.length e3)) := D3U10.out.move (fun _ => Nat.succ_pos _) (fun k hk hl => ⟨hk, (hC1.1).block k hl (fun e => by have e : k = q := e; have := hqw.out.2; have hk : W0.heap.size ≤ k := hk; omega)⟩)
                      have D4V10 : Hid (Fc fLi (fun k => W0.heap.size ≤ k) V10 m.me (.slice (some ⟨B4, 0, none⟩) m.me.length e4)) := D4U10.out.move (fun _ => Nat.succ_pos _) (fun k hk hl => ⟨hk, (hC1.1).block k hl (fun e => by have e : k = q := e; have := hqw.out.2; have hk : W0.heap.size ≤ k := hk; omega)⟩)
                      have D5V10 : Hid (Fc fGl (fun k => W0.heap.size ≤ k) V10 m.gl (.slice B5 m.gl.length e5)) := D5U10.out.move (fun _ => Nat.succ_pos _) (fun k hk hl => ⟨hk, (hC1.1).block k hl (fun e => by have e : k = q := e; have := hqw.out.2; have hk : W0.heap.size ≤ k := hk; omega)⟩)
                      have D6V10 : Hid (Fc fEx (fun k => W0.heap.size ≤ k) V10 m.ex (.slice (some ⟨B6, 0, none⟩) m.ex.length e6)) := D6U10.out.move (fun _ => Nat.succ_pos _) (fun k hk hl => ⟨hk, (hC1.1).block k hl (fun e => by have e : k = q := e; have := hqw.out.2; have hk : W0.heap.size ≤ k := hk; omega)⟩)
                      have D8V10 : Hid (Fc fEl (fun k => W0.heap.size ≤ k) V10 m.el (.slice B8 m.el.length e8)) := D8U10.out.move (fun _ => Nat.succ_pos _) (fun k hk hl => ⟨hk, (hC1.1).block k hl (fun e => by have e : k = q := e; have := hqw.out.2; have hk : W0.heap.size ≤ k := hk; omega)⟩)
                      have D9V10 : Hid (Fc fCo (fun k => W0.heap.size ≤ k) V10 m.co (.slice B9 m.co.length e9)) := D9U10.out.move (fun _ => Nat.succ_pos _) (fun k hk hl => ⟨hk, (hC1.1).block k hl (fun e => by have e : k = q := e; have := hqw.out.2; have hk : W0.heap.size ≤ k := hk; omega)⟩)
                      have QV10 : Hid (Rl V10 (pa + 1) 32 [.slice none 0 0, .slice none 0 0, .slice none 0 0, .slice none 0 0, .slice none 0 0, .slice none 0 0, .slice none 0 0, .int .i64 0, .slice none 0 0, .slice none 0 0, .slice none 0 0]) := QU10.out.wr (hC1.1) hpr.out
                      have D10V10 : Hid (Fc fDa (fun k => W0.heap.size ≤ k) V10 m.da (.slice B10 m.da.length e10)) := hF.move (fun _ => Nat.succ_pos _) (fun k hk hl => ⟨Nat.le_trans YU10.out.1 hk, rfl⟩)
                      clear YU10 CU10 QU10 D0U10 D1U10 D2U10 D3U10 D4U10 D5U10 D6U10 D8U10 D9U10
                      clear hC hC1 hF hd hdl b0 k0 bl kl Lw
                      have cq0 := (CV10.out.cell 0 rfl).1
                      have cr0 := QV10.out.cell 0 rfl
                      have fr0 := QV10.out.frozen 0
                      have cq1 := (CV10.out.cell 1 rfl).1
                      have cr1 := QV10.out.cell 1 rfl
                      have fr1 := QV10.out.frozen 1
                      have cq2 := (CV10.out.cell 2 rfl).1
                      have cr2 := QV10.out.cell 2 rfl
                      have fr2 := QV10.out.frozen 2
                      have cq3 := (CV10.out.cell 3 rfl).1
                      have cr3 := QV10.out.cell 3 rfl
                      have fr3 := QV10.out.frozen 3
                      have cq4 := (CV10.out.cell 4 rfl).1
                      have cr4 := QV10.out.cell 4 rfl
                      have fr4 := QV10.out.frozen 4
                      have cq5 := (CV10.out.cell 5 rfl).1
                      have cr5 := QV10.out.cell 5 rfl
                      have fr5 := QV10.out.frozen 5
                      have cq6 := (CV10.out.cell 6 rfl).1
                      have cr6 := QV10.out.cell 6 rfl
                      have fr6 := QV10.out.frozen 6
                      have cq7 := (CV10.out.cell 7 rfl).1
                      have cr7 := QV10.out.cell 7 rfl
                      have fr7 := QV10.out.frozen 7
                      have cq8 := (CV10.out.cell 8 rfl).1
                      have cr8 := QV10.out.cell 8 rfl
                      have fr8 := QV10.out.frozen 8
                      have cq9 := (CV10.out.cell 9 rfl).1
                      have cr9 := QV10.out.cell 9 rfl
                      have fr9 := QV10.out.frozen 9
                      have cq10 := (CV10.out.cell 10 rfl).1
                      have cr10 := QV10.out.cell 10 rfl
                      have fr10 := QV10.out.frozen 10
                      have lr := QV10.out.lt
                      have ca10 := CV10.out.arg 10 rfl
                      have fq0 := (CV10.out.cell 0 rfl).2.1
                      have lq := YV10.out.2.2.2
                      have la := YV10.out.2.2.1
                      have hb9 : ¬ (pa = q) := hpq.out
                      go_wp2_with fail
                      obtain ⟨VE, hVE⟩ : ∃ V : World, V = (((((((((((V10.setCell ⟨pa + 1, 0, none⟩ (.slice B0 m.ty.length e0)).setCell ⟨pa + 1, 1, none⟩ (.slice (some ⟨B1, 0, none⟩) m.im.length e1)).setCell ⟨pa + 1, 2, none⟩ (.slice (some ⟨B2, 0, none⟩) m.fu.length e2)).setCell ⟨pa + 1, 3, none⟩ (.slice (some ⟨B3, 0, none⟩) m.ta.length e3)).setCell ⟨pa + 1, 4, none⟩ (.slice (some ⟨B4, 0, none⟩) m.me.length e4)).setCell ⟨pa + 1, 5, none⟩ (.slice B5 m.gl.length e5)).setCell ⟨pa + 1, 6, none⟩ (.slice (some ⟨B6, 0, none⟩) m.ex.length e6)).setCell ⟨pa + 1, 7, none⟩ (.int .i64 m.st)).setCell ⟨pa + 1, 8, none⟩ (.slice B8 m.el.length e8)).setCell ⟨pa + 1, 9, none⟩ (.slice B9 m.co.length e9)).setCell ⟨pa + 1, 10, none⟩ (.slice B10 m.da.length e10)) := ⟨_, rfl⟩
                      rw [← hVE]
                      have RR : Rl VE (pa + 1) 32 [.slice B0 m.ty.length e0, .slice (some ⟨B1, 0, none⟩) m.im.length e1, .slice (some ⟨B2, 0, none⟩) m.fu.length e2, .slice (some ⟨B3, 0, none⟩) m.ta.length e3, .slice (some ⟨B4, 0, none⟩) m.me.length e4, .slice B5 m.gl.length e5, .slice (some ⟨B6, 0, none⟩) m.ex.length e6, .int .i64 m.st, .slice B8 m.el.length e8, .slice B9 m.co.length e9, .slice B10 m.da.length e10] := by rw [hVE]; exact (((((((((((QV10.out.set 0 (.slice B0 m.ty.length e0)).set 1 (.slice (some ⟨B1, 0, none⟩) m.im.length e1)).set 2 (.slice (some ⟨B2, 0, none⟩) m.fu.length e2)).set 3 (.slice (some ⟨B3, 0, none⟩) m.ta.length e3)).set 4 (.slice (some ⟨B4, 0, none⟩) m.me.length e4)).set 5 (.slice B5 m.gl.length e5)).set 6 (.slice (some ⟨B6, 0, none⟩) m.ex.length e6)).set 7 (.int .i64 m.st)).set 8 (.slice B8 m.el.length e8)).set 9 (.slice B9 m.co.length e9)).set 10 (.slice B10 m.da.length e10))
                      have WW : Wr (fun k => k = pa + 1) V10 VE := by rw [hVE]; exact ((((((((((((((((((((((Wr.refl (fun k => k = pa + 1) V10).set 0 (.slice B0 m.ty.length e0) (Or.inl rfl))).set 1 (.slice (some ⟨B1, 0, none⟩) m.im.length e1) (Or.inl rfl))).set 2 (.slice (some ⟨B2, 0, none⟩) m.fu.length e2) (Or.inl rfl))).set 3 (.slice (some ⟨B3, 0, none⟩) m.ta.length e3) (Or.inl rfl))).set 4 (.slice (some ⟨B4, 0, none⟩) m.me.length e4) (Or.inl rfl))).set 5 (.slice B5 m.gl.length e5) (Or.inl rfl))).set 6 (.slice (some ⟨B6, 0, none⟩) m.ex.length e6) (Or.inl rfl))).set 7 (.int .i64 m.st) (Or.inl rfl))).set 8 (.slice B8 m.el.length e8) (Or.inl rfl))).set 9 (.slice B9 m.co.length e9) (Or.inl rfl))).set 10 (.slice B10 m.da.length e10) (Or.inl rfl))
                      clear hVE
                      have kr0 := RR.cell 0 rfl
                      have kr1 := RR.cell 1 rfl
                      have kr2 := RR.cell 2 rfl
                      have kr3 := RR.cell 3 rfl
                      have kr4 := RR.cell 4 rfl
                      have kr5 := RR.cell 5 rfl
                      have kr6 := RR.cell 6 rfl
                      have kr7 := RR.cell 7 rfl
                      have kr8 := RR.cell 8 rfl
                      have kr9 := RR.cell 9 rfl
                      have kr10 := RR.cell 10 rfl
                      have hlt := RR.lt
                      have hmv : ∀ k, W0.heap.size ≤ k → k < V10.heap.size → w.heap.size ≤ k ∧ VE.heap[k]? = V10.heap[k]? := fun k hk hl => by
                        have t1 := hps.out
                        exact ⟨by omega, WW.block k hl (fun e => by have e : k = pa + 1 := e; omega)⟩
                      refine bodyPost_ret (v := .agg #[.slice B0 m.ty.length e0, .slice (some ⟨B1, 0, none⟩) m.im.length e1, .slice (some ⟨B2, 0, none⟩) m.fu.length e2, .slice (some ⟨B3, 0, none⟩) m.ta.length e3, .slice (some ⟨B4, 0, none⟩) m.me.length e4, .slice B5 m.gl.length e5, .slice (some ⟨B6, 0, none⟩) m.ex.length e6, .int .i64 m.st, .slice B8 m.el.length e8, .slice B9 m.co.length e9, .slice B10 m.da.length e10]) (by simp [results, Try.results5, go_sem, hlt, kr0, kr1, kr2, kr3, kr4, kr5, kr6, kr7, kr8, kr9, kr10]) rfl ⟨[.slice B0 m.ty.length e0, .slice (some ⟨B1, 0, none⟩) m.im.length e1, .slice (some ⟨B2, 0, none⟩) m.fu.length e2, .slice (some ⟨B3, 0, none⟩) m.ta.length e3, .slice (some ⟨B4, 0, none⟩) m.me.length e4, .slice B5 m.gl.length e5, .slice (some ⟨B6, 0, none⟩) m.ex.length e6, .int .i64 m.st, .slice B8 m.el.length e8, .slice B9 m.co.length e9, .slice B10 m.da.length e10], rfl, ?_, ?_⟩
                      · exact ⟨_, _, _, _, _, _, _, _, _, _, rfl, D0V10.out.move (fun _ => Nat.succ_pos _) hmv, D1V10.out.move (fun _ => Nat.succ_pos _) hmv, D2V10.out.move (fun _ => Nat.succ_pos _) hmv, D3V10.out.move (fun _ => Nat.succ_pos _) hmv, D4V10.out.move (fun _ => Nat.succ_pos _) hmv, D5V10.out.move (fun _ => Nat.succ_pos _) hmv, D6V10.out.move (fun _ => Nat.succ_pos _) hmv, D8V10.out.move (fun _ => Nat.succ_pos _) hmv, D9V10.out.move (fun _ => Nat.succ_pos _) hmv, D10V10.out.move (fun _ => Nat.succ_pos _) hmv⟩
                      · exact ((Wr.of_later YV10.out.2.1).trans WW).later (fun k e => by have e : k = pa + 1 := e; have := hps.out; omega)
end Go.Proofs.Ytonnmbmdmkmhmaa
