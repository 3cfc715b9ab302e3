/- package instr: an instruction written (writer.instr), by the rows of the table. -/
import Derived.Test.YtngciahmoenkiacHA
import Derived.Test.YtngciahmoenkiacGE
set_option linter.unusedVariables false
set_option linter.unusedSimpArgs false
set_option maxRecDepth 100000
set_option maxHeartbeats 8000000
namespace Go.Proofs.Ytngciahmoenkiac.gi
open Go.RowKit
variable {w0 W W' : World} {lab : Nat → Nat} {q : Nat} {d : List Int}
/-- an instruction lies in what was there at first -/
def Nq (Z : Nat → Prop) (w0 : World) (g o : Nat) (k : rw.Nk) : Prop := Z g ∧ (∀ j, Z j → j < w0.heap.size) ∧ rw.NodeAt Z w0 g o k
theorem Wm.trans {l1 : List Int} {W1 : World} {lab1 : Nat → Nat} {e : Ending} {W2 : World} (h : Wm w0 lab1 W1 q l1 e W2) (C : Chg lab S07 W W1 lab1) : Wm w0 lab W q l1 e W2 := by
  obtain ⟨he, lab2, h2, C2⟩ := h
  exact ⟨he, lab2, h2, C.trans C2.out⟩
theorem not5 : ¬ S07 5 := by unfold S07; omega
theorem not99 : ¬ S07 99 := by unfold S07; omega
theorem Wr.lit1 (h : Wr w0 lab W q d) (x : Int) (hx : i64 x) (hd : d.length < 100000000000) : Calls Try.prog 81 #[.pointer (some ⟨q, 0, none⟩), .slice (some ⟨W.heap.size, 0, none⟩) 1 1] (W.alloc (.cells #[.int .i64 x] 3)) (Wm w0 lab W q (d ++ lebL x)) := by
  obtain ⟨lab1, h1, C1, h5⟩ := h.later (La (c := #[.int .i64 x]) (t := 3) (Lz W))
  have := numbers_any [x] (by simpa using hx) W.heap.size 0 1 (by simp) hd h1 (by rw [h5 _ (Nat.le_refl _)]; exact not5) (fun j hj => by
    have : j = 0 := by simpa using hj
    subst this
    simp)
  rw [show labB [x] = lebL x by simp [labB]] at this
  exact this.mono fun e w' hh => hh.trans C1
theorem Wr.lit2 (h : Wr w0 lab W q d) (x y : Int) (hx : i64 x) (hy : i64 y) (hd : d.length < 100000000000) : Calls Try.prog 81 #[.pointer (some ⟨q, 0, none⟩), .slice (some ⟨W.heap.size, 0, none⟩) 2 2] (W.alloc (.cells #[.int .i64 x, .int .i64 y] 3)).drew (Wm w0 lab W q (d ++ (lebL x ++ lebL y))) := by
  obtain ⟨lab1, h1, C1, h5⟩ := h.later (Ld (La (c := #[.int .i64 x, .int .i64 y]) (t := 3) (Lz W)))
  have := numbers_any [x, y] (by simpa using ⟨hx, hy⟩) W.heap.size 0 2 (by simp) hd h1 (by rw [h5 _ (Nat.le_refl _)]; exact not5) (fun j hj => by
    have : j = 0 ∨ j = 1 := by simp at hj; omega
    rcases this with rfl | rfl <;> simp)
  rw [show labB [x, y] = lebL x ++ lebL y by simp [labB]] at this
  exact this.mono fun e w' hh => hh.trans C1
theorem Wr.labels (h : Wr w0 lab W q d) {Z : Nat → Prop} {LA : Option Addr} {ls : List Int} (lc : Nat) (hL : Lq Z w0 LA ls) (hZ : ∀ j, Z j → j < w0.heap.size) (hx : ∀ x ∈ ls, i64 x) (h1 : 1 ≤ ls.length) (h2 : ls.length ≤ 1024) (hd : d.length < 100000000000) : Calls Try.prog 81 #[.pointer (some ⟨q, 0, none⟩), .slice LA ls.length lc] W (Wm w0 lab W q (d ++ labB ls)) := by
  obtain ⟨b, o, rfl, hc⟩ := hL.1.resolve_left (by omega)
  have hb : b < w0.heap.size := hZ _ (hL.2 (fun e => by rw [e] at h1; simp at h1) _ rfl)
  exact numbers_any ls hx b o lc h2 hd h (by rw [h.2.2 b hb]; exact not99) (fun j hj => h.1.cell_of (hc j hj))
theorem in_1 (Z : Nat → Prop) (g o : Nat) (k : rw.Nk) (hl : lay k.op = 1) (hk : Nq Z w0 g o k) (hd : d.length < 1000000000) (h : Wr w0 lab W q d) :
    Calls Try.prog 76 #[.pointer (some ⟨q, 0, none⟩), .pointer (some ⟨g, o, none⟩)] W (Wm w0 lab W q (d ++ [k.op % 256])) := by
  obtain ⟨A, cap, g2, c2, w2, lab2, c0, r2, k1, k2, k3, k4, k5⟩ := h.moreD (k.op % 256) (by omega)
  obtain ⟨hZg, hZ, LA, lc, B, bc, E, ec, e0, e1, e2, e3, e4, e5, e6, e7, hLs, hTB, hTE⟩ := hk
  have hg := hZ g hZg
  have y0 := h.1.cell_of e0
  have yl := cell_lt y0
  have l0 := cell_lt c0
  have hw : IntKind.u8.wrap k.op = k.op % 256 := IntKind.wrap_u8 _
  have hly : Hid (∀ w : World, Calls Try.prog 66 #[.int .i64 k.op] w fun e w' => e = .returned (.int .i64 1) ∧ w' = w) := fun w => by have := lay_any k.op w; rwa [hl] at this
  obtain ⟨W1, hW1⟩ : ∃ W1, w2.setCell ⟨q, 0, none⟩ (.slice (some ⟨g2, 0, none⟩) (d.length + 1) c2) = W1 := ⟨_, rfl⟩
  rw [hW1] at k4 k5
  have x0 : W1.cell? ⟨g, o, none⟩ = some (.int .i64 k.op) := k4.1.cell_of e0
  have x1 : W1.cell? ⟨g, o + 1, none⟩ = some (.int .i64 k.a) := k4.1.cell_of e1
  have x2 : W1.cell? ⟨g, o + 2, none⟩ = some (.int .i64 k.b) := k4.1.cell_of e2
  have x3 : W1.cell? ⟨g, o + 3, none⟩ = some (.int .i64 k.bi) := k4.1.cell_of e3
  have x4 : W1.cell? ⟨g, o + 4, none⟩ = some (.int .i64 k.ty) := k4.1.cell_of e4
  have x5 : W1.cell? ⟨g, o + 5, none⟩ = some (.slice LA k.ls.length lc) := k4.1.cell_of e5
  have xl := cell_lt x0
  have hdd : (d ++ [k.op % 256]).length = d.length + 1 := by simp
  replace r2 : Hid _ := r2
  have hfin : Hid (Wm w0 lab W q (d ++ [k.op % 256]) (.returned (.tuple #[])) W1) := ⟨rfl, lab2, k4, k5⟩
  clear h k4 k5 hl hLs hTB hTE hZ e0 e1 e2 e3 e4 e6 e7 hdd
  go_enter Try.func76, Try.ntmps76
  go_wp2_with fail
  go_region_law (refine step_app (by rfl) _ _ 50 (by rfl) _ _ _ (by rfl) (by rfl) r2.out ?_)
  all_goals
    clear r2
    go_wp2_with (go_at_call 66; refine (hly.out _).mono ?_; rintro e w1 ⟨rfl, rfl⟩)
    go_end0
    exact hfin.out
theorem in_8 (Z : Nat → Prop) (g o : Nat) (k : rw.Nk) (hl : lay k.op = 8) (hk : Nq Z w0 g o k) (hd : d.length < 1000000000) (h : Wr w0 lab W q d) :
    Calls Try.prog 76 #[.pointer (some ⟨q, 0, none⟩), .pointer (some ⟨g, o, none⟩)] W (Wm w0 lab W q ((d ++ [k.op % 256]) ++ [0])) := by
  obtain ⟨A, cap, g2, c2, w2, lab2, c0, r2, k1, k2, k3, k4, k5⟩ := h.moreD (k.op % 256) (by omega)
  obtain ⟨hZg, hZ, LA, lc, B, bc, E, ec, e0, e1, e2, e3, e4, e5, e6, e7, hLs, hTB, hTE⟩ := hk
  have hg := hZ g hZg
  have y0 := h.1.cell_of e0
  have yl := cell_lt y0
  have l0 := cell_lt c0
  have hw : IntKind.u8.wrap k.op = k.op % 256 := IntKind.wrap_u8 _
  have hly : Hid (∀ w : World, Calls Try.prog 66 #[.int .i64 k.op] w fun e w' => e = .returned (.int .i64 8) ∧ w' = w) := fun w => by have := lay_any k.op w; rwa [hl] at this
  obtain ⟨W1, hW1⟩ : ∃ W1, w2.setCell ⟨q, 0, none⟩ (.slice (some ⟨g2, 0, none⟩) (d.length + 1) c2) = W1 := ⟨_, rfl⟩
  rw [hW1] at k4 k5
  have x0 : W1.cell? ⟨g, o, none⟩ = some (.int .i64 k.op) := k4.1.cell_of e0
  have x1 : W1.cell? ⟨g, o + 1, none⟩ = some (.int .i64 k.a) := k4.1.cell_of e1
  have x2 : W1.cell? ⟨g, o + 2, none⟩ = some (.int .i64 k.b) := k4.1.cell_of e2
  have x3 : W1.cell? ⟨g, o + 3, none⟩ = some (.int .i64 k.bi) := k4.1.cell_of e3
  have x4 : W1.cell? ⟨g, o + 4, none⟩ = some (.int .i64 k.ty) := k4.1.cell_of e4
  have x5 : W1.cell? ⟨g, o + 5, none⟩ = some (.slice LA k.ls.length lc) := k4.1.cell_of e5
  have xl := cell_lt x0
  have hdd : (d ++ [k.op % 256]).length = d.length + 1 := by simp
  replace r2 : Hid _ := r2
  obtain ⟨A3, cap3, g3, c3, w3, lab3, a0, r3, m1, m2, m3, m4, m5⟩ := k4.more 0 (by omega)
  rw [hdd] at a0 r3 m1 m4 m5
  have a1 := cell_lt a0
  have hfin : Hid (Wm w0 lab W q ((d ++ [k.op % 256]) ++ [0]) (.returned (.tuple #[])) (w3.setCell ⟨q, 0, none⟩ (.slice (some ⟨g3, 0, none⟩) (d.length + 1 + 1) c3))) := ⟨rfl, lab3, m4, k5.trans m5⟩
  replace r3 : Hid _ := r3
  clear m4 m5
  clear h k4 k5 hl hLs hTB hTE hZ e0 e1 e2 e3 e4 e6 e7 hdd
  go_enter Try.func76, Try.ntmps76
  go_wp2_with fail
  go_region_law (refine step_app (by rfl) _ _ 50 (by rfl) _ _ _ (by rfl) (by rfl) r2.out ?_)
  all_goals
    clear r2
    go_wp2_with (first | (go_at_call 66; refine (hly.out _).mono ?_; rintro e w1 ⟨rfl, rfl⟩) | (at_builtin; refine wpList_app rfl _ _ 50 rfl _ _ _ rfl rfl r3.out ?_))
    go_end0
    exact hfin.out
theorem in_4 (Z : Nat → Prop) (g o : Nat) (k : rw.Nk) (hl : lay k.op = 4) (hk : Nq Z w0 g o k) (hx : i64 k.a) (hd : d.length < 1000000000) (h : Wr w0 lab W q d) :
    Calls Try.prog 76 #[.pointer (some ⟨q, 0, none⟩), .pointer (some ⟨g, o, none⟩)] W (Wm w0 lab W q ((d ++ [k.op % 256]) ++ lebL k.a)) := by
  obtain ⟨A, cap, g2, c2, w2, lab2, c0, r2, k1, k2, k3, k4, k5⟩ := h.moreD (k.op % 256) (by omega)
  obtain ⟨hZg, hZ, LA, lc, B, bc, E, ec, e0, e1, e2, e3, e4, e5, e6, e7, hLs, hTB, hTE⟩ := hk
  have hg := hZ g hZg
  have y0 := h.1.cell_of e0
  have yl := cell_lt y0
  have l0 := cell_lt c0
  have hw : IntKind.u8.wrap k.op = k.op % 256 := IntKind.wrap_u8 _
  have hly : Hid (∀ w : World, Calls Try.prog 66 #[.int .i64 k.op] w fun e w' => e = .returned (.int .i64 4) ∧ w' = w) := fun w => by have := lay_any k.op w; rwa [hl] at this
  obtain ⟨W1, hW1⟩ : ∃ W1, w2.setCell ⟨q, 0, none⟩ (.slice (some ⟨g2, 0, none⟩) (d.length + 1) c2) = W1 := ⟨_, rfl⟩
  rw [hW1] at k4 k5
  have x0 : W1.cell? ⟨g, o, none⟩ = some (.int .i64 k.op) := k4.1.cell_of e0
  have x1 : W1.cell? ⟨g, o + 1, none⟩ = some (.int .i64 k.a) := k4.1.cell_of e1
  have x2 : W1.cell? ⟨g, o + 2, none⟩ = some (.int .i64 k.b) := k4.1.cell_of e2
  have x3 : W1.cell? ⟨g, o + 3, none⟩ = some (.int .i64 k.bi) := k4.1.cell_of e3
  have x4 : W1.cell? ⟨g, o + 4, none⟩ = some (.int .i64 k.ty) := k4.1.cell_of e4
  have x5 : W1.cell? ⟨g, o + 5, none⟩ = some (.slice LA k.ls.length lc) := k4.1.cell_of e5
  have xl := cell_lt x0
  have hdd : (d ++ [k.op % 256]).length = d.length + 1 := by simp
  replace r2 : Hid _ := r2
  have hcall : Hid (Calls Try.prog 81 #[.pointer (some ⟨q, 0, none⟩), .slice (some ⟨W1.heap.size, 0, none⟩) 1 1] (W1.alloc (.cells #[.int .i64 k.a] 3)) (Wm w0 lab W q ((d ++ [k.op % 256]) ++ lebL k.a))) := (k4.lit1 k.a hx (by omega)).mono fun e w' hh => hh.trans k5
  clear h k4 k5 hl hLs hTB hTE hZ e0 e1 e2 e3 e4 e6 e7 hdd
  go_enter Try.func76, Try.ntmps76
  go_wp2_with fail
  go_region_law (refine step_app (by rfl) _ _ 50 (by rfl) _ _ _ (by rfl) (by rfl) r2.out ?_)
  all_goals
    clear r2
    go_wp2_with (first | (go_at_call 66; refine (hly.out _).mono ?_; rintro e w1 ⟨rfl, rfl⟩) | (go_at_call 81; refine hcall.out.mono ?_; rintro e w5 ⟨rfl, h5⟩; replace h5 : Hid _ := h5))
    go_end0
    exact ⟨rfl, h5.out⟩
theorem in_6 (Z : Nat → Prop) (g o : Nat) (k : rw.Nk) (hl : lay k.op = 6) (hk : Nq Z w0 g o k) (hx : i64 k.a) (hd : d.length < 1000000000) (h : Wr w0 lab W q d) :
    Calls Try.prog 76 #[.pointer (some ⟨q, 0, none⟩), .pointer (some ⟨g, o, none⟩)] W (Wm w0 lab W q (((d ++ [k.op % 256]) ++ lebL k.a) ++ [0])) := by
  obtain ⟨A, cap, g2, c2, w2, lab2, c0, r2, k1, k2, k3, k4, k5⟩ := h.moreD (k.op % 256) (by omega)
  obtain ⟨hZg, hZ, LA, lc, B, bc, E, ec, e0, e1, e2, e3, e4, e5, e6, e7, hLs, hTB, hTE⟩ := hk
  have hg := hZ g hZg
  have y0 := h.1.cell_of e0
  have yl := cell_lt y0
  have l0 := cell_lt c0
  have hw : IntKind.u8.wrap k.op = k.op % 256 := IntKind.wrap_u8 _
  have hly : Hid (∀ w : World, Calls Try.prog 66 #[.int .i64 k.op] w fun e w' => e = .returned (.int .i64 6) ∧ w' = w) := fun w => by have := lay_any k.op w; rwa [hl] at this
  obtain ⟨W1, hW1⟩ : ∃ W1, w2.setCell ⟨q, 0, none⟩ (.slice (some ⟨g2, 0, none⟩) (d.length + 1) c2) = W1 := ⟨_, rfl⟩
  rw [hW1] at k4 k5
  have x0 : W1.cell? ⟨g, o, none⟩ = some (.int .i64 k.op) := k4.1.cell_of e0
  have x1 : W1.cell? ⟨g, o + 1, none⟩ = some (.int .i64 k.a) := k4.1.cell_of e1
  have x2 : W1.cell? ⟨g, o + 2, none⟩ = some (.int .i64 k.b) := k4.1.cell_of e2
  have x3 : W1.cell? ⟨g, o + 3, none⟩ = some (.int .i64 k.bi) := k4.1.cell_of e3
  have x4 : W1.cell? ⟨g, o + 4, none⟩ = some (.int .i64 k.ty) := k4.1.cell_of e4
  have x5 : W1.cell? ⟨g, o + 5, none⟩ = some (.slice LA k.ls.length lc) := k4.1.cell_of e5
  have xl := cell_lt x0
  have hdd : (d ++ [k.op % 256]).length = d.length + 1 := by simp
  replace r2 : Hid _ := r2
  have hcall : Hid (Calls Try.prog 81 #[.pointer (some ⟨q, 0, none⟩), .slice (some ⟨W1.heap.size, 0, none⟩) 1 1] (W1.alloc (.cells #[.int .i64 k.a] 3)) (Wm w0 lab W q ((d ++ [k.op % 256]) ++ lebL k.a))) := (k4.lit1 k.a hx (by omega)).mono fun e w' hh => hh.trans k5
  have hmore : Hid (∀ w5 lab5, Wr w0 lab5 w5 q ((d ++ [k.op % 256]) ++ lebL k.a) → Chg lab S07 W w5 lab5 → ∃ A3 cap3 g3 c3 w3 n3, w5.cell? ⟨q, 0, none⟩ = some (.slice A3 n3 cap3) ∧ Hid ((Builtin.append_ #[50, 50] 50 #[.slice A3 n3 cap3, .slice (some ⟨w5.heap.size, 0, none⟩) 1 1]).run Try.prog (w5.alloc (.cells #[.int .u8 0] 5)) = .ok (.slice (some ⟨g3, 0, none⟩) (n3 + 1) c3) w3) ∧
      w3.cell? ⟨q, 0, none⟩ = some (.slice A3 n3 cap3) ∧ w3.frozen? ⟨q, 0, none⟩ = false ∧ q < w3.heap.size ∧ Hid (Wm w0 lab W q (((d ++ [k.op % 256]) ++ lebL k.a) ++ [0]) (.returned (.tuple #[])) (w3.setCell ⟨q, 0, none⟩ (.slice (some ⟨g3, 0, none⟩) (n3 + 1) c3)))) := fun w5 lab5 h5 C5 => by
    obtain ⟨A3, cap3, g3, c3, w3, lab3, a0, r3, m1, m2, m3, m4, m5⟩ := h5.more 0 (by have := lebL_len k.a; rw [List.length_append]; omega)
    exact ⟨A3, cap3, g3, c3, w3, _, a0, r3, m1, m2, m3, rfl, lab3, m4, C5.trans m5⟩
  clear h k4 k5 hl hLs hTB hTE hZ e0 e1 e2 e3 e4 e6 e7 hdd
  go_enter Try.func76, Try.ntmps76
  go_wp2_with fail
  go_region_law (refine step_app (by rfl) _ _ 50 (by rfl) _ _ _ (by rfl) (by rfl) r2.out ?_)
  all_goals
    clear r2
    go_wp2_with (first | (go_at_call 66; refine (hly.out _).mono ?_; rintro e w1 ⟨rfl, rfl⟩) | (go_at_call 81; refine hcall.out.mono ?_; rintro e w5 ⟨rfl, lab5, h5, C5⟩; obtain ⟨A3, cap3, g3, c3, w3, n3, a0, r3, m1, m2, m3, hfin⟩ := hmore.out w5 lab5 h5.out C5.out; have a1 := cell_lt a0; clear h5 C5) | (at_builtin; refine wpList_app rfl _ _ 50 rfl _ _ _ rfl rfl r3.out ?_))
    go_end0
    exact hfin.out
theorem in_7 (Z : Nat → Prop) (g o : Nat) (k : rw.Nk) (hl : lay k.op = 7) (hk : Nq Z w0 g o k) (hx : i64 k.a) (hy : i64 k.b) (hd : d.length < 1000000000) (h : Wr w0 lab W q d) :
    Calls Try.prog 76 #[.pointer (some ⟨q, 0, none⟩), .pointer (some ⟨g, o, none⟩)] W (Wm w0 lab W q ((d ++ [k.op % 256]) ++ (lebL k.a ++ lebL k.b))) := by
  obtain ⟨A, cap, g2, c2, w2, lab2, c0, r2, k1, k2, k3, k4, k5⟩ := h.moreD (k.op % 256) (by omega)
  obtain ⟨hZg, hZ, LA, lc, B, bc, E, ec, e0, e1, e2, e3, e4, e5, e6, e7, hLs, hTB, hTE⟩ := hk
  have hg := hZ g hZg
  have y0 := h.1.cell_of e0
  have yl := cell_lt y0
  have l0 := cell_lt c0
  have hw : IntKind.u8.wrap k.op = k.op % 256 := IntKind.wrap_u8 _
  have hly : Hid (∀ w : World, Calls Try.prog 66 #[.int .i64 k.op] w fun e w' => e = .returned (.int .i64 7) ∧ w' = w) := fun w => by have := lay_any k.op w; rwa [hl] at this
  obtain ⟨W1, hW1⟩ : ∃ W1, w2.setCell ⟨q, 0, none⟩ (.slice (some ⟨g2, 0, none⟩) (d.length + 1) c2) = W1 := ⟨_, rfl⟩
  rw [hW1] at k4 k5
  have x0 : W1.cell? ⟨g, o, none⟩ = some (.int .i64 k.op) := k4.1.cell_of e0
  have x1 : W1.cell? ⟨g, o + 1, none⟩ = some (.int .i64 k.a) := k4.1.cell_of e1
  have x2 : W1.cell? ⟨g, o + 2, none⟩ = some (.int .i64 k.b) := k4.1.cell_of e2
  have x3 : W1.cell? ⟨g, o + 3, none⟩ = some (.int .i64 k.bi) := k4.1.cell_of e3
  have x4 : W1.cell? ⟨g, o + 4, none⟩ = some (.int .i64 k.ty) := k4.1.cell_of e4
  have x5 : W1.cell? ⟨g, o + 5, none⟩ = some (.slice LA k.ls.length lc) := k4.1.cell_of e5
  have xl := cell_lt x0
  have hdd : (d ++ [k.op % 256]).length = d.length + 1 := by simp
  replace r2 : Hid _ := r2
  have hcall : Hid (Calls Try.prog 81 #[.pointer (some ⟨q, 0, none⟩), .slice (some ⟨W1.heap.size, 0, none⟩) 2 2] (W1.alloc (.cells #[.int .i64 k.a, .int .i64 k.b] 3)).drew (Wm w0 lab W q ((d ++ [k.op % 256]) ++ (lebL k.a ++ lebL k.b)))) := (k4.lit2 k.a k.b hx hy (by omega)).mono fun e w' hh => hh.trans k5
  clear h k4 k5 hl hLs hTB hTE hZ e0 e1 e2 e3 e4 e6 e7 hdd
  go_enter Try.func76, Try.ntmps76
  go_wp2_with fail
  go_region_law (refine step_app (by rfl) _ _ 50 (by rfl) _ _ _ (by rfl) (by rfl) r2.out ?_)
  all_goals
    clear r2
    go_wp2_with (go_at_call 66; refine (hly.out _).mono ?_; rintro e w1 ⟨rfl, rfl⟩)
    go_region_law (go_simp; go_at_call 81; refine hcall.out.mono ?_; rintro e w5 ⟨rfl, h5⟩; replace h5 : Hid _ := h5)
    all_goals
      go_end0
      exact ⟨rfl, h5.out⟩
theorem in_5 (Z : Nat → Prop) (g o : Nat) (k : rw.Nk) (hl : lay k.op = 5) (hk : Nq Z w0 g o k) (hx : ∀ x ∈ k.ls, i64 x) (h1 : 1 ≤ k.ls.length) (h2 : k.ls.length ≤ 1024) (hd : d.length < 1000000000) (h : Wr w0 lab W q d) :
    Calls Try.prog 76 #[.pointer (some ⟨q, 0, none⟩), .pointer (some ⟨g, o, none⟩)] W (Wm w0 lab W q (((d ++ [k.op % 256]) ++ lebL ((k.ls.length : Int) - 1)) ++ labB k.ls)) := by
  obtain ⟨A, cap, g2, c2, w2, lab2, c0, r2, k1, k2, k3, k4, k5⟩ := h.moreD (k.op % 256) (by omega)
  obtain ⟨hZg, hZ, LA, lc, B, bc, E, ec, e0, e1, e2, e3, e4, e5, e6, e7, hLs, hTB, hTE⟩ := hk
  have hg := hZ g hZg
  have y0 := h.1.cell_of e0
  have yl := cell_lt y0
  have l0 := cell_lt c0
  have hw : IntKind.u8.wrap k.op = k.op % 256 := IntKind.wrap_u8 _
  have hly : Hid (∀ w : World, Calls Try.prog 66 #[.int .i64 k.op] w fun e w' => e = .returned (.int .i64 5) ∧ w' = w) := fun w => by have := lay_any k.op w; rwa [hl] at this
  obtain ⟨W1, hW1⟩ : ∃ W1, w2.setCell ⟨q, 0, none⟩ (.slice (some ⟨g2, 0, none⟩) (d.length + 1) c2) = W1 := ⟨_, rfl⟩
  rw [hW1] at k4 k5
  have x0 : W1.cell? ⟨g, o, none⟩ = some (.int .i64 k.op) := k4.1.cell_of e0
  have x1 : W1.cell? ⟨g, o + 1, none⟩ = some (.int .i64 k.a) := k4.1.cell_of e1
  have x2 : W1.cell? ⟨g, o + 2, none⟩ = some (.int .i64 k.b) := k4.1.cell_of e2
  have x3 : W1.cell? ⟨g, o + 3, none⟩ = some (.int .i64 k.bi) := k4.1.cell_of e3
  have x4 : W1.cell? ⟨g, o + 4, none⟩ = some (.int .i64 k.ty) := k4.1.cell_of e4
  have x5 : W1.cell? ⟨g, o + 5, none⟩ = some (.slice LA k.ls.length lc) := k4.1.cell_of e5
  have xl := cell_lt x0
  have hdd : (d ++ [k.op % 256]).length = d.length + 1 := by simp
  replace r2 : Hid _ := r2
  have hcall : Hid (Calls Try.prog 81 #[.pointer (some ⟨q, 0, none⟩), .slice (some ⟨W1.heap.size, 0, none⟩) 1 1] (W1.alloc (.cells #[.int .i64 ((k.ls.length : Int) - 1)] 3)) (Wm w0 lab W q ((d ++ [k.op % 256]) ++ lebL ((k.ls.length : Int) - 1)))) := (k4.lit1 _ (by constructor <;> omega) (by omega)).mono fun e w' hh => hh.trans k5
  have hmore : Hid (∀ w5 lab5, Wr w0 lab5 w5 q ((d ++ [k.op % 256]) ++ lebL ((k.ls.length : Int) - 1)) → Chg lab S07 W w5 lab5 → w5.cell? ⟨g, o + 5, none⟩ = some (.slice LA k.ls.length lc) ∧ Hid (Calls Try.prog 81 #[.pointer (some ⟨q, 0, none⟩), .slice LA k.ls.length lc] w5 (Wm w0 lab W q (((d ++ [k.op % 256]) ++ lebL ((k.ls.length : Int) - 1)) ++ labB k.ls)))) := fun w5 lab5 h5 C5 =>
    ⟨h5.1.cell_of e5, (h5.labels lc hLs hZ hx h1 h2 (by have := lebL_len ((k.ls.length : Int) - 1); rw [List.length_append]; omega)).mono fun e w' hh => hh.trans C5⟩
  have hl1 : 1 ≤ (k.ls.length : Int) := by omega
  have hl2 : (k.ls.length : Int) ≤ 1024 := by omega
  replace hx : Hid (∀ x ∈ k.ls, i64 x) := hx
  clear h k4 k5 hl hLs hTB hTE hZ e0 e1 e2 e3 e4 e6 e7 hdd
  go_enter Try.func76, Try.ntmps76
  go_wp2_with fail
  go_region_law (refine step_app (by rfl) _ _ 50 (by rfl) _ _ _ (by rfl) (by rfl) r2.out ?_)
  all_goals
    clear r2
    go_wp2_with (first | (go_at_call 66; refine (hly.out _).mono ?_; rintro e w1 ⟨rfl, rfl⟩) | (go_at_call 81; refine hcall.out.mono ?_; clear hcall; rintro e w5 ⟨rfl, lab5, h5, C5⟩; obtain ⟨a0, hc2⟩ := hmore.out w5 lab5 h5.out C5.out; have a1 := cell_lt a0; clear h5 C5) | (go_at_call 81; refine hc2.out.mono ?_; clear hc2; rintro e w6 ⟨rfl, h6⟩; replace h6 : Hid _ := h6))
    go_end0
    exact ⟨rfl, h6.out⟩
theorem in_9 (Z : Nat → Prop) (g o : Nat) (k : rw.Nk) (hl : lay k.op = 9) (hk : Nq Z w0 g o k) (hx : i64 k.bi) (hd : d.length < 1000000000) (h : Wr w0 lab W q d) :
    Calls Try.prog 76 #[.pointer (some ⟨q, 0, none⟩), .pointer (some ⟨g, o, none⟩)] W (Wm w0 lab W q ((d ++ [k.op % 256]) ++ slebL (sg3 k.bi))) := by
  obtain ⟨A, cap, g2, c2, w2, lab2, c0, r2, k1, k2, k3, k4, k5⟩ := h.moreD (k.op % 256) (by omega)
  obtain ⟨hZg, hZ, LA, lc, B, bc, E, ec, e0, e1, e2, e3, e4, e5, e6, e7, hLs, hTB, hTE⟩ := hk
  have hg := hZ g hZg
  have y0 := h.1.cell_of e0
  have yl := cell_lt y0
  have l0 := cell_lt c0
  have hw : IntKind.u8.wrap k.op = k.op % 256 := IntKind.wrap_u8 _
  have hly : Hid (∀ w : World, Calls Try.prog 66 #[.int .i64 k.op] w fun e w' => e = .returned (.int .i64 9) ∧ w' = w) := fun w => by have := lay_any k.op w; rwa [hl] at this
  obtain ⟨W1, hW1⟩ : ∃ W1, w2.setCell ⟨q, 0, none⟩ (.slice (some ⟨g2, 0, none⟩) (d.length + 1) c2) = W1 := ⟨_, rfl⟩
  rw [hW1] at k4 k5
  have x0 : W1.cell? ⟨g, o, none⟩ = some (.int .i64 k.op) := k4.1.cell_of e0
  have x1 : W1.cell? ⟨g, o + 1, none⟩ = some (.int .i64 k.a) := k4.1.cell_of e1
  have x2 : W1.cell? ⟨g, o + 2, none⟩ = some (.int .i64 k.b) := k4.1.cell_of e2
  have x3 : W1.cell? ⟨g, o + 3, none⟩ = some (.int .i64 k.bi) := k4.1.cell_of e3
  have x4 : W1.cell? ⟨g, o + 4, none⟩ = some (.int .i64 k.ty) := k4.1.cell_of e4
  have x5 : W1.cell? ⟨g, o + 5, none⟩ = some (.slice LA k.ls.length lc) := k4.1.cell_of e5
  have xl := cell_lt x0
  have hdd : (d ++ [k.op % 256]).length = d.length + 1 := by simp
  replace r2 : Hid _ := r2
  have hsgn : Hid (∀ w : World, Calls Try.prog 83 #[.int .i64 k.bi] w fun e w' => e = .returned (.int .i64 (sg3 k.bi)) ∧ w' = w) := fun w => sign_any k.bi w
  have hcall : Hid (Calls Try.prog 82 #[.pointer (some ⟨q, 0, none⟩), .int .i64 (sg3 k.bi)] W1 (Wm w0 lab W q ((d ++ [k.op % 256]) ++ slebL (sg3 k.bi)))) := (signed_any (sg3 k.bi) (by unfold sg3; split <;> omega) (by have : (slebL (sg3 k.bi)).length ≤ 10 := slebF_lnM 9 _; omega) k4).mono fun e w' hh => hh.trans k5
  clear h k4 k5 hl hLs hTB hTE hZ e0 e1 e2 e3 e4 e6 e7 hdd
  go_enter Try.func76, Try.ntmps76
  go_wp2_with fail
  go_region_law (refine step_app (by rfl) _ _ 50 (by rfl) _ _ _ (by rfl) (by rfl) r2.out ?_)
  all_goals
    clear r2
    go_wp2_with (first | (go_at_call 66; refine (hly.out _).mono ?_; rintro e w1 ⟨rfl, rfl⟩) | (go_at_call 83; refine (hsgn.out _).mono ?_; rintro e w4 ⟨rfl, rfl⟩) | (go_at_call 82; refine hcall.out.mono ?_; rintro e w5 ⟨rfl, h5⟩; replace h5 : Hid _ := h5))
    go_end0
    exact ⟨rfl, h5.out⟩
theorem in_10 (Z : Nat → Prop) (g o : Nat) (k : rw.Nk) (hl : lay k.op = 10) (hk : Nq Z w0 g o k) (hx : i64 k.bi) (hd : d.length < 1000000000) (h : Wr w0 lab W q d) :
    Calls Try.prog 76 #[.pointer (some ⟨q, 0, none⟩), .pointer (some ⟨g, o, none⟩)] W (Wm w0 lab W q ((d ++ [k.op % 256]) ++ slebL k.bi)) := by
  obtain ⟨A, cap, g2, c2, w2, lab2, c0, r2, k1, k2, k3, k4, k5⟩ := h.moreD (k.op % 256) (by omega)
  obtain ⟨hZg, hZ, LA, lc, B, bc, E, ec, e0, e1, e2, e3, e4, e5, e6, e7, hLs, hTB, hTE⟩ := hk
  have hg := hZ g hZg
  have y0 := h.1.cell_of e0
  have yl := cell_lt y0
  have l0 := cell_lt c0
  have hw : IntKind.u8.wrap k.op = k.op % 256 := IntKind.wrap_u8 _
  have hly : Hid (∀ w : World, Calls Try.prog 66 #[.int .i64 k.op] w fun e w' => e = .returned (.int .i64 10) ∧ w' = w) := fun w => by have := lay_any k.op w; rwa [hl] at this
  obtain ⟨W1, hW1⟩ : ∃ W1, w2.setCell ⟨q, 0, none⟩ (.slice (some ⟨g2, 0, none⟩) (d.length + 1) c2) = W1 := ⟨_, rfl⟩
  rw [hW1] at k4 k5
  have x0 : W1.cell? ⟨g, o, none⟩ = some (.int .i64 k.op) := k4.1.cell_of e0
  have x1 : W1.cell? ⟨g, o + 1, none⟩ = some (.int .i64 k.a) := k4.1.cell_of e1
  have x2 : W1.cell? ⟨g, o + 2, none⟩ = some (.int .i64 k.b) := k4.1.cell_of e2
  have x3 : W1.cell? ⟨g, o + 3, none⟩ = some (.int .i64 k.bi) := k4.1.cell_of e3
  have x4 : W1.cell? ⟨g, o + 4, none⟩ = some (.int .i64 k.ty) := k4.1.cell_of e4
  have x5 : W1.cell? ⟨g, o + 5, none⟩ = some (.slice LA k.ls.length lc) := k4.1.cell_of e5
  have xl := cell_lt x0
  have hdd : (d ++ [k.op % 256]).length = d.length + 1 := by simp
  replace r2 : Hid _ := r2
  have hcall : Hid (Calls Try.prog 82 #[.pointer (some ⟨q, 0, none⟩), .int .i64 k.bi] W1 (Wm w0 lab W q ((d ++ [k.op % 256]) ++ slebL k.bi))) := (signed_any k.bi hx (by have : (slebL k.bi).length ≤ 10 := slebF_lnM 9 _; omega) k4).mono fun e w' hh => hh.trans k5
  clear h k4 k5 hl hLs hTB hTE hZ e0 e1 e2 e3 e4 e6 e7 hdd
  go_enter Try.func76, Try.ntmps76
  go_wp2_with fail
  go_region_law (refine step_app (by rfl) _ _ 50 (by rfl) _ _ _ (by rfl) (by rfl) r2.out ?_)
  all_goals
    clear r2
    go_wp2_with (first | (go_at_call 66; refine (hly.out _).mono ?_; rintro e w1 ⟨rfl, rfl⟩) | (go_at_call 82; refine hcall.out.mono ?_; rintro e w5 ⟨rfl, h5⟩; replace h5 : Hid _ := h5))
    go_end0
    exact ⟨rfl, h5.out⟩
theorem in_11 (Z : Nat → Prop) (g o : Nat) (k : rw.Nk) (hl : lay k.op = 11) (hk : Nq Z w0 g o k) (hd : d.length < 1000000000) (h : Wr w0 lab W q d) :
    Calls Try.prog 76 #[.pointer (some ⟨q, 0, none⟩), .pointer (some ⟨g, o, none⟩)] W (Wm w0 lab W q ((d ++ [k.op % 256]) ++ lowB k.bi 4)) := by
  obtain ⟨A, cap, g2, c2, w2, lab2, c0, r2, k1, k2, k3, k4, k5⟩ := h.moreD (k.op % 256) (by omega)
  obtain ⟨hZg, hZ, LA, lc, B, bc, E, ec, e0, e1, e2, e3, e4, e5, e6, e7, hLs, hTB, hTE⟩ := hk
  have hg := hZ g hZg
  have y0 := h.1.cell_of e0
  have yl := cell_lt y0
  have l0 := cell_lt c0
  have hw : IntKind.u8.wrap k.op = k.op % 256 := IntKind.wrap_u8 _
  have hly : Hid (∀ w : World, Calls Try.prog 66 #[.int .i64 k.op] w fun e w' => e = .returned (.int .i64 11) ∧ w' = w) := fun w => by have := lay_any k.op w; rwa [hl] at this
  obtain ⟨W1, hW1⟩ : ∃ W1, w2.setCell ⟨q, 0, none⟩ (.slice (some ⟨g2, 0, none⟩) (d.length + 1) c2) = W1 := ⟨_, rfl⟩
  rw [hW1] at k4 k5
  have x0 : W1.cell? ⟨g, o, none⟩ = some (.int .i64 k.op) := k4.1.cell_of e0
  have x1 : W1.cell? ⟨g, o + 1, none⟩ = some (.int .i64 k.a) := k4.1.cell_of e1
  have x2 : W1.cell? ⟨g, o + 2, none⟩ = some (.int .i64 k.b) := k4.1.cell_of e2
  have x3 : W1.cell? ⟨g, o + 3, none⟩ = some (.int .i64 k.bi) := k4.1.cell_of e3
  have x4 : W1.cell? ⟨g, o + 4, none⟩ = some (.int .i64 k.ty) := k4.1.cell_of e4
  have x5 : W1.cell? ⟨g, o + 5, none⟩ = some (.slice LA k.ls.length lc) := k4.1.cell_of e5
  have xl := cell_lt x0
  have hdd : (d ++ [k.op % 256]).length = d.length + 1 := by simp
  replace r2 : Hid _ := r2
  have hcall : Hid (Calls Try.prog 84 #[.pointer (some ⟨q, 0, none⟩), .int .i64 k.bi, .int .i64 4] W1 (Wm w0 lab W q ((d ++ [k.op % 256]) ++ lowB k.bi 4))) := (lowest_any k.bi 4 (by decide) (by omega) k4).mono fun e w' hh => hh.trans k5
  clear h k4 k5 hl hLs hTB hTE hZ e0 e1 e2 e3 e4 e6 e7 hdd
  go_enter Try.func76, Try.ntmps76
  go_wp2_with fail
  go_region_law (refine step_app (by rfl) _ _ 50 (by rfl) _ _ _ (by rfl) (by rfl) r2.out ?_)
  all_goals
    clear r2
    go_wp2_with (first | (go_at_call 66; refine (hly.out _).mono ?_; rintro e w1 ⟨rfl, rfl⟩) | (go_at_call 84; refine hcall.out.mono ?_; rintro e w5 ⟨rfl, h5⟩; replace h5 : Hid _ := h5))
    go_end0
    exact ⟨rfl, h5.out⟩
theorem in_12 (Z : Nat → Prop) (g o : Nat) (k : rw.Nk) (hl : lay k.op = 12) (hk : Nq Z w0 g o k) (hd : d.length < 1000000000) (h : Wr w0 lab W q d) :
    Calls Try.prog 76 #[.pointer (some ⟨q, 0, none⟩), .pointer (some ⟨g, o, none⟩)] W (Wm w0 lab W q ((d ++ [k.op % 256]) ++ lowB k.bi 8)) := by
  obtain ⟨A, cap, g2, c2, w2, lab2, c0, r2, k1, k2, k3, k4, k5⟩ := h.moreD (k.op % 256) (by omega)
  obtain ⟨hZg, hZ, LA, lc, B, bc, E, ec, e0, e1, e2, e3, e4, e5, e6, e7, hLs, hTB, hTE⟩ := hk
  have hg := hZ g hZg
  have y0 := h.1.cell_of e0
  have yl := cell_lt y0
  have l0 := cell_lt c0
  have hw : IntKind.u8.wrap k.op = k.op % 256 := IntKind.wrap_u8 _
  have hly : Hid (∀ w : World, Calls Try.prog 66 #[.int .i64 k.op] w fun e w' => e = .returned (.int .i64 12) ∧ w' = w) := fun w => by have := lay_any k.op w; rwa [hl] at this
  obtain ⟨W1, hW1⟩ : ∃ W1, w2.setCell ⟨q, 0, none⟩ (.slice (some ⟨g2, 0, none⟩) (d.length + 1) c2) = W1 := ⟨_, rfl⟩
  rw [hW1] at k4 k5
  have x0 : W1.cell? ⟨g, o, none⟩ = some (.int .i64 k.op) := k4.1.cell_of e0
  have x1 : W1.cell? ⟨g, o + 1, none⟩ = some (.int .i64 k.a) := k4.1.cell_of e1
  have x2 : W1.cell? ⟨g, o + 2, none⟩ = some (.int .i64 k.b) := k4.1.cell_of e2
  have x3 : W1.cell? ⟨g, o + 3, none⟩ = some (.int .i64 k.bi) := k4.1.cell_of e3
  have x4 : W1.cell? ⟨g, o + 4, none⟩ = some (.int .i64 k.ty) := k4.1.cell_of e4
  have x5 : W1.cell? ⟨g, o + 5, none⟩ = some (.slice LA k.ls.length lc) := k4.1.cell_of e5
  have xl := cell_lt x0
  have hdd : (d ++ [k.op % 256]).length = d.length + 1 := by simp
  replace r2 : Hid _ := r2
  have hcall : Hid (Calls Try.prog 84 #[.pointer (some ⟨q, 0, none⟩), .int .i64 k.bi, .int .i64 8] W1 (Wm w0 lab W q ((d ++ [k.op % 256]) ++ lowB k.bi 8))) := (lowest_any k.bi 8 (by decide) (by omega) k4).mono fun e w' hh => hh.trans k5
  clear h k4 k5 hl hLs hTB hTE hZ e0 e1 e2 e3 e4 e6 e7 hdd
  go_enter Try.func76, Try.ntmps76
  go_wp2_with fail
  go_region_law (refine step_app (by rfl) _ _ 50 (by rfl) _ _ _ (by rfl) (by rfl) r2.out ?_)
  all_goals
    clear r2
    go_wp2_with (first | (go_at_call 66; refine (hly.out _).mono ?_; rintro e w1 ⟨rfl, rfl⟩) | (go_at_call 84; refine hcall.out.mono ?_; rintro e w5 ⟨rfl, h5⟩; replace h5 : Hid _ := h5))
    go_end0
    exact ⟨rfl, h5.out⟩
end Go.Proofs.Ytngciahmoenkiac.gi
