/- package instr: lists written: writer.list, choice, instr, instrs. -/
import Derived.Test.YtngciahmoenkiacHB
set_option linter.unusedVariables false
set_option linter.unusedSimpArgs false
set_option maxRecDepth 100000
set_option maxHeartbeats 8000000
namespace Go.Proofs.Ytngciahmoenkiac.gi
open Go.RowKit
variable {w0 W W' : World} {lab : Nat → Nat} {q : Nat} {d : List Int}
/-- what writing a list makes -/
def IWc (f : Fs) : Prop := ∀ (Z : Nat → Prop) (w0 W : World) (lab : Nat → Nat) (q : Nat) (d : List Int) (A : Option Addr) (c : Nat), Wr w0 lab W q d → (∀ j, Z j → j < w0.heap.size) → Tr Z w0 A f → d.length + (ltB f).length < 500000000 →
  Calls Try.prog 68 #[.pointer (some ⟨q, 0, none⟩), .slice A f.len c] W (Wm w0 lab W q (d ++ ltB f))
theorem Wr.put1 {w5 : World} {lab5 : Nat → Nat} {D : List Int} (h5 : Wr w0 lab5 w5 q D) (C5 : Chg lab S07 W w5 lab5) (x : Int) (hD : D.length < 100000000000) : ∃ A3 cap3 g3 c3 w3 n3 lab3, w5.cell? ⟨q, 0, none⟩ = some (.slice A3 n3 cap3) ∧ Hid ((Builtin.append_ #[50, 50] 50 #[.slice A3 n3 cap3, .slice (some ⟨w5.heap.size, 0, none⟩) 1 1]).run Try.prog (w5.alloc (.cells #[.int .u8 x] 5)) = .ok (.slice (some ⟨g3, 0, none⟩) (n3 + 1) c3) w3) ∧
      w3.cell? ⟨q, 0, none⟩ = some (.slice A3 n3 cap3) ∧ w3.frozen? ⟨q, 0, none⟩ = false ∧ q < w3.heap.size ∧ Hid (Wr w0 lab3 (w3.setCell ⟨q, 0, none⟩ (.slice (some ⟨g3, 0, none⟩) (n3 + 1) c3)) q (D ++ [x]) ∧ Chg lab S07 W (w3.setCell ⟨q, 0, none⟩ (.slice (some ⟨g3, 0, none⟩) (n3 + 1) c3)) lab3) := by
  obtain ⟨A3, cap3, g3, c3, w3, lab3, a0, r3, m1, m2, m3, m4, m5⟩ := h5.more x (by omega)
  exact ⟨A3, cap3, g3, c3, w3, _, lab3, a0, r3, m1, m2, m3, m4, C5.trans m5⟩
theorem wlist (f : Fs) (IH : IWc f) (Z : Nat → Prop) (A : Option Addr) (c : Nat) (h : Wr w0 lab W q d) (hZ : ∀ j, Z j → j < w0.heap.size) (hT : Tr Z w0 A f) (hd : d.length + (ltB f).length < 500000000) :
    Calls Try.prog 62 #[.pointer (some ⟨q, 0, none⟩), .slice A f.len c] W (Wm w0 lab W q ((d ++ ltB f) ++ [11])) := by
  have hcall : Hid (Calls Try.prog 68 #[.pointer (some ⟨q, 0, none⟩), .slice A f.len c] W (Wm w0 lab W q (d ++ ltB f))) := IH Z w0 W lab q d A c h hZ hT hd
  have hmore : Hid (∀ w5 lab5, Wr w0 lab5 w5 q (d ++ ltB f) → Chg lab S07 W w5 lab5 → ∃ A3 cap3 g3 c3 w3 n3 lab3, w5.cell? ⟨q, 0, none⟩ = some (.slice A3 n3 cap3) ∧ Hid ((Builtin.append_ #[50, 50] 50 #[.slice A3 n3 cap3, .slice (some ⟨w5.heap.size, 0, none⟩) 1 1]).run Try.prog (w5.alloc (.cells #[.int .u8 11] 5)) = .ok (.slice (some ⟨g3, 0, none⟩) (n3 + 1) c3) w3) ∧
      w3.cell? ⟨q, 0, none⟩ = some (.slice A3 n3 cap3) ∧ w3.frozen? ⟨q, 0, none⟩ = false ∧ q < w3.heap.size ∧ Hid (Wr w0 lab3 (w3.setCell ⟨q, 0, none⟩ (.slice (some ⟨g3, 0, none⟩) (n3 + 1) c3)) q ((d ++ ltB f) ++ [11]) ∧ Chg lab S07 W (w3.setCell ⟨q, 0, none⟩ (.slice (some ⟨g3, 0, none⟩) (n3 + 1) c3)) lab3)) := fun w5 lab5 h5 C5 => h5.put1 C5 11 (by rw [List.length_append]; omega)
  clear h hZ hT IH
  generalize (d ++ ltB f) = D at *
  generalize f.len = n at *
  go_enter Try.func62, Try.ntmps62
  go_wp2_with (first | (go_at_call 68; refine hcall.out.mono ?_; rintro e w5 ⟨rfl, lab5, h5, C5⟩; obtain ⟨A3, cap3, g3, c3, w3, n3, lab3, a0, r3, m1, m2, m3, hfin⟩ := hmore.out w5 lab5 h5.out C5.out; have a1 := cell_lt a0; clear h5 C5) | (at_builtin; refine wpList_app rfl _ _ 50 rfl _ _ _ rfl rfl r3.out ?_))
  go_end0
  exact ⟨rfl, lab3, hfin.out.1, hfin.out.2⟩
/-- what stands behind the Op of an OpIf -/
def chB (ty : Int) (bo el : Fs) : List Int := ty % 256 :: (ltB bo ++ ((if el.len = 0 then [] else 5 :: ltB el) ++ [11]))
theorem wchoice (Z : Nat → Prop) (g o : Nat) (k : rw.Nk) (IHb : IWc k.bo) (IHe : IWc k.el) (hk : Nq Z w0 g o k) (hd : d.length + (chB k.ty k.bo k.el).length < 500000000) (h : Wr w0 lab W q d) :
    Calls Try.prog 80 #[.pointer (some ⟨q, 0, none⟩), .pointer (some ⟨g, o, none⟩)] W (Wm w0 lab W q (d ++ chB k.ty k.bo k.el)) := by
  obtain ⟨A, cap, g2, c2, w2, lab2, c0, r2, k1, k2, k3, k4, k5⟩ := h.moreD (k.ty % 256) (by omega)
  obtain ⟨hZg, hZ, LA, lc, B, bc, E, ec, e0, e1, e2, e3, e4, e5, e6, e7, hLs, hTB, hTE⟩ := hk
  have hg := hZ g hZg
  have y4 := h.1.cell_of e4
  have yl := cell_lt y4
  have l0 := cell_lt c0
  have hw : IntKind.u8.wrap k.ty = k.ty % 256 := IntKind.wrap_u8 _
  obtain ⟨W1, hW1⟩ : ∃ W1, w2.setCell ⟨q, 0, none⟩ (.slice (some ⟨g2, 0, none⟩) (d.length + 1) c2) = W1 := ⟨_, rfl⟩
  rw [hW1] at k4 k5
  have x6 : W1.cell? ⟨g, o + 6, none⟩ = some (.slice B k.bo.len bc) := k4.1.cell_of e6
  have x7 : W1.cell? ⟨g, o + 7, none⟩ = some (.slice E k.el.len ec) := k4.1.cell_of e7
  have xl := cell_lt x6
  have hdd : (d ++ [k.ty % 256]).length = d.length + 1 := by simp
  have hlen : d.length + 1 + (ltB k.bo).length + (if k.el.len = 0 then 0 else 1 + (ltB k.el).length) + 1 < 500000000 := by
    unfold chB at hd
    simp only [List.length_cons, List.length_append, List.length_nil] at hd
    split <;> rename_i h0
    · rw [if_pos h0] at hd; simp at hd; omega
    · rw [if_neg h0] at hd; simp at hd; omega
  replace r2 : Hid _ := r2
  have hcb : Hid (Calls Try.prog 68 #[.pointer (some ⟨q, 0, none⟩), .slice B k.bo.len bc] W1 (Wm w0 lab W q ((d ++ [k.ty % 256]) ++ ltB k.bo))) := (IHb Z w0 W1 lab2 q _ B bc k4 hZ hTB (by rw [hdd]; split at hlen <;> omega)).mono fun e w' hh => hh.trans k5
  by_cases he : k.el.len = 0
  · rw [if_pos he] at hlen
    have hmore : Hid (∀ w5 lab5, Wr w0 lab5 w5 q ((d ++ [k.ty % 256]) ++ ltB k.bo) → Chg lab S07 W w5 lab5 → w5.cell? ⟨g, o + 7, none⟩ = some (.slice E k.el.len ec) ∧ g < w5.heap.size ∧ ∃ A3 cap3 g3 c3 w3 n3 lab3, w5.cell? ⟨q, 0, none⟩ = some (.slice A3 n3 cap3) ∧ Hid ((Builtin.append_ #[50, 50] 50 #[.slice A3 n3 cap3, .slice (some ⟨w5.heap.size, 0, none⟩) 1 1]).run Try.prog (w5.alloc (.cells #[.int .u8 11] 5)) = .ok (.slice (some ⟨g3, 0, none⟩) (n3 + 1) c3) w3) ∧
      w3.cell? ⟨q, 0, none⟩ = some (.slice A3 n3 cap3) ∧ w3.frozen? ⟨q, 0, none⟩ = false ∧ q < w3.heap.size ∧ Hid (Wr w0 lab3 (w3.setCell ⟨q, 0, none⟩ (.slice (some ⟨g3, 0, none⟩) (n3 + 1) c3)) q (((d ++ [k.ty % 256]) ++ ltB k.bo) ++ [11]) ∧ Chg lab S07 W (w3.setCell ⟨q, 0, none⟩ (.slice (some ⟨g3, 0, none⟩) (n3 + 1) c3)) lab3)) := fun w5 lab5 h5 C5 => ⟨h5.1.cell_of e7, cell_lt (h5.1.cell_of e7), h5.put1 C5 11 (by rw [List.length_append, hdd]; omega)⟩
    rw [show d ++ chB k.ty k.bo k.el = ((d ++ [k.ty % 256]) ++ ltB k.bo) ++ [11] by unfold chB; rw [if_pos he]; simp]
    rw [he] at x7 hmore
    clear h k4 k5 hLs hTB hTE hZ e0 e1 e2 e3 e4 e5 e6 e7 hdd IHb IHe hd hlen
    generalize ((d ++ [k.ty % 256]) ++ ltB k.bo) = D at *
    go_enter Try.func80, Try.ntmps80
    go_wp2_with fail
    go_region_law (refine step_app (by rfl) _ _ 50 (by rfl) _ _ _ (by rfl) (by rfl) r2.out ?_)
    all_goals
      clear r2
      go_wp2_with (first | (go_at_call 68; refine hcb.out.mono ?_; rintro e w5 ⟨rfl, lab5, h5, C5⟩; obtain ⟨a7, al, A3, cap3, g3, c3, w3, n3, lab3, a0, r3, m1, m2, m3, hfin⟩ := hmore.out w5 lab5 h5.out C5.out; have a1 := cell_lt a0; clear h5 C5) | (at_builtin; refine wpList_app rfl _ _ 50 rfl _ _ _ rfl rfl r3.out ?_))
      go_end0
      exact ⟨rfl, lab3, hfin.out.1, hfin.out.2⟩
  · rw [if_neg he] at hlen
    have he1 : 0 < (k.el.len : Int) := by omega
    have hmore : Hid (∀ w5 lab5, Wr w0 lab5 w5 q ((d ++ [k.ty % 256]) ++ ltB k.bo) → Chg lab S07 W w5 lab5 → w5.cell? ⟨g, o + 7, none⟩ = some (.slice E k.el.len ec) ∧ g < w5.heap.size ∧ ∃ A3 cap3 g3 c3 w3 n3 lab3, w5.cell? ⟨q, 0, none⟩ = some (.slice A3 n3 cap3) ∧ Hid ((Builtin.append_ #[50, 50] 50 #[.slice A3 n3 cap3, .slice (some ⟨w5.heap.size, 0, none⟩) 1 1]).run Try.prog (w5.alloc (.cells #[.int .u8 5] 5)) = .ok (.slice (some ⟨g3, 0, none⟩) (n3 + 1) c3) w3) ∧
      w3.cell? ⟨q, 0, none⟩ = some (.slice A3 n3 cap3) ∧ w3.frozen? ⟨q, 0, none⟩ = false ∧ q < w3.heap.size ∧ Hid (Wr w0 lab3 (w3.setCell ⟨q, 0, none⟩ (.slice (some ⟨g3, 0, none⟩) (n3 + 1) c3)) q (((d ++ [k.ty % 256]) ++ ltB k.bo) ++ [5]) ∧ Chg lab S07 W (w3.setCell ⟨q, 0, none⟩ (.slice (some ⟨g3, 0, none⟩) (n3 + 1) c3)) lab3)) := fun w5 lab5 h5 C5 => ⟨h5.1.cell_of e7, cell_lt (h5.1.cell_of e7), h5.put1 C5 5 (by rw [List.length_append, hdd]; omega)⟩
    have hels : Hid (∀ w6 lab6, Wr w0 lab6 w6 q (((d ++ [k.ty % 256]) ++ ltB k.bo) ++ [5]) → Chg lab S07 W w6 lab6 → w6.cell? ⟨g, o + 7, none⟩ = some (.slice E k.el.len ec) ∧ g < w6.heap.size ∧ Hid (Calls Try.prog 68 #[.pointer (some ⟨q, 0, none⟩), .slice E k.el.len ec] w6 (Wm w0 lab W q ((((d ++ [k.ty % 256]) ++ ltB k.bo) ++ [5]) ++ ltB k.el)))) := fun w6 lab6 h6 C6 => ⟨h6.1.cell_of e7, cell_lt (h6.1.cell_of e7), (IHe Z w0 w6 lab6 q _ E ec h6 hZ hTE (by simp only [List.length_append, List.length_singleton]; omega)).mono fun e w' hh => hh.trans C6⟩
    have hlast : Hid (∀ w5 lab5, Wr w0 lab5 w5 q ((((d ++ [k.ty % 256]) ++ ltB k.bo) ++ [5]) ++ ltB k.el) → Chg lab S07 W w5 lab5 → ∃ A3 cap3 g3 c3 w3 n3 lab3, w5.cell? ⟨q, 0, none⟩ = some (.slice A3 n3 cap3) ∧ Hid ((Builtin.append_ #[50, 50] 50 #[.slice A3 n3 cap3, .slice (some ⟨w5.heap.size, 0, none⟩) 1 1]).run Try.prog (w5.alloc (.cells #[.int .u8 11] 5)) = .ok (.slice (some ⟨g3, 0, none⟩) (n3 + 1) c3) w3) ∧
      w3.cell? ⟨q, 0, none⟩ = some (.slice A3 n3 cap3) ∧ w3.frozen? ⟨q, 0, none⟩ = false ∧ q < w3.heap.size ∧ Hid (Wr w0 lab3 (w3.setCell ⟨q, 0, none⟩ (.slice (some ⟨g3, 0, none⟩) (n3 + 1) c3)) q (((((d ++ [k.ty % 256]) ++ ltB k.bo) ++ [5]) ++ ltB k.el) ++ [11]) ∧ Chg lab S07 W (w3.setCell ⟨q, 0, none⟩ (.slice (some ⟨g3, 0, none⟩) (n3 + 1) c3)) lab3)) := fun w5 lab5 h5 C5 => h5.put1 C5 11 (by simp only [List.length_append, List.length_singleton]; omega)
    rw [show d ++ chB k.ty k.bo k.el = ((((d ++ [k.ty % 256]) ++ ltB k.bo) ++ [5]) ++ ltB k.el) ++ [11] by unfold chB; rw [if_neg he]; simp]
    clear h k4 k5 hLs hTB hTE hZ e0 e1 e2 e3 e4 e5 e6 e7 hdd IHb IHe hd hlen
    generalize hD2 : ((((d ++ [k.ty % 256]) ++ ltB k.bo) ++ [5]) ++ ltB k.el) = D2 at *
    generalize hD : ((d ++ [k.ty % 256]) ++ ltB k.bo) = D at *
    clear hD hD2
    go_enter Try.func80, Try.ntmps80
    go_wp2_with fail
    go_region_law (refine step_app (by rfl) _ _ 50 (by rfl) _ _ _ (by rfl) (by rfl) r2.out ?_)
    all_goals
      clear r2
      go_wp2_with (first | (go_at_call 68; refine hcb.out.mono ?_; clear hcb; rintro e w5 ⟨rfl, lab5, h5, C5⟩; obtain ⟨a7, al, A3, cap3, g3, c3, w3, n3, lab3, a0, r3, m1, m2, m3, hf3⟩ := hmore.out w5 lab5 h5.out C5.out; have a1 := cell_lt a0; obtain ⟨W6, hW6⟩ : ∃ W6, w3.setCell ⟨q, 0, none⟩ (.slice (some ⟨g3, 0, none⟩) (n3 + 1) c3) = W6 := ⟨_, rfl⟩; rw [hW6] at hf3; obtain ⟨b7, bl, hce⟩ := hels.out W6 lab3 hf3.out.1 hf3.out.2; clear h5 C5 hmore hels) | (at_builtin; refine wpList_app rfl _ _ 50 rfl _ _ _ rfl rfl r3.out ?_; clear r3) | (go_at_call 68; refine hce.out.mono ?_; clear hce; rintro e w7 ⟨rfl, lab7, h7, C7⟩; obtain ⟨A4, cap4, g4, c4, w4, n4, lab4, d0, r4, n1, n2, n3', hfin⟩ := hlast.out w7 lab7 h7.out C7.out; have d1 := cell_lt d0; clear h7 C7 hlast) | (at_builtin; refine wpList_app rfl _ _ 50 rfl _ _ _ rfl rfl r4.out ?_; clear r4))
      go_end0
      exact ⟨rfl, lab4, hfin.out.1, hfin.out.2⟩
/-- all instructions of a list may be -/
def Mb : Fs → Prop
  | ⟨none⟩ => True
  | ⟨some (op, a, b, bi, ty, ls, bo, el, r)⟩ => mayP op a b bi ty ls bo.len el.len ∧ Mb bo ∧ Mb el ∧ Mb r
theorem ck_mb : ∀ (f : Fs) (d c : Int), (ck f d c).1 = 0 → Mb f
  | ⟨none⟩, d, c, h => trivial
  | ⟨some (op, a, b, bi, ty, ls, bo, el, r)⟩, d, c, h => by
    unfold ck at h
    split at h
    · simp at h
    · split at h
      · simp at h
      · split at h
        · simp at h
        · rename_i hm
          split at h
          · rename_i hb
            split at h
            · rename_i he
              exact ⟨Classical.not_not.1 hm, ck_mb bo _ _ hb, ck_mb el _ _ he, ck_mb r _ _ h⟩
            · rename_i he; exact absurd h he
          · rename_i hb; exact absurd h hb
theorem in_2 (Z : Nat → Prop) (g o : Nat) (k : rw.Nk) (IHb : IWc k.bo) (hl : lay k.op = 2) (hk : Nq Z w0 g o k) (hd : d.length + 2 + (ltB k.bo).length < 500000000) (h : Wr w0 lab W q d) :
    Calls Try.prog 76 #[.pointer (some ⟨q, 0, none⟩), .pointer (some ⟨g, o, none⟩)] W (Wm w0 lab W q (((d ++ [k.op % 256]) ++ [k.ty % 256] ++ ltB k.bo) ++ [11])) := by
  obtain ⟨A, cap, g2, c2, w2, lab2, c0, r2, k1, k2, k3, k4, k5⟩ := h.moreD (k.op % 256) (by omega)
  obtain ⟨hZg, hZ, LA, lc, B, bc, E, ec, e0, e1, e2, e3, e4, e5, e6, e7, hLs, hTB, hTE⟩ := hk
  have y0 := h.1.cell_of e0
  have yl := cell_lt y0
  have l0 := cell_lt c0
  have hw : IntKind.u8.wrap k.op = k.op % 256 := IntKind.wrap_u8 _
  have hw2 : IntKind.u8.wrap k.ty = k.ty % 256 := IntKind.wrap_u8 _
  have hly : Hid (∀ w : World, Calls Try.prog 66 #[.int .i64 k.op] w fun e w' => e = .returned (.int .i64 2) ∧ w' = w) := fun w => by have := lay_any k.op w; rwa [hl] at this
  obtain ⟨W1, hW1⟩ : ∃ W1, w2.setCell ⟨q, 0, none⟩ (.slice (some ⟨g2, 0, none⟩) (d.length + 1) c2) = W1 := ⟨_, rfl⟩
  rw [hW1] at k4 k5
  have x0 : W1.cell? ⟨g, o, none⟩ = some (.int .i64 k.op) := k4.1.cell_of e0
  have x4 : W1.cell? ⟨g, o + 4, none⟩ = some (.int .i64 k.ty) := k4.1.cell_of e4
  have xl := cell_lt x0
  have hdd : (d ++ [k.op % 256]).length = d.length + 1 := by simp
  obtain ⟨A3, cap3, g3, c3, w3, lab3, a0, r3, m1, m2, m3, m4, m5⟩ := k4.moreD (k.ty % 256) (by omega)
  rw [hdd] at a0 r3 m1 m4 m5
  have a1 := cell_lt a0
  obtain ⟨W3, hW3⟩ : ∃ W3, w3.setCell ⟨q, 0, none⟩ (.slice (some ⟨g3, 0, none⟩) (d.length + 1 + 1) c3) = W3 := ⟨_, rfl⟩
  rw [hW3] at m4 m5
  have x6 : W3.cell? ⟨g, o + 6, none⟩ = some (.slice B k.bo.len bc) := m4.1.cell_of e6
  have xl6 := cell_lt x6
  have hcall : Hid (Calls Try.prog 62 #[.pointer (some ⟨q, 0, none⟩), .slice B k.bo.len bc] W3 (Wm w0 lab W q (((d ++ [k.op % 256]) ++ [k.ty % 256] ++ ltB k.bo) ++ [11]))) := (wlist k.bo IHb Z B bc m4 hZ hTB (by simp only [List.length_append, List.length_singleton]; omega)).mono fun e w' hh => hh.trans (k5.trans m5)
  replace r2 : Hid _ := r2
  replace r3 : Hid _ := r3
  clear h k4 k5 m4 m5 hl hLs hTB hTE hZ e0 e1 e2 e3 e4 e5 e6 e7 hdd IHb hd
  generalize (((d ++ [k.op % 256]) ++ [k.ty % 256] ++ ltB k.bo) ++ [11]) = D at *
  go_enter Try.func76, Try.ntmps76
  go_wp2_with fail
  go_region_law (refine step_app (by rfl) _ _ 50 (by rfl) _ _ _ (by rfl) (by rfl) r2.out ?_)
  all_goals
    clear r2
    go_wp2_with (go_at_call 66; refine (hly.out _).mono ?_; rintro e w1 ⟨rfl, rfl⟩)
    go_region_law (refine step_app (by rfl) _ _ 50 (by rfl) _ _ _ (by rfl) (by rfl) r3.out ?_)
    all_goals
      clear r3
      go_wp2_with (go_at_call 62; refine hcall.out.mono ?_; rintro e w5 ⟨rfl, h5⟩; replace h5 : Hid _ := h5)
      go_end0
      exact ⟨rfl, h5.out⟩
theorem in_3 (Z : Nat → Prop) (g o : Nat) (k : rw.Nk) (IHb : IWc k.bo) (IHe : IWc k.el) (hl : lay k.op = 3) (hk : Nq Z w0 g o k) (hd : d.length + 1 + (chB k.ty k.bo k.el).length < 500000000) (h : Wr w0 lab W q d) :
    Calls Try.prog 76 #[.pointer (some ⟨q, 0, none⟩), .pointer (some ⟨g, o, none⟩)] W (Wm w0 lab W q ((d ++ [k.op % 256]) ++ chB k.ty k.bo k.el)) := by
  obtain ⟨A, cap, g2, c2, w2, lab2, c0, r2, k1, k2, k3, k4, k5⟩ := h.moreD (k.op % 256) (by omega)
  have hk2 := hk
  obtain ⟨hZg, hZ, LA, lc, B, bc, E, ec, e0, e1, e2, e3, e4, e5, e6, e7, hLs, hTB, hTE⟩ := hk2
  have y0 := h.1.cell_of e0
  have yl := cell_lt y0
  have l0 := cell_lt c0
  have hw : IntKind.u8.wrap k.op = k.op % 256 := IntKind.wrap_u8 _
  have hly : Hid (∀ w : World, Calls Try.prog 66 #[.int .i64 k.op] w fun e w' => e = .returned (.int .i64 3) ∧ w' = w) := fun w => by have := lay_any k.op w; rwa [hl] at this
  obtain ⟨W1, hW1⟩ : ∃ W1, w2.setCell ⟨q, 0, none⟩ (.slice (some ⟨g2, 0, none⟩) (d.length + 1) c2) = W1 := ⟨_, rfl⟩
  rw [hW1] at k4 k5
  have x0 : W1.cell? ⟨g, o, none⟩ = some (.int .i64 k.op) := k4.1.cell_of e0
  have xl := cell_lt x0
  have hcall : Hid (Calls Try.prog 80 #[.pointer (some ⟨q, 0, none⟩), .pointer (some ⟨g, o, none⟩)] W1 (Wm w0 lab W q ((d ++ [k.op % 256]) ++ chB k.ty k.bo k.el))) := (wchoice Z g o k IHb IHe hk (by rw [List.length_append, List.length_singleton]; omega) k4).mono fun e w' hh => hh.trans k5
  replace r2 : Hid _ := r2
  clear h k4 k5 hl hLs hTB hTE hZ e0 e1 e2 e3 e4 e5 e6 e7 IHb IHe hd hk
  generalize ((d ++ [k.op % 256]) ++ chB k.ty k.bo k.el) = D at *
  go_enter Try.func76, Try.ntmps76
  go_wp2_with fail
  go_region_law (refine step_app (by rfl) _ _ 50 (by rfl) _ _ _ (by rfl) (by rfl) r2.out ?_)
  all_goals
    clear r2
    go_wp2_with (first | (go_at_call 66; refine (hly.out _).mono ?_; rintro e w1 ⟨rfl, rfl⟩) | (go_at_call 80; refine hcall.out.mono ?_; rintro e w5 ⟨rfl, h5⟩; replace h5 : Hid _ := h5))
    go_end0
    exact ⟨rfl, h5.out⟩
end Go.Proofs.Ytngciahmoenkiac.gi
