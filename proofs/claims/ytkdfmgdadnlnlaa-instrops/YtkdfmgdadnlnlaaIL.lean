/- Over this seat's translation: a list of instructions as bytes, by the document. -/
import Derived.Test.YtkdfmgdadnlnlaaXJ
set_option linter.unusedVariables false
set_option linter.unusedSimpArgs false
set_option maxRecDepth 100000
set_option maxHeartbeats 40000000
namespace Go.Proofs.Ytkdfmgdadnlnlaa
open Go.RowKit
theorem list_round (k : Nat) (f : Fs) (IH : ∀ f' : Fs, f'.sz ≤ k → f'.Ok → f'.len * 112 ≤ 140737488351232 → ListC f') (hk : f.sz ≤ k + 1) (ho : f.Ok) (hn : f.len * 112 ≤ 140737488351232) : ListC f := by
  intro Z w A c hT hB0
  replace hT : Hid (Tr Z w A f) := hT
  replace IH : Hid (∀ f' : Fs, f'.sz ≤ k → f'.Ok → f'.len * 112 ≤ 140737488351232 → ListC f') := IH
  replace ho : Hid f.Ok := ho
  obtain ⟨n, hn2⟩ : ∃ n, n = f.len := ⟨_, rfl⟩
  rw [← hn2] at hn ⊢
  replace hn2 : Hid (n = f.len) := hn2
  replace hk : Hid (f.sz ≤ k + 1) := hk
  replace hB0 : Hid ((ltB f).length < 100000000000) := hB0
  go_enter Try.func25, Try.ntmps25
  go_wp2_with fail
  go_loopw [3, 4] (fun v i wr => ∃ (e r : Fs) (d : List Int), i = .int .i64 (e.len : Nat) ∧ e.app r = f ∧ r.Ok ∧ r.sz ≤ k + 1 ∧ ltB f = d ++ ltB r ∧ Later w wr ∧ Byt w wr v d) (fun v i _ => n - (intOf i).toNat)
  case atStart => exact ⟨.nil, f, [], rfl, rfl, ho.out, hk.out, rfl, Lz _, byt_nil _ _⟩
  case round =>
    obtain ⟨d0, r, d, rfl, hf, hok, hsz, hlt, hL, hB⟩ := hrel
    obtain ⟨Av, cv, rfl⟩ := hB.form
    cases r using Fs.split with
    | nil =>
      have hd : d0 = f := by rw [← hf, Fs.app_nil]
      have hl : ¬ (d0.len : Int) < (n : Int) := by rw [hn2.out, hd]; omega
      have hlt2 : Hid (ltB f = d) := by show _ = _; rw [hlt]; simp [ltB]
      replace hL : Hid (Later w wr) := hL
      replace hB : Hid (Byt w wr (.slice Av d.length cv) d) := hB
      clear hok hsz hlt
      replace hf : Hid _ := hf
      replace hd : Hid _ := hd
      go_wp2_with fail
      go_ret
      rw [hlt2.out]
      exact ⟨Av, cv, rfl, hB, hL⟩
    | cons op a b bi ty ls bo el r =>
      have hlen : d0.len + r.len + 1 = n := by rw [hn2.out, ← hf, Fs.len_app]; simp only [Fs.len]; omega
      have hl : (d0.len : Int) < (n : Int) := by omega
      have hne : f ≠ .nil := by rw [← hf]; cases d0 using Fs.split <;> simp [Fs.app]
      obtain ⟨g, o, rfl, hZg, hA⟩ := (show Tr Z w A f from hT).at hne
      rw [← hf] at hA
      obtain ⟨LA, lc, B, bc, E, ec, e0, e1, e2, e3, e4, e5, e6, e7, hLs, hTB, hTE, _⟩ := hA.drop.head
      replace e0 := hL.cell_of e0
      replace e1 := hL.cell_of e1
      replace e2 := hL.cell_of e2
      replace e3 := hL.cell_of e3
      replace e4 := hL.cell_of e4
      replace e5 := hL.cell_of e5
      replace e6 := hL.cell_of e6
      replace e7 := hL.cell_of e7
      have hfin0 : (d0.app (.cons op a b bi ty ls bo el .nil)).app r = f ∧ (d0.app (.cons op a b bi ty ls bo el .nil)).len = d0.len + 1 := ⟨by rw [Fs.app_app, ← hf]; rfl, by rw [Fs.len_app]; rfl⟩
      have hltg := cell_lt e0
      obtain ⟨⟨i1, i2, i3, i4, i5, i6⟩, o1, o2, o3, o4, o5, o6⟩ := hok
      simp only [Fs.sz] at hsz
      have hfin : Hid ((d0.app (.cons op a b bi ty ls bo el .nil)).app r = f ∧ r.Ok ∧ r.sz ≤ k + 1 ∧ (d0.app (.cons op a b bi ty ls bo el .nil)).len = d0.len + 1) := ⟨hfin0.1, o6, by omega, hfin0.2⟩
      have hib : Hid (∀ W, Later w W → (ltB bo).length < 100000000000 → Calls Try.prog 25 #[.slice B bo.len bc] W fun e w' => ∃ A' c', e = .returned (.slice A' (ltB bo).length c') ∧ Hid (Byt W w' (.slice A' (ltB bo).length c') (ltB bo)) ∧ Hid (Later W w')) := fun W hW hb => IH.out bo (by omega) o4 o2 Z W B bc (hTB.later hW) hb
      have hie : Hid (∀ W, Later w W → (ltB el).length < 100000000000 → Calls Try.prog 25 #[.slice E el.len ec] W fun e w' => ∃ A' c', e = .returned (.slice A' (ltB el).length c') ∧ Hid (Byt W w' (.slice A' (ltB el).length c') (ltB el)) ∧ Hid (Later W w')) := fun W hW hb => IH.out el (by omega) o5 o3 Z W E ec (hTE.later hW) hb
      have hleb : Hid (∀ (x : Int) (w : World), Calls Try.prog 40 #[.int .i64 x] w fun e w' => e = .returned (.string (strOfNums (lebL x))) ∧ Later w w') := leb_any
      have hform : Hid (∀ w : World, Calls Try.prog 38 #[.int .i64 op] w fun e w' => e = .returned (.int .i64 (fo op)) ∧ w' = w) := form_any op
      obtain ⟨lab, hF⟩ := hB
      obtain ⟨lab1, Y1⟩ := Byt.start hL hF (.int .i64 op) (.int .i64 a) (.int .i64 b) (.int .i64 bi) (.int .i64 ty) (.slice LA ls.length lc) (.slice B bo.len bc) (.slice E el.len ec)
      have hlB : (ltB f).length < 100000000000 := hB0.out
      have hdl : d.length ≤ (ltB f).length := by rw [hlt]; simp
      obtain ⟨g2, c2, w2, lab2, r2, Y2⟩ := Y1.more (op % 256) (by omega)
      have hs1 : (wr.alloc (.cells #[.int .i64 op, .int .i64 a, .int .i64 b, .int .i64 bi, .int .i64 ty, .slice LA ls.length lc, .slice B bo.len bc, .slice E el.len ec] 47)).heap.size = wr.heap.size + 1 := by simp
      rw [hs1] at r2
      have hop := op_wrap op
      have y0 : w2.cell? ⟨wr.heap.size, 0, none⟩ = some (.int .i64 op) := Y2.cell 0 (by decide)
      have y1 : w2.cell? ⟨wr.heap.size, 1, none⟩ = some (.int .i64 a) := Y2.cell 1 (by decide)
      have y2 : w2.cell? ⟨wr.heap.size, 2, none⟩ = some (.int .i64 b) := Y2.cell 2 (by decide)
      have y3 : w2.cell? ⟨wr.heap.size, 3, none⟩ = some (.int .i64 bi) := Y2.cell 3 (by decide)
      have y4 : w2.cell? ⟨wr.heap.size, 4, none⟩ = some (.int .i64 ty) := Y2.cell 4 (by decide)
      have y5 : w2.cell? ⟨wr.heap.size, 5, none⟩ = some (.slice LA ls.length lc) := Y2.cell 5 (by decide)
      have y6 : w2.cell? ⟨wr.heap.size, 6, none⟩ = some (.slice B bo.len bc) := Y2.cell 6 (by decide)
      have y7 : w2.cell? ⟨wr.heap.size, 7, none⟩ = some (.slice E el.len ec) := Y2.cell 7 (by decide)
      have yp := cell_lt y0
      replace r2 : Hid _ := r2
      replace Y2 : Hid (Ys w lab2 w2 (.slice (some ⟨g2, 0, none⟩) (d.length + 1) c2) (d ++ [op % 256]) wr.heap.size (fun j => [.int .i64 op, .int .i64 a, .int .i64 b, .int .i64 bi, .int .i64 ty, .slice LA ls.length lc, .slice B bo.len bc, .slice E el.len ec].getD j undef)) := Y2
      clear Y1 hF hs1
      have hls0 : ls.length < 9223372036854775807 := by omega
      clear IH hT hf hfin0 hne hZg hsz o1 o2 o3 o4 o5 o6 ho hk
      replace hL : Hid (Later w wr) := hL
      by_cases k7 : fo op = 7
      · have hx : Hid (ltB f = (d ++ [op % 256] ++ [0]) ++ ltB r) := by
          show _ = _
          rw [hlt]
          simp [ltB, k7]
        obtain ⟨g3, c3, w3, lab3, r3, Y3⟩ := Y2.out.more 0 (by simp; omega)
        rw [show (d ++ [op % 256]).length = d.length + 1 by simp] at r3 Y3
        replace r3 : Hid _ := r3
        have Yz : Hid (Ys w lab3 w3 (.slice (some ⟨g3, 0, none⟩) (d.length + 1 + 1) c3) (d ++ [op % 256] ++ [0]) wr.heap.size (fun j => [.int .i64 op, .int .i64 a, .int .i64 b, .int .i64 bi, .int .i64 ty, .slice LA ls.length lc, .slice B bo.len bc, .slice E el.len ec].getD j undef)) := Y3
        clear Y3
        have kf : Hid (fo op = 7) := k7
        rw [k7] at hform
        clear k7
        clear hlt hA hTB hTE hLs i1 i2 i3 i5 hlB hdl
        go_wp2_with (first | (at_builtin; refine wpList_app rfl _ _ 53 rfl _ _ _ rfl rfl r2.out ?_; clear r2) | (go_at_call 38; refine (hform.out _).mono ?_; rintro e w' ⟨rfl, hw⟩; obtain rfl : w2 = w' := hw.symm) | (at_builtin; refine wpList_app rfl _ _ 53 rfl _ _ _ rfl rfl r3.out ?_; clear r3))
        refine ⟨⟨d0.app (.cons op a b bi ty ls bo el .nil), r, d ++ [op % 256] ++ [0], by rw [hfin.out.2.2.2]; rfl, hfin.out.1, hfin.out.2.1, hfin.out.2.2.1, hx.out, Yz.out.1, ?_⟩, ?_⟩
        · have this : Byt w _ _ (d ++ [op % 256] ++ [0]) := ⟨_, Yz.out.2.1⟩
          simpa using this
        · simp [intOf]
          omega
      by_cases k0 : fo op = 0
      · have hx : Hid (ltB f = (d ++ [op % 256]) ++ ltB r) := by
          show _ = _
          rw [hlt]
          simp [ltB, k0]
        have Yz : Hid (Ys w lab2 w2 (.slice (some ⟨g2, 0, none⟩) (d.length + 1) c2) (d ++ [op % 256]) wr.heap.size (fun j => [.int .i64 op, .int .i64 a, .int .i64 b, .int .i64 bi, .int .i64 ty, .slice LA ls.length lc, .slice B bo.len bc, .slice E el.len ec].getD j undef)) := Y2
        clear Y2
        have kf : Hid (fo op = 0) := k0
        rw [k0] at hform
        clear k0
        clear hlt hA hTB hTE hLs i1 i2 i3 i5 hlB hdl
        go_wp2_with (first | (at_builtin; refine wpList_app rfl _ _ 53 rfl _ _ _ rfl rfl r2.out ?_; clear r2) | (go_at_call 38; refine (hform.out _).mono ?_; rintro e w' ⟨rfl, hw⟩; obtain rfl : w2 = w' := hw.symm))
        refine ⟨⟨d0.app (.cons op a b bi ty ls bo el .nil), r, d ++ [op % 256], by rw [hfin.out.2.2.2]; rfl, hfin.out.1, hfin.out.2.1, hfin.out.2.2.1, hx.out, Yz.out.1, ?_⟩, ?_⟩
        · have this : Byt w _ _ (d ++ [op % 256]) := ⟨_, Yz.out.2.1⟩
          simpa using this
        · simp [intOf]
          omega
      by_cases k9 : fo op = 9
      · have hx : Hid (ltB f = (d ++ [op % 256]) ++ ltB r) := by
          show _ = _
          rw [hlt]
          simp [ltB, k9]
        have Yz : Hid (Ys w lab2 w2 (.slice (some ⟨g2, 0, none⟩) (d.length + 1) c2) (d ++ [op % 256]) wr.heap.size (fun j => [.int .i64 op, .int .i64 a, .int .i64 b, .int .i64 bi, .int .i64 ty, .slice LA ls.length lc, .slice B bo.len bc, .slice E el.len ec].getD j undef)) := Y2
        clear Y2
        have kf : Hid (fo op = 9) := k9
        rw [k9] at hform
        clear k9
        clear hlt hA hTB hTE hLs i1 i2 i3 i5 hlB hdl
        go_wp2_with (first | (at_builtin; refine wpList_app rfl _ _ 53 rfl _ _ _ rfl rfl r2.out ?_; clear r2) | (go_at_call 38; refine (hform.out _).mono ?_; rintro e w' ⟨rfl, hw⟩; obtain rfl : w2 = w' := hw.symm))
        refine ⟨⟨d0.app (.cons op a b bi ty ls bo el .nil), r, d ++ [op % 256], by rw [hfin.out.2.2.2]; rfl, hfin.out.1, hfin.out.2.1, hfin.out.2.2.1, hx.out, Yz.out.1, ?_⟩, ?_⟩
        · have this : Byt w _ _ (d ++ [op % 256]) := ⟨_, Yz.out.2.1⟩
          simpa using this
        · simp [intOf]
          omega
      by_cases k3 : fo op = 3
      · have hx : Hid (ltB f = (d ++ [op % 256] ++ lebL a) ++ ltB r) := by
          show _ = _
          rw [hlt]
          simp [ltB, k3]
        have hbd : Hid (d.length + 1 + (lebL a).length < 100000000000) := by
          have h := hlB
          rw [hx.out] at h
          simp at h
          show _ < _
          omega
        have kf : Hid (fo op = 3) := k3
        rw [k3] at hform
        clear k3
        clear hlt hA hTB hTE hLs i1 i2 i3 i5 hlB hdl
        go_wp2_with (first | (at_builtin; refine wpList_app rfl _ _ 53 rfl _ _ _ rfl rfl r2.out ?_; clear r2) | (go_at_call 38; refine (hform.out _).mono ?_; rintro e w' ⟨rfl, hw⟩; obtain rfl : w2 = w' := hw.symm) | (go_at_call 40; refine (hleb.out a _).mono ?_; rintro e w3 ⟨rfl, L3⟩; obtain ⟨g4, c4, w4, lab4, r4, Yq⟩ := (Y2.out.later L3).str (lebL a) (lebL_ne a) (lebL_byte a) (by have := hbd.out; simp; omega); simp only [List.length_append, List.length_singleton] at r4 Yq; replace r4 : Hid _ := r4; have Yz : Hid (Ys w lab4 w4 _ (d ++ [op % 256] ++ lebL a) wr.heap.size (fun j => [.int .i64 op, .int .i64 a, .int .i64 b, .int .i64 bi, .int .i64 ty, .slice LA ls.length lc, .slice B bo.len bc, .slice E el.len ec].getD j undef)) := Yq; clear Yq Y2 L3) | (at_builtin; refine wpList_app2 rfl _ _ 53 9 rfl _ _ _ rfl rfl r4.out ?_; clear r4))
        refine ⟨⟨d0.app (.cons op a b bi ty ls bo el .nil), r, d ++ [op % 256] ++ lebL a, by rw [hfin.out.2.2.2]; rfl, hfin.out.1, hfin.out.2.1, hfin.out.2.2.1, hx.out, Yz.out.1, ?_⟩, ?_⟩
        · have this : Byt w _ _ (d ++ [op % 256] ++ lebL a) := ⟨_, Yz.out.2.1⟩
          simpa using this
        · simp [intOf]
          omega
      by_cases k5 : fo op = 5
      · have hx : Hid (ltB f = (d ++ [op % 256] ++ lebL a ++ [0]) ++ ltB r) := by
          show _ = _
          rw [hlt]
          simp [ltB, k5]
        have hbd : Hid (d.length + 1 + (lebL a).length + 1 < 100000000000) := by
          have h := hlB
          rw [hx.out] at h
          simp at h
          show _ < _
          omega
        have kf : Hid (fo op = 5) := k5
        rw [k5] at hform
        clear k5
        clear hlt hA hTB hTE hLs i1 i2 i3 i5 hlB hdl
        go_wp2_with (first | (at_builtin; refine wpList_app rfl _ _ 53 rfl _ _ _ rfl rfl r2.out ?_; clear r2) | (go_at_call 38; refine (hform.out _).mono ?_; rintro e w' ⟨rfl, hw⟩; obtain rfl : w2 = w' := hw.symm) | (go_at_call 40; refine (hleb.out a _).mono ?_; rintro e w3 ⟨rfl, L3⟩; obtain ⟨g4, c4, w4, lab4, r4, Yq⟩ := (Y2.out.later L3).str (lebL a) (lebL_ne a) (lebL_byte a) (by have := hbd.out; simp; omega); simp only [List.length_append, List.length_singleton] at r4 Yq; obtain ⟨g5, c5, w5, lab5, r5, Yr⟩ := Yq.more 0 (by have := hbd.out; simp; omega); simp only [List.length_append, List.length_singleton] at r5 Yr; replace r4 : Hid _ := r4; replace r5 : Hid _ := r5; have Yz : Hid (Ys w lab5 w5 _ (d ++ [op % 256] ++ lebL a ++ [0]) wr.heap.size (fun j => [.int .i64 op, .int .i64 a, .int .i64 b, .int .i64 bi, .int .i64 ty, .slice LA ls.length lc, .slice B bo.len bc, .slice E el.len ec].getD j undef)) := Yr; clear Yq Yr Y2 L3) | (at_builtin; refine wpList_app2 rfl _ _ 53 9 rfl _ _ _ rfl rfl r4.out ?_; clear r4) | (at_builtin; refine wpList_app rfl _ _ 53 rfl _ _ _ rfl rfl r5.out ?_; clear r5))
        refine ⟨⟨d0.app (.cons op a b bi ty ls bo el .nil), r, d ++ [op % 256] ++ lebL a ++ [0], by rw [hfin.out.2.2.2]; rfl, hfin.out.1, hfin.out.2.1, hfin.out.2.2.1, hx.out, Yz.out.1, ?_⟩, ?_⟩
        · have this : Byt w _ _ (d ++ [op % 256] ++ lebL a ++ [0]) := ⟨_, Yz.out.2.1⟩
          simpa using this
        · simp [intOf]
          omega
      by_cases k6 : fo op = 6
      · have hx : Hid (ltB f = (d ++ [op % 256] ++ lebL a ++ lebL b) ++ ltB r) := by
          show _ = _
          rw [hlt]
          simp [ltB, k6]
        have hbd : Hid (d.length + 1 + (lebL a).length + (lebL b).length < 100000000000) := by
          have h := hlB
          rw [hx.out] at h
          simp at h
          show _ < _
          omega
        have kf : Hid (fo op = 6) := k6
        rw [k6] at hform
        clear k6
        have hla := hleb.out a
        replace hla : Hid (∀ w : World, Calls Try.prog 40 #[.int .i64 a] w fun e w' => e = .returned (.string (strOfNums (lebL a))) ∧ Later w w') := hla
        have hlb : Hid (∀ w : World, Calls Try.prog 40 #[.int .i64 b] w fun e w' => e = .returned (.string (strOfNums (lebL b))) ∧ Later w w') := hleb.out b
        clear hleb
        clear hlt hA hTB hTE hLs i1 i2 i3 i5 hlB hdl
        go_wp2_with (first | (at_builtin; refine wpList_app rfl _ _ 53 rfl _ _ _ rfl rfl r2.out ?_; clear r2) | (go_at_call 38; refine (hform.out _).mono ?_; rintro e w' ⟨rfl, hw⟩; obtain rfl : w2 = w' := hw.symm) | (go_at_call 40; refine (hla.out _).mono ?_; clear hla; rintro e w3 ⟨rfl, L3⟩; obtain ⟨g4, c4, w4, lab4, r4, Yq⟩ := (Y2.out.later L3).str (lebL a) (lebL_ne a) (lebL_byte a) (by have := hbd.out; simp; omega); simp only [List.length_append, List.length_singleton] at r4 Yq; have z2 : w4.cell? ⟨wr.heap.size, 2, none⟩ = some (.int .i64 b) := Yq.cell 2 (by decide); replace r4 : Hid _ := r4; have Yy : Hid (Ys w lab4 w4 _ (d ++ [op % 256] ++ lebL a) wr.heap.size (fun j => [.int .i64 op, .int .i64 a, .int .i64 b, .int .i64 bi, .int .i64 ty, .slice LA ls.length lc, .slice B bo.len bc, .slice E el.len ec].getD j undef)) := Yq; clear Yq Y2 L3) | (at_builtin; refine wpList_app2 rfl _ _ 53 9 rfl _ _ _ rfl rfl r4.out ?_; clear r4) | (go_at_call 40; refine (hlb.out _).mono ?_; clear hlb; rintro e w5 ⟨rfl, L5⟩; obtain ⟨g6, c6, w6, lab6, r6, Yq⟩ := (Yy.out.later L5).str (lebL b) (lebL_ne b) (lebL_byte b) (by have := hbd.out; simp; omega); simp only [List.length_append, List.length_singleton] at r6 Yq; replace r6 : Hid _ := r6; have Yz : Hid (Ys w lab6 w6 _ (d ++ [op % 256] ++ lebL a ++ lebL b) wr.heap.size (fun j => [.int .i64 op, .int .i64 a, .int .i64 b, .int .i64 bi, .int .i64 ty, .slice LA ls.length lc, .slice B bo.len bc, .slice E el.len ec].getD j undef)) := Yq; clear Yq Yy L5) | (at_builtin; refine wpList_app2 rfl _ _ 53 9 rfl _ _ _ rfl rfl r6.out ?_; clear r6))
        refine ⟨⟨d0.app (.cons op a b bi ty ls bo el .nil), r, d ++ [op % 256] ++ lebL a ++ lebL b, by rw [hfin.out.2.2.2]; rfl, hfin.out.1, hfin.out.2.1, hfin.out.2.2.1, hx.out, Yz.out.1, ?_⟩, ?_⟩
        · have this : Byt w _ _ (d ++ [op % 256] ++ lebL a ++ lebL b) := ⟨_, Yz.out.2.1⟩
          simpa using this
        · simp [intOf]
          omega
      by_cases k8 : fo op = 8
      · have hx : Hid (ltB f = (d ++ [op % 256] ++ lit op bi) ++ ltB r) := by
          show _ = _
          rw [hlt]
          simp [ltB, k8]
        have hbd : Hid (d.length + 1 + (lit op bi).length < 100000000000) := by
          have h := hlB
          rw [hx.out] at h
          simp at h
          show _ < _
          omega
        have kf : Hid (fo op = 8) := k8
        rw [k8] at hform
        clear k8
        have hlit : Hid (∀ w : World, Calls Try.prog 41 #[.agg #[.int .i64 op, .int .i64 a, .int .i64 b, .int .i64 bi, .int .i64 ty, .slice LA ls.length lc, .slice B bo.len bc, .slice E el.len ec]] w fun e w' => e = .returned (.string (strOfNums (lit op bi))) ∧ Later w w') := literal_any op a b bi ty LA B E ls.length lc bo.len bc el.len ec i4
        clear hlt hA hTB hTE hLs i1 i2 i3 i5 hlB hdl
        go_wp2_with (first | (at_builtin; refine wpList_app rfl _ _ 53 rfl _ _ _ rfl rfl r2.out ?_; clear r2) | (go_at_call 38; refine (hform.out _).mono ?_; rintro e w' ⟨rfl, hw⟩; obtain rfl : w2 = w' := hw.symm) | (go_at_call 41; refine (hlit.out _).mono ?_; rintro e w3 ⟨rfl, L3⟩; obtain ⟨g4, c4, w4, lab4, r4, Yq⟩ := (Y2.out.later L3).str (lit op bi) (lit_ne op bi) (lit_byte op bi) (by have := hbd.out; simp; omega); simp only [List.length_append, List.length_singleton] at r4 Yq; replace r4 : Hid _ := r4; have Yz : Hid (Ys w lab4 w4 _ (d ++ [op % 256] ++ lit op bi) wr.heap.size (fun j => [.int .i64 op, .int .i64 a, .int .i64 b, .int .i64 bi, .int .i64 ty, .slice LA ls.length lc, .slice B bo.len bc, .slice E el.len ec].getD j undef)) := Yq; clear Yq Y2 L3) | (at_builtin; refine wpList_app2 rfl _ _ 53 9 rfl _ _ _ rfl rfl r4.out ?_; clear r4))
        refine ⟨⟨d0.app (.cons op a b bi ty ls bo el .nil), r, d ++ [op % 256] ++ lit op bi, by rw [hfin.out.2.2.2]; rfl, hfin.out.1, hfin.out.2.1, hfin.out.2.2.1, hx.out, Yz.out.1, ?_⟩, ?_⟩
        · have this : Byt w _ _ (d ++ [op % 256] ++ lit op bi) := ⟨_, Yz.out.2.1⟩
          simpa using this
        · simp [intOf]
          omega
      by_cases k1 : fo op = 1 ∧ el.len = 0
      · have hx : Hid (ltB f = (d ++ [op % 256] ++ [ty % 256] ++ ltB bo ++ [11]) ++ ltB r) := by
          show _ = _
          rw [hlt]
          simp [ltB, k1.1, k1.2]
        have hbd : Hid (d.length + 1 + 1 + (ltB bo).length + 1 < 100000000000) := by
          have h := hlB
          rw [hx.out] at h
          simp at h
          show _ < _
          omega
        obtain ⟨g3, c3, w3, lab3, r3, Y3⟩ := Y2.out.more (ty % 256) (by have := hbd.out; simp; omega)
        simp only [List.length_append, List.length_singleton] at r3 Y3
        replace r3 : Hid _ := r3
        have hty := op_wrap ty
        have t6 : w3.cell? ⟨wr.heap.size, 6, none⟩ = some (.slice B bo.len bc) := Y3.cell 6 (by decide)
        have hcb := hib.out w3 Y3.1 (by have := hbd.out; omega)
        replace hcb : Hid (Calls Try.prog 25 #[.slice B bo.len bc] w3 fun e w' => ∃ A' c', e = .returned (.slice A' (ltB bo).length c') ∧ Hid (Byt w3 w' (.slice A' (ltB bo).length c') (ltB bo)) ∧ Hid (Later w3 w')) := hcb
        replace Y3 : Hid (Ys w lab3 w3 (.slice (some ⟨g3, 0, none⟩) (d.length + 1 + 1) c3) (d ++ [op % 256] ++ [ty % 256]) wr.heap.size (fun j => [.int .i64 op, .int .i64 a, .int .i64 b, .int .i64 bi, .int .i64 ty, .slice LA ls.length lc, .slice B bo.len bc, .slice E el.len ec].getD j undef)) := Y3
        have kf : Hid (fo op = 1) := k1.1
        have ke : el.len = 0 := k1.2
        rw [k1.1] at hform
        clear k1 y6 hib
        generalize el.len = ne at *
        subst ke
        clear hlt hA hTB hTE hLs i1 i2 i3 i5 hlB hdl
        go_wp2_with (first | (at_builtin; refine wpList_app rfl _ _ 53 rfl _ _ _ rfl rfl r2.out ?_; clear r2) | (go_at_call 38; refine (hform.out _).mono ?_; rintro e w' ⟨rfl, hw⟩; obtain rfl : w2 = w' := hw.symm) | (at_builtin; refine wpList_app rfl _ _ 53 rfl _ _ _ rfl rfl r3.out ?_; clear r3) | (go_at_call 25; refine hcb.out.mono ?_; clear hcb; rintro e w4 ⟨A', c', rfl, hBy, L4⟩; obtain ⟨A5, c5, w5, lab5, r5, Y5⟩ := (Y3.out.later L4.out).all (ltB bo) A' c' hBy.out (by have := hbd.out; simp; omega); simp only [List.length_append, List.length_singleton] at r5 Y5; have z7 : w5.cell? ⟨wr.heap.size, 7, none⟩ = some (.slice E 0 ec) := Y5.cell 7 (by decide); have zp := cell_lt z7; obtain ⟨g6, c6, w6, lab6, r6, Y6⟩ := Y5.more 11 (by have := hbd.out; simp; omega); simp only [List.length_append, List.length_singleton] at r6 Y6; replace r5 : Hid _ := r5; replace r6 : Hid _ := r6; clear Y5 Y3 hBy L4; have Yz : Hid (Ys w lab6 w6 _ (d ++ [op % 256] ++ [ty % 256] ++ ltB bo ++ [11]) wr.heap.size _) := Y6; clear Y6) | (at_builtin; refine wpList_app rfl _ _ 53 rfl _ _ _ rfl rfl r5.out ?_; clear r5) | (at_builtin; refine wpList_app rfl _ _ 53 rfl _ _ _ rfl rfl r6.out ?_; clear r6))
        refine ⟨⟨d0.app (.cons op a b bi ty ls bo el .nil), r, d ++ [op % 256] ++ [ty % 256] ++ ltB bo ++ [11], by rw [hfin.out.2.2.2]; rfl, hfin.out.1, hfin.out.2.1, hfin.out.2.2.1, hx.out, Yz.out.1, ?_⟩, ?_⟩
        · have this : Byt w _ _ (d ++ [op % 256] ++ [ty % 256] ++ ltB bo ++ [11]) := ⟨_, Yz.out.2.1⟩
          simpa using this
        · simp [intOf]
          omega
      by_cases k1' : fo op = 1 ∧ ¬ el.len = 0
      · have hx : Hid (ltB f = (d ++ [op % 256] ++ [ty % 256] ++ ltB bo ++ [5] ++ ltB el ++ [11]) ++ ltB r) := by
          show _ = _
          rw [hlt]
          simp [ltB, k1'.1, k1'.2]
        have hbd : Hid (d.length + 1 + 1 + (ltB bo).length + 1 + (ltB el).length + 1 < 100000000000) := by
          have h := hlB
          rw [hx.out] at h
          simp at h
          show _ < _
          omega
        obtain ⟨g3, c3, w3, lab3, r3, Y3⟩ := Y2.out.more (ty % 256) (by have := hbd.out; simp; omega)
        simp only [List.length_append, List.length_singleton] at r3 Y3
        replace r3 : Hid _ := r3
        have hty := op_wrap ty
        have t6 : w3.cell? ⟨wr.heap.size, 6, none⟩ = some (.slice B bo.len bc) := Y3.cell 6 (by decide)
        have hcb := hib.out w3 Y3.1 (by have := hbd.out; omega)
        replace hcb : Hid (Calls Try.prog 25 #[.slice B bo.len bc] w3 fun e w' => ∃ A' c', e = .returned (.slice A' (ltB bo).length c') ∧ Hid (Byt w3 w' (.slice A' (ltB bo).length c') (ltB bo)) ∧ Hid (Later w3 w')) := hcb
        replace Y3 : Hid (Ys w lab3 w3 (.slice (some ⟨g3, 0, none⟩) (d.length + 1 + 1) c3) (d ++ [op % 256] ++ [ty % 256]) wr.heap.size (fun j => [.int .i64 op, .int .i64 a, .int .i64 b, .int .i64 bi, .int .i64 ty, .slice LA ls.length lc, .slice B bo.len bc, .slice E el.len ec].getD j undef)) := Y3
        have kf : Hid (fo op = 1) := k1'.1
        have ke : ¬ el.len = 0 := k1'.2
        rw [k1'.1] at hform
        clear k1' y6 hib
        have ke2 : (0 : Int) < (el.len : Int) := by omega
        clear hlt hA hTB hTE hLs i1 i2 i3 i5 hlB hdl
        go_wp2_with (first | (at_builtin; refine wpList_app rfl _ _ 53 rfl _ _ _ rfl rfl r2.out ?_; clear r2) | (go_at_call 38; refine (hform.out _).mono ?_; rintro e w' ⟨rfl, hw⟩; obtain rfl : w2 = w' := hw.symm) | (at_builtin; refine wpList_app rfl _ _ 53 rfl _ _ _ rfl rfl r3.out ?_; clear r3) | (go_at_call 25; refine hcb.out.mono ?_; clear hcb; rintro e w4 ⟨A', c', rfl, hBy, L4⟩; obtain ⟨A5, c5, w5, lab5, r5, Y5⟩ := (Y3.out.later L4.out).all (ltB bo) A' c' hBy.out (by have := hbd.out; simp; omega); simp only [List.length_append, List.length_singleton] at r5 Y5; have z7 : w5.cell? ⟨wr.heap.size, 7, none⟩ = some (.slice E el.len ec) := Y5.cell 7 (by decide); have zp := cell_lt z7; obtain ⟨g6, c6, w6, lab6, r6, Y6⟩ := Y5.more 5 (by have := hbd.out; simp; omega); simp only [List.length_append, List.length_singleton] at r6 Y6; replace r5 : Hid _ := r5; replace r6 : Hid _ := r6; clear Y5 Y3 hBy L4; have u7 : w6.cell? ⟨wr.heap.size, 7, none⟩ = some (.slice E el.len ec) := Y6.cell 7 (by decide); have hce := hie.out w6 Y6.1 (by have := hbd.out; omega); replace hce : Hid (Calls Try.prog 25 #[.slice E el.len ec] w6 fun e w' => ∃ A' c', e = .returned (.slice A' (ltB el).length c') ∧ Hid (Byt w6 w' (.slice A' (ltB el).length c') (ltB el)) ∧ Hid (Later w6 w')) := hce; replace Y6 : Hid (Ys w lab6 w6 _ (d ++ [op % 256] ++ [ty % 256] ++ ltB bo ++ [5]) wr.heap.size (fun j => [.int .i64 op, .int .i64 a, .int .i64 b, .int .i64 bi, .int .i64 ty, .slice LA ls.length lc, .slice B bo.len bc, .slice E el.len ec].getD j undef)) := Y6; clear hie) | (at_builtin; refine wpList_app rfl _ _ 53 rfl _ _ _ rfl rfl r5.out ?_; clear r5) | (at_builtin; refine wpList_app rfl _ _ 53 rfl _ _ _ rfl rfl r6.out ?_; clear r6) | (go_at_call 25; refine hce.out.mono ?_; clear hce; rintro e w7 ⟨E', ec', rfl, hBz, L7⟩; obtain ⟨A8, c8, w8, lab8, r8, Y8⟩ := (Y6.out.later L7.out).all (ltB el) E' ec' hBz.out (by have := hbd.out; simp; omega); simp only [List.length_append, List.length_singleton] at r8 Y8; obtain ⟨g9, c9, w9, lab9, r9, Y9⟩ := Y8.more 11 (by have := hbd.out; simp; omega); simp only [List.length_append, List.length_singleton] at r9 Y9; replace r8 : Hid _ := r8; replace r9 : Hid _ := r9; have Yz : Hid (Ys w lab9 w9 _ (d ++ [op % 256] ++ [ty % 256] ++ ltB bo ++ [5] ++ ltB el ++ [11]) wr.heap.size (fun j => [.int .i64 op, .int .i64 a, .int .i64 b, .int .i64 bi, .int .i64 ty, .slice LA ls.length lc, .slice B bo.len bc, .slice E el.len ec].getD j undef)) := Y9; clear Y8 Y9 Y6 hBz L7) | (at_builtin; refine wpList_app rfl _ _ 53 rfl _ _ _ rfl rfl r8.out ?_; clear r8) | (at_builtin; refine wpList_app rfl _ _ 53 rfl _ _ _ rfl rfl r9.out ?_; clear r9))
        refine ⟨⟨d0.app (.cons op a b bi ty ls bo el .nil), r, d ++ [op % 256] ++ [ty % 256] ++ ltB bo ++ [5] ++ ltB el ++ [11], by rw [hfin.out.2.2.2]; rfl, hfin.out.1, hfin.out.2.1, hfin.out.2.2.1, hx.out, Yz.out.1, ?_⟩, ?_⟩
        · have this : Byt w _ _ (d ++ [op % 256] ++ [ty % 256] ++ ltB bo ++ [5] ++ ltB el ++ [11]) := ⟨_, Yz.out.2.1⟩
          simpa using this
        · simp [intOf]
          omega
      by_cases k2 : fo op = 2 ∧ el.len = 0
      · have hx : Hid (ltB f = (d ++ [op % 256] ++ [ty % 256] ++ ltB bo ++ [11]) ++ ltB r) := by
          show _ = _
          rw [hlt]
          simp [ltB, k2.1, k2.2]
        have hbd : Hid (d.length + 1 + 1 + (ltB bo).length + 1 < 100000000000) := by
          have h := hlB
          rw [hx.out] at h
          simp at h
          show _ < _
          omega
        obtain ⟨g3, c3, w3, lab3, r3, Y3⟩ := Y2.out.more (ty % 256) (by have := hbd.out; simp; omega)
        simp only [List.length_append, List.length_singleton] at r3 Y3
        replace r3 : Hid _ := r3
        have hty := op_wrap ty
        have t6 : w3.cell? ⟨wr.heap.size, 6, none⟩ = some (.slice B bo.len bc) := Y3.cell 6 (by decide)
        have hcb := hib.out w3 Y3.1 (by have := hbd.out; omega)
        replace hcb : Hid (Calls Try.prog 25 #[.slice B bo.len bc] w3 fun e w' => ∃ A' c', e = .returned (.slice A' (ltB bo).length c') ∧ Hid (Byt w3 w' (.slice A' (ltB bo).length c') (ltB bo)) ∧ Hid (Later w3 w')) := hcb
        replace Y3 : Hid (Ys w lab3 w3 (.slice (some ⟨g3, 0, none⟩) (d.length + 1 + 1) c3) (d ++ [op % 256] ++ [ty % 256]) wr.heap.size (fun j => [.int .i64 op, .int .i64 a, .int .i64 b, .int .i64 bi, .int .i64 ty, .slice LA ls.length lc, .slice B bo.len bc, .slice E el.len ec].getD j undef)) := Y3
        have kf : Hid (fo op = 2) := k2.1
        have ke : el.len = 0 := k2.2
        rw [k2.1] at hform
        clear k2 y6 hib
        generalize el.len = ne at *
        subst ke
        clear hlt hA hTB hTE hLs i1 i2 i3 i5 hlB hdl
        go_wp2_with (first | (at_builtin; refine wpList_app rfl _ _ 53 rfl _ _ _ rfl rfl r2.out ?_; clear r2) | (go_at_call 38; refine (hform.out _).mono ?_; rintro e w' ⟨rfl, hw⟩; obtain rfl : w2 = w' := hw.symm) | (at_builtin; refine wpList_app rfl _ _ 53 rfl _ _ _ rfl rfl r3.out ?_; clear r3) | (go_at_call 25; refine hcb.out.mono ?_; clear hcb; rintro e w4 ⟨A', c', rfl, hBy, L4⟩; obtain ⟨A5, c5, w5, lab5, r5, Y5⟩ := (Y3.out.later L4.out).all (ltB bo) A' c' hBy.out (by have := hbd.out; simp; omega); simp only [List.length_append, List.length_singleton] at r5 Y5; have z7 : w5.cell? ⟨wr.heap.size, 7, none⟩ = some (.slice E 0 ec) := Y5.cell 7 (by decide); have zp := cell_lt z7; obtain ⟨g6, c6, w6, lab6, r6, Y6⟩ := Y5.more 11 (by have := hbd.out; simp; omega); simp only [List.length_append, List.length_singleton] at r6 Y6; replace r5 : Hid _ := r5; replace r6 : Hid _ := r6; clear Y5 Y3 hBy L4; have Yz : Hid (Ys w lab6 w6 _ (d ++ [op % 256] ++ [ty % 256] ++ ltB bo ++ [11]) wr.heap.size _) := Y6; clear Y6) | (at_builtin; refine wpList_app rfl _ _ 53 rfl _ _ _ rfl rfl r5.out ?_; clear r5) | (at_builtin; refine wpList_app rfl _ _ 53 rfl _ _ _ rfl rfl r6.out ?_; clear r6))
        refine ⟨⟨d0.app (.cons op a b bi ty ls bo el .nil), r, d ++ [op % 256] ++ [ty % 256] ++ ltB bo ++ [11], by rw [hfin.out.2.2.2]; rfl, hfin.out.1, hfin.out.2.1, hfin.out.2.2.1, hx.out, Yz.out.1, ?_⟩, ?_⟩
        · have this : Byt w _ _ (d ++ [op % 256] ++ [ty % 256] ++ ltB bo ++ [11]) := ⟨_, Yz.out.2.1⟩
          simpa using this
        · simp [intOf]
          omega
      by_cases k2' : fo op = 2 ∧ ¬ el.len = 0
      · have hx : Hid (ltB f = (d ++ [op % 256] ++ [ty % 256] ++ ltB bo ++ [5] ++ ltB el ++ [11]) ++ ltB r) := by
          show _ = _
          rw [hlt]
          simp [ltB, k2'.1, k2'.2]
        have hbd : Hid (d.length + 1 + 1 + (ltB bo).length + 1 + (ltB el).length + 1 < 100000000000) := by
          have h := hlB
          rw [hx.out] at h
          simp at h
          show _ < _
          omega
        obtain ⟨g3, c3, w3, lab3, r3, Y3⟩ := Y2.out.more (ty % 256) (by have := hbd.out; simp; omega)
        simp only [List.length_append, List.length_singleton] at r3 Y3
        replace r3 : Hid _ := r3
        have hty := op_wrap ty
        have t6 : w3.cell? ⟨wr.heap.size, 6, none⟩ = some (.slice B bo.len bc) := Y3.cell 6 (by decide)
        have hcb := hib.out w3 Y3.1 (by have := hbd.out; omega)
        replace hcb : Hid (Calls Try.prog 25 #[.slice B bo.len bc] w3 fun e w' => ∃ A' c', e = .returned (.slice A' (ltB bo).length c') ∧ Hid (Byt w3 w' (.slice A' (ltB bo).length c') (ltB bo)) ∧ Hid (Later w3 w')) := hcb
        replace Y3 : Hid (Ys w lab3 w3 (.slice (some ⟨g3, 0, none⟩) (d.length + 1 + 1) c3) (d ++ [op % 256] ++ [ty % 256]) wr.heap.size (fun j => [.int .i64 op, .int .i64 a, .int .i64 b, .int .i64 bi, .int .i64 ty, .slice LA ls.length lc, .slice B bo.len bc, .slice E el.len ec].getD j undef)) := Y3
        have kf : Hid (fo op = 2) := k2'.1
        have ke : ¬ el.len = 0 := k2'.2
        rw [k2'.1] at hform
        clear k2' y6 hib
        have ke2 : (0 : Int) < (el.len : Int) := by omega
        clear hlt hA hTB hTE hLs i1 i2 i3 i5 hlB hdl
        go_wp2_with (first | (at_builtin; refine wpList_app rfl _ _ 53 rfl _ _ _ rfl rfl r2.out ?_; clear r2) | (go_at_call 38; refine (hform.out _).mono ?_; rintro e w' ⟨rfl, hw⟩; obtain rfl : w2 = w' := hw.symm) | (at_builtin; refine wpList_app rfl _ _ 53 rfl _ _ _ rfl rfl r3.out ?_; clear r3) | (go_at_call 25; refine hcb.out.mono ?_; clear hcb; rintro e w4 ⟨A', c', rfl, hBy, L4⟩; obtain ⟨A5, c5, w5, lab5, r5, Y5⟩ := (Y3.out.later L4.out).all (ltB bo) A' c' hBy.out (by have := hbd.out; simp; omega); simp only [List.length_append, List.length_singleton] at r5 Y5; have z7 : w5.cell? ⟨wr.heap.size, 7, none⟩ = some (.slice E el.len ec) := Y5.cell 7 (by decide); have zp := cell_lt z7; obtain ⟨g6, c6, w6, lab6, r6, Y6⟩ := Y5.more 5 (by have := hbd.out; simp; omega); simp only [List.length_append, List.length_singleton] at r6 Y6; replace r5 : Hid _ := r5; replace r6 : Hid _ := r6; clear Y5 Y3 hBy L4; have u7 : w6.cell? ⟨wr.heap.size, 7, none⟩ = some (.slice E el.len ec) := Y6.cell 7 (by decide); have hce := hie.out w6 Y6.1 (by have := hbd.out; omega); replace hce : Hid (Calls Try.prog 25 #[.slice E el.len ec] w6 fun e w' => ∃ A' c', e = .returned (.slice A' (ltB el).length c') ∧ Hid (Byt w6 w' (.slice A' (ltB el).length c') (ltB el)) ∧ Hid (Later w6 w')) := hce; replace Y6 : Hid (Ys w lab6 w6 _ (d ++ [op % 256] ++ [ty % 256] ++ ltB bo ++ [5]) wr.heap.size (fun j => [.int .i64 op, .int .i64 a, .int .i64 b, .int .i64 bi, .int .i64 ty, .slice LA ls.length lc, .slice B bo.len bc, .slice E el.len ec].getD j undef)) := Y6; clear hie) | (at_builtin; refine wpList_app rfl _ _ 53 rfl _ _ _ rfl rfl r5.out ?_; clear r5) | (at_builtin; refine wpList_app rfl _ _ 53 rfl _ _ _ rfl rfl r6.out ?_; clear r6) | (go_at_call 25; refine hce.out.mono ?_; clear hce; rintro e w7 ⟨E', ec', rfl, hBz, L7⟩; obtain ⟨A8, c8, w8, lab8, r8, Y8⟩ := (Y6.out.later L7.out).all (ltB el) E' ec' hBz.out (by have := hbd.out; simp; omega); simp only [List.length_append, List.length_singleton] at r8 Y8; obtain ⟨g9, c9, w9, lab9, r9, Y9⟩ := Y8.more 11 (by have := hbd.out; simp; omega); simp only [List.length_append, List.length_singleton] at r9 Y9; replace r8 : Hid _ := r8; replace r9 : Hid _ := r9; have Yz : Hid (Ys w lab9 w9 _ (d ++ [op % 256] ++ [ty % 256] ++ ltB bo ++ [5] ++ ltB el ++ [11]) wr.heap.size (fun j => [.int .i64 op, .int .i64 a, .int .i64 b, .int .i64 bi, .int .i64 ty, .slice LA ls.length lc, .slice B bo.len bc, .slice E el.len ec].getD j undef)) := Y9; clear Y8 Y9 Y6 hBz L7) | (at_builtin; refine wpList_app rfl _ _ 53 rfl _ _ _ rfl rfl r8.out ?_; clear r8) | (at_builtin; refine wpList_app rfl _ _ 53 rfl _ _ _ rfl rfl r9.out ?_; clear r9))
        refine ⟨⟨d0.app (.cons op a b bi ty ls bo el .nil), r, d ++ [op % 256] ++ [ty % 256] ++ ltB bo ++ [5] ++ ltB el ++ [11], by rw [hfin.out.2.2.2]; rfl, hfin.out.1, hfin.out.2.1, hfin.out.2.2.1, hx.out, Yz.out.1, ?_⟩, ?_⟩
        · have this : Byt w _ _ (d ++ [op % 256] ++ [ty % 256] ++ ltB bo ++ [5] ++ ltB el ++ [11]) := ⟨_, Yz.out.2.1⟩
          simpa using this
        · simp [intOf]
          omega
      by_cases k4 : fo op = 4
      · have hx : Hid (ltB f = (d ++ [op % 256] ++ lebL ((ls.length : Int) - 1) ++ labB ls) ++ ltB r) := by
          show _ = _
          rw [hlt]
          simp [ltB, k4]
        have hbd : Hid (d.length + 1 + (lebL ((ls.length : Int) - 1)).length + (labB ls).length < 100000000000) := by
          have h := hlB
          rw [hx.out] at h
          simp at h
          show _ < _
          omega
        have kf : Hid (fo op = 4) := k4
        rw [k4] at hform
        clear k4
        have hl1 : Hid (∀ w : World, Calls Try.prog 40 #[.int .i64 ((ls.length : Int) - 1)] w fun e w' => e = .returned (.string (strOfNums (lebL ((ls.length : Int) - 1)))) ∧ Later w w') := hleb.out _
        replace hLs : Hid (Lq Z w LA ls) := hLs
        clear hlt hA hTB hTE i1 i2 i3 i5 hlB hdl
        go_wp2_with (first | (at_builtin; refine wpList_app rfl _ _ 53 rfl _ _ _ rfl rfl r2.out ?_; clear r2) | (go_at_call 38; refine (hform.out _).mono ?_; rintro e w' ⟨rfl, hw⟩; obtain rfl : w2 = w' := hw.symm) | (go_at_call 40; refine (hl1.out _).mono ?_; clear hl1; rintro e w3 ⟨rfl, L3⟩; obtain ⟨g4, c4, w4, lab4, r4, Yq⟩ := (Y2.out.later L3).str (lebL ((ls.length : Int) - 1)) (lebL_ne _) (lebL_byte _) (by have := hbd.out; simp; omega); simp only [List.length_append, List.length_singleton] at r4 Yq; replace r4 : Hid _ := r4; have Yz : Hid (Ys w lab4 w4 (.slice (some ⟨g4, 0, none⟩) (d.length + 1 + (lebL ((ls.length : Int) - 1)).length) c4) (d ++ [op % 256] ++ lebL ((ls.length : Int) - 1)) wr.heap.size (fun j => [.int .i64 op, .int .i64 a, .int .i64 b, .int .i64 bi, .int .i64 ty, .slice LA ls.length lc, .slice B bo.len bc, .slice E el.len ec].getD j undef)) := Yq; clear Yq Y2 L3) | (at_builtin; refine wpList_app2 rfl _ _ 53 9 rfl _ _ _ rfl rfl r4.out ?_; clear r4))
        generalize wr.heap.size = p at *
        generalize hD : d ++ [op % 256] ++ lebL ((ls.length : Int) - 1) = D at *
        have hDl : d.length + 1 + (lebL ((ls.length : Int) - 1)).length = D.length := by rw [← hD]; simp only [List.length_append, List.length_singleton]
        rw [hDl] at Yz hbd ⊢
        go_loopw [3, 6] (fun v i wx => ∃ (labx : Nat → Nat) (j : Nat), j ≤ ls.length ∧ i = .int .i64 (j : Nat) ∧ Ys w labx wx v (D ++ labB (ls.take j)) p (fun j => [.int .i64 op, .int .i64 a, .int .i64 b, .int .i64 bi, .int .i64 ty, .slice LA ls.length lc, .slice B bo.len bc, .slice E el.len ec].getD j undef)) (fun v i _ => ls.length - (intOf i).toNat)
        case atStart => exact ⟨lab4, 0, Nat.zero_le _, rfl, by simpa [labB] using Yz.out⟩
        case round =>
          obtain ⟨labx, j, hj, rfl, Yx⟩ := hrel
          obtain ⟨Ax, cx, rfl⟩ := Yx.form
          have z5 : wr.cell? ⟨p, 5, none⟩ = some (.slice LA ls.length lc) := Yx.cell 5 (by decide)
          have zp := cell_lt z5
          by_cases hjl : j < ls.length
          · have hl9 : (j : Int) < (ls.length : Int) := by omega
            have hlx : Hid (∀ w : World, Calls Try.prog 40 #[.int .i64 (ls.getD j 0)] w fun e w' => e = .returned (.string (strOfNums (lebL (ls.getD j 0)))) ∧ Later w w') := hleb.out _
            have htk := labB_take ls j hjl
            have hle := labB_le ls (j + 1)
            rw [htk] at hle
            simp only [List.length_append] at hle
            have hstr : Hid (∀ w5, Later wr w5 → ∃ g6 c6 w6 lab6, Hid ((Builtin.append_ #[53, 9] 53 #[.slice Ax (D ++ labB (ls.take j)).length cx, .string (strOfNums (lebL (ls.getD j 0)))]).run Try.prog w5 = .ok (.slice (some ⟨g6, 0, none⟩) (D ++ labB (ls.take (j + 1))).length c6) w6) ∧ Hid (Ys w lab6 w6 (.slice (some ⟨g6, 0, none⟩) (D ++ labB (ls.take (j + 1))).length c6) (D ++ labB (ls.take (j + 1))) p (fun j => [.int .i64 op, .int .i64 a, .int .i64 b, .int .i64 bi, .int .i64 ty, .slice LA ls.length lc, .slice B bo.len bc, .slice E el.len ec].getD j undef))) := fun w5 L5 => by
              obtain ⟨g6, c6, w6, lab6, r6, Y6⟩ := (Yx.later L5).str (lebL (ls.getD j 0)) (lebL_ne _) (lebL_byte _) (by have := hbd.out; simp only [List.length_append]; omega)
              rw [← List.length_append, List.append_assoc, ← htk] at r6 Y6
              exact ⟨g6, c6, w6, lab6, r6, Y6⟩
            obtain ⟨b', o', rfl, hc⟩ := (show Lq Z w LA ls from hLs).1.resolve_left (by omega)
            have q0 : wr.cell? ⟨b', o' + j, none⟩ = some (.int .i64 (ls.getD j 0)) := Yx.1.cell_of (hc j hjl)
            have q1 := cell_lt q0
            clear hc htk hle Yx hleb
            generalize ls.getD j 0 = x at *
            generalize (D ++ labB (ls.take j)).length = m1 at *
            go_wp2_with (first | (go_at_call 40; refine (hlx.out _).mono ?_; clear hlx; rintro e w5 ⟨rfl, L5⟩; obtain ⟨g6, c6, w6, lab6, r6, Y6⟩ := hstr.out w5 L5; clear L5) | (at_builtin; refine wpList_app2 rfl _ _ 53 9 rfl _ _ _ rfl rfl r6.out ?_; clear r6))
            go_roundw
            case rel => exact ⟨lab6, j + 1, by omega, by go_num, by rw [← List.length_append]; exact Y6.out⟩
            case measure => simp [intOf]; omega
          · have hje : j = ls.length := by omega
            have hl9 : ¬ (j : Int) < (ls.length : Int) := by omega
            have Yz2 : Hid (Ys w labx wr (.slice Ax (D ++ labB (ls.take j)).length cx) (D ++ labB ls) p (fun j => [.int .i64 op, .int .i64 a, .int .i64 b, .int .i64 bi, .int .i64 ty, .slice LA ls.length lc, .slice B bo.len bc, .slice E el.len ec].getD j undef)) := by
              have := Yx
              rw [hje, List.take_length] at this ⊢
              exact this
            clear Yx
            generalize (D ++ labB (ls.take j)).length = m1 at *
            go_wp2_with fail
            refine ⟨⟨d0.app (.cons op a b bi ty ls bo el .nil), r, D ++ labB ls, by rw [hfin.out.2.2.2]; rfl, hfin.out.1, hfin.out.2.1, hfin.out.2.2.1, hx.out, Yz2.out.1, _, Yz2.out.2.1⟩, ?_⟩
            simp [intOf]
            omega
      exfalso
      have := fo_rng op
      have kx : ¬ fo op = 1 := fun h => by
        by_cases h0 : el.len = 0
        · exact k1 ⟨h, h0⟩
        · exact k1' ⟨h, h0⟩
      have ky : ¬ fo op = 2 := fun h => by
        by_cases h0 : el.len = 0
        · exact k2 ⟨h, h0⟩
        · exact k2' ⟨h, h0⟩
      omega
theorem list_any : ∀ (k : Nat) (f : Fs), f.sz ≤ k → f.Ok → f.len * 112 ≤ 140737488351232 → ListC f
  | 0, f, hk, ho, hn => by
    cases f using Fs.split with
    | nil =>
      intro Z w A c hT _
      simp only [Fs.len, ltB]
      go_enter Try.func25, Try.ntmps25
      go_wp2_with fail
      go_loopw [3, 4] (fun v i wr => v = .slice none 0 0 ∧ i = .int .i64 0 ∧ wr = w) (fun v i _ => 0)
      case atStart => exact ⟨rfl, rfl, rfl⟩
      case round =>
        obtain ⟨rfl, rfl, rfl⟩ := hrel
        go_wp2_with fail
        go_ret
        exact ⟨none, 0, rfl, byt_nil _ _, Lz _⟩
    | cons => simp [Fs.sz] at hk
  | k + 1, f, hk, ho, hn => list_round k f (fun f' h1 h2 h3 => list_any k f' h1 h2 h3) hk ho hn
end Go.Proofs.Ytkdfmgdadnlnlaa
