/- Over this seat's translation: a list of instructions copied. -/
import Derived.Test.YtonnmbmdmkmhmaaXD
set_option linter.unusedVariables false
set_option linter.unusedSimpArgs false
set_option maxRecDepth 100000
set_option maxHeartbeats 4000000
namespace Go.Proofs.Ytonnmbmdmkmhmaa
open Go.RowKit
/-- what CopyInstrs makes of a list -/
def CopyC (f : Fs) : Prop := ∀ (Z : Nat → Prop) (w : World) (A : Option Addr) (c : Nat), Tr Z w A f →
  Calls Try.prog 21 #[.slice A f.len c] w fun e w' => ∃ A' c', e = .returned (.slice A' f.len c') ∧ Hid (Tr (w.heap.size ≤ ·) w' A' f) ∧ Hid (Later w w')
theorem lq_owns {w : World} {base g n cap : Nat} {ls : List Int} (h : w.ownsRow base 3 1 (.slice (some ⟨g, 0, none⟩) n cap) n (xs (fun j => ls.getD j 0) ls.length)) : Lq (base ≤ ·) w (some ⟨g, 0, none⟩) ls := by
  refine ⟨Or.inr ⟨g, 0, rfl, fun j hj => ?_⟩, fun _ a ha => ?_⟩
  · rw [Nat.zero_add]
    exact owns_cell h (xs_get _ _ _ hj)
  · cases ha
    exact (owns_base h).1
/-- the fields of an instruction at hand -/
def fl (op a b bi ty : Int) (x y z : Value) (j : Nat) : Value := [Value.int .i64 op, .int .i64 a, .int .i64 b, .int .i64 bi, .int .i64 ty, x, y, z].getD j undef
theorem copy_round (k : Nat) (f : Fs) (IH : ∀ f' : Fs, f'.sz ≤ k → f'.Ok → f'.len * 112 ≤ 140737488351232 → CopyC f') (hk : f.sz ≤ k + 1) (ho : f.Ok) (hn : f.len * 112 ≤ 140737488351232) : CopyC f := by
  intro Z w A c hT
  replace hT : Hid (Tr Z w A f) := hT
  replace IH : Hid (∀ f' : Fs, f'.sz ≤ k → f'.Ok → f'.len * 112 ≤ 140737488351232 → CopyC f') := IH
  replace ho : Hid f.Ok := ho
  obtain ⟨n, hn2⟩ : ∃ n, n = f.len := ⟨_, rfl⟩
  rw [← hn2] at hn ⊢
  replace hn2 : Hid (n = f.len) := hn2
  replace hk : Hid (f.sz ≤ k + 1) := hk
  go_enter Try.func21, Try.ntmps21
  go_wp2_with fail
  go_loopw [3, 4] (fun v i wr => ∃ (lab : Nat → Nat) (d r : Fs), i = .int .i64 (d.len : Nat) ∧ d.app r = f ∧ r.Ok ∧ r.sz ≤ k + 1 ∧ Cs w lab wr v d) (fun v i _ => n - (intOf i).toNat)
  case atStart => exact ⟨_, .nil, f, rfl, rfl, ho.out, hk.out, Cs.start w⟩
  case round =>
    obtain ⟨lab, d, r, rfl, hf, hok, hsz, hC⟩ := hrel
    obtain ⟨Av, cv, rfl⟩ := hC.form
    cases r using Fs.split with
    | nil =>
      have hd : d = f := by rw [← hf, Fs.app_nil]
      have hl : ¬ (d.len : Int) < (n : Int) := by rw [hn2.out, hd]; omega
      have hl2 : Hid (d.len = n) := by show _ = _; rw [hn2.out, hd]
      replace hC : Hid (Cs w lab wr (.slice Av d.len cv) d) := hC
      clear hok hsz
      replace hf : Hid _ := hf
      replace hd : Hid _ := hd
      go_wp2_with fail
      go_ret
      refine ⟨Av, ⟨cv, by rw [← hl2.out]; rfl⟩, ?_, ?_⟩
      · have := Cs.tr hC.out
        rw [hd.out] at this
        exact this
      · obtain ⟨L, h1, _⟩ := hC.out
        exact h1
    | cons op a b bi ty ls bo el r =>
      have hlen : d.len + r.len + 1 = n := by rw [hn2.out, ← hf, Fs.len_app]; simp only [Fs.len]; omega
      have hl : (d.len : Int) < (n : Int) := by omega
      obtain ⟨g, o, rfl, hZ, hA⟩ := (show Tr Z w A f from hT).at (by rw [← hf]; cases d using Fs.split <;> simp [Fs.app])
      rw [← hf] at hA
      obtain ⟨LA, lc, B, bc, E, ec, c0, c1, c2, c3, c4, c5, c6, c7, hLs, hB, hE, hR⟩ := (hA.drop.later (show Later w wr from hC.choose_spec.1)).head
      obtain ⟨L0, hL, hC2⟩ := id hC
      have hlt := cell_lt c0
      obtain ⟨⟨_, _, _, _, _, _⟩, o1, o2, o3, o4, o5, o6⟩ := hok
      simp only [Fs.sz] at hsz
      obtain ⟨lab1, X1⟩ := Xs.start hC (.int .i64 op) (.int .i64 a) (.int .i64 b) (.int .i64 bi) (.int .i64 ty) (.slice LA ls.length lc) (.slice B bo.len bc) (.slice E el.len ec)
      obtain ⟨W1, hW1⟩ : ∃ W1 : World, W1 = wr.alloc (.cells #[.int .i64 op, .int .i64 a, .int .i64 b, .int .i64 bi, .int .i64 ty, .slice LA ls.length lc, .slice B bo.len bc, .slice E el.len ec] 82) := ⟨_, rfl⟩
      rw [← hW1] at X1
      have s1 : W1.heap.size = wr.heap.size + 1 := by rw [hW1]; simp
      obtain ⟨g2, c2', w2, r2, ow2, L2⟩ := app_list LA ls.length lc _ 24 W1 o1 (hLs.later X1.2.2.2).1
      rw [s1] at r2
      rw [hW1] at r2
      obtain ⟨lab2, X2, -, hz2⟩ := X1.later L2
      have Q2 : Lq (Z5 w.heap.size lab2) w2 (some ⟨g2, 0, none⟩) ls := (lq_owns ow2).mono fun k hk => ⟨Nat.le_trans (X1.2.2.1.trans X1.2.2.2).size hk, hz2 k hk⟩
      have q2 : w2.cell? ⟨wr.heap.size, 5, none⟩ = some (.slice LA ls.length lc) := X2.cell 5 (by decide)
      have f2 := X2.frozen 5
      have q26 : w2.cell? ⟨wr.heap.size, 6, none⟩ = some (.slice B bo.len bc) := X2.cell 6 (by decide)
      obtain ⟨X3, k3⟩ := X2.set 5 (.slice (some ⟨g2, 0, none⟩) ls.length c2')
      have Q3 := Q2.move k3
      have p2 := cell_lt q2
      obtain ⟨W3, hW3⟩ : ∃ W3 : World, W3 = w2.setCell ⟨wr.heap.size, 5, none⟩ (.slice (some ⟨g2, 0, none⟩) ls.length c2') := ⟨_, rfl⟩
      rw [← hW3] at X3 Q3
      have hcB : Hid (Calls Try.prog 21 #[.slice B bo.len bc] W3 fun e w' => ∃ A' c', e = .returned (.slice A' bo.len c') ∧ Hid (Tr (W3.heap.size ≤ ·) w' A' bo) ∧ Hid (Later W3 w')) := IH.out bo (by omega) o4 o2 Z W3 B bc (hB.later X3.2.2.2)
      have hB4 : Hid (∀ (w4 : World) (B' : Option Addr) (bc' : Nat), Tr (W3.heap.size ≤ ·) w4 B' bo → Later W3 w4 → ∃ lab4, Xs w wr lab4 (w4.setCell ⟨wr.heap.size, 6, none⟩ (.slice B' bo.len bc')) (.slice Av d.len cv) d wr.heap.size (fun j => if j = 6 then .slice B' bo.len bc' else if j = 5 then .slice (some ⟨g2, 0, none⟩) ls.length c2' else [.int .i64 op, .int .i64 a, .int .i64 b, .int .i64 bi, .int .i64 ty, .slice LA ls.length lc, .slice B bo.len bc, .slice E el.len ec].getD j undef) ∧ Lq (Z5 w.heap.size lab4) (w4.setCell ⟨wr.heap.size, 6, none⟩ (.slice B' bo.len bc')) (some ⟨g2, 0, none⟩) ls ∧ Tr (Z5 w.heap.size lab4) (w4.setCell ⟨wr.heap.size, 6, none⟩ (.slice B' bo.len bc')) B' bo ∧ w4.cell? ⟨wr.heap.size, 6, none⟩ = some (.slice B bo.len bc) ∧ w4.cell? ⟨wr.heap.size, 7, none⟩ = some (.slice E el.len ec) ∧ w4.frozen? ⟨wr.heap.size, 6, none⟩ = false) := fun w4 B' bc' T4 L4 => by
        obtain ⟨lab4, X4, k4, hz4⟩ := X3.later L4
        obtain ⟨X5, k5⟩ := X4.set 6 (.slice B' bo.len bc')
        refine ⟨lab4, X5, (Q3.move k4).move k5, (T4.mono fun k hk => ⟨Nat.le_trans (X3.2.2.1.trans X3.2.2.2).size hk, hz4 k hk⟩).move k5, X4.cell 6 (by decide), X4.cell 7 (by decide), X4.frozen 6⟩
      replace hE : Hid (Tr Z wr E el) := hE
      replace IH2 : Hid (CopyC el) := IH.out el (by omega) o5 o3
      replace r2 : Hid _ := r2
      replace hC : Hid True := trivial
      have hE6 : Hid (∀ (lab4 : Nat → Nat) (W5 : World) (B' : Option Addr) (bc' : Nat), Xs w wr lab4 W5 (.slice Av d.len cv) d wr.heap.size (fun j => if j = 6 then .slice B' bo.len bc' else if j = 5 then .slice (some ⟨g2, 0, none⟩) ls.length c2' else [.int .i64 op, .int .i64 a, .int .i64 b, .int .i64 bi, .int .i64 ty, .slice LA ls.length lc, .slice B bo.len bc, .slice E el.len ec].getD j undef) → Lq (Z5 w.heap.size lab4) W5 (some ⟨g2, 0, none⟩) ls → Tr (Z5 w.heap.size lab4) W5 B' bo →
          Calls Try.prog 21 #[.slice E el.len ec] W5 fun e w6 => ∃ E' ec', e = .returned (.slice E' el.len ec') ∧ ∃ lab6, w6.cell? ⟨wr.heap.size, 0, none⟩ = some (.int .i64 op) ∧ w6.cell? ⟨wr.heap.size, 1, none⟩ = some (.int .i64 a) ∧ w6.cell? ⟨wr.heap.size, 2, none⟩ = some (.int .i64 b) ∧ w6.cell? ⟨wr.heap.size, 3, none⟩ = some (.int .i64 bi) ∧ w6.cell? ⟨wr.heap.size, 4, none⟩ = some (.int .i64 ty) ∧ w6.cell? ⟨wr.heap.size, 5, none⟩ = some (.slice (some ⟨g2, 0, none⟩) ls.length c2') ∧ w6.cell? ⟨wr.heap.size, 6, none⟩ = some (.slice B' bo.len bc') ∧ w6.cell? ⟨wr.heap.size, 7, none⟩ = some (.slice E el.len ec) ∧ w6.frozen? ⟨wr.heap.size, 7, none⟩ = false ∧
            ∃ g8 c8 w8 lab8, Hid ((Builtin.append_ #[59, 59] 59 #[.slice Av d.len cv, .slice (some ⟨w6.heap.size, 0, none⟩) 1 1]).run Try.prog ((w6.setCell ⟨wr.heap.size, 7, none⟩ (.slice E' el.len ec')).alloc (.cells #[.int .i64 op, .int .i64 a, .int .i64 b, .int .i64 bi, .int .i64 ty, .slice (some ⟨g2, 0, none⟩) ls.length c2', .slice B' bo.len bc', .slice E' el.len ec'] 82)) = .ok (.slice (some ⟨g8, 0, none⟩) (d.len + 1) c8) w8) ∧ Hid (Cs w lab8 w8 (.slice (some ⟨g8, 0, none⟩) (d.len + 1) c8) (d.app (.cons op a b bi ty ls bo el .nil)))) := fun lab4 W5 B' bc' X5 Q5 T5 => by
        refine (IH2.out Z W5 E ec ((show Tr Z wr E el from hE).later X5.2.2.2)).mono ?_
        rintro e w6 ⟨E', ec', rfl, T6, L6⟩
        obtain ⟨lab6, X6, k6, hz6⟩ := X5.later L6.out
        obtain ⟨X7, k7⟩ := X6.set 7 (.slice E' el.len ec')
        obtain ⟨g8, c8, w8, lab8, r8, C8, _⟩ := Cs.more X7.1 op a b bi ty ls bo el (some ⟨g2, 0, none⟩) B' E' c2' bc' ec' ((Q5.move k6).move k7) ((T5.move k6).move k7) ((T6.out.mono fun k hk => ⟨Nat.le_trans (X5.2.2.1.trans X5.2.2.2).size hk, hz6 k hk⟩).move k7) (by omega)
        have hsz : w6.heap.size = (w6.setCell ⟨wr.heap.size, 7, none⟩ (.slice E' el.len ec')).heap.size := by simp [World.setCell]
        rw [← hsz] at r8
        exact ⟨E', ec', rfl, lab6, X6.cell 0 (by decide), X6.cell 1 (by decide), X6.cell 2 (by decide), X6.cell 3 (by decide), X6.cell 4 (by decide), X6.cell 5 (by decide), X6.cell 6 (by decide), X6.cell 7 (by decide), X6.frozen 7, g8, c8, w8, lab8, r8, C8⟩
      subst hW3
      have hfin : Hid ((d.app (.cons op a b bi ty ls bo el .nil)).app r = f ∧ r.Ok ∧ r.sz ≤ k + 1 ∧ (d.app (.cons op a b bi ty ls bo el .nil)).len = d.len + 1) := ⟨by rw [Fs.app_app, ← hf]; rfl, o6, by omega, by rw [Fs.len_app]; rfl⟩
      clear hC2 X1 X2 X3 Q2 Q3 k3 hW1 hA hR hLs hB hL ow2 L2 hz2 o1 o2 o3 o4 o5 o6 IH IH2 hT hE hsz hf hC s1
      go_wp2_with (first | (at_builtin; refine wpList_app rfl _ _ 24 rfl _ _ _ rfl rfl r2.out ?_; clear r2) | (go_at_call 21; refine hcB.out.mono ?_; clear hcB; rintro e w4 ⟨B', bc', rfl, T4, L4⟩; obtain ⟨lab4, X5, Q5, T5, q6, q67, f6⟩ := hB4.out w4 B' bc' T4.out L4.out; have p4 := cell_lt q6) | (go_at_call 21; refine (hE6.out lab4 _ B' bc' X5 Q5 T5).mono ?_; clear hE6; rintro e w6 ⟨E', ec', rfl, lab6, z0, z1, z2, z3, z4, z5, z6, z7, f7, g8, c8, w8, lab8, r8, C8⟩; clear X5 Q5 T5; have p6 := cell_lt z0) | (at_builtin; refine wpList_app rfl _ _ 59 rfl _ _ _ rfl rfl r8.out ?_))
      refine ⟨⟨lab8, d.app (.cons op a b bi ty ls bo el .nil), r, by rw [hfin.out.2.2.2]; rfl, hfin.out.1, hfin.out.2.1, hfin.out.2.2.1, C8.out⟩, ?_⟩
      simp [intOf]
      omega
theorem copyI_any : ∀ (k : Nat) (f : Fs), f.sz ≤ k → f.Ok → f.len * 112 ≤ 140737488351232 → CopyC f
  | 0, f, hk, ho, hn => by
    cases f using Fs.split with
    | nil =>
      intro Z w A c hT
      go_enter Try.func21, Try.ntmps21
      simp only [Fs.len]
      go_wp2_with fail
      go_loopw [3, 4] (fun v i wr => v = .slice none 0 0 ∧ i = .int .i64 0 ∧ wr = w) (fun v i _ => 0)
      case atStart => exact ⟨rfl, rfl, rfl⟩
      case round =>
        obtain ⟨rfl, rfl, rfl⟩ := hrel
        go_wp2_with fail
        go_ret
        exact ⟨none, 0, rfl, Or.inl rfl, Lz _⟩
    | cons => simp [Fs.sz] at hk
  | k + 1, f, hk, ho, hn => copy_round k f (fun f' h1 h2 h3 => copyI_any k f' h1 h2 h3) hk ho hn
end Go.Proofs.Ytonnmbmdmkmhmaa
