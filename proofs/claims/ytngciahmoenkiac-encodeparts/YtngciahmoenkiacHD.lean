/- package instr: Put. -/
import Derived.Test.YtngciahmoenkiacHC
import Derived.Test.YtngciahmoenkiacGF
import Derived.Test.YtngciahmoenkiacXK
set_option linter.unusedVariables false
set_option linter.unusedSimpArgs false
set_option maxRecDepth 100000
set_option maxHeartbeats 8000000
namespace Go.Proofs.Ytngciahmoenkiac.gi
open Go.RowKit
variable {w0 W W' : World} {lab : Nat → Nat} {q : Nat} {d : List Int}
theorem winstr (Z : Nat → Prop) (g o : Nat) (k : rw.Nk) (IHb : IWc k.bo) (IHe : IWc k.el) (hm : mayP k.op k.a k.b k.bi k.ty k.ls k.bo.len k.el.len) (hok : i64 k.a ∧ i64 k.b ∧ i64 k.bi ∧ ∀ x ∈ k.ls, i64 x) (hk : Nq Z w0 g o k) (hd : d.length + (ltB (.cons k.op k.a k.b k.bi k.ty k.ls k.bo k.el .nil)).length < 500000000) (h : Wr w0 lab W q d) :
    Calls Try.prog 76 #[.pointer (some ⟨q, 0, none⟩), .pointer (some ⟨g, o, none⟩)] W (Wm w0 lab W q (d ++ ltB (.cons k.op k.a k.b k.bi k.ty k.ls k.bo k.el .nil))) := by
  obtain ⟨i1, i2, i3, i4⟩ := hok
  rcases lay_inv k.op with ⟨hl, hf⟩ | ⟨hl, hf⟩ | ⟨hl, hf⟩ | ⟨hl, hf⟩ | ⟨hl, hf⟩ | ⟨hl, hf⟩ | ⟨hl, hf⟩ | ⟨hl, hf⟩ | ⟨hl, hf⟩ | ⟨hl, hf, ho⟩ | ⟨hl, hf, ho⟩ | ⟨hl, hf, ho⟩ | ⟨hl, hf, ho⟩
  · unfold mayP at hm
    rw [hf] at hm
    simp at hm
  · have e : d ++ ltB (.cons k.op k.a k.b k.bi k.ty k.ls k.bo k.el .nil) = d ++ [k.op % 256] := by simp [ltB, hf]
    rw [e]
    exact in_1 Z g o k hl hk (by omega) h
  · have h0 : k.el.len = 0 := by
      unfold mayP at hm
      rw [hf] at hm
      simp at hm
      exact hm.2.2.2.2.1
    have e : d ++ ltB (.cons k.op k.a k.b k.bi k.ty k.ls k.bo k.el .nil) = ((d ++ [k.op % 256]) ++ [k.ty % 256] ++ ltB k.bo) ++ [11] := by simp [ltB, hf, h0]
    have el : (ltB k.bo).length + 2 ≤ (ltB (.cons k.op k.a k.b k.bi k.ty k.ls k.bo k.el .nil)).length := by simp [ltB, hf, h0]
    rw [e]
    exact in_2 Z g o k IHb hl hk (by omega) h
  · have e0 : ltB (.cons k.op k.a k.b k.bi k.ty k.ls k.bo k.el .nil) = [k.op % 256] ++ chB k.ty k.bo k.el := by simp [ltB, hf, chB]
    have e : d ++ ltB (.cons k.op k.a k.b k.bi k.ty k.ls k.bo k.el .nil) = (d ++ [k.op % 256]) ++ chB k.ty k.bo k.el := by rw [e0, List.append_assoc]
    rw [e0, List.length_append, List.length_singleton] at hd
    rw [e]
    exact in_3 Z g o k IHb IHe hl hk (by omega) h
  · have e : d ++ ltB (.cons k.op k.a k.b k.bi k.ty k.ls k.bo k.el .nil) = (d ++ [k.op % 256]) ++ lebL k.a := by simp [ltB, hf]
    rw [e]
    exact in_4 Z g o k hl hk i1 (by omega) h
  · have hls : 1 ≤ k.ls.length ∧ k.ls.length ≤ 1024 := by
      unfold mayP at hm
      rw [hf] at hm
      rw [if_neg (by decide), if_neg (by decide), if_neg (by decide), if_neg (by decide), if_pos (by decide)] at hm
      exact ⟨hm.2.2.2.2.2.2.2.1, hm.2.2.2.2.2.2.2.2⟩
    have e : d ++ ltB (.cons k.op k.a k.b k.bi k.ty k.ls k.bo k.el .nil) = ((d ++ [k.op % 256]) ++ lebL ((k.ls.length : Int) - 1)) ++ labB k.ls := by simp [ltB, hf]
    rw [e]
    exact in_5 Z g o k hl hk i4 hls.1 hls.2 (by omega) h
  · have e : d ++ ltB (.cons k.op k.a k.b k.bi k.ty k.ls k.bo k.el .nil) = ((d ++ [k.op % 256]) ++ lebL k.a) ++ [0] := by simp [ltB, hf]
    rw [e]
    exact in_6 Z g o k hl hk i1 (by omega) h
  · have e : d ++ ltB (.cons k.op k.a k.b k.bi k.ty k.ls k.bo k.el .nil) = (d ++ [k.op % 256]) ++ (lebL k.a ++ lebL k.b) := by simp [ltB, hf]
    rw [e]
    exact in_7 Z g o k hl hk i1 i2 (by omega) h
  · have e : d ++ ltB (.cons k.op k.a k.b k.bi k.ty k.ls k.bo k.el .nil) = (d ++ [k.op % 256]) ++ [0] := by simp [ltB, hf]
    rw [e]
    exact in_8 Z g o k hl hk (by omega) h
  · have e : d ++ ltB (.cons k.op k.a k.b k.bi k.ty k.ls k.bo k.el .nil) = (d ++ [k.op % 256]) ++ slebL (sg3 k.bi) := by
      have hli : lit k.op k.bi = slebL (sg3 k.bi) := by simp [lit, ho]
      simp [ltB, hf, hli]
    rw [e]
    exact in_9 Z g o k hl hk i3 (by omega) h
  · have e : d ++ ltB (.cons k.op k.a k.b k.bi k.ty k.ls k.bo k.el .nil) = (d ++ [k.op % 256]) ++ slebL k.bi := by
      have hli : lit k.op k.bi = slebL k.bi := by simp [lit, ho]
      simp [ltB, hf, hli]
    rw [e]
    exact in_10 Z g o k hl hk i3 (by omega) h
  · have e : d ++ ltB (.cons k.op k.a k.b k.bi k.ty k.ls k.bo k.el .nil) = (d ++ [k.op % 256]) ++ lowB k.bi 4 := by
      have hli : lit k.op k.bi = lowB k.bi 4 := by simp [lit, ho]
      simp [ltB, hf, hli]
    rw [e]
    exact in_11 Z g o k hl hk (by omega) h
  · have e : d ++ ltB (.cons k.op k.a k.b k.bi k.ty k.ls k.bo k.el .nil) = (d ++ [k.op % 256]) ++ lowB k.bi 8 := by
      have hli : lit k.op k.bi = lowB k.bi 8 := by simp [lit, ho]
      simp [ltB, hf, hli]
    rw [e]
    exact in_12 Z g o k hl hk (by omega) h
theorem ltB_cons (op a b bi ty : Int) (ls : List Int) (bo el r : Fs) : ltB (.cons op a b bi ty ls bo el r) = ltB (.cons op a b bi ty ls bo el .nil) ++ ltB r := by
  simp [ltB]
theorem winstrs_round (n0 : Nat) (f : Fs) (IH : ∀ f' : Fs, f'.sz ≤ n0 → f'.Ok → f'.len * 112 ≤ 140737488351232 → Mb f' → IWc f') (hk : f.sz ≤ n0 + 1) (ho : f.Ok) (hn : f.len * 112 ≤ 140737488351232) (hmb : Mb f) : IWc f := by
  intro Z w0 W lab q d A c h hZ hT hd
  replace hT : Hid (Tr Z w0 A f) := hT
  replace IH : Hid (∀ f' : Fs, f'.sz ≤ n0 → f'.Ok → f'.len * 112 ≤ 140737488351232 → Mb f' → IWc f') := IH
  replace ho : Hid f.Ok := ho
  replace hmb : Hid (Mb f) := hmb
  replace hZ : Hid (∀ j, Z j → j < w0.heap.size) := hZ
  obtain ⟨n, hn2⟩ : ∃ n, n = f.len := ⟨_, rfl⟩
  rw [← hn2] at hn ⊢
  replace hn2 : Hid (n = f.len) := hn2
  replace hk : Hid (f.sz ≤ n0 + 1) := hk
  replace h : Hid (Wr w0 lab W q d) := h
  replace hd : Hid (d.length + (ltB f).length < 500000000) := hd
  go_enter Try.func68, Try.ntmps68
  go_wp2_with fail
  go_loopw [7] (fun i wr => ∃ (e r : Fs) (lab' : Nat → Nat) (l : List Int), i = .int .i64 (e.len : Nat) ∧ e.app r = f ∧ r.Ok ∧ Mb r ∧ r.sz ≤ n0 + 1 ∧ ltB f = l ++ ltB r ∧ Wr w0 lab' wr q (d ++ l) ∧ Chg lab S07 W wr lab') (fun i _ => n - (intOf i).toNat)
  case atStart => exact ⟨.nil, f, lab, [], rfl, rfl, ho.out, hmb.out, hk.out, rfl, by simpa using h.out, Chg.of_later (Lz _)⟩
  case round =>
    obtain ⟨e, r, lab1, l, rfl, hf, hok, hmr, hsz, hlt, hW, hC⟩ := hrel
    cases r using Fs.split with
    | nil =>
      have he : e = f := by rw [← hf, Fs.app_nil]
      have hl : ¬ (e.len : Int) < (n : Int) := by rw [hn2.out, he]; omega
      have hfin : Hid (Wm w0 lab W q (d ++ ltB f) (.returned (.tuple #[])) wr) := ⟨rfl, lab1, by show Wr _ _ _ _ _; rw [hlt]; simpa [ltB] using hW, hC⟩
      clear hok hmr hsz hlt hW hC
      replace hf : Hid _ := hf
      replace he : Hid _ := he
      go_wp2_with fail
      go_end0
      exact hfin.out
    | cons op a b bi ty ls bo el r =>
      have hlen : e.len + r.len + 1 = n := by rw [hn2.out, ← hf, Fs.len_app]; simp only [Fs.len]; omega
      have hl : (e.len : Int) < (n : Int) := by omega
      have hne : f ≠ .nil := by rw [← hf]; cases e using Fs.split <;> simp [Fs.app]
      obtain ⟨g, o, rfl, hZg, hA⟩ := (show Tr Z w0 A f from hT).at hne
      rw [← hf] at hA
      obtain ⟨LA, lc, B, bc, E, ec, e0, e1, e2, e3, e4, e5, e6, e7, hLs, hTB, hTE, _⟩ := hA.drop.head
      obtain ⟨⟨i1, i2, i3, i4, i5, i6⟩, o1, o2, o3, o4, o5, o6⟩ := hok
      obtain ⟨m1, m2, m3, m4⟩ := hmr
      simp only [Fs.sz] at hsz
      have hnew : Hid ((e.app (.cons op a b bi ty ls bo el .nil)).app r = f ∧ r.Ok ∧ Mb r ∧ r.sz ≤ n0 + 1 ∧ (e.app (.cons op a b bi ty ls bo el .nil)).len = e.len + 1) := ⟨by rw [Fs.app_app, ← hf]; rfl, o6, m4, by omega, by rw [Fs.len_app]; rfl⟩
      rw [ltB_cons] at hlt
      have hcall : Hid (Calls Try.prog 76 #[.pointer (some ⟨q, 0, none⟩), .pointer (some ⟨g, o + e.len * 8, none⟩)] wr (Wm w0 lab W q ((d ++ l) ++ ltB (.cons op a b bi ty ls bo el .nil)))) := by
        refine (winstr (w0 := w0) (lab := lab1) Z g (o + e.len * 8) ⟨0, op, a, b, bi, ty, ls, bo, el⟩ (IH.out bo (by omega) o4 o2 m2) (IH.out el (by omega) o5 o3 m3) m1 ⟨i2, i3, i4, i6⟩ ⟨hZg, hZ.out, LA, lc, B, bc, E, ec, e0, e1, e2, e3, e4, e5, e6, e7, hLs, hTB, hTE⟩ ?_ hW).mono fun e w' hh => hh.trans hC
        have h1 := hd.out
        rw [hlt] at h1
        simp only [List.length_append] at h1 ⊢
        omega
      have hlt2 : Hid (ltB f = (l ++ ltB (.cons op a b bi ty ls bo el .nil)) ++ ltB r) := by show _ = _; rw [hlt, List.append_assoc]
      clear hW hC hlt hA hLs hTB hTE e0 e1 e2 e3 e4 e5 e6 e7 hf hsz o1 o2 o3 o4 o5 o6 m1 m2 m3 m4 i1 i2 i3 i4 i5 i6 hne
      generalize ltB (.cons op a b bi ty ls bo el .nil) = x at *
      go_wp2_with (go_at_call 76; refine hcall.out.mono ?_; rintro e9 w5 ⟨rfl, lab5, h5, C5⟩)
      refine ⟨⟨e.app (.cons op a b bi ty ls bo el .nil), r, lab5, l ++ x, by rw [hnew.out.2.2.2.2]; rfl, hnew.out.1, hnew.out.2.1, hnew.out.2.2.1, hnew.out.2.2.2.1, hlt2.out, by rw [← List.append_assoc]; exact h5.out, C5.out⟩, ?_⟩
      simp [intOf]
      omega
theorem winstrs_any : ∀ (n0 : Nat) (f : Fs), f.sz ≤ n0 → f.Ok → f.len * 112 ≤ 140737488351232 → Mb f → IWc f
  | 0, f, hk, ho, hn, hm => winstrs_round 0 f (fun f' h1 _ _ _ => by
      cases f' using Fs.split with
      | nil =>
        intro Z w0 W lab q d A c h hZ hT hd
        have hfin : Hid (Wm w0 lab W q (d ++ ltB .nil) (.returned (.tuple #[])) W) := ⟨rfl, lab, by show Wr _ _ _ _ _; simpa [ltB] using h, Chg.of_later (Lz _)⟩
        simp only [Fs.len]
        clear h hZ hT hd
        go_enter Try.func68, Try.ntmps68
        go_wp2_with fail
        go_loopw [7] (fun i wr => i = .int .i64 0 ∧ wr = W) (fun i _ => 0)
        case atStart => exact ⟨rfl, rfl⟩
        case round =>
          obtain ⟨rfl, rfl⟩ := hrel
          go_wp2_with fail
          go_end0
          exact hfin.out
      | cons => simp [Fs.sz] at h1) (by omega) ho hn hm
  | n0 + 1, f, hk, ho, hn, hm => winstrs_round n0 f (fun f' h1 h2 h3 h4 => winstrs_any n0 f' h1 h2 h3 h4) hk ho hn hm
theorem Wr.start (w : World) : ∃ lab, Wr w lab (w.alloc (.cells #[.slice none 0 0] 112)) w.heap.size [] := by
  refine ⟨fun k => if k < w.heap.size then 99 else 7, La (Lz _), ⟨.slice none 0 0, ⟨World.ownsRow_nil _ _ _ _, fun g hg => by cases hg⟩, ?_⟩, fun k hk => if_pos hk⟩
  exact ⟨⟨_, heap_alloc_new w _, rfl, fun i hi => by
    obtain rfl : i = 0 := by omega
    rfl⟩, Nat.le_refl _, if_neg (Nat.lt_irrefl _)⟩
theorem Wr.some {w0 W : World} {lab : Nat → Nat} {q : Nat} {d : List Int} (h : Wr w0 lab W q d) (hd : 0 < d.length) : ∃ g cap, W.cell? ⟨q, 0, none⟩ = some (.slice (some ⟨g, 0, none⟩) d.length cap) ∧ q < W.heap.size ∧ Byt w0 W (.slice (some ⟨g, 0, none⟩) d.length cap) d := by
  obtain ⟨_, ⟨v, h1, h2⟩, _⟩ := h
  rcases h1.1.2 with ⟨e, h0⟩ | ⟨g, cap', cur, e, _⟩
  · omega
  · subst e
    exact ⟨g, cap', h2.1.cell (i := 0) (by decide), h2.1.lt, lab, h1⟩
theorem iput_any (f : Fs) (ho : f.Ok) (hn : f.len * 112 ≤ 140737488351232) (Z : Nat → Prop) (w : World) (A : Option Addr) (c : Nat) (hT : Tr Z w A f) :
    Calls Try.prog 56 #[.slice A f.len c] w fun e w' => e = .returned (.tuple #[.string (strOfNums (puR f).1), .int .i64 (puR f).2]) ∧ Hid (Later w w') := by
  have hfa : Hid (Calls Try.prog 61 #[.slice A f.len c] w fun e w' => e = .returned (.int .i64 (ck f 0 0).1) ∧ Hid (Later w w')) := fault_any f ho hn Z w A c hT
  have hbs := puR_byte f
  unfold puR at hbs ⊢
  by_cases h0 : (ck f 0 0).1 = 0
  · rw [if_pos h0] at hbs ⊢
    have hlen : (ltB f).length < 100000000 := by
      have h1 := ltB_len f 0 0 (by decide) (by decide) h0
      have h2 := ck_rng f 0 0 (by decide) (by decide)
      have h3 := h2.2.2.1 h0
      omega
    rw [h0] at hfa
    have hwr : Hid (∀ w2, Later w w2 → Calls Try.prog 62 #[.pointer (some ⟨w2.heap.size, 0, none⟩), .slice A f.len c] (w2.alloc (.cells #[.slice none 0 0] 112)) fun e w' => e = .returned (.tuple #[]) ∧ Hid (Later w2 w') ∧ ∃ g cap, w'.cell? ⟨w2.heap.size, 0, none⟩ = some (.slice (some ⟨g, 0, none⟩) (ltB f ++ [11]).length cap) ∧ w2.heap.size < w'.heap.size ∧ (convert 50 9 (.slice (some ⟨g, 0, none⟩) (ltB f ++ [11]).length cap)).run Try.prog w' = .ok (.string (strOfNums (ltB f ++ [11]))) w') := fun w2 hl => by
      obtain ⟨lab, h1⟩ := Wr.start w2
      have hT2 : Tr (fun k => Z k ∧ k < w.heap.size) w A f := hT.move (fun k hk hl => ⟨⟨hk, hl⟩, rfl⟩)
      refine (wlist f (winstrs_any f.sz f (Nat.le_refl _) ho hn (ck_mb f 0 0 h0)) (fun k => Z k ∧ k < w.heap.size) A c h1 (fun j hj => Nat.lt_of_lt_of_le hj.2 hl.size) (hT2.later hl) (by simp; omega)).mono ?_
      rintro e w' ⟨rfl, lab', hW, hC⟩
      rw [List.nil_append] at hW
      obtain ⟨g, cap, c0, l0, hB⟩ := hW.out.some (by simp)
      exact ⟨rfl, hW.out.1, g, cap, c0, l0, byt_str hB rfl hbs⟩
    generalize ltB f ++ [11] = D at *
    generalize f.len = n at *
    clear hT ho h0 hbs hlen
    go_enter Try.func56, Try.ntmps56
    go_wp2_with (first | (go_at_call 61; refine hfa.out.mono ?_; rintro e w2 ⟨rfl, l2⟩) | (go_at_call 62; refine (hwr.out _ l2.out).mono ?_; rintro e w3 ⟨rfl, l3, g, cap, c0, l0, hcv⟩))
    go_ret2
    exact ⟨rfl, l2.out.trans l3.out⟩
  · rw [if_neg h0] at hbs ⊢
    generalize (ck f 0 0).1 = E at *
    have hE : (E != 0) = true := by simpa using h0
    generalize f.len = n at *
    clear hT ho h0 hbs
    go_enter Try.func56, Try.ntmps56
    go_wp2_with (first | (go_at_call 61; refine hfa.out.mono ?_; rintro e w2 ⟨rfl, l2⟩))
    go_ret2
    exact ⟨rfl, l2⟩
end Go.Proofs.Ytngciahmoenkiac.gi
