/- Over this seat's translation: the document's All: each instruction with its depth. -/
import Derived.Test.YtkdfmgdadnlnlaaXJ
set_option linter.unusedVariables false
set_option linter.unusedSimpArgs false
set_option maxRecDepth 100000
set_option maxHeartbeats 4000000
namespace Go.Proofs.Ytkdfmgdadnlnlaa
open Go.RowKit
/-- an instruction met: its depth, its Op, its A, how long its Body is -/
abbrev Stp := Int × Int × Int × Nat
def al : Fs → Int → List Stp → List Stp
  | ⟨none⟩, _, out => out
  | ⟨some (op, a, b, bi, ty, ls, bo, el, r)⟩, deep, out => if out.length ≤ 8192 then al r deep (al el (deep + 1) (al bo (deep + 1) (out ++ [(deep, op, a, bo.len)]))) else out
theorem al_full : ∀ (f : Fs) (deep : Int) (out : List Stp), 8192 < out.length → al f deep out = out
  | ⟨none⟩, deep, out, h => rfl
  | ⟨some (op, a, b, bi, ty, ls, bo, el, r)⟩, deep, out, h => by unfold al; rw [if_neg (by omega)]
theorem al_len : ∀ (f : Fs) (deep : Int) (out : List Stp), out.length ≤ 8193 → out.length ≤ (al f deep out).length ∧ (al f deep out).length ≤ 8193
  | ⟨none⟩, deep, out, h => ⟨Nat.le_refl _, h⟩
  | ⟨some (op, a, b, bi, ty, ls, bo, el, r)⟩, deep, out, h => by
    unfold al
    split
    · have h1 := al_len bo (deep + 1) (out ++ [(deep, op, a, bo.len)]) (by simp; omega)
      have h2 := al_len el (deep + 1) _ h1.2
      have h3 := al_len r deep _ h2.2
      simp only [List.length_append, List.length_singleton] at h1
      omega
    · exact ⟨Nat.le_refl _, h⟩
theorem info_step : (Try.prog.info? 49).map (fun i => (i.zero, i.size, i.bytes)) = some (some (.agg #[.int .i64 0, .int .i64 0, .int .i64 0, .int .i64 0, .int .i64 0, .int .i64 0, .slice none 0 0, .slice none 0 0, .slice none 0 0]), 9, 120) := by kernel_rfl
theorem step_parts : ∃ i, Try.prog.info? 49 = some i ∧ i.zero = some (.agg #[.int .i64 0, .int .i64 0, .int .i64 0, .int .i64 0, .int .i64 0, .int .i64 0, .slice none 0 0, .slice none 0 0, .slice none 0 0]) ∧ i.size = 9 ∧ i.bytes = 120 := by
  have h := info_step
  cases hh : Try.prog.info? 49 with
  | none => rw [hh] at h; cases h
  | some i =>
    rw [hh] at h
    simp only [Option.map_some, Option.some.injEq, Prod.mk.injEq] at h
    exact ⟨i, rfl, h⟩
/-- the cells of what was met -/
def Sr : List Stp → List Value → Prop
  | [], L => L = []
  | s :: t, L => ∃ b bi ty LA ln lc B bc E en ec L', L = .int .i64 s.1 :: .int .i64 s.2.1 :: .int .i64 s.2.2.1 :: .int .i64 b :: .int .i64 bi :: .int .i64 ty :: .slice LA ln lc :: .slice B s.2.2.2 bc :: .slice E en ec :: L' ∧ Sr t L'
theorem Sr.app : ∀ {s t : List Stp} {L M : List Value}, Sr s L → Sr t M → Sr (s ++ t) (L ++ M)
  | [], t, L, M, h, h2 => by rw [h]; exact h2
  | x :: s, t, L, M, h, h2 => by
    obtain ⟨b, bi, ty, LA, ln, lc, B, bc, E, en, ec, L', rfl, h3⟩ := h
    exact ⟨b, bi, ty, LA, ln, lc, B, bc, E, en, ec, L' ++ M, rfl, h3.app h2⟩
/-- what was met, in a row of its own -/
def Ao (w0 : World) (lab : Nat → Nat) (w : World) (v : Value) (out : List Stp) : Prop := Later w0 w ∧ ∃ L, Fld lab 0 w w0.heap.size 49 9 v out.length L ∧ Sr out L
variable {w0 w : World} {lab : Nat → Nat} {v : Value} {out : List Stp}
theorem Ao.form (h : Ao w0 lab w v out) : ∃ A cap, v = .slice A out.length cap := by
  obtain ⟨_, L, h2, _⟩ := h
  rcases h2.1.2 with ⟨e, h0⟩ | ⟨g, cap', cur, e, _⟩
  · rw [h0]; exact ⟨none, 0, e⟩
  · exact ⟨_, _, e⟩
theorem Ao.start (w : World) : Ao w (fun _ => 0) w (.slice none 0 0) [] := ⟨Lz _, [], ⟨World.ownsRow_nil _ _ _ _, fun g hg => by cases hg⟩, rfl⟩
theorem Ao.more (h : Ao w0 lab w v out) (dp op a b bi ty : Int) (LA B E : Option Addr) (ln lc nb bc en ec : Nat) (hn : out.length ≤ 8192) :
    ∃ g cap w' lab', (Builtin.append_ #[40, 40] 40 #[v, .slice (some ⟨w.heap.size, 0, none⟩) 1 1]).run Try.prog (w.alloc (.cells #[.int .i64 dp, .int .i64 op, .int .i64 a, .int .i64 b, .int .i64 bi, .int .i64 ty, .slice LA ln lc, .slice B nb bc, .slice E en ec] 49)) = .ok (.slice (some ⟨g, 0, none⟩) (out.length + 1) cap) w' ∧ Ao w0 lab' w' (.slice (some ⟨g, 0, none⟩) (out.length + 1) cap) (out ++ [(dp, op, a, nb)]) := by
  obtain ⟨i, hi1, hi2, hi3, hi4⟩ := step_parts
  obtain ⟨hL, L, hF, hR⟩ := h
  have hone : ∀ u ∈ [Value.int .i64 dp, .int .i64 op, .int .i64 a, .int .i64 b, .int .i64 bi, .int .i64 ty, .slice LA ln lc, .slice B nb bc, .slice E en ec], u.oneCell' = true := by
    intro u hu
    simp only [List.mem_cons, List.not_mem_nil, or_false] at hu
    rcases hu with rfl | rfl | rfl | rfl | rfl | rfl | rfl | rfl | rfl
    all_goals rfl
  obtain ⟨g, cap, w', lab', r, F, l, C⟩ := fld_more (P := Try.prog) hL 40 40 49 i _ 9 120 Try.underlying40 hi1 hi2 hi3 hi4 rfl (by decide) hF [.int .i64 dp, .int .i64 op, .int .i64 a, .int .i64 b, .int .i64 bi, .int .i64 ty, .slice LA ln lc, .slice B nb bc, .slice E en ec] rfl hone (by unfold maxLen; omega) (by omega)
  refine ⟨g, cap, w', lab', r, l, _, ?_, hR.app ⟨b, bi, ty, LA, ln, lc, B, bc, E, en, ec, [], rfl, rfl⟩⟩
  rw [List.length_append]
  exact F
/-- what All makes of a list -/
def AllC (f : Fs) : Prop := ∀ (Z : Nat → Prop) (w0 w : World) (A : Option Addr) (c : Nat) (deep : Int) (v : Value) (out : List Stp) (lab : Nat → Nat), Tr Z w0 A f → Ao w0 lab w v out → out.length ≤ 8193 → 0 ≤ deep → deep ≤ out.length →
  Calls Try.prog 20 #[.slice A f.len c, .int .i64 deep, v] w fun e w' => ∃ v', e = .returned v' ∧ Hid (∃ lab', Ao w0 lab' w' v' (al f deep out))
theorem all_round (k : Nat) (f : Fs) (IH : ∀ f' : Fs, f'.sz ≤ k → f'.Ok → f'.len * 112 ≤ 140737488351232 → AllC f') (hk : f.sz ≤ k + 1) (ho : f.Ok) (hn : f.len * 112 ≤ 140737488351232) : AllC f := by
  intro Z w0 w A c deep v out lab hT hV hl0 hd0 hd1
  replace hT : Hid (Tr Z w0 A f) := hT
  replace IH : Hid (∀ f' : Fs, f'.sz ≤ k → f'.Ok → f'.len * 112 ≤ 140737488351232 → AllC f') := IH
  replace ho : Hid f.Ok := ho
  obtain ⟨n, hn2⟩ : ∃ n, n = f.len := ⟨_, rfl⟩
  rw [← hn2] at hn ⊢
  replace hn2 : Hid (n = f.len) := hn2
  replace hk : Hid (f.sz ≤ k + 1) := hk
  replace hV : Hid (Ao w0 lab w v out) := hV
  replace hl0 : Hid (out.length ≤ 8193) := hl0
  replace hd1 : Hid (deep ≤ out.length) := hd1
  have hdd : deep ≤ 8193 := by have := hl0.out; have := hd1.out; omega
  go_enter Try.func20, Try.ntmps20
  go_wp2_with fail
  go_loopw [2, 7] (fun v i wr => ∃ (d r : Fs) (lab' : Nat → Nat) (o2 : List Stp), i = .int .i64 (d.len : Nat) ∧ d.app r = f ∧ r.Ok ∧ r.sz ≤ k + 1 ∧ al f deep out = al r deep o2 ∧ o2.length ≤ 8193 ∧ out.length ≤ o2.length ∧ Ao w0 lab' wr v o2) (fun v i _ => n - (intOf i).toNat)
  case atStart => exact ⟨.nil, f, lab, out, rfl, rfl, ho.out, hk.out, rfl, hl0.out, Nat.le_refl _, hV.out⟩
  case round =>
    obtain ⟨d, r, lab1, o2, rfl, hf, hok, hsz, hal, hl2, hl3, hA2⟩ := hrel
    obtain ⟨Av, cv, rfl⟩ := hA2.form
    cases r using Fs.split with
    | nil =>
      have hd : d = f := by rw [← hf, Fs.app_nil]
      have hl : ¬ (d.len : Int) < (n : Int) := by rw [hn2.out, hd]; omega
      have hfin : Hid (∃ lab', Ao w0 lab' wr (.slice Av o2.length cv) (al f deep out)) := ⟨lab1, by rw [hal]; exact hA2⟩
      clear hok hsz hal hA2 hf hd
      go_wp2_with fail
      go_ret
      exact ⟨_, rfl, hfin⟩
    | cons op a b bi ty ls bo el r =>
      have hlen : d.len + r.len + 1 = n := by rw [hn2.out, ← hf, Fs.len_app]; simp only [Fs.len]; omega
      have hl : (d.len : Int) < (n : Int) := by omega
      by_cases hfull : o2.length ≤ 8192
      case neg =>
        have hl9 : ¬ (o2.length : Int) ≤ 8192 := by omega
        have hfin : Hid (∃ lab', Ao w0 lab' wr (.slice Av o2.length cv) (al f deep out)) := ⟨lab1, by rw [hal, al_full _ _ _ (by omega)]; exact hA2⟩
        clear hok hsz hal hA2 hf hfull
        go_wp2_with fail
        go_ret
        exact ⟨_, rfl, hfin⟩
      have hl9 : (o2.length : Int) ≤ 8192 := by omega
      have hne : f ≠ .nil := by rw [← hf]; cases d using Fs.split <;> simp [Fs.app]
      obtain ⟨g, o, rfl, hZg, hA⟩ := (show Tr Z w0 A f from hT).at hne
      rw [← hf] at hA
      obtain ⟨LA, lc, B, bc, E, ec, e0, e1, e2, e3, e4, e5, e6, e7, hLs, hTB, hTE, _⟩ := hA.drop.head
      have f6 := e6
      have f7 := e7
      replace e0 := hA2.1.cell_of e0
      replace e1 := hA2.1.cell_of e1
      replace e2 := hA2.1.cell_of e2
      replace e3 := hA2.1.cell_of e3
      replace e4 := hA2.1.cell_of e4
      replace e5 := hA2.1.cell_of e5
      replace e6 := hA2.1.cell_of e6
      replace e7 := hA2.1.cell_of e7
      have hlt := cell_lt e0
      obtain ⟨⟨_, _, _, _, _, _⟩, o1, o2', o3, o4, o5, o6⟩ := hok
      simp only [Fs.sz] at hsz
      have hfin : Hid ((d.app (.cons op a b bi ty ls bo el .nil)).app r = f ∧ r.Ok ∧ r.sz ≤ k + 1 ∧ (d.app (.cons op a b bi ty ls bo el .nil)).len = d.len + 1) := ⟨by rw [Fs.app_app, ← hf]; rfl, o6, by omega, by rw [Fs.len_app]; rfl⟩
      conv at hal => rhs; unfold al
      rw [if_pos hfull] at hal
      obtain ⟨g2, c2, w2, lab2, r2, A3⟩ := hA2.more deep op a b bi ty LA B E ls.length lc bo.len bc el.len ec hfull
      have t6 : w2.cell? ⟨g, o + d.len * 8 + 6, none⟩ = some (.slice B bo.len bc) := A3.1.cell_of f6
      have tl := cell_lt t6
      have hlo : (o2 ++ [(deep, op, a, bo.len)]).length = o2.length + 1 := by simp
      have hd9 : deep ≤ o2.length := by have := hd1.out; omega
      have hcb : Hid (Calls Try.prog 20 #[.slice B bo.len bc, .int .i64 (deep + 1), .slice (some ⟨g2, 0, none⟩) (o2.length + 1) c2] w2 fun e w' => ∃ v', e = .returned v' ∧ Hid (∃ lab', Ao w0 lab' w' v' (al bo (deep + 1) (o2 ++ [(deep, op, a, bo.len)])))) := IH.out bo (by omega) o4 o2' Z w0 w2 B bc (deep + 1) _ _ lab2 hTB A3 (by omega) (by omega) (by omega)
      have hl4 := al_len bo (deep + 1) (o2 ++ [(deep, op, a, bo.len)]) (by omega)
      have hl5 := al_len el (deep + 1) _ hl4.2
      have hel : Hid (∀ w3 v3 lab3, Ao w0 lab3 w3 v3 (al bo (deep + 1) (o2 ++ [(deep, op, a, bo.len)])) → w3.cell? ⟨g, o + d.len * 8 + 7, none⟩ = some (.slice E el.len ec) ∧ Calls Try.prog 20 #[.slice E el.len ec, .int .i64 (deep + 1), v3] w3 fun e w' => ∃ v', e = .returned v' ∧ Hid (∃ lab', Ao w0 lab' w' v' (al el (deep + 1) (al bo (deep + 1) (o2 ++ [(deep, op, a, bo.len)]))))) := fun w3 v3 lab3 A4 => ⟨A4.1.cell_of f7, IH.out el (by omega) o5 o3 Z w0 w3 E ec (deep + 1) _ _ lab3 hTE A4 hl4.2 (by omega) (by omega)⟩
      replace hal : Hid (al f deep out = al r deep (al el (deep + 1) (al bo (deep + 1) (o2 ++ [(deep, op, a, bo.len)])))) := hal
      have hl6 : Hid ((al el (deep + 1) (al bo (deep + 1) (o2 ++ [(deep, op, a, bo.len)]))).length ≤ 8193 ∧ out.length ≤ (al el (deep + 1) (al bo (deep + 1) (o2 ++ [(deep, op, a, bo.len)]))).length) := ⟨hl5.2, by omega⟩
      replace r2 : Hid _ := r2
      clear IH hT hA hA2 A3 hLs hTB hTE hf hsz o1 o2' o3 o4 o5 o6 hl4 hl5 hlo hne hZg f6 f7
      go_wp2_with (first | (at_builtin; refine wpList_app rfl _ _ 40 rfl _ _ _ rfl rfl r2.out ?_; clear r2) | (go_at_call 20; refine hcb.out.mono ?_; clear hcb; rintro e w3 ⟨v3, rfl, A4⟩; obtain ⟨lab3, A4⟩ := A4.out; obtain ⟨A3', c3', hv3⟩ := A4.form; subst hv3; obtain ⟨t7, hce⟩ := hel.out w3 _ lab3 A4; have tl3 := cell_lt t7; clear hel A4) | (go_at_call 20; refine hce.mono ?_; clear hce; rintro e w4 ⟨v4, rfl, A5⟩))
      obtain ⟨lab5, A6⟩ := A5.out
      refine ⟨⟨d.app (.cons op a b bi ty ls bo el .nil), r, lab5, _, by rw [hfin.out.2.2.2]; rfl, hfin.out.1, hfin.out.2.1, hfin.out.2.2.1, hal.out, hl6.out.1, hl6.out.2, A6⟩, ?_⟩
      simp [intOf]
      omega
theorem all_any : ∀ (k : Nat) (f : Fs), f.sz ≤ k → f.Ok → f.len * 112 ≤ 140737488351232 → AllC f
  | 0, f, hk, ho, hn => by
    cases f using Fs.split with
    | nil =>
      intro Z w0 w A c deep v out lab hT hV hl0 hd0 hd1
      obtain ⟨Av, cv, rfl⟩ := hV.form
      simp only [Fs.len, al]
      replace hV : Hid (∃ lab', Ao w0 lab' w (.slice Av out.length cv) out) := ⟨lab, hV⟩
      go_enter Try.func20, Try.ntmps20
      go_wp2_with fail
      go_loopw [2, 7] (fun v i wr => v = .slice Av out.length cv ∧ i = .int .i64 0 ∧ wr = w) (fun v i _ => 0)
      case atStart => exact ⟨rfl, rfl, rfl⟩
      case round =>
        obtain ⟨rfl, rfl, rfl⟩ := hrel
        go_wp2_with fail
        go_ret
        exact ⟨_, rfl, hV⟩
    | cons => simp [Fs.sz] at hk
  | k + 1, f, hk, ho, hn => all_round k f (fun f' h1 h2 h3 => all_any k f' h1 h2 h3) hk ho hn
/-- how many instructions there are -/
theorem count_any (f : Fs) (ho : f.Ok) (hn : f.len * 112 ≤ 140737488351232) (Z : Nat → Prop) (w : World) (A : Option Addr) (c : Nat) (hT : Tr Z w A f) :
    Calls Try.prog 14 #[.slice A f.len c] w fun e w' => e = .returned (.int .i64 ((al f 0 []).length : Nat)) ∧ Hid (Later w w') := by
  have hc : Hid (Calls Try.prog 20 #[.slice A f.len c, .int .i64 0, .slice none 0 0] w fun e w' => ∃ v', e = .returned v' ∧ Hid (∃ lab', Ao w lab' w' v' (al f 0 []))) := all_any f.sz f (Nat.le_refl _) ho hn Z w w A c 0 _ [] _ hT (Ao.start w) (by simp) (by decide) (by simp)
  generalize f.len = n at *
  go_enter Try.func14, Try.ntmps14
  go_wp2_with (go_at_call 20; refine hc.out.mono ?_; clear hc; rintro e w3 ⟨v3, rfl, A4⟩; obtain ⟨lab3, A4⟩ := A4.out; obtain ⟨A3', c3', hv3⟩ := A4.form; subst hv3; replace A4 : Hid (Ao w lab3 w3 _ (al f 0 [])) := A4)
  go_ret
  exact ⟨rfl, A4.out.1⟩
end Go.Proofs.Ytkdfmgdadnlnlaa
