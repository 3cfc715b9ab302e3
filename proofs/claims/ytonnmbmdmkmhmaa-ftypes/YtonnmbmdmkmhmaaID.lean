/- Over this seat's translation: lists of instructions held against each other. -/
import Derived.Test.YtonnmbmdmkmhmaaIC
import Derived.Deep.RegionHeldLaw
set_option linter.unusedVariables false
set_option linter.unusedSimpArgs false
set_option maxRecDepth 100000
set_option maxHeartbeats 4000000
namespace Go.Proofs.Ytonnmbmdmkmhmaa
open Go.RowKit
theorem at_world {F : Act → World → Prop} {a : Act} {W0 : World} (h : ∀ W, W = W0 → F a W) : F a W0 := h W0 rfl
theorem two_at (wr : World) (t : TypeId) (x0 x1 x2 x3 x4 x5 x6 x7 y0 y1 y2 y3 y4 y5 y6 y7 : Value) (W : World) (hW : W = ((wr.alloc (.cells #[x0, x1, x2, x3, x4, x5, x6, x7] t)).alloc (.cells #[y0, y1, y2, y3, y4, y5, y6, y7] t)).drew) : Later wr W ∧ W.heap.size = wr.heap.size + 2 ∧ (W.cell? ⟨wr.heap.size, 0, none⟩ = some x0 ∧ W.cell? ⟨wr.heap.size, 1, none⟩ = some x1 ∧ W.cell? ⟨wr.heap.size, 2, none⟩ = some x2 ∧ W.cell? ⟨wr.heap.size, 3, none⟩ = some x3 ∧ W.cell? ⟨wr.heap.size, 4, none⟩ = some x4 ∧ W.cell? ⟨wr.heap.size, 5, none⟩ = some x5 ∧ W.cell? ⟨wr.heap.size, 6, none⟩ = some x6 ∧ W.cell? ⟨wr.heap.size, 7, none⟩ = some x7) ∧ (W.cell? ⟨wr.heap.size + 1, 0, none⟩ = some y0 ∧ W.cell? ⟨wr.heap.size + 1, 1, none⟩ = some y1 ∧ W.cell? ⟨wr.heap.size + 1, 2, none⟩ = some y2 ∧ W.cell? ⟨wr.heap.size + 1, 3, none⟩ = some y3 ∧ W.cell? ⟨wr.heap.size + 1, 4, none⟩ = some y4 ∧ W.cell? ⟨wr.heap.size + 1, 5, none⟩ = some y5 ∧ W.cell? ⟨wr.heap.size + 1, 6, none⟩ = some y6 ∧ W.cell? ⟨wr.heap.size + 1, 7, none⟩ = some y7) := by
  subst hW
  refine ⟨Ld (La (La (Lz _))), by simp [World.drew], ⟨?_, ?_, ?_, ?_, ?_, ?_, ?_, ?_⟩, ⟨?_, ?_, ?_, ?_, ?_, ?_, ?_, ?_⟩⟩ <;> simp [go_sem]
def SameC (f : Fs) : Prop := ∀ (Z Y : Nat → Prop) (w : World) (A B : Option Addr) (c c' : Nat), Tr Z w A f → Tr Y w B f →
  Calls Try.prog 28 #[.slice A f.len c, .slice B f.len c'] w fun e w' => e = .returned (.bool true) ∧ Hid (Later w w')
theorem same_round (k : Nat) (f : Fs) (IH : ∀ f' : Fs, f'.sz ≤ k → f'.Ok → f'.len * 112 ≤ 140737488351232 → SameC f') (hk : f.sz ≤ k + 1) (ho : f.Ok) (hn : f.len * 112 ≤ 140737488351232) : SameC f := by
  intro Z Y w A B c c' hT hU
  replace hT : Hid (Tr Z w A f) := hT
  replace hU : Hid (Tr Y w B f) := hU
  replace IH : Hid (∀ f' : Fs, f'.sz ≤ k → f'.Ok → f'.len * 112 ≤ 140737488351232 → SameC f') := IH
  replace ho : Hid f.Ok := ho
  obtain ⟨n, hn2⟩ : ∃ n, n = f.len := ⟨_, rfl⟩
  rw [← hn2] at hn ⊢
  replace hn2 : Hid (n = f.len) := hn2
  replace hk : Hid (f.sz ≤ k + 1) := hk
  go_enter Try.func28, Try.ntmps28
  go_wp2_with fail
  go_loopw [5] (fun i wr => ∃ (d r : Fs), i = .int .i64 (d.len : Nat) ∧ d.app r = f ∧ r.Ok ∧ r.sz ≤ k + 1 ∧ Later w wr) (fun i _ => n - (intOf i).toNat)
  case atStart => exact ⟨.nil, f, rfl, rfl, ho.out, hk.out, Lz _⟩
  case round =>
    obtain ⟨d, r, rfl, hf, hok, hsz, hL⟩ := hrel
    cases r using Fs.split with
    | nil =>
      have hd : d = f := by rw [← hf, Fs.app_nil]
      have hl : ¬ (d.len : Int) < (n : Int) := by rw [hn2.out, hd]; omega
      replace hL : Hid (Later w wr) := hL
      clear hok hsz
      replace hf : Hid _ := hf
      replace hd : Hid _ := hd
      go_wp2_with fail
      go_ret
      exact ⟨rfl, hL.out⟩
    | cons op a b bi ty ls bo el r =>
      have hlen : d.len + r.len + 1 = n := by rw [hn2.out, ← hf, Fs.len_app]; simp only [Fs.len]; omega
      have hl : (d.len : Int) < (n : Int) := by omega
      have hne : f ≠ .nil := by rw [← hf]; cases d using Fs.split <;> simp [Fs.app]
      obtain ⟨g, o, rfl, hZ, hA⟩ := (show Tr Z w A f from hT).at hne
      obtain ⟨g', o', rfl, hY, hB⟩ := (show Tr Y w B f from hU).at hne
      rw [← hf] at hA hB
      obtain ⟨LA, lc, A1, ac, A2, ac2, c0, c1, c2, c3, c4, c5, c6, c7, hLs, hA1, hA2, _⟩ := (hA.drop.later hL).head
      obtain ⟨LB, lc', B1, bc, B2, bc2, d0, d1, d2, d3, d4, d5, d6, d7, hLs', hB1, hB2, _⟩ := (hB.drop.later hL).head
      have hlt := cell_lt c0
      have hlt' := cell_lt d0
      obtain ⟨⟨_, _, _, _, _, _⟩, o1, o2, o3, o4, o5, o6⟩ := hok
      simp only [Fs.sz] at hsz
      have hfin : Hid ((d.app (.cons op a b bi ty ls bo el .nil)).app r = f ∧ r.Ok ∧ r.sz ≤ k + 1 ∧ (d.app (.cons op a b bi ty ls bo el .nil)).len = d.len + 1) := ⟨by rw [Fs.app_app, ← hf]; rfl, o6, by omega, by rw [Fs.len_app]; rfl⟩
      have hsi : Hid (∀ W : World, Later wr W → Calls Try.prog 26 #[.slice LA ls.length lc, .slice LB ls.length lc'] W fun e w' => e = .returned (.bool true) ∧ Later W w') := fun W hW => same_any LA LB ls.length lc lc' _ (by omega) W (hLs.later hW).1 (hLs'.later hW).1
      have hs1 : Hid (∀ W : World, Later wr W → Calls Try.prog 28 #[.slice A1 bo.len ac, .slice B1 bo.len bc] W fun e w' => e = .returned (.bool true) ∧ Hid (Later W w')) := fun W hW => IH.out bo (by omega) o4 o2 Z Y W A1 B1 ac bc (hA1.later hW) (hB1.later hW)
      have hs2 : Hid (∀ W : World, Later wr W → Calls Try.prog 28 #[.slice A2 el.len ac2, .slice B2 el.len bc2] W fun e w' => e = .returned (.bool true) ∧ Hid (Later W w')) := fun W hW => IH.out el (by omega) o5 o3 Z Y W A2 B2 ac2 bc2 (hA2.later hW) (hB2.later hW)
      replace hL : Hid (Later w wr) := hL
      clear IH hT hU hA hB hLs hLs' hA1 hA2 hB1 hB2 o1 o2 o3 o4 o5 o6 hsz hf hne hZ hY
      go_wp2_with fail
      go_region_law (fail)
      all_goals
        refine at_world ?_
        intro W hW
        obtain ⟨LW, sW, ⟨p0, p1, p2, p3, p4, p5, p6, p7⟩, ⟨q0, q1, q2, q3, q4, q5, q6, q7⟩⟩ := two_at _ _ _ _ _ _ _ _ _ _ _ _ _ _ _ _ _ _ W hW
        clear hW c0 c1 c2 c3 c4 c5 c6 c7 d0 d1 d2 d3 d4 d5 d6 d7
        replace LW : Hid (Later wr W) := LW
        generalize wr.heap.size = P at *
        go_wp2_with (first | (go_at_call 26; refine (hsi.out _ LW.out).mono ?_; clear hsi; rintro e w1 ⟨rfl, L1⟩; replace L1 : Hid (Later W w1) := L1; replace p6 := (later_of L1).cell_of p6; replace p7 := (later_of L1).cell_of p7; replace q6 := (later_of L1).cell_of q6; replace q7 := (later_of L1).cell_of q7) | (go_at_call 28; refine (hs1.out _ (LW.out.trans L1.out)).mono ?_; clear hs1; rintro e w2 ⟨rfl, L2⟩; replace p7 := (later_of L2).cell_of p7; replace q7 := (later_of L2).cell_of q7) | (go_at_call 28; refine (hs2.out _ ((LW.out.trans L1.out).trans L2.out)).mono ?_; clear hs2; rintro e w3 ⟨rfl, L3⟩))
        refine ⟨⟨d.app (.cons op a b bi ty ls bo el .nil), r, by rw [hfin.out.2.2.2]; rfl, hfin.out.1, hfin.out.2.1, hfin.out.2.2.1, hL.out.trans (((LW.out.trans L1.out).trans L2.out).trans L3.out)⟩, ?_⟩
        simp [intOf]
        omega
theorem sameI_any : ∀ (k : Nat) (f : Fs), f.sz ≤ k → f.Ok → f.len * 112 ≤ 140737488351232 → SameC f
  | 0, f, hk, ho, hn => by
    cases f using Fs.split with
    | nil =>
      intro Z Y w A B c c' _ _
      simp only [Fs.len]
      go_enter Try.func28, Try.ntmps28
      go_wp2_with fail
      go_loopw [5] (fun i wr => i = .int .i64 0 ∧ wr = w) (fun i _ => 0)
      case atStart => exact ⟨rfl, rfl⟩
      case round =>
        obtain ⟨rfl, rfl⟩ := hrel
        go_wp2_with fail
        go_ret
        exact ⟨rfl, Lz _⟩
    | cons => simp [Fs.sz] at hk
  | k + 1, f, hk, ho, hn => same_round k f (fun f' h1 h2 h3 => sameI_any k f' h1 h2 h3) hk ho hn
end Go.Proofs.Ytonnmbmdmkmhmaa
