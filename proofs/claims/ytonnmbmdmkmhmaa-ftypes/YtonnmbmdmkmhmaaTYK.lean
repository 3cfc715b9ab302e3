/- The document's types of a module: Global. -/
import Derived.Test.YtonnmbmdmkmhmaaTYJ
set_option linter.unusedVariables false
set_option linter.unusedSimpArgs false
set_option maxRecDepth 100000
set_option maxHeartbeats 8000000
namespace Go.Proofs.Ytonnmbmdmkmhmaa.ty
open Go.RowKit
theorem rglobal_any {Z : Nat → Prop} {m : Md} (hm : MdV m) {w : World} {LA : List Value} (hA : ModC Z w m LA) (k : Int) (hk : k ≤ 9223372036854775807) :
    Calls Try.prog 9 #[.agg LA.toArray, .int .i64 k] w fun e w' => e = .returned (glE (glT m k)) ∧ Hid (Later w w') := by
  have hri : Hid (∀ W, Later w W → Calls Try.prog 24 #[.agg LA.toArray, .int .i64 3, .int .i64 k] W fun e w' => e = .returned (.tuple #[impA (rI m.im 3 k), .int .i64 ((imk m.im 3).length : Nat)]) ∧ Hid (Later W w')) := fun W hW => rimp_any hm (hA.move fun k hk hl => ⟨hk, hW.block hl⟩) 3 k
  obtain ⟨v0, v1, v2, v3, v4, v5, v6, v8, v9, v10, eA, ⟨A0, a0, rfl, r0⟩, ⟨A1, a1, rfl, r1⟩, _, _, _, ⟨A5, a5, rfl, r5⟩, _⟩ := hA
  subst eA
  have hi := hm.im.2
  have hf := hm.gl.2
  obtain ⟨R, hR⟩ : ∃ R, R = glT m k := ⟨_, rfl⟩
  rw [← hR]
  obtain ⟨N, hN⟩ : ∃ N, N = (imk m.im 3).length := ⟨_, rfl⟩
  have hNl : (N : Int) ≤ 140737488351232 := by have := imk_len m.im 3; omega
  obtain ⟨x, hx⟩ : ∃ x, x = rI m.im 3 k := ⟨_, rfl⟩
  rw [← hN, ← hx] at hri
  obtain ⟨x0, x1, x2, x3, x4, x5, x6⟩ := x
  simp only [impA] at hri
  have hfn : Hid ((k < 0 → R = none) ∧ (0 ≤ k → k < N → R = some (x3, x4)) ∧ (∀ o : Nat, k = N + o → R = m.gl[o]?.map (fun x => (x.1, x.2.1)))) := by
    refine ⟨fun h => by rw [hR]; exact if_pos h, fun h0 h => ?_, fun o h => ?_⟩
    · have hl : k.toNat < (imk m.im 3).length := by omega
      rw [rI, if_neg (by omega), List.getD_eq_getElem?_getD, List.getElem?_eq_getElem hl] at hx
      rw [hR, glT, if_neg (by omega), if_pos hl, List.getElem?_eq_getElem hl]
      simp only [Option.getD_some] at hx
      rw [← hx]
      rfl
    · subst hN
      rw [hR, glT, if_neg (by omega), if_neg (by omega), show (k - ((imk m.im 3).length : Int)).toNat = o by omega]
  have R5 : Hid (Rt fGl Z w A5 m.gl) := r5
  clear r0 r1 r5 hN hx hR hm
  generalize hgn : m.gl.length = gn at *
  replace hgn : Hid (gn = m.gl.length) := hgn.symm
  go_enter Try.func9, Try.ntmps9
  go_wp2_with fail
  refine (hri.out _ (by repeat first | exact Lz _ | apply La)).mono ?_
  rintro e w1 ⟨rfl, l1⟩
  have M1 : Hid (Rl w1 w.heap.size 32 [.slice A0 m.ty.length a0, .slice A1 m.im.length a1, v2, v3, v4, .slice A5 gn a5, v6, .int .i64 m.st, v8, v9, v10]) := (rl_new w 32 [.slice A0 m.ty.length a0, .slice A1 m.im.length a1, v2, v3, v4, .slice A5 gn a5, v6, .int .i64 m.st, v8, v9, v10]).later l1.out
  have L1 : Hid (Later w w1) := (La (Lz _)).trans l1.out
  have c5 := M1.out.cell 5 rfl
  have lp := M1.out.lt
  clear hri l1
  by_cases h1 : k < 0
  · have hRn : Hid (R = none) := hfn.out.1 h1
    clear hfn
    go_wp2_with fail
    refine ⟨rfl, .tuple #[.int .i64 0, .bool false, .int .i64 1701], by simp [results, Try.results9, go_sem], by rw [hRn.out]; rfl, by repeat first | exact L1.out | apply La | apply Ld | apply Ln⟩
  rcases (by omega : k < N ∨ (N : Int) ≤ k) with h2 | h2
  · have hRt : Hid (R = some (x3, x4)) := hfn.out.2.1 (by omega) h2
    clear hfn
    have h3 : ¬ (N : Int) ≤ k := by omega
    go_wp2_with fail
    trace_state
    try go_quiet (fail)
    go_wp2_with fail
    refine ⟨rfl, .tuple #[.int .i64 x3, .bool x4, .int .i64 0], by simp [results, Try.results9, go_sem], by rw [hRt.out]; rfl, by repeat first | exact L1.out | apply La | apply Lv | apply Ld | apply Ln⟩
  · obtain ⟨o, ho⟩ : ∃ o : Nat, k = N + o := ⟨(k - N).toNat, by omega⟩
    have hRo := hfn.out.2.2 o ho
    clear hfn
    have hko : k - (N : Int) = (o : Int) := by omega
    have h3 : ¬ k < (N : Int) := by omega
    clear ho
    rcases Nat.lt_or_ge o gn with h4 | h4
    · have hol : o < m.gl.length := by have := hgn.out; omega
      have h5 : (o : Int) < (gn : Int) := by omega
      obtain ⟨g9, o9, q9, eB, _, hq9, hit9⟩ := Rt.at (f := fGl) 3 (fun _ => rfl) (R5.out.later (fun _ => Nat.succ_pos _) L1.out) o hol
      rw [List.getElem?_eq_getElem hol] at hRo
      generalize m.gl[o] = y at *
      obtain ⟨y0, y1, y2⟩ := y
      have hRt : Hid (R = some (y0, y1)) := hRo
      obtain ⟨u0, _, rfl, e0, u1, _, rfl, e1, _⟩ := hit9
      have e0 : u0 = .int .i64 y0 := e0
      have e1 : u1 = .bool y1 := e1
      subst e0 e1
      have k0 := hq9 0 _ rfl
      have k1 := hq9 1 _ rfl
      simp only [Nat.add_zero] at k0
      have lg := cell_lt k0
      rw [eB] at c5
      clear hRo hq9 hol eB
      go_wp2_with fail
      trace_state
      try go_quiet (fail)
      go_wp2_with fail
      refine ⟨rfl, .tuple #[.int .i64 y0, .bool y1, .int .i64 0], by simp [results, Try.results9, go_sem], by rw [hRt.out]; rfl, by repeat first | exact L1.out | apply La | apply Lv | apply Ld | apply Ln⟩
    · have hRn : Hid (R = none) := by
        show R = none
        rw [hRo, List.getElem?_eq_none (by have := hgn.out; omega)]
        rfl
      have h5 : ¬ (o : Int) < (gn : Int) := by omega
      have h6 : (gn : Int) ≤ (o : Int) := by omega
      clear hRo
      go_wp2_with fail
      refine ⟨rfl, .tuple #[.int .i64 0, .bool false, .int .i64 1701], by simp [results, Try.results9, go_sem], by rw [hRn.out]; rfl, by repeat first | exact L1.out | apply La | apply Ld | apply Ln⟩
end Go.Proofs.Ytonnmbmdmkmhmaa.ty
