/- Ftypes: any module's types, any two types. -/
import Derived.Test.YtonnmbmdmkmhmaaTYK
import Derived.Test.YtonnmbmdmkmhmaaCMB
import Derived.Test.YtonnmbmdmkmhmaaFV
import Derived.Test.YtonnmbmdmkmhmaaXP
import Derived.LoopTactic
import Derived.OpenShut
import Derived.ChangeMaps5
import Derived.ShutString
import Derived.SizedLaws
set_option linter.unusedVariables false
set_option linter.unusedSimpArgs false
set_option maxRecDepth 100000
set_option maxHeartbeats 8000000
namespace Go.Proofs.Ytonnmbmdmkmhmaa.ftypes
open Go.ChangeShapes Go.WideShapes Go.ChangeAt Go.RowKit Go.Proofs.Ytonnmbmdmkmhmaa.ty
theorem FtR.one {r : Option (List Int × List Int)} {W w1 : World} {e : Ending} (h : FtR r W w1 e) : ∃ A a B b, e = .returned (.tuple #[.agg #[.slice A (r.getD ([], [])).1.length a, .slice B (r.getD ([], [])).2.length b], .int .i64 (if r.isSome then 0 else 1701)]) ∧ Lq (Zf W.heap.size w1) w1 A (r.getD ([], [])).1 ∧ Lq (Zf W.heap.size w1) w1 B (r.getD ([], [])).2 := by
  cases r with
  | none => exact ⟨none, 0, none, 0, h, ⟨Or.inl rfl, fun x => absurd rfl x⟩, ⟨Or.inl rfl, fun x => absurd rfl x⟩⟩
  | some x =>
    obtain ⟨A, a, B, b, he, hA, hB⟩ := h
    exact ⟨A, a, B, b, he, hA, hB⟩
theorem fn_len {m : Md} (hm : MdV m) (k : Int) : ((fnT m k).getD ([], [])).1.length * 8 ≤ 140737488351232 ∧ ((fnT m k).getD ([], [])).2.length * 8 ≤ 140737488351232 := by
  have h : ∀ t, ((tyAt m t).getD ([], [])).1.length * 8 ≤ 140737488351232 ∧ ((tyAt m t).getD ([], [])).2.length * 8 ≤ 140737488351232 := fun t => by
    unfold tyAt
    split
    · exact ⟨by decide, by decide⟩
    · cases e : m.ty[t.toNat]? with
      | none => exact ⟨by decide, by decide⟩
      | some x => exact ⟨(hm.ty.1 x (List.mem_of_getElem? e)).1.2, (hm.ty.1 x (List.mem_of_getElem? e)).2.2⟩
  unfold fnT
  split
  · exact ⟨by decide, by decide⟩
  · split
    · exact ⟨by decide, by decide⟩
    · exact h _
theorem lq_lt {Z : Nat → Prop} {W : World} {A : Option Addr} {ls : List Int} (h : Lq Z W A ls) : Lq (fun k => Z k ∧ k < W.heap.size) W A ls := ⟨h.1, fun hne a ha => ⟨h.2 hne a ha, by
  rcases h.1 with h0 | ⟨b, o, e, hc⟩
  · exact absurd (List.length_eq_zero_iff.1 h0) hne
  · rw [ha] at e
    cases e
    exact cell_lt (hc 0 (List.length_pos_iff.2 hne))⟩⟩
theorem core (LA : List Value) (k : Int) (hk : -9223372036854775808 ≤ k ∧ k ≤ 9223372036854775807) (A B C D : Option Addr) (x y : List Int × List Int) (a b c d : Nat) (w : World) (hA : ∃ m : Md, ModC (· < w.heap.size) w m LA ∧ MdV m)
    (hx : (vI x.1 ∧ vI x.2) ∧ Lq (· < w.heap.size) w A x.1 ∧ Lq (· < w.heap.size) w B x.2) (hy : (vI y.1 ∧ vI y.2) ∧ Lq (· < w.heap.size) w C y.1 ∧ Lq (· < w.heap.size) w D y.2) :
    Calls Try.prog 3 #[.agg LA.toArray, .int .i64 k, .agg #[.slice A x.1.length a, .slice B x.2.length b], .agg #[.slice C y.1.length c, .slice D y.2.length d]] w fun e w' => e = .returned (.bool true) ∧ Later w w' := by
  obtain ⟨m, hA, hm⟩ := hA
  have hcm := cmod_any hm hA
  replace hcm : Hid _ := hcm
  obtain ⟨v0, v1, v2, v3, v4, v5, v6, v8, v9, v10, eA, hrest⟩ := id hA
  subst eA
  replace hrest : Hid _ := hrest
  go_enter Try.func3, Try.ntmps3
  go_wp2_with fail
  obtain ⟨W0, hW0⟩ : ∃ W0, W0 = ((w.alloc (.cells #[v0, v1, v2, v3, v4, v5, v6, .int .i64 m.st, v8, v9, v10] 32)).alloc (.cells #[.slice A x.1.length a, .slice B x.2.length b] 34)).alloc (.cells #[.slice C y.1.length c, .slice D y.2.length d] 34) := ⟨_, rfl⟩
  rw [← hW0]
  have L : Hid (Later w W0) := by rw [hW0]; exact La (La (La (Lz _)))
  have RM : Hid (Rl W0 w.heap.size 32 [v0, v1, v2, v3, v4, v5, v6, .int .i64 m.st, v8, v9, v10]) := by rw [hW0]; exact (rl_new w 32 [v0, v1, v2, v3, v4, v5, v6, .int .i64 m.st, v8, v9, v10]).later (La (La (Lz _)))
  have RA : Hid (Rl W0 (w.heap.size + 1) 34 [.slice A x.1.length a, .slice B x.2.length b]) := by
    rw [hW0]
    have := (rl_new (w.alloc (.cells #[v0, v1, v2, v3, v4, v5, v6, .int .i64 m.st, v8, v9, v10] 32)) 34 [.slice A x.1.length a, .slice B x.2.length b]).later (La (c := #[.slice C y.1.length c, .slice D y.2.length d]) (t := 34) (Lz _))
    rw [World.size_alloc] at this
    exact this
  have RB : Hid (Rl W0 (w.heap.size + 1 + 1) 34 [.slice C y.1.length c, .slice D y.2.length d]) := by
    rw [hW0]
    have := rl_new ((w.alloc (.cells #[v0, v1, v2, v3, v4, v5, v6, .int .i64 m.st, v8, v9, v10] 32)).alloc (.cells #[.slice A x.1.length a, .slice B x.2.length b] 34)) 34 [.slice C y.1.length c, .slice D y.2.length d]
    rw [World.size_alloc, World.size_alloc] at this
    exact this
  clear hW0
  refine (cmod_any hm (hA.move fun j hj hl => ⟨hj, L.out.block hl⟩)).mono ?_
  rintro e w1 ⟨L1, rfl, hX, l1⟩
  replace hA : Hid (ModC _ _ _ _) := hA
  obtain ⟨z0, z1, z2, z3, z4, z5, z6, z8, z9, z10, eX, ⟨U0, u0, rfl, rx0⟩, ⟨U1, u1, rfl, rx1⟩, ⟨U2, u2, rfl, rx2⟩, ⟨U3, u3, rfl, rx3⟩, ⟨U4, u4, rfl, rx4⟩, ⟨U5, u5, rfl, rx5⟩, ⟨U6, u6, rfl, rx6⟩, ⟨U8, u8, rfl, rx8⟩, ⟨U9, u9, rfl, rx9⟩, ⟨U10, u10, rfl, rx10⟩⟩ := id hX.out
  subst eX
  clear rx0 rx1 rx2 rx3 rx4 rx5 rx6 rx8 rx9 rx10
  go_wp2_with fail
  replace RM : Hid (Rl _ _ _ _) := Rl.later RM.out l1.out
  replace RA : Hid (Rl _ _ _ _) := Rl.later RA.out l1.out
  replace RB : Hid (Rl _ _ _ _) := Rl.later RB.out l1.out
  replace L : Hid (Later w _) := L.out.trans l1.out
  obtain ⟨W1, hW1⟩ : ∃ W1, W1 = w1.alloc (.cells #[.slice U0 m.ty.length u0, .slice U1 m.im.length u1, .slice U2 m.fu.length u2, .slice U3 m.ta.length u3, .slice U4 m.me.length u4, .slice U5 m.gl.length u5, .slice U6 m.ex.length u6, .int .i64 m.st, .slice U8 m.el.length u8, .slice U9 m.co.length u9, .slice U10 m.da.length u10] 32) := ⟨_, rfl⟩
  have RX : Hid (Rl W1 w1.heap.size 32 [.slice U0 m.ty.length u0, .slice U1 m.im.length u1, .slice U2 m.fu.length u2, .slice U3 m.ta.length u3, .slice U4 m.me.length u4, .slice U5 m.gl.length u5, .slice U6 m.ex.length u6, .int .i64 m.st, .slice U8 m.el.length u8, .slice U9 m.co.length u9, .slice U10 m.da.length u10]) := by rw [hW1]; exact rl_new w1 32 [.slice U0 m.ty.length u0, .slice U1 m.im.length u1, .slice U2 m.fu.length u2, .slice U3 m.ta.length u3, .slice U4 m.me.length u4, .slice U5 m.gl.length u5, .slice U6 m.ex.length u6, .int .i64 m.st, .slice U8 m.el.length u8, .slice U9 m.co.length u9, .slice U10 m.da.length u10]
  have hlx : Later w1 W1 := by rw [hW1]; exact La (Lz _)
  replace RM : Hid (Rl _ _ _ _) := Rl.later RM.out hlx
  replace RA : Hid (Rl _ _ _ _) := Rl.later RA.out hlx
  replace RB : Hid (Rl _ _ _ _) := Rl.later RB.out hlx
  replace L : Hid (Later w _) := L.out.trans hlx
  replace hX : Hid (ModC (· < W1.heap.size) W1 m _) := ModC.move (fun j hj hl => ⟨Nat.lt_of_lt_of_le hl hlx.size, hlx.block hl⟩) hX.out
  rw [← hW1]
  clear hlx l1 hcm hW1
  have RM9 : Hid (Rl _ _ _ _) := RM
  have RA9 : Hid (Rl _ _ _ _) := RA
  have RB9 : Hid (Rl _ _ _ _) := RB
  have RX9 : Hid (Rl _ _ _ _) := RX
  have L9 : Hid (Later w W1) := L
  have hZX : ∀ j, j < W1.heap.size → j < W1.heap.size := fun _ h => h
  refine (func_any hm hZX hX.out k hk.2).mono ?_
  rintro e w2 ⟨hF, l2⟩
  obtain ⟨T1, t1, T2, t2, rfl, hT1, hT2⟩ := FtR.one hF
  obtain ⟨R, hR⟩ : ∃ R, R = (fnT m k).getD ([], []) := ⟨_, rfl⟩
  obtain ⟨E, hE⟩ : ∃ E : Int, E = (if (fnT m k).isSome then 0 else 1701) := ⟨_, rfl⟩
  rw [← hR] at hT1 hT2 ⊢
  rw [← hE]
  have hRb : Hid (R.1.length * 8 ≤ 140737488351232 ∧ R.2.length * 8 ≤ 140737488351232) := by rw [hR]; exact fn_len hm k
  replace hR : Hid (_ = _) := hR
  replace hE : Hid (_ = _) := hE
  replace hT1 : Hid (Lq _ _ _ _) := hT1
  replace hT2 : Hid (Lq _ _ _ _) := hT2
  have LX : Hid (Later W1 w2) := l2
  have LT : Hid (Later w2 w2) := Lz _
  replace RM : Hid (Rl _ _ _ _) := Rl.later RM.out l2.out
  replace RA : Hid (Rl _ _ _ _) := Rl.later RA.out l2.out
  replace RB : Hid (Rl _ _ _ _) := Rl.later RB.out l2.out
  replace RX : Hid (Rl _ _ _ _) := Rl.later RX.out l2.out
  replace L : Hid (Later w _) := L.out.trans l2.out
  clear hZX hF l2
  have rm0 := RM.out.cell 0 rfl
  have rm1 := RM.out.cell 1 rfl
  have rm2 := RM.out.cell 2 rfl
  have rm3 := RM.out.cell 3 rfl
  have rm4 := RM.out.cell 4 rfl
  have rm5 := RM.out.cell 5 rfl
  have rm6 := RM.out.cell 6 rfl
  have rm7 := RM.out.cell 7 rfl
  have rm8 := RM.out.cell 8 rfl
  have rm9 := RM.out.cell 9 rfl
  have rm10 := RM.out.cell 10 rfl
  have rml := RM.out.lt
  go_wp2_with fail
  clear rm0 rm1 rm2 rm3 rm4 rm5 rm6 rm7 rm8 rm9 rm10 rml
  obtain ⟨W2, hW2⟩ : ∃ W, W = w2.alloc (.cells #[.slice T1 R.1.length t1, .slice T2 R.2.length t2] 34) := ⟨_, rfl⟩
  rw [← hW2]
  have RT : Hid (Rl W2 w2.heap.size 34 [.slice T1 R.1.length t1, .slice T2 R.2.length t2]) := by rw [hW2]; exact rl_new w2 34 [.slice T1 R.1.length t1, .slice T2 R.2.length t2]
  have hlW2 : Hid (Later w2 W2) := by rw [hW2]; exact La (Lz _)
  replace RM : Hid (Rl _ _ _ _) := Rl.later RM.out hlW2.out
  replace RA : Hid (Rl _ _ _ _) := Rl.later RA.out hlW2.out
  replace RB : Hid (Rl _ _ _ _) := Rl.later RB.out hlW2.out
  replace RX : Hid (Rl _ _ _ _) := Rl.later RX.out hlW2.out
  replace L : Hid (Later w _) := L.out.trans hlW2.out
  clear hW2
  replace LX : Hid (Later W1 W2) := LX.out.trans hlW2.out
  replace LT : Hid (Later w2 W2) := LT.out.trans hlW2.out
  refine (rfunc_any hm (ModC.move (fun j hj hl => ⟨hj, L.out.block hl⟩) hA.out) k hk.2).mono ?_
  rintro e w3 ⟨hF, l3⟩
  obtain ⟨V1, y1, V2, y2, rfl, hV1, hV2⟩ := FtR.one hF
  rw [← hR.out] at hV1 hV2 ⊢
  rw [← hE.out]
  replace hV1 : Hid (Lq _ _ _ _) := hV1
  replace hV2 : Hid (Lq _ _ _ _) := hV2
  replace RT : Hid (Rl _ _ _ _) := Rl.later RT.out l3.out
  replace LX : Hid (Later W1 w3) := LX.out.trans l3.out
  replace LT : Hid (Later w2 w3) := LT.out.trans l3.out
  have LV : Hid (Later w3 w3) := Lz _
  replace RM : Hid (Rl _ _ _ _) := Rl.later RM.out l3.out
  replace RA : Hid (Rl _ _ _ _) := Rl.later RA.out l3.out
  replace RB : Hid (Rl _ _ _ _) := Rl.later RB.out l3.out
  replace RX : Hid (Rl _ _ _ _) := Rl.later RX.out l3.out
  replace L : Hid (Later w _) := L.out.trans l3.out
  clear hF l3
  have rx0 := RX.out.cell 0 rfl
  have rx1 := RX.out.cell 1 rfl
  have rx2 := RX.out.cell 2 rfl
  have rx3 := RX.out.cell 3 rfl
  have rx4 := RX.out.cell 4 rfl
  have rx5 := RX.out.cell 5 rfl
  have rx6 := RX.out.cell 6 rfl
  have rx7 := RX.out.cell 7 rfl
  have rx8 := RX.out.cell 8 rfl
  have rx9 := RX.out.cell 9 rfl
  have rx10 := RX.out.cell 10 rfl
  have rxl := RX.out.lt
  go_wp2_with fail
  clear rx0 rx1 rx2 rx3 rx4 rx5 rx6 rx7 rx8 rx9 rx10 rxl
  obtain ⟨W3, hW3⟩ : ∃ W, W = w3.alloc (.cells #[.slice V1 R.1.length y1, .slice V2 R.2.length y2] 34) := ⟨_, rfl⟩
  rw [← hW3]
  have RU : Hid (Rl W3 w3.heap.size 34 [.slice V1 R.1.length y1, .slice V2 R.2.length y2]) := by rw [hW3]; exact rl_new w3 34 [.slice V1 R.1.length y1, .slice V2 R.2.length y2]
  have hlW3 : Hid (Later w3 W3) := by rw [hW3]; exact La (Lz _)
  replace RM : Hid (Rl _ _ _ _) := Rl.later RM.out hlW3.out
  replace RA : Hid (Rl _ _ _ _) := Rl.later RA.out hlW3.out
  replace RB : Hid (Rl _ _ _ _) := Rl.later RB.out hlW3.out
  replace RX : Hid (Rl _ _ _ _) := Rl.later RX.out hlW3.out
  replace L : Hid (Later w _) := L.out.trans hlW3.out
  clear hW3
  replace RT : Hid (Rl _ _ _ _) := Rl.later RT.out hlW3.out
  replace LX : Hid (Later W1 W3) := LX.out.trans hlW3.out
  replace LT : Hid (Later w2 W3) := LT.out.trans hlW3.out
  replace LV : Hid (Later w3 W3) := LV.out.trans hlW3.out
  obtain ⟨g1, g2, g3, hG⟩ : ∃ g1 g2 g3, glE (glT m k) = .tuple #[.int .i64 g1, .bool g2, .int .i64 g3] := by cases glT m k <;> exact ⟨_, _, _, rfl⟩
  refine (global_any (Z := (· < W1.heap.size)) hm (fun j hj => Nat.lt_of_lt_of_le hj LX.out.size) (ModC.move (fun j hj hl => ⟨hj, LX.out.block hl⟩) hX.out) k hk.2).mono ?_
  rintro e w4 ⟨rfl, l4⟩
  rw [hG]
  replace LX : Hid (Later W1 w4) := LX.out.trans l4.out
  replace LT : Hid (Later w2 w4) := LT.out.trans l4.out
  replace LV : Hid (Later w3 w4) := LV.out.trans l4.out
  replace RM : Hid (Rl _ _ _ _) := Rl.later RM.out l4.out
  replace RA : Hid (Rl _ _ _ _) := Rl.later RA.out l4.out
  replace RB : Hid (Rl _ _ _ _) := Rl.later RB.out l4.out
  replace RX : Hid (Rl _ _ _ _) := Rl.later RX.out l4.out
  replace RT : Hid (Rl _ _ _ _) := Rl.later RT.out l4.out
  replace RU : Hid (Rl _ _ _ _) := Rl.later RU.out l4.out
  replace L : Hid (Later w _) := L.out.trans l4.out
  clear l4
  have rm0 := RM.out.cell 0 rfl
  have rm1 := RM.out.cell 1 rfl
  have rm2 := RM.out.cell 2 rfl
  have rm3 := RM.out.cell 3 rfl
  have rm4 := RM.out.cell 4 rfl
  have rm5 := RM.out.cell 5 rfl
  have rm6 := RM.out.cell 6 rfl
  have rm7 := RM.out.cell 7 rfl
  have rm8 := RM.out.cell 8 rfl
  have rm9 := RM.out.cell 9 rfl
  have rm10 := RM.out.cell 10 rfl
  have rml := RM.out.lt
  go_wp2_with fail
  clear rm0 rm1 rm2 rm3 rm4 rm5 rm6 rm7 rm8 rm9 rm10 rml
  refine (rglobal_any hm (ModC.move (fun j hj hl => ⟨hj, L.out.block hl⟩) hA.out) k hk.2).mono ?_
  rintro e w5 ⟨rfl, l5⟩
  rw [hG]
  clear hG
  replace LX : Hid (Later W1 w5) := LX.out.trans l5.out
  replace LT : Hid (Later w2 w5) := LT.out.trans l5.out
  replace LV : Hid (Later w3 w5) := LV.out.trans l5.out
  replace RM : Hid (Rl _ _ _ _) := Rl.later RM.out l5.out
  replace RA : Hid (Rl _ _ _ _) := Rl.later RA.out l5.out
  replace RB : Hid (Rl _ _ _ _) := Rl.later RB.out l5.out
  replace RX : Hid (Rl _ _ _ _) := Rl.later RX.out l5.out
  replace RT : Hid (Rl _ _ _ _) := Rl.later RT.out l5.out
  replace RU : Hid (Rl _ _ _ _) := Rl.later RU.out l5.out
  replace L : Hid (Later w _) := L.out.trans l5.out
  clear l5
  have rx0 := RX.out.cell 0 rfl
  have rx1 := RX.out.cell 1 rfl
  have rx2 := RX.out.cell 2 rfl
  have rx3 := RX.out.cell 3 rfl
  have rx4 := RX.out.cell 4 rfl
  have rx5 := RX.out.cell 5 rfl
  have rx6 := RX.out.cell 6 rfl
  have rx7 := RX.out.cell 7 rfl
  have rx8 := RX.out.cell 8 rfl
  have rx9 := RX.out.cell 9 rfl
  have rx10 := RX.out.cell 10 rfl
  have rxl := RX.out.lt
  go_wp2_with fail
  clear rx0 rx1 rx2 rx3 rx4 rx5 rx6 rx7 rx8 rx9 rx10 rxl
  obtain ⟨n0, hn0⟩ : ∃ n, n = (imk m.im 0).length + m.fu.length := ⟨_, rfl⟩
  obtain ⟨n1, hn1⟩ : ∃ n, n = (imk m.im 1).length + m.ta.length := ⟨_, rfl⟩
  obtain ⟨n2, hn2⟩ : ∃ n, n = (imk m.im 2).length + m.me.length := ⟨_, rfl⟩
  obtain ⟨n3, hn3⟩ : ∃ n, n = (imk m.im 3).length + m.gl.length := ⟨_, rfl⟩
  replace hn0 : Hid (_ = _) := hn0
  replace hn1 : Hid (_ = _) := hn1
  replace hn2 : Hid (_ = _) := hn2
  replace hn3 : Hid (_ = _) := hn3
  refine (counts_any (Z := (· < W1.heap.size)) hm (fun j hj => Nat.lt_of_lt_of_le hj LX.out.size) (ModC.move (fun j hj hl => ⟨hj, LX.out.block hl⟩) hX.out)).mono ?_
  rintro e w6 ⟨rfl, l6⟩
  rw [← hn0.out, ← hn1.out, ← hn2.out, ← hn3.out]
  replace LX : Hid (Later W1 w6) := LX.out.trans l6.out
  replace LT : Hid (Later w2 w6) := LT.out.trans l6.out
  replace LV : Hid (Later w3 w6) := LV.out.trans l6.out
  replace RM : Hid (Rl _ _ _ _) := Rl.later RM.out l6.out
  replace RA : Hid (Rl _ _ _ _) := Rl.later RA.out l6.out
  replace RB : Hid (Rl _ _ _ _) := Rl.later RB.out l6.out
  replace RX : Hid (Rl _ _ _ _) := Rl.later RX.out l6.out
  replace RT : Hid (Rl _ _ _ _) := Rl.later RT.out l6.out
  replace RU : Hid (Rl _ _ _ _) := Rl.later RU.out l6.out
  replace L : Hid (Later w _) := L.out.trans l6.out
  clear l6
  have rm0 := RM.out.cell 0 rfl
  have rm1 := RM.out.cell 1 rfl
  have rm2 := RM.out.cell 2 rfl
  have rm3 := RM.out.cell 3 rfl
  have rm4 := RM.out.cell 4 rfl
  have rm5 := RM.out.cell 5 rfl
  have rm6 := RM.out.cell 6 rfl
  have rm7 := RM.out.cell 7 rfl
  have rm8 := RM.out.cell 8 rfl
  have rm9 := RM.out.cell 9 rfl
  have rm10 := RM.out.cell 10 rfl
  have rml := RM.out.lt
  go_wp2_with fail
  clear rm0 rm1 rm2 rm3 rm4 rm5 rm6 rm7 rm8 rm9 rm10 rml
  refine (rcounts_any hm (ModC.move (fun j hj hl => ⟨hj, L.out.block hl⟩) hA.out)).mono ?_
  rintro e w7 ⟨rfl, l7⟩
  rw [← hn0.out, ← hn1.out, ← hn2.out, ← hn3.out]
  clear hn0 hn1 hn2 hn3
  replace LX : Hid (Later W1 w7) := LX.out.trans l7.out
  replace LT : Hid (Later w2 w7) := LT.out.trans l7.out
  replace LV : Hid (Later w3 w7) := LV.out.trans l7.out
  replace RM : Hid (Rl _ _ _ _) := Rl.later RM.out l7.out
  replace RA : Hid (Rl _ _ _ _) := Rl.later RA.out l7.out
  replace RB : Hid (Rl _ _ _ _) := Rl.later RB.out l7.out
  replace RX : Hid (Rl _ _ _ _) := Rl.later RX.out l7.out
  replace RT : Hid (Rl _ _ _ _) := Rl.later RT.out l7.out
  replace RU : Hid (Rl _ _ _ _) := Rl.later RU.out l7.out
  replace L : Hid (Later w _) := L.out.trans l7.out
  clear l7
  have rt0 := RT.out.cell 0 rfl
  have rt1 := RT.out.cell 1 rfl
  have rtl := RT.out.lt
  have ru0 := RU.out.cell 0 rfl
  have ru1 := RU.out.cell 1 rfl
  have rul := RU.out.lt
  go_wp2_with fail
  clear rt0 rt1 ru0 ru1 rtl rul
  refine (stype_any (Zf W1.heap.size w7) (Zf W2.heap.size w7) R ⟨by have := hRb.out.1; omega, by have := hRb.out.2; omega⟩ w7 T1 T2 V1 V2 t1 t2 y1 y2 (lq_zl hT1.out LT.out) (lq_zl hT2.out LT.out) (lq_zl hV1.out LV.out) (lq_zl hV2.out LV.out)).mono ?_
  rintro e w8 ⟨rfl, l8⟩
  replace LX : Hid (Later W1 w8) := LX.out.trans l8.out
  replace LT : Hid (Later w2 w8) := LT.out.trans l8.out
  replace RM : Hid (Rl _ _ _ _) := Rl.later RM.out l8.out
  replace RA : Hid (Rl _ _ _ _) := Rl.later RA.out l8.out
  replace RB : Hid (Rl _ _ _ _) := Rl.later RB.out l8.out
  replace RX : Hid (Rl _ _ _ _) := Rl.later RX.out l8.out
  replace RT : Hid (Rl _ _ _ _) := Rl.later RT.out l8.out
  replace RU : Hid (Rl _ _ _ _) := Rl.later RU.out l8.out
  replace L : Hid (Later w _) := L.out.trans l8.out
  replace hT1 : Hid (Lq _ _ _ _) := lq_lt (lq_zl hT1.out LT.out)
  replace hT2 : Hid (Lq _ _ _ _) := lq_lt (lq_zl hT2.out LT.out)
  clear l8 LT LV hV1 hV2
  have rt0 := RT.out.cell 0 rfl
  have rt1 := RT.out.cell 1 rfl
  have rtl := RT.out.lt
  go_wp2_with (go_at_call 13; refine (num_any _ _).mono ?_; rintro e w' ⟨rfl, he⟩; rw [he]; clear he w')
  have hu : Unf (fun j => Zf W1.heap.size w8 j ∧ j < w8.heap.size) w8 := fun j i hj _ => hj.1.2 i
  have hz : ∀ j, (fun j => Zf W1.heap.size w8 j ∧ j < w8.heap.size) j → j < w8.heap.size := fun j hj => hj.2
  refine (spI_any T1 R.1.length t1 hRb.out.1 w8 hu hz hT1.out.nq).mono ?_
  rintro e w9 ⟨rfl, hs⟩
  replace rt1 := hs.out.other rt1 (fun x e => by cases e)
  replace rtl := cell_lt rt1
  replace hs : Hid (Spt _ _ _) := hs
  replace hu : Hid (Unf _ _) := hu
  replace hz : Hid (∀ j, _ → _) := hz
  clear rt0
  go_wp2_with fail
  refine (spI_any T2 R.2.length t2 hRb.out.2 w9 (Unf.spt hs.out hu.out hz.out) (fun j hj => Nat.lt_of_lt_of_le (hz.out j hj) hs.out.size) (hT2.out.nq.spt hs.out)).mono ?_
  rintro e wa ⟨rfl, hs2⟩
  have hL : Hid (Later W1 wa) := Spt.later LX.out (hs.out.trans hs2.out) (fun j hj => hj.1.1)
  clear hs hs2 hu hz hT1 hT2 rt1 rtl RT RU RM RA RB RX L LX hrest hE hR hRb
  have L : Hid (Later w wa) := L9.out.trans hL.out
  have RM : Hid (Rl _ _ _ _) := Rl.later RM9.out hL.out
  have RA : Hid (Rl _ _ _ _) := Rl.later RA9.out hL.out
  have RB : Hid (Rl _ _ _ _) := Rl.later RB9.out hL.out
  have RX : Hid (Rl _ _ _ _) := Rl.later RX9.out hL.out
  clear RM9 RA9 RB9 RX9 L9
  have hS : Hid (∀ W, Later wa W → Calls Try.prog 15 #[.agg #[.slice U0 m.ty.length u0, .slice U1 m.im.length u1, .slice U2 m.fu.length u2, .slice U3 m.ta.length u3, .slice U4 m.me.length u4, .slice U5 m.gl.length u5, .slice U6 m.ex.length u6, .int .i64 m.st, .slice U8 m.el.length u8, .slice U9 m.co.length u9, .slice U10 m.da.length u10], .agg #[v0, v1, v2, v3, v4, v5, v6, .int .i64 m.st, v8, v9, v10]] W fun e w2 => e = .returned (.bool true) ∧ Later W w2) := fun W hW => (smod_big hm.big (ModC.move (fun j hj hl => ⟨hj, (hL.out.trans hW).block hl⟩) hX.out) (ModC.move (fun j hj hl => ⟨hj, (L.out.trans hW).block hl⟩) hA.out)).mono fun e w2 h => ⟨h.1, h.2.out⟩
  have bx : x.1.length ≤ 140737488351232 ∧ x.2.length ≤ 140737488351232 := ⟨by have := hx.1.1.2; omega, by have := hx.1.2.2; omega⟩
  have by_ : y.1.length ≤ 140737488351232 ∧ y.2.length ≤ 140737488351232 := ⟨by have := hy.1.1.2; omega, by have := hy.1.2.2; omega⟩
  have lA : ∀ W, Later wa W → Lst W A x.1.length (fun j => x.1.getD j 0) := fun W hW => (hx.2.1.later (L.out.trans hW)).1
  have lB : ∀ W, Later wa W → Lst W B x.2.length (fun j => x.2.getD j 0) := fun W hW => (hx.2.2.later (L.out.trans hW)).1
  have lC : ∀ W, Later wa W → Lst W C y.1.length (fun j => y.1.getD j 0) := fun W hW => (hy.2.1.later (L.out.trans hW)).1
  have lD : ∀ W, Later wa W → Lst W D y.2.length (fun j => y.2.getD j 0) := fun W hW => (hy.2.2.later (L.out.trans hW)).1
  have hM1 : Hid (∀ W, Later wa W → Calls Try.prog 16 #[.agg #[.slice A x.1.length a, .slice B x.2.length b]] W fun e w2 => e = .returned (.bool (tMay x)) ∧ Later W w2) := fun W hW => (may_any A B x a b bx.1 bx.2 W (lA W hW) (lB W hW)).mono fun e w2 h => ⟨h.1, h.2.out⟩
  have hM2 : Hid (∀ W, Later wa W → Calls Try.prog 17 #[.agg #[.slice A x.1.length a, .slice B x.2.length b]] W fun e w2 => e = .returned (.bool (tMay x)) ∧ Later W w2) := fun W hW => (rmay_any A B x a b bx.1 bx.2 W (lA W hW) (lB W hW)).mono fun e w2 h => ⟨h.1, h.2.out⟩
  have hS1 : Hid (∀ W, Later wa W → Calls Try.prog 18 #[.agg #[.slice A x.1.length a, .slice B x.2.length b], .agg #[.slice C y.1.length c, .slice D y.2.length d]] W fun e w2 => e = .returned (.bool (tSame x y)) ∧ Later W w2) := fun W hW => (fsame_any A B C D x y a b c d W bx by_ (lA W hW) (lB W hW) (lC W hW) (lD W hW)).mono fun e w2 h => ⟨h.1, h.2.out⟩
  have hS2 : Hid (∀ W, Later wa W → Calls Try.prog 19 #[.agg #[.slice A x.1.length a, .slice B x.2.length b], .agg #[.slice C y.1.length c, .slice D y.2.length d]] W fun e w2 => e = .returned (.bool (tSame x y)) ∧ Later W w2) := fun W hW => (rsame_any A B C D x y a b c d W bx by_ (lA W hW) (lB W hW) (lC W hW) (lD W hW)).mono fun e w2 h => ⟨h.1, h.2.out⟩
  have hS3 : Hid (∀ W, Later wa W → Calls Try.prog 18 #[.agg #[.slice A x.1.length a, .slice B x.2.length b], .agg #[.slice A x.1.length a, .slice B x.2.length b]] W fun e w2 => e = .returned (.bool true) ∧ Later W w2) := fun W hW => (fsame_any A B A B x x a b a b W bx bx (lA W hW) (lB W hW) (lA W hW) (lB W hW)).mono fun e w2 h => ⟨by rw [h.1]; simp [tSame], h.2.out⟩
  have hAw : Hid (∀ W, Calls Try.prog 20 #[] W fun e w2 => e = .returned (.bool true) ∧ Later W w2) := fun W => (awake_any W).mono fun e w2 h => ⟨h.1, h.2.out⟩
  clear hL hX hA lA lB lC lD bx by_ hx hy hm
  have rm0 := RM.out.cell 0 rfl
  have rm1 := RM.out.cell 1 rfl
  have rm2 := RM.out.cell 2 rfl
  have rm3 := RM.out.cell 3 rfl
  have rm4 := RM.out.cell 4 rfl
  have rm5 := RM.out.cell 5 rfl
  have rm6 := RM.out.cell 6 rfl
  have rm7 := RM.out.cell 7 rfl
  have rm8 := RM.out.cell 8 rfl
  have rm9 := RM.out.cell 9 rfl
  have rm10 := RM.out.cell 10 rfl
  have rml := RM.out.lt
  have rx0 := RX.out.cell 0 rfl
  have rx1 := RX.out.cell 1 rfl
  have rx2 := RX.out.cell 2 rfl
  have rx3 := RX.out.cell 3 rfl
  have rx4 := RX.out.cell 4 rfl
  have rx5 := RX.out.cell 5 rfl
  have rx6 := RX.out.cell 6 rfl
  have rx7 := RX.out.cell 7 rfl
  have rx8 := RX.out.cell 8 rfl
  have rx9 := RX.out.cell 9 rfl
  have rx10 := RX.out.cell 10 rfl
  have rxl := RX.out.lt
  have ra0 := RA.out.cell 0 rfl
  have ra1 := RA.out.cell 1 rfl
  have ral := RA.out.lt
  have rb0 := RB.out.cell 0 rfl
  have rb1 := RB.out.cell 1 rfl
  have rbl := RB.out.lt
  generalize tMay x = bm at *
  generalize tSame x y = bs at *
  clear RM RX RA RB
  go_wp2_with fail
  refine wp_region_quiet_far (by kernel_rfl) (by kernel_rfl) ?_
  go_big_quiet_step (first | (go_at_call 15; exact Calls.far_of (hS.out _ (by repeat first | exact Lz _ | apply La | apply Lv | apply Ld | apply Ln))) | (go_at_call 16; exact Calls.far_of (hM1.out _ (by repeat first | exact Lz _ | apply La | apply Lv | apply Ld | apply Ln))) | (go_at_call 17; exact Calls.far_of (hM2.out _ (by repeat first | exact Lz _ | apply La | apply Lv | apply Ld | apply Ln))) | (go_at_call 19; exact Calls.far_of (hS2.out _ (by repeat first | exact Lz _ | apply La | apply Lv | apply Ld | apply Ln))) | (go_at_call 18; exact Calls.far_of (hS1.out _ (by repeat first | exact Lz _ | apply La | apply Lv | apply Ld | apply Ln))) | (go_at_call 20; exact Calls.far_of (hAw.out _)))
  go_big_quiet_step (first | (go_at_call 15; exact Calls.far_of (hS.out _ (by repeat first | exact Lz _ | apply La | apply Lv | apply Ld | apply Ln))) | (go_at_call 16; exact Calls.far_of (hM1.out _ (by repeat first | exact Lz _ | apply La | apply Lv | apply Ld | apply Ln))) | (go_at_call 17; exact Calls.far_of (hM2.out _ (by repeat first | exact Lz _ | apply La | apply Lv | apply Ld | apply Ln))) | (go_at_call 19; exact Calls.far_of (hS2.out _ (by repeat first | exact Lz _ | apply La | apply Lv | apply Ld | apply Ln))) | (go_at_call 18; exact Calls.far_of (hS1.out _ (by repeat first | exact Lz _ | apply La | apply Lv | apply Ld | apply Ln))) | (go_at_call 20; exact Calls.far_of (hAw.out _)))
  go_big_quiet_step (first | (go_at_call 15; exact Calls.far_of (hS.out _ (by repeat first | exact Lz _ | apply La | apply Lv | apply Ld | apply Ln))) | (go_at_call 16; exact Calls.far_of (hM1.out _ (by repeat first | exact Lz _ | apply La | apply Lv | apply Ld | apply Ln))) | (go_at_call 17; exact Calls.far_of (hM2.out _ (by repeat first | exact Lz _ | apply La | apply Lv | apply Ld | apply Ln))) | (go_at_call 19; exact Calls.far_of (hS2.out _ (by repeat first | exact Lz _ | apply La | apply Lv | apply Ld | apply Ln))) | (go_at_call 18; exact Calls.far_of (hS1.out _ (by repeat first | exact Lz _ | apply La | apply Lv | apply Ld | apply Ln))) | (go_at_call 20; exact Calls.far_of (hAw.out _)))
  go_big_quiet_step (first | (go_at_call 15; exact Calls.far_of (hS.out _ (by repeat first | exact Lz _ | apply La | apply Lv | apply Ld | apply Ln))) | (go_at_call 16; exact Calls.far_of (hM1.out _ (by repeat first | exact Lz _ | apply La | apply Lv | apply Ld | apply Ln))) | (go_at_call 17; exact Calls.far_of (hM2.out _ (by repeat first | exact Lz _ | apply La | apply Lv | apply Ld | apply Ln))) | (go_at_call 19; exact Calls.far_of (hS2.out _ (by repeat first | exact Lz _ | apply La | apply Lv | apply Ld | apply Ln))) | (go_at_call 18; exact Calls.far_of (hS1.out _ (by repeat first | exact Lz _ | apply La | apply Lv | apply Ld | apply Ln))) | (go_at_call 20; exact Calls.far_of (hAw.out _)))
  go_big_quiet_step (first | (go_at_call 15; exact Calls.far_of (hS.out _ (by repeat first | exact Lz _ | apply La | apply Lv | apply Ld | apply Ln))) | (go_at_call 16; exact Calls.far_of (hM1.out _ (by repeat first | exact Lz _ | apply La | apply Lv | apply Ld | apply Ln))) | (go_at_call 17; exact Calls.far_of (hM2.out _ (by repeat first | exact Lz _ | apply La | apply Lv | apply Ld | apply Ln))) | (go_at_call 19; exact Calls.far_of (hS2.out _ (by repeat first | exact Lz _ | apply La | apply Lv | apply Ld | apply Ln))) | (go_at_call 18; exact Calls.far_of (hS1.out _ (by repeat first | exact Lz _ | apply La | apply Lv | apply Ld | apply Ln))) | (go_at_call 20; exact Calls.far_of (hAw.out _)))
  go_big_quiet_step (first | (go_at_call 15; exact Calls.far_of (hS.out _ (by repeat first | exact Lz _ | apply La | apply Lv | apply Ld | apply Ln))) | (go_at_call 16; exact Calls.far_of (hM1.out _ (by repeat first | exact Lz _ | apply La | apply Lv | apply Ld | apply Ln))) | (go_at_call 17; exact Calls.far_of (hM2.out _ (by repeat first | exact Lz _ | apply La | apply Lv | apply Ld | apply Ln))) | (go_at_call 19; exact Calls.far_of (hS2.out _ (by repeat first | exact Lz _ | apply La | apply Lv | apply Ld | apply Ln))) | (go_at_call 18; exact Calls.far_of (hS1.out _ (by repeat first | exact Lz _ | apply La | apply Lv | apply Ld | apply Ln))) | (go_at_call 20; exact Calls.far_of (hAw.out _)))
  go_big_quiet_step (first | (go_at_call 15; exact Calls.far_of (hS.out _ (by repeat first | exact Lz _ | apply La | apply Lv | apply Ld | apply Ln))) | (go_at_call 16; exact Calls.far_of (hM1.out _ (by repeat first | exact Lz _ | apply La | apply Lv | apply Ld | apply Ln))) | (go_at_call 17; exact Calls.far_of (hM2.out _ (by repeat first | exact Lz _ | apply La | apply Lv | apply Ld | apply Ln))) | (go_at_call 19; exact Calls.far_of (hS2.out _ (by repeat first | exact Lz _ | apply La | apply Lv | apply Ld | apply Ln))) | (go_at_call 18; exact Calls.far_of (hS1.out _ (by repeat first | exact Lz _ | apply La | apply Lv | apply Ld | apply Ln))) | (go_at_call 20; exact Calls.far_of (hAw.out _)))
  go_big_quiet_step (first | (go_at_call 15; exact Calls.far_of (hS.out _ (by repeat first | exact Lz _ | apply La | apply Lv | apply Ld | apply Ln))) | (go_at_call 16; exact Calls.far_of (hM1.out _ (by repeat first | exact Lz _ | apply La | apply Lv | apply Ld | apply Ln))) | (go_at_call 17; exact Calls.far_of (hM2.out _ (by repeat first | exact Lz _ | apply La | apply Lv | apply Ld | apply Ln))) | (go_at_call 19; exact Calls.far_of (hS2.out _ (by repeat first | exact Lz _ | apply La | apply Lv | apply Ld | apply Ln))) | (go_at_call 18; exact Calls.far_of (hS1.out _ (by repeat first | exact Lz _ | apply La | apply Lv | apply Ld | apply Ln))) | (go_at_call 20; exact Calls.far_of (hAw.out _)))
  go_big_quiet_step (first | (go_at_call 15; exact Calls.far_of (hS.out _ (by repeat first | exact Lz _ | apply La | apply Lv | apply Ld | apply Ln))) | (go_at_call 16; exact Calls.far_of (hM1.out _ (by repeat first | exact Lz _ | apply La | apply Lv | apply Ld | apply Ln))) | (go_at_call 17; exact Calls.far_of (hM2.out _ (by repeat first | exact Lz _ | apply La | apply Lv | apply Ld | apply Ln))) | (go_at_call 19; exact Calls.far_of (hS2.out _ (by repeat first | exact Lz _ | apply La | apply Lv | apply Ld | apply Ln))) | (go_at_call 18; exact Calls.far_of (hS1.out _ (by repeat first | exact Lz _ | apply La | apply Lv | apply Ld | apply Ln))) | (go_at_call 20; exact Calls.far_of (hAw.out _)))
  go_big_quiet_step (first | (go_at_call 15; exact Calls.far_of (hS.out _ (by repeat first | exact Lz _ | apply La | apply Lv | apply Ld | apply Ln))) | (go_at_call 16; exact Calls.far_of (hM1.out _ (by repeat first | exact Lz _ | apply La | apply Lv | apply Ld | apply Ln))) | (go_at_call 17; exact Calls.far_of (hM2.out _ (by repeat first | exact Lz _ | apply La | apply Lv | apply Ld | apply Ln))) | (go_at_call 19; exact Calls.far_of (hS2.out _ (by repeat first | exact Lz _ | apply La | apply Lv | apply Ld | apply Ln))) | (go_at_call 18; exact Calls.far_of (hS1.out _ (by repeat first | exact Lz _ | apply La | apply Lv | apply Ld | apply Ln))) | (go_at_call 20; exact Calls.far_of (hAw.out _)))
  go_big_quiet_step (first | (go_at_call 15; exact Calls.far_of (hS.out _ (by repeat first | exact Lz _ | apply La | apply Lv | apply Ld | apply Ln))) | (go_at_call 16; exact Calls.far_of (hM1.out _ (by repeat first | exact Lz _ | apply La | apply Lv | apply Ld | apply Ln))) | (go_at_call 17; exact Calls.far_of (hM2.out _ (by repeat first | exact Lz _ | apply La | apply Lv | apply Ld | apply Ln))) | (go_at_call 19; exact Calls.far_of (hS2.out _ (by repeat first | exact Lz _ | apply La | apply Lv | apply Ld | apply Ln))) | (go_at_call 18; exact Calls.far_of (hS1.out _ (by repeat first | exact Lz _ | apply La | apply Lv | apply Ld | apply Ln))) | (go_at_call 20; exact Calls.far_of (hAw.out _)))
  go_big_quiet_step (first | (go_at_call 15; exact Calls.far_of (hS.out _ (by repeat first | exact Lz _ | apply La | apply Lv | apply Ld | apply Ln))) | (go_at_call 16; exact Calls.far_of (hM1.out _ (by repeat first | exact Lz _ | apply La | apply Lv | apply Ld | apply Ln))) | (go_at_call 17; exact Calls.far_of (hM2.out _ (by repeat first | exact Lz _ | apply La | apply Lv | apply Ld | apply Ln))) | (go_at_call 19; exact Calls.far_of (hS2.out _ (by repeat first | exact Lz _ | apply La | apply Lv | apply Ld | apply Ln))) | (go_at_call 18; exact Calls.far_of (hS1.out _ (by repeat first | exact Lz _ | apply La | apply Lv | apply Ld | apply Ln))) | (go_at_call 20; exact Calls.far_of (hAw.out _)))
  go_big_quiet_step (first | (go_at_call 15; exact Calls.far_of (hS.out _ (by repeat first | exact Lz _ | apply La | apply Lv | apply Ld | apply Ln))) | (go_at_call 16; exact Calls.far_of (hM1.out _ (by repeat first | exact Lz _ | apply La | apply Lv | apply Ld | apply Ln))) | (go_at_call 17; exact Calls.far_of (hM2.out _ (by repeat first | exact Lz _ | apply La | apply Lv | apply Ld | apply Ln))) | (go_at_call 19; exact Calls.far_of (hS2.out _ (by repeat first | exact Lz _ | apply La | apply Lv | apply Ld | apply Ln))) | (go_at_call 18; exact Calls.far_of (hS1.out _ (by repeat first | exact Lz _ | apply La | apply Lv | apply Ld | apply Ln))) | (go_at_call 20; exact Calls.far_of (hAw.out _)))
  go_big_quiet_step (first | (go_at_call 15; exact Calls.far_of (hS.out _ (by repeat first | exact Lz _ | apply La | apply Lv | apply Ld | apply Ln))) | (go_at_call 16; exact Calls.far_of (hM1.out _ (by repeat first | exact Lz _ | apply La | apply Lv | apply Ld | apply Ln))) | (go_at_call 17; exact Calls.far_of (hM2.out _ (by repeat first | exact Lz _ | apply La | apply Lv | apply Ld | apply Ln))) | (go_at_call 19; exact Calls.far_of (hS2.out _ (by repeat first | exact Lz _ | apply La | apply Lv | apply Ld | apply Ln))) | (go_at_call 18; exact Calls.far_of (hS1.out _ (by repeat first | exact Lz _ | apply La | apply Lv | apply Ld | apply Ln))) | (go_at_call 20; exact Calls.far_of (hAw.out _)))
  go_big_quiet_step (first | (go_at_call 15; exact Calls.far_of (hS.out _ (by repeat first | exact Lz _ | apply La | apply Lv | apply Ld | apply Ln))) | (go_at_call 16; exact Calls.far_of (hM1.out _ (by repeat first | exact Lz _ | apply La | apply Lv | apply Ld | apply Ln))) | (go_at_call 17; exact Calls.far_of (hM2.out _ (by repeat first | exact Lz _ | apply La | apply Lv | apply Ld | apply Ln))) | (go_at_call 19; exact Calls.far_of (hS2.out _ (by repeat first | exact Lz _ | apply La | apply Lv | apply Ld | apply Ln))) | (go_at_call 18; exact Calls.far_of (hS1.out _ (by repeat first | exact Lz _ | apply La | apply Lv | apply Ld | apply Ln))) | (go_at_call 20; exact Calls.far_of (hAw.out _)))
  go_big_quiet_step (first | (go_at_call 15; exact Calls.far_of (hS.out _ (by repeat first | exact Lz _ | apply La | apply Lv | apply Ld | apply Ln))) | (go_at_call 16; exact Calls.far_of (hM1.out _ (by repeat first | exact Lz _ | apply La | apply Lv | apply Ld | apply Ln))) | (go_at_call 17; exact Calls.far_of (hM2.out _ (by repeat first | exact Lz _ | apply La | apply Lv | apply Ld | apply Ln))) | (go_at_call 19; exact Calls.far_of (hS2.out _ (by repeat first | exact Lz _ | apply La | apply Lv | apply Ld | apply Ln))) | (go_at_call 18; exact Calls.far_of (hS1.out _ (by repeat first | exact Lz _ | apply La | apply Lv | apply Ld | apply Ln))) | (go_at_call 20; exact Calls.far_of (hAw.out _)))
  go_big_quiet_step (first | (go_at_call 15; exact Calls.far_of (hS.out _ (by repeat first | exact Lz _ | apply La | apply Lv | apply Ld | apply Ln))) | (go_at_call 16; exact Calls.far_of (hM1.out _ (by repeat first | exact Lz _ | apply La | apply Lv | apply Ld | apply Ln))) | (go_at_call 17; exact Calls.far_of (hM2.out _ (by repeat first | exact Lz _ | apply La | apply Lv | apply Ld | apply Ln))) | (go_at_call 19; exact Calls.far_of (hS2.out _ (by repeat first | exact Lz _ | apply La | apply Lv | apply Ld | apply Ln))) | (go_at_call 18; exact Calls.far_of (hS1.out _ (by repeat first | exact Lz _ | apply La | apply Lv | apply Ld | apply Ln))) | (go_at_call 20; exact Calls.far_of (hAw.out _)))
  go_big_quiet_step (first | (go_at_call 15; exact Calls.far_of (hS.out _ (by repeat first | exact Lz _ | apply La | apply Lv | apply Ld | apply Ln))) | (go_at_call 16; exact Calls.far_of (hM1.out _ (by repeat first | exact Lz _ | apply La | apply Lv | apply Ld | apply Ln))) | (go_at_call 17; exact Calls.far_of (hM2.out _ (by repeat first | exact Lz _ | apply La | apply Lv | apply Ld | apply Ln))) | (go_at_call 19; exact Calls.far_of (hS2.out _ (by repeat first | exact Lz _ | apply La | apply Lv | apply Ld | apply Ln))) | (go_at_call 18; exact Calls.far_of (hS1.out _ (by repeat first | exact Lz _ | apply La | apply Lv | apply Ld | apply Ln))) | (go_at_call 20; exact Calls.far_of (hAw.out _)))
  go_big_quiet_step (first | (go_at_call 15; exact Calls.far_of (hS.out _ (by repeat first | exact Lz _ | apply La | apply Lv | apply Ld | apply Ln))) | (go_at_call 16; exact Calls.far_of (hM1.out _ (by repeat first | exact Lz _ | apply La | apply Lv | apply Ld | apply Ln))) | (go_at_call 17; exact Calls.far_of (hM2.out _ (by repeat first | exact Lz _ | apply La | apply Lv | apply Ld | apply Ln))) | (go_at_call 19; exact Calls.far_of (hS2.out _ (by repeat first | exact Lz _ | apply La | apply Lv | apply Ld | apply Ln))) | (go_at_call 18; exact Calls.far_of (hS1.out _ (by repeat first | exact Lz _ | apply La | apply Lv | apply Ld | apply Ln))) | (go_at_call 20; exact Calls.far_of (hAw.out _)))
  go_big_quiet_step (first | (go_at_call 15; exact Calls.far_of (hS.out _ (by repeat first | exact Lz _ | apply La | apply Lv | apply Ld | apply Ln))) | (go_at_call 16; exact Calls.far_of (hM1.out _ (by repeat first | exact Lz _ | apply La | apply Lv | apply Ld | apply Ln))) | (go_at_call 17; exact Calls.far_of (hM2.out _ (by repeat first | exact Lz _ | apply La | apply Lv | apply Ld | apply Ln))) | (go_at_call 19; exact Calls.far_of (hS2.out _ (by repeat first | exact Lz _ | apply La | apply Lv | apply Ld | apply Ln))) | (go_at_call 18; exact Calls.far_of (hS1.out _ (by repeat first | exact Lz _ | apply La | apply Lv | apply Ld | apply Ln))) | (go_at_call 20; exact Calls.far_of (hAw.out _)))
  go_big_quiet_step (first | (go_at_call 15; exact Calls.far_of (hS.out _ (by repeat first | exact Lz _ | apply La | apply Lv | apply Ld | apply Ln))) | (go_at_call 16; exact Calls.far_of (hM1.out _ (by repeat first | exact Lz _ | apply La | apply Lv | apply Ld | apply Ln))) | (go_at_call 17; exact Calls.far_of (hM2.out _ (by repeat first | exact Lz _ | apply La | apply Lv | apply Ld | apply Ln))) | (go_at_call 19; exact Calls.far_of (hS2.out _ (by repeat first | exact Lz _ | apply La | apply Lv | apply Ld | apply Ln))) | (go_at_call 18; exact Calls.far_of (hS1.out _ (by repeat first | exact Lz _ | apply La | apply Lv | apply Ld | apply Ln))) | (go_at_call 20; exact Calls.far_of (hAw.out _)))
  go_big_quiet_step (first | (go_at_call 15; exact Calls.far_of (hS.out _ (by repeat first | exact Lz _ | apply La | apply Lv | apply Ld | apply Ln))) | (go_at_call 16; exact Calls.far_of (hM1.out _ (by repeat first | exact Lz _ | apply La | apply Lv | apply Ld | apply Ln))) | (go_at_call 17; exact Calls.far_of (hM2.out _ (by repeat first | exact Lz _ | apply La | apply Lv | apply Ld | apply Ln))) | (go_at_call 19; exact Calls.far_of (hS2.out _ (by repeat first | exact Lz _ | apply La | apply Lv | apply Ld | apply Ln))) | (go_at_call 18; exact Calls.far_of (hS1.out _ (by repeat first | exact Lz _ | apply La | apply Lv | apply Ld | apply Ln))) | (go_at_call 20; exact Calls.far_of (hAw.out _)))
  repeat (go_big_quiet_step (first | (go_at_call 18; exact Calls.far_of (hS3.out _ (by repeat first | exact Lz _ | apply La | apply Lv | apply Ld | apply Ln))) | (go_at_call 20; exact Calls.far_of (hAw.out _))))
  refine wpQuiet_nil ?_
  rintro _ ⟨⟨bs9, dr⟩, rfl⟩
  go_wp2_with fail
  go_ret
  exact ⟨rfl, (by repeat first | exact L.out | apply La | apply Lv | apply Ld | apply Ln)⟩
theorem walk (LA : List Value) (k : Int) (hk : -9223372036854775808 ≤ k ∧ k ≤ 9223372036854775807) (A B : Option Addr) (x : List Int × List Int) (a b : Nat) (C D : Option Addr) (y : List Int × List Int) (c d : Nat) (w : World) (hA : ∃ m : Md, ModC (· < w.heap.size) w m LA ∧ MdV m)
    (hx : (vI x.1 ∧ vI x.2) ∧ Lq (· < w.heap.size) w A x.1 ∧ Lq (· < w.heap.size) w B x.2) (hy : (vI y.1 ∧ vI y.2) ∧ Lq (· < w.heap.size) w C y.1 ∧ Lq (· < w.heap.size) w D y.2) :
    Calls Try.prog 3 #[.agg LA.toArray, .int .i64 k, .agg #[.slice A x.1.length a, .slice B x.2.length b], .agg #[.slice C y.1.length c, .slice D y.2.length d]] w fun e w' => e = .returned (.bool true) ∧ Later w w' := core LA k hk A B C D x y a b c d w hA hx hy

set_option maxRecDepth 100000 in
theorem lifted (os : Os) (started : os.Started) (H : Type) (enc : TypeId × Value → H) :
    ReturnsInHanded {} Try.checked os 3 .any (Rows.ftypesSpec.pre6 enc Try.prog Try.f3 Rows.ftypesRow.domain false) (Rows.ftypesSpec.post enc Try.prog Try.f3 false true false false) := by
  refine returnsInHanded_of_change_sized (C := Try.checked) own started (by kernel_rfl) Try.func3
    (ChangeSpec.witness6 (enc := enc) (C := Try.checked) false ⟨#[], #[.agg #[.slice none 0 0, .slice none 0 0, .slice none 0 0, .slice none 0 0, .slice none 0 0, .slice none 0 0, .slice none 0 0, .int .i64 0, .slice none 0 0, .slice none 0 0, .slice none 0 0], .int .i64 0, .agg #[.slice none 0 0, .slice none 0 0], .agg #[.slice none 0 0, .slice none 0 0]], []⟩ 8 (by kernel_rfl) (by kernel_rfl) (by kernel_rfl) (by kernel_rfl)) ?_
  intro W base args ds gs before hval0 hW _ hsz0 _
  have hval : ∀ (j : Nat) t v, Try.f3.params[j]? = some t → args[j]? = some v → Value.okWide Try.prog W .any base t v := hval0
  have hW' := hW
  obtain ⟨p, q, hA0, hV, rfl, hfz, hnd⟩ := hW
  have hA : DataW.TrodAll enc Try.prog W 0 (fun _ => true) true Try.f3.params.toList args.toList ds p := hA0
  rw [Try.params3] at hA hval
  obtain ⟨v0, vs0, d0, ds0, p0, q0, hargs, rfl, rfl, h0, r0⟩ := trodAll_cons hA
  obtain ⟨v1, vs1, d1, ds1, p1, q1, rfl, rfl, rfl, h1, r1⟩ := trodAll_cons r0
  obtain ⟨v2, vs2, d2, ds2, p2, q2, rfl, rfl, rfl, h2, r2⟩ := trodAll_cons r1
  obtain ⟨v3, vs3, d3, ds3, p3, q3, rfl, rfl, rfl, h3, r3⟩ := trodAll_cons r2
  obtain ⟨rfl, rfl, rfl⟩ := trodAll_nil r3
  obtain rfl : args = #[v0, v1, v2, v3] := by cases args; simp_all
  obtain ⟨rfl, rfl⟩ := trodVars_none hV
  obtain ⟨cs0, rfl, _⟩ := okWide_struct Try.underlying32 (hval 0 32 v0 rfl rfl)
  obtain ⟨L0, rfl⟩ : ∃ L : List Value, cs0 = L.toArray := ⟨cs0.toList, by simp⟩
  have hw0 : ∀ x ∈ d0.weights Try.prog 32, x ≤ reachBytes := fun x hx => of_decide_eq_true (List.all_eq_true.1 hsz0 _ (DataW.weights_mem_each (j := 0) (t := 32) (d := d0) rfl rfl x hx))
  obtain ⟨a1, rfl, rfl, rfl, w1⟩ := open_int Try.underlying3 (hval 1 3 v1 rfl rfl) h1
  obtain ⟨cs2, rfl, _⟩ := okWide_struct Try.underlying34 (hval 2 34 v2 rfl rfl)
  obtain ⟨L2, rfl⟩ : ∃ L : List Value, cs2 = L.toArray := ⟨cs2.toList, by simp⟩
  have hw2 : ∀ x ∈ d2.weights Try.prog 34, x ≤ reachBytes := fun x hx => of_decide_eq_true (List.all_eq_true.1 hsz0 _ (DataW.weights_mem_each (j := 2) (t := 34) (d := d2) rfl rfl x hx))
  obtain ⟨x2, hit2, hv2, hu2⟩ := view_type h2 hw2
  obtain ⟨_, _, rfl, ⟨P2, pp2, rfl, hP2⟩, _, _, rfl, ⟨Q2, qq2, rfl, hQ2⟩, rfl⟩ := hit2
  obtain ⟨cs3, rfl, _⟩ := okWide_struct Try.underlying34 (hval 3 34 v3 rfl rfl)
  obtain ⟨L3, rfl⟩ : ∃ L : List Value, cs3 = L.toArray := ⟨cs3.toList, by simp⟩
  have hw3 : ∀ x ∈ d3.weights Try.prog 34, x ≤ reachBytes := fun x hx => of_decide_eq_true (List.all_eq_true.1 hsz0 _ (DataW.weights_mem_each (j := 3) (t := 34) (d := d3) rfl rfl x hx))
  obtain ⟨x3, hit3, hv3, hu3⟩ := view_type h3 hw3
  obtain ⟨_, _, rfl, ⟨P3, pp3, rfl, hP3⟩, _, _, rfl, ⟨Q3, qq3, rfl, hQ3⟩, rfl⟩ := hit3
  clear hA0 hval0
  simp only [List.append_nil, List.nil_append] at hW'
  have hlt : ∀ x ∈ p0 ++ (p2 ++ (p3)), x.block < W.heap.size := fun x hx => by simpa using hW'.lt x hx
  refine (walk L0 a1 (wf_i64 w1) P2 Q2 x2 pp2 qq2 P3 Q3 x3 pp3 qq3 W (view_mod h0 hw0) ⟨⟨hv2, hu2⟩, hP2, hQ2⟩ ⟨⟨hv3, hu3⟩, hP3, hQ3⟩).mono fun e W' ⟨he, hl⟩ => ?_
  subst he
  have hbel : Below W.heap.size W W' := by obtain ⟨bs, nn, rfl⟩ := hl; exact ⟨rfl, rfl, rfl, by rw [World.far_size]; omega, fun k hk => World.far_block W bs nn k hk⟩
  have hx : ∀ sp : Nat → Bool, (∀ p ∈ p0 ++ (p2 ++ (p3)), sp p.block = true) → DataW.TrodAll enc Try.prog W' 0 sp true [32, 3, 34, 34] [.agg L0.toArray, .int .i64 a1, .agg #[.slice P2 x2.1.length pp2, .slice Q2 x2.2.length qq2], .agg #[.slice P3 x3.1.length pp3, .slice Q3 x3.2.length qq3]] [d0, .lit (.int .i64 a1), d2, d3] (p0 ++ (p2 ++ (p3))) := fun sp hsp => by simpa using (trodAll_cons_mk (WideElems.Trod_stays (by kernel_rfl) (by kernel_rfl) (of_decide_eq_true (by kernel_rfl)) h0 (fun x hx => hbel.same (hlt x (by simp [hx]))) (fun x hx => hsp x (by simp [hx]))) (trodAll_cons_mk (shut_int Try.underlying3 w1) (trodAll_cons_mk (WideElems.Trod_stays (by kernel_rfl) (by kernel_rfl) (of_decide_eq_true (by kernel_rfl)) h2 (fun x hx => hbel.same (hlt x (by simp [hx]))) (fun x hx => hsp x (by simp [hx]))) (trodAll_cons_mk (WideElems.Trod_stays (by kernel_rfl) (by kernel_rfl) (of_decide_eq_true (by kernel_rfl)) h3 (fun x hx => hbel.same (hlt x (by simp [hx]))) (fun x hx => hsp x (by simp [hx]))) trodAll_mk0))))
  exact ⟨_, rfl, post_kept (pa := p0 ++ (p2 ++ (p3))) (pv := []) hW' (fun _ _ _ => (trodAll_cons_mk (shut_bool Try.underlying4 _) trodAll_mk0)) (fun sp hsp => hx sp hsp) (fun _ _ => rfl) (by simp) (hbel.frame _) hbel.block (ok_one (by kernel_rfl) rfl (okWide_bool_mk Try.underlying4 _))⟩

theorem over : Rows.ftypesRow.holds Try.pinned (OpenSpec.ofChange Rows.ftypesSpec) :=
  OpenClaim.holds_of_wide 3 Try.f3 rfl rfl rfl rfl rfl rfl rfl ⟨rfl, rfl, rfl, rfl, rfl⟩ rfl rfl rfl rfl rfl (by kernel_rfl) Try.func3 (by kernel_rfl)
    (of_decide_eq_true (by kernel_rfl)) (by unfold Func.isWrapper; first | (rw [if_pos (by decide +kernel)]; kernel_rfl) | (rw [if_neg (by decide +kernel)]; exact ⟨rfl, rfl⟩))
    (fun os started H enc _ => lifted os started H enc)


theorem proved : Rows.FtypesSaid := over
end Go.Proofs.Ytonnmbmdmkmhmaa.ftypes
namespace Go.Proofs.Ytonnmbmdmkmhmaa
theorem ftypes_holds : Rows.FtypesSaid := ftypes.proved
#print axioms ftypes_holds
end Go.Proofs.Ytonnmbmdmkmhmaa
