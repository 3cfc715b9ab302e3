/- The document's types of a module: imported, Func, Global. -/
import Derived.Test.YtonnmbmdmkmhmaaTYI
set_option linter.unusedVariables false
set_option linter.unusedSimpArgs false
set_option maxRecDepth 100000
set_option maxHeartbeats 8000000
namespace Go.Proofs.Ytonnmbmdmkmhmaa.ty
open Go.RowKit
/-- the k-th import of a kind, or nothing -/
def rI (xs : List Imp) (kind k : Int) : Imp := if k < 0 then impZ else (imk xs kind).getD k.toNat impZ
theorem rI_nil (kind k : Int) : rI [] kind k = impZ := by unfold rI imk; split <;> simp
theorem rI_not (d : List Imp) (x : Imp) (kind k : Int) (h : ¬ x.2.2.1 = kind) : rI (d ++ [x]) kind k = rI d kind k := by unfold rI; rw [imk_more, if_neg h, List.append_nil]
theorem rI_is (d : List Imp) (x : Imp) (kind k : Int) (h : x.2.2.1 = kind) (hk : k = ((imk d kind).length : Int)) : rI (d ++ [x]) kind k = x := by
  subst hk
  unfold rI
  rw [imk_more, if_pos h, if_neg (by omega)]
  simp
theorem rI_off (d : List Imp) (x : Imp) (kind k : Int) (h : x.2.2.1 = kind) (hk : ¬ ((imk d kind).length : Int) = k) : rI (d ++ [x]) kind k = rI d kind k := by
  unfold rI
  rw [imk_more, if_pos h]
  split
  · rfl
  · rename_i h0
    by_cases hl : k.toNat < (imk d kind).length
    · simp [List.getD_eq_getElem?_getD, List.getElem?_append_left hl]
    · rw [List.getD_eq_getElem?_getD, List.getD_eq_getElem?_getD, List.getElem?_eq_none (by simp; omega), List.getElem?_eq_none (by omega)]
theorem imk_more_len (d : List Imp) (x : Imp) (k : Int) (h : x.2.2.1 = k) : (imk (d ++ [x]) k).length = (imk d k).length + 1 := by rw [imk_more, if_pos h]; simp
theorem imk_more_not (d : List Imp) (x : Imp) (k : Int) (h : ¬ x.2.2.1 = k) : (imk (d ++ [x]) k).length = (imk d k).length := by rw [imk_more, if_neg h]; simp
theorem rimp_any {Z : Nat → Prop} {m : Md} (hm : MdV m) {w : World} {LA : List Value} (hA : ModC Z w m LA) (kind k : Int) :
    Calls Try.prog 24 #[.agg LA.toArray, .int .i64 kind, .int .i64 k] w fun e w' => e = .returned (.tuple #[impA (rI m.im kind k), .int .i64 ((imk m.im kind).length : Nat)]) ∧ Hid (Later w w') := by
  obtain ⟨v0, v1, v2, v3, v4, v5, v6, v8, v9, v10, eA, ⟨A0, a0, rfl, r0⟩, ⟨A1, a1, rfl, r1⟩, _⟩ := hA
  subst eA
  have hi := hm.im.2
  obtain ⟨xs, hxs⟩ : ∃ xs, xs = m.im := ⟨_, rfl⟩
  rw [← hxs] at hi r1 ⊢
  clear r0 hm hxs
  generalize m.ty.length = l0 at *
  generalize m.st = st at *
  obtain ⟨l1, hl1⟩ : ∃ n, n = xs.length := ⟨_, rfl⟩
  rw [← hl1] at hi ⊢
  replace hl1 : Hid (l1 = xs.length) := hl1
  replace r1 : Hid (Rt fIm Z w A1 xs) := r1
  go_enter Try.func24, Try.ntmps24
  go_wp2_with fail
  obtain ⟨W1, hW1⟩ : ∃ W1, W1 = ((w.alloc (.cells #[.slice A0 l0 a0, .slice A1 l1 a1, v2, v3, v4, v5, v6, .int .i64 st, v8, v9, v10] 32)).alloc (.cells #[.string ⟨#[]⟩, .string ⟨#[]⟩, .int .i64 0, .int .i64 0, .bool false, .int .i64 0, .int .i64 0] 58)).alloc (.cells #[.string ⟨#[]⟩, .string ⟨#[]⟩, .int .i64 0, .int .i64 0, .bool false, .int .i64 0, .int .i64 0] 58) := ⟨_, rfl⟩
  have L1 : Hid (Later w W1) := by rw [hW1]; exact La (La (La (Lz _)))
  have z1 : Hid (W1.heap.size = w.heap.size + 3) := by show _ = _; rw [hW1]; simp
  have M1 : Hid (Rl W1 w.heap.size 32 [.slice A0 l0 a0, .slice A1 l1 a1, v2, v3, v4, v5, v6, .int .i64 st, v8, v9, v10]) := by
    rw [hW1]; exact (rl_new w 32 [.slice A0 l0 a0, .slice A1 l1 a1, v2, v3, v4, v5, v6, .int .i64 st, v8, v9, v10]).later (La (La (Lz _)))
  have Q1 : Hid (Rl W1 (w.heap.size + 1) 58 (impL impZ)) := by
    rw [hW1]
    have := (rl_new (w.alloc (.cells #[.slice A0 l0 a0, .slice A1 l1 a1, v2, v3, v4, v5, v6, .int .i64 st, v8, v9, v10] 32)) 58 (impL impZ)).later (La (c := #[.string ⟨#[]⟩, .string ⟨#[]⟩, .int .i64 0, .int .i64 0, .bool false, .int .i64 0, .int .i64 0]) (t := 58) (Lz _))
    rw [World.size_alloc] at this
    exact this
  have O1 : Hid (Rl W1 (w.heap.size + 2) 58 (impL impZ)) := by
    rw [hW1]
    have := rl_new ((w.alloc (.cells #[.slice A0 l0 a0, .slice A1 l1 a1, v2, v3, v4, v5, v6, .int .i64 st, v8, v9, v10] 32)).alloc (.cells #[.string ⟨#[]⟩, .string ⟨#[]⟩, .int .i64 0, .int .i64 0, .bool false, .int .i64 0, .int .i64 0] 58)) 58 (impL impZ)
    rw [World.size_alloc, World.size_alloc] at this
    exact this
  rw [← hW1, show w.heap.size + 1 + 1 = w.heap.size + 2 from rfl]
  clear hW1
  go_loopw [8, 10] (fun c i wr => ∃ (d r : List Imp) (n : Nat), i = .int .i64 (d.length : Nat) ∧ d ++ r = xs ∧ c = .int .i64 (n : Nat) ∧ n = (imk d kind).length ∧ Hid (Wr (fun j => j = w.heap.size + 2) W1 wr) ∧ Hid (Rl wr (w.heap.size + 2) 58 (impL (rI d kind k)))) (fun _ i _ => l1 - (intOf i).toNat)
  case atStart => exact ⟨[], xs, 0, rfl, rfl, rfl, by simp [imk], Wr.refl _ _, by rw [rI_nil]; exact O1⟩
  case round =>
    obtain ⟨d, r, n, rfl, hd, rfl, hn, hW, hO⟩ := hrel
    have hdl : d.length + r.length = l1 := by rw [hl1.out, ← hd, List.length_append]
    have hlow : Hid (∀ wz, Wr (fun j => j = w.heap.size + 2) W1 wz → Later w wz) := fun wz h => ((Wr.of_later L1.out).trans h).later (fun j e => by have e : j = w.heap.size + 2 := e; omega)
    have M2 : Hid (Rl wr w.heap.size 32 [.slice A0 l0 a0, .slice A1 l1 a1, v2, v3, v4, v5, v6, .int .i64 st, v8, v9, v10]) := M1.out.wr hW.out (fun e => by have e : w.heap.size = w.heap.size + 2 := e; omega)
    have Q2 : Hid (Rl wr (w.heap.size + 1) 58 (impL impZ)) := Q1.out.wr hW.out (fun e => by have e : w.heap.size + 1 = w.heap.size + 2 := e; omega)
    have m1 := M2.out.cell 1 rfl
    have ml := M2.out.lt
    have ql := Q2.out.lt
    have ol := hO.out.lt
    cases r with
    | nil =>
      have hde : d = xs := by simpa using hd
      have hq1 : ¬ (d.length : Int) < (l1 : Int) := by simp at hdl; omega
      obtain ⟨y, hy⟩ : ∃ y, y = rI d kind k := ⟨_, rfl⟩
      rw [← hy] at hO
      have hfin : Hid (rI xs kind k = y ∧ (imk xs kind).length = n) := ⟨by rw [hy, hde], by rw [hn, hde]⟩
      have hlw : Hid (Later w wr) := hlow.out _ hW.out
      clear hd hde hdl hy hn hlow
      obtain ⟨y0, y1, y2, y3, y4, y5, y6⟩ := y
      have o0 := hO.out.cell 0 rfl
      have o1 := hO.out.cell 1 rfl
      have o2 := hO.out.cell 2 rfl
      have o3 := hO.out.cell 3 rfl
      have o4 := hO.out.cell 4 rfl
      have o5 := hO.out.cell 5 rfl
      have o6 := hO.out.cell 6 rfl
      have q0 := Q2.out.frozen 0
      have p0 := Q2.out.cell 0 rfl
      have q1 := Q2.out.frozen 1
      have p1 := Q2.out.cell 1 rfl
      have q2 := Q2.out.frozen 2
      have p2 := Q2.out.cell 2 rfl
      have q3 := Q2.out.frozen 3
      have p3 := Q2.out.cell 3 rfl
      have q4 := Q2.out.frozen 4
      have p4 := Q2.out.cell 4 rfl
      have q5 := Q2.out.frozen 5
      have p5 := Q2.out.cell 5 rfl
      have q6 := Q2.out.frozen 6
      have p6 := Q2.out.cell 6 rfl
      simp only [] at o0 o1 o2 o3 o4 o5 o6 p0 p1 p2 p3 p4 p5 p6
      go_wp2_with fail
      obtain ⟨VE, hVE⟩ : ∃ V : World, V = (((((((wr.setCell ⟨w.heap.size + 1, 0, none⟩ (.string y0)).setCell ⟨w.heap.size + 1, 1, none⟩ (.string y1)).setCell ⟨w.heap.size + 1, 2, none⟩ (.int .i64 y2)).setCell ⟨w.heap.size + 1, 3, none⟩ (.int .i64 y3)).setCell ⟨w.heap.size + 1, 4, none⟩ (.bool y4)).setCell ⟨w.heap.size + 1, 5, none⟩ (.int .i64 y5)).setCell ⟨w.heap.size + 1, 6, none⟩ (.int .i64 y6)) := ⟨_, rfl⟩
      rw [← hVE]
      have RR : Rl VE (w.heap.size + 1) 58 [.string y0, .string y1, .int .i64 y2, .int .i64 y3, .bool y4, .int .i64 y5, .int .i64 y6] := by rw [hVE]; exact (((((((Q2.out.set 0 (.string y0)).set 1 (.string y1)).set 2 (.int .i64 y2)).set 3 (.int .i64 y3)).set 4 (.bool y4)).set 5 (.int .i64 y5)).set 6 (.int .i64 y6))
      have WW : Wr (fun j => j = w.heap.size + 1) wr VE := by rw [hVE]; exact (((((((Wr.refl (fun j => j = w.heap.size + 1) wr).set 0 (.string y0) (Or.inl rfl)).set 1 (.string y1) (Or.inl rfl)).set 2 (.int .i64 y2) (Or.inl rfl)).set 3 (.int .i64 y3) (Or.inl rfl)).set 4 (.bool y4) (Or.inl rfl)).set 5 (.int .i64 y5) (Or.inl rfl)).set 6 (.int .i64 y6) (Or.inl rfl)
      clear hVE
      have hlt := RR.lt
      have kr0 := RR.cell 0 rfl
      have kr1 := RR.cell 1 rfl
      have kr2 := RR.cell 2 rfl
      have kr3 := RR.cell 3 rfl
      have kr4 := RR.cell 4 rfl
      have kr5 := RR.cell 5 rfl
      have kr6 := RR.cell 6 rfl
      refine ⟨rfl, .tuple #[.agg #[.string y0, .string y1, .int .i64 y2, .int .i64 y3, .bool y4, .int .i64 y5, .int .i64 y6], .int .i64 (n : Nat)], by simp [results, Try.results24, go_sem, hlt, kr0, kr1, kr2, kr3, kr4, kr5, kr6], by rw [hfin.out.1, hfin.out.2]; rfl, ((Wr.of_later hlw.out).trans WW).later (fun j e => by have e : j = w.heap.size + 1 := e; omega)⟩
    | cons x r =>
      have hq1 : (d.length : Int) < (l1 : Int) := by simp at hdl; omega
      obtain ⟨gb, o, eA, k0, k1, k2, k3, k4, k5, k6⟩ := imp_at (r1.out.later (fun _ => Nat.succ_pos _) (hlow.out _ hW.out)) hd
      have lk := cell_lt k2
      have hnl : (n : Int) ≤ 562949953421312 := by have := imk_len d kind; simp at hdl; omega
      have hd2 : Hid ((d ++ [x]) ++ r = xs) := by show _ = _; rw [List.append_assoc]; exact hd
      have hd1 : (d.length : Int) ≤ 140737488351232 := by simp at hdl; omega
      have hdn : (d ++ [x]).length = d.length + 1 := by simp
      rw [eA] at m1
      by_cases hx : x.2.2.1 = kind
      · have hm1 : Hid (n + 1 = (imk (d ++ [x]) kind).length) := by show _ = _; rw [imk_more_len d x kind hx]; omega
        by_cases hk : (n : Int) = k
        · have hr : Hid (rI (d ++ [x]) kind k = x) := rI_is d x kind k hx (by omega)
          obtain ⟨x0, x1, x2, x3, x4, x5, x6⟩ := x
          simp only [] at k0 k1 k2 k3 k4 k5 k6 hx
          subst hx
          obtain ⟨y, hy⟩ : ∃ y, y = rI d x2 k := ⟨_, rfl⟩
          rw [← hy] at hO
          obtain ⟨y0, y1, y2, y3, y4, y5, y6⟩ := y
          have o0 := hO.out.cell 0 rfl
          have o1 := hO.out.cell 1 rfl
          have o2 := hO.out.cell 2 rfl
          have o3 := hO.out.cell 3 rfl
          have o4 := hO.out.cell 4 rfl
          have o5 := hO.out.cell 5 rfl
          have o6 := hO.out.cell 6 rfl
          simp only [] at o0 o1 o2 o3 o4 o5 o6
          have q0 := hO.out.frozen 0
          have q1 := hO.out.frozen 1
          have q2 := hO.out.frozen 2
          have q3 := hO.out.frozen 3
          have q4 := hO.out.frozen 4
          have q5 := hO.out.frozen 5
          have q6 := hO.out.frozen 6
          clear hd hdl eA hn hy
          generalize d.length = D at *
          go_wp2_with fail
          refine ⟨⟨d ++ [_], r, n + 1, by rw [hdn]; go_num, hd2.out, by rw [← hk]; go_num, hm1.out, ((((((((((((((hW.out).set 0 _ (Or.inl rfl))).set 1 _ (Or.inl rfl))).set 2 _ (Or.inl rfl))).set 3 _ (Or.inl rfl))).set 4 _ (Or.inl rfl))).set 5 _ (Or.inl rfl))).set 6 _ (Or.inl rfl)), ?_⟩, ?_⟩
          · rw [hr.out]
            exact ((((((hO.out.set 0 (.string x0)).set 1 (.string x1)).set 2 (.int .i64 x2)).set 3 (.int .i64 x3)).set 4 (.bool x4)).set 5 (.int .i64 x5)).set 6 (.int .i64 x6)
          · simp [intOf]; omega
        · have hr : Hid (Rl wr (w.heap.size + 2) 58 (impL (rI (d ++ [x]) kind k))) := by rw [rI_off d x kind k hx (by omega)]; exact hO
          obtain ⟨y, hy⟩ : ∃ y, y = x.2.2.1 := ⟨_, rfl⟩
          rw [← hy] at k2 hx
          clear hd hdl eA hn hy k0 k1 k3 k4 k5 k6
          generalize d.length = D at *
          go_wp2_with fail
          go_roundw
          case rel => exact ⟨d ++ [x], r, n + 1, by rw [hdn]; go_num, hd2.out, by go_num, hm1.out, hW, hr⟩
          case measure => simp [intOf]; omega
      · have hm1 : Hid (n = (imk (d ++ [x]) kind).length) := by show _ = _; rw [imk_more_not d x kind hx]; omega
        have hr : Hid (Rl wr (w.heap.size + 2) 58 (impL (rI (d ++ [x]) kind k))) := by rw [rI_not d x kind k hx]; exact hO
        obtain ⟨y, hy⟩ : ∃ y, y = x.2.2.1 := ⟨_, rfl⟩
        rw [← hy] at k2 hx
        clear hd hdl eA hn hy k0 k1 k3 k4 k5 k6
        generalize d.length = D at *
        go_wp2_with fail
        go_roundw
        case rel => exact ⟨d ++ [x], r, n, by rw [hdn]; go_num, hd2.out, rfl, hm1.out, hW, hr⟩
        case measure => simp [intOf]; omega
theorem rfunc_any {Z : Nat → Prop} {m : Md} (hm : MdV m) {w : World} {LA : List Value} (hA : ModC Z w m LA) (k : Int) (hk : k ≤ 9223372036854775807) :
    Calls Try.prog 7 #[.agg LA.toArray, .int .i64 k] w fun e w' => FtR (fnT m k) w w' e ∧ Hid (Later w w') := by
  have hri : Hid (∀ W, Later w W → Calls Try.prog 24 #[.agg LA.toArray, .int .i64 0, .int .i64 k] W fun e w' => e = .returned (.tuple #[impA (rI m.im 0 k), .int .i64 ((imk m.im 0).length : Nat)]) ∧ Hid (Later W w')) := fun W hW => rimp_any hm (hA.move fun k hk hl => ⟨hk, hW.block hl⟩) 0 k
  obtain ⟨v0, v1, v2, v3, v4, v5, v6, v8, v9, v10, eA, ⟨A0, a0, rfl, r0⟩, ⟨A1, a1, rfl, r1⟩, ⟨A2, a2, rfl, r2⟩, _⟩ := hA
  subst eA
  have hi := hm.im.2
  have hf := hm.fu.2
  have ht := hm.ty.2
  obtain ⟨R, hR⟩ : ∃ R, R = fnT m k := ⟨_, rfl⟩
  rw [← hR]
  obtain ⟨N, hN⟩ : ∃ N, N = (imk m.im 0).length := ⟨_, rfl⟩
  have hNl : (N : Int) ≤ 140737488351232 := by have := imk_len m.im 0; omega
  obtain ⟨x, hx⟩ : ∃ x, x = rI m.im 0 k := ⟨_, rfl⟩
  rw [← hN, ← hx] at hri
  obtain ⟨x0, x1, x2, x3, x4, x5, x6⟩ := x
  simp only [impA] at hri
  have hfn : Hid ((k < 0 → R = none) ∧ (0 ≤ k → k < N → R = tyAt m x3) ∧ (∀ o : Nat, k = N + o → R = match m.fu[o]? with | none => none | some t => tyAt m t)) := by
    refine ⟨fun h => by rw [hR]; exact if_pos h, fun h0 h => ?_, fun o h => ?_⟩
    · have hl : k.toNat < (imk m.im 0).length := by omega
      rw [rI, if_neg (by omega), List.getD_eq_getElem?_getD, List.getElem?_eq_getElem hl] at hx
      rw [hR, fnT, if_neg (by omega), if_pos hl, List.getElem?_eq_getElem hl]
      simp only [Option.getD_some] at hx
      rw [← hx]
      rfl
    · subst hN
      rw [hR, fnT, if_neg (by omega), if_neg (by omega), show (k - ((imk m.im 0).length : Int)).toNat = o by omega]
      cases m.fu[o]? <;> rfl
  have R0 : Hid (Rt fTy Z w A0 m.ty) := r0
  have R2 : Hid (Rt f1 Z w A2 m.fu) := r2
  replace hm : Hid (MdV m) := hm
  clear r0 r1 r2 hN hx hR
  generalize hfu : m.fu.length = fu at *
  generalize hty : m.ty.length = ty at *
  replace hfu : Hid (fu = m.fu.length) := hfu.symm
  replace hty : Hid (ty = m.ty.length) := hty.symm
  go_enter Try.func7, Try.ntmps7
  go_wp2_with fail
  refine (hri.out _ (by repeat first | exact Lz _ | apply La)).mono ?_
  rintro e w1 ⟨rfl, l1⟩
  have M1 : Hid (Rl w1 w.heap.size 32 [.slice A0 ty a0, .slice A1 m.im.length a1, .slice A2 fu a2, v3, v4, v5, v6, .int .i64 m.st, v8, v9, v10]) := ((rl_new w 32 [.slice A0 ty a0, .slice A1 m.im.length a1, .slice A2 fu a2, v3, v4, v5, v6, .int .i64 m.st, v8, v9, v10]).later (La (c := #[.slice none 0 0, .slice none 0 0]) (t := 34) (Lz _))).later l1.out
  have N1 : Hid (Rl w1 (w.heap.size + 1) 34 [.slice none 0 0, .slice none 0 0]) := by
    have := rl_new (w.alloc (.cells #[.slice A0 ty a0, .slice A1 m.im.length a1, .slice A2 fu a2, v3, v4, v5, v6, .int .i64 m.st, v8, v9, v10] 32)) 34 [.slice none 0 0, .slice none 0 0]
    rw [World.size_alloc] at this
    exact this.later l1.out
  have L1 : Hid (Later w w1) := (La (La (Lz _))).trans l1.out
  have z1 : w.heap.size + 1 < w1.heap.size := N1.out.lt
  have c0 := M1.out.cell 0 rfl
  have c2 := M1.out.cell 2 rfl
  have lp := M1.out.lt
  have d0 := N1.out.cell 0 rfl
  have d1 := N1.out.cell 1 rfl
  have ff0 := N1.out.frozen 0
  have ff1 := N1.out.frozen 1
  clear hri l1
  by_cases h1 : k < 0
  · have hRn : Hid (R = none) := hfn.out.1 h1
    clear hfn
    have n9 := ((N1.out.set 0 (.slice none 0 0)).set 1 (.slice none 0 0)).later (La (c := #[.string x0, .string x1, .int .i64 x2, .int .i64 x3, .bool x4, .int .i64 x5, .int .i64 x6]) (t := 58) (Lz _))
    have d2 := n9.cell 0 rfl
    have d3 := n9.cell 1 rfl
    have d4 := n9.lt
    have hl9 : Hid (Later w (((w1.setCell ⟨w.heap.size + 1, 0, none⟩ (.slice none 0 0)).setCell ⟨w.heap.size + 1, 1, none⟩ (.slice none 0 0)).alloc (.cells #[.string x0, .string x1, .int .i64 x2, .int .i64 x3, .bool x4, .int .i64 x5, .int .i64 x6] 58))) := La (later_set (later_set L1.out (by omega) _ _) (by omega) _ _)
    clear n9
    go_wp2_with fail
    refine ⟨rfl, .tuple #[.agg #[.slice none 0 0, .slice none 0 0], .int .i64 1701], by simp [results, Try.results7, go_sem, d2, d3, d4], by rw [hRn.out]; rfl, hl9⟩
  rcases (by omega : k < N ∨ (N : Int) ≤ k) with h2 | h2
  · have hRt : Hid (R = tyAt m x3) := hfn.out.2.1 (by omega) h2
    clear hfn
    obtain ⟨t, htt⟩ : ∃ t, t = x3 := ⟨_, rfl⟩
    subst htt
    by_cases t0 : t < 0
    · have hRn : Hid (R = none) := by show R = none; rw [hRt.out]; exact if_pos t0
      clear hRt
      have n9 := ((N1.out.set 0 (.slice none 0 0)).set 1 (.slice none 0 0)).later (La (c := #[.string x0, .string x1, .int .i64 x2, .int .i64 t, .bool x4, .int .i64 x5, .int .i64 x6]) (t := 58) (Lz _))
      have d2 := n9.cell 0 rfl
      have d3 := n9.cell 1 rfl
      have d4 := n9.lt
      have hl9 : Hid (Later w (((w1.setCell ⟨w.heap.size + 1, 0, none⟩ (.slice none 0 0)).setCell ⟨w.heap.size + 1, 1, none⟩ (.slice none 0 0)).alloc (.cells #[.string x0, .string x1, .int .i64 x2, .int .i64 t, .bool x4, .int .i64 x5, .int .i64 x6] 58))) := La (later_set (later_set L1.out (by omega) _ _) (by omega) _ _)
      clear n9
      go_wp2_with fail
      refine ⟨rfl, .tuple #[.agg #[.slice none 0 0, .slice none 0 0], .int .i64 1701], by simp [results, Try.results7, go_sem, d2, d3, d4], by rw [hRn.out]; rfl, hl9⟩
    by_cases t1 : (ty : Int) ≤ t
    · have hRn : Hid (R = none) := by
        show R = none
        rw [hRt.out, tyAt, if_neg t0]
        exact List.getElem?_eq_none (by have := hty.out; omega)
      clear hRt
      have n9 := ((N1.out.set 0 (.slice none 0 0)).set 1 (.slice none 0 0)).later (La (c := #[.string x0, .string x1, .int .i64 x2, .int .i64 t, .bool x4, .int .i64 x5, .int .i64 x6]) (t := 58) (Lz _))
      have d2 := n9.cell 0 rfl
      have d3 := n9.cell 1 rfl
      have d4 := n9.lt
      have hl9 : Hid (Later w (((w1.setCell ⟨w.heap.size + 1, 0, none⟩ (.slice none 0 0)).setCell ⟨w.heap.size + 1, 1, none⟩ (.slice none 0 0)).alloc (.cells #[.string x0, .string x1, .int .i64 x2, .int .i64 t, .bool x4, .int .i64 x5, .int .i64 x6] 58))) := La (later_set (later_set L1.out (by omega) _ _) (by omega) _ _)
      clear n9
      go_wp2_with fail
      refine ⟨rfl, .tuple #[.agg #[.slice none 0 0, .slice none 0 0], .int .i64 1701], by simp [results, Try.results7, go_sem, d2, d3, d4], by rw [hRn.out]; rfl, hl9⟩
    obtain ⟨i, rfl⟩ := Int.eq_ofNat_of_zero_le (show 0 ≤ t by omega)
    have hil : i < m.ty.length := by have := hty.out; omega
    obtain ⟨g, o2, cc, eA, hz, hc, hit⟩ := Rt.at (f := fTy) 2 (fun _ => rfl) (R0.out.later (fun _ => Nat.succ_pos _) L1.out) i hil
    have hxx := hm.out.ty.1 _ (List.getElem_mem hil)
    have hRs : Hid (R = some m.ty[i]) := by
      show R = _
      rw [hRt.out, tyAt, if_neg (by omega)]
      simp [hil]
    clear hRt
    generalize m.ty[i] = y at *
    obtain ⟨y0, y1⟩ := y
    obtain ⟨u0, e0, rfl, ⟨P0, p0, rfl, hP0⟩, u1, e1, rfl, ⟨P1, p1, rfl, hP1⟩, hnil⟩ := hit
    have k0 := hc 0 _ rfl
    have k1 := hc 1 _ rfl
    simp only [Nat.add_zero] at k0
    have lg := cell_lt k0
    rw [eA] at c0
    have hl2 : (i : Int) < (ty : Int) := by omega
    clear hc hnil hz hil eA t1 R0 R2
    go_wp2_with fail
    obtain ⟨W2, hW2⟩ : ∃ W2, W2 = (w1.alloc (.cells #[.string x0, .string x1, .int .i64 x2, .int .i64 (i : Int), .bool x4, .int .i64 x5, .int .i64 x6] 58)).alloc (.cells #[.slice P0 y0.length p0, .slice P1 y1.length p1] 34) := ⟨_, rfl⟩
    rw [← hW2]
    have L2 : Hid (Later w W2) := by rw [hW2]; exact La (La L1.out)
    have z2 : Hid (W2.heap.size = w1.heap.size + 2) := by show _ = _; rw [hW2]; simp
    have k0' : W2.cell? ⟨w1.heap.size + 1, 0, none⟩ = some (.slice P0 y0.length p0) := by rw [hW2]; simp [go_sem]
    have k1' : W2.cell? ⟨w1.heap.size + 1, 1, none⟩ = some (.slice P1 y1.length p1) := by rw [hW2]; simp [go_sem]
    have N2 : Hid (Rl W2 (w.heap.size + 1) 34 [.slice none 0 0, .slice none 0 0]) := by rw [hW2]; exact N1.out.later (La (La (Lz _)))
    have s0 : Hid (∀ W b, Later W2 W → ∃ r w', (Builtin.append_ #[24, 24] 24 #[.slice (some ⟨b, 0, none⟩) 0 0, .slice P0 y0.length p0]).run Try.prog W = .ok r w' ∧ ∃ A' cap, r = .slice (some ⟨A', 0, none⟩) y0.length cap ∧ Hid (Lq (Zf W2.heap.size w') w' (some ⟨A', 0, none⟩) y0) ∧ Later W w') := fun W b hW => by
      obtain ⟨r, w', h1, A', cap, h2, h3, h4⟩ := app_lq P0 y0 b p0 24 _ W hxx.1.2 (hP0.later ((show Later w1 W2 by rw [hW2]; exact La (La (Lz _))).trans hW))
      exact ⟨r, w', h1, A', cap, h2, h3.mono (fun k hk => ⟨Nat.le_trans hW.size hk.1, hk.2⟩), h4⟩
    have s1 : Hid (∀ W b, Later W2 W → ∃ r w', (Builtin.append_ #[24, 24] 24 #[.slice (some ⟨b, 0, none⟩) 0 0, .slice P1 y1.length p1]).run Try.prog W = .ok r w' ∧ ∃ A' cap, r = .slice (some ⟨A', 0, none⟩) y1.length cap ∧ Hid (Lq (Zf W2.heap.size w') w' (some ⟨A', 0, none⟩) y1) ∧ Later W w' ∧ Hid (Later W2 w') ∧ w'.cell? ⟨w.heap.size + 1, 0, none⟩ = some (.slice none 0 0) ∧ w'.cell? ⟨w.heap.size + 1, 1, none⟩ = some (.slice none 0 0) ∧ w'.frozen? ⟨w.heap.size + 1, 0, none⟩ = false ∧ w'.frozen? ⟨w.heap.size + 1, 1, none⟩ = false ∧ w.heap.size + 1 < w'.heap.size ∧ Hid (Rl w' (w.heap.size + 1) 34 [.slice none 0 0, .slice none 0 0])) := fun W b hW => by
      obtain ⟨r, w', h1, A', cap, h2, h3, h4⟩ := app_lq P1 y1 b p1 24 _ W hxx.2.2 (hP1.later ((show Later w1 W2 by rw [hW2]; exact La (La (Lz _))).trans hW))
      have f9 := N2.out.later (hW.trans h4)
      exact ⟨r, w', h1, A', cap, h2, h3.mono (fun k hk => ⟨Nat.le_trans hW.size hk.1, hk.2⟩), h4, hW.trans h4, f9.cell 0 rfl, f9.cell 1 rfl, f9.frozen 0, f9.frozen 1, f9.lt, f9⟩
    have hkeep : Hid (∀ W, Wr (fun k => k = w.heap.size + 1) W2 W → (Wr (fun k => k = w.heap.size + 1) W2 W ∧ W.cell? ⟨w1.heap.size + 1, 0, none⟩ = some (.slice P0 y0.length p0) ∧ W.cell? ⟨w1.heap.size + 1, 1, none⟩ = some (.slice P1 y1.length p1) ∧ w1.heap.size + 1 < W.heap.size)) := fun W hW => by
      have u1 : ¬ (w1.heap.size + 1 = w.heap.size + 1) := by omega
      have u3 := hW.size
      have u4 := z2.out
      exact ⟨hW, hW.cell u1 k0', hW.cell u1 k1', by omega⟩
    clear hP0 hP1 hxx hW2 N2 k0 k1 k0' k1' c0 d0 d1 ff0 ff1 c2 lp lg
    go_region_held3 (fun W => Wr (fun k => k = w.heap.size + 1) W2 W ∧ W.cell? ⟨w1.heap.size + 1, 0, none⟩ = some (.slice P0 y0.length p0) ∧ W.cell? ⟨w1.heap.size + 1, 1, none⟩ = some (.slice P1 y1.length p1) ∧ w1.heap.size + 1 < W.heap.size) (refine hkeep.out _ ?_ <;> (repeat first | assumption | exact Wr.refl _ _ | refine Wr.ltr ?_ (La (Lz _)) | refine Wr.ltr ?_ (Ld (Lz _)) | refine Wr.set ?_ _ _ (Or.inl rfl) | refine Wr.ltr ?_ (by assumption))) (first | (refine' step_app_ex (by rfl) _ _ 24 (by rfl) _ _ (by rfl) (by rfl) (s0.out _ _ (by repeat first | exact Lz _ | apply La | apply Ld | refine Later.trans ?_ (by assumption))) ?_; rintro _ w5 ⟨A5, m5, rfl, q5, l5⟩) | (refine' step_app_ex (by rfl) _ _ 24 (by rfl) _ _ (by rfl) (by rfl) (s1.out _ _ (by repeat first | exact Lz _ | apply La | apply Ld | refine Later.trans ?_ (by assumption))) ?_; rintro _ w6 ⟨A6, m6, rfl, q6, l6, l7, t0, t1, t2, t3, t4, t5⟩))
    all_goals
      clear s0 s1 hkeep
      have l56 : Later w5 w6 := by first | exact l6 | exact (La (Lz _)).trans l6
      have hfin : Hid (Lq (Zf w.heap.size ((w6.setCell ⟨w.heap.size + 1, 0, none⟩ (.slice (some ⟨A5, 0, none⟩) y0.length m5)).setCell ⟨w.heap.size + 1, 1, none⟩ (.slice (some ⟨A6, 0, none⟩) y1.length m6))) ((w6.setCell ⟨w.heap.size + 1, 0, none⟩ (.slice (some ⟨A5, 0, none⟩) y0.length m5)).setCell ⟨w.heap.size + 1, 1, none⟩ (.slice (some ⟨A6, 0, none⟩) y1.length m6)) (some ⟨A5, 0, none⟩) y0 ∧ Lq (Zf w.heap.size ((w6.setCell ⟨w.heap.size + 1, 0, none⟩ (.slice (some ⟨A5, 0, none⟩) y0.length m5)).setCell ⟨w.heap.size + 1, 1, none⟩ (.slice (some ⟨A6, 0, none⟩) y1.length m6))) ((w6.setCell ⟨w.heap.size + 1, 0, none⟩ (.slice (some ⟨A5, 0, none⟩) y0.length m5)).setCell ⟨w.heap.size + 1, 1, none⟩ (.slice (some ⟨A6, 0, none⟩) y1.length m6)) (some ⟨A6, 0, none⟩) y1 ∧ Later w ((w6.setCell ⟨w.heap.size + 1, 0, none⟩ (.slice (some ⟨A5, 0, none⟩) y0.length m5)).setCell ⟨w.heap.size + 1, 1, none⟩ (.slice (some ⟨A6, 0, none⟩) y1.length m6))) := by
        have hB : w.heap.size + 1 < W2.heap.size := by rw [z2.out]; omega
        have hB2 : w.heap.size ≤ W2.heap.size := by omega
        exact ⟨lq_low hB2 (lq_zset (lq_zset (lq_zl q5.out l56) hB _ _) hB _ _), lq_low hB2 (lq_zset (lq_zset q6.out hB _ _) hB _ _), later_set (later_set (L2.out.trans l7.out) (by omega) _ _) (by omega) _ _⟩
      have f9 := (t5.out.set 0 (.slice (some ⟨A5, 0, none⟩) y0.length m5)).set 1 (.slice (some ⟨A6, 0, none⟩) y1.length m6)
      have f90 := f9.cell 0 rfl
      have f91 := f9.cell 1 rfl
      clear l56 q5 q6 l7 l5 l6 f9
      go_wp2_with fail
      refine ⟨rfl, .tuple #[.agg #[.slice (some ⟨A5, 0, none⟩) y0.length m5, .slice (some ⟨A6, 0, none⟩) y1.length m6], .int .i64 0], by simp [results, Try.results7, go_sem, f90, f91], by rw [hRs.out]; exact ⟨_, m5, _, m6, rfl, hfin.out.1, hfin.out.2.1⟩, hfin.out.2.2⟩
  · obtain ⟨o, ho⟩ : ∃ o : Nat, k = N + o := ⟨(k - N).toNat, by omega⟩
    have hRo := hfn.out.2.2 o ho
    clear hfn
    have hko : k - (N : Int) = (o : Int) := by omega
    clear ho
    rcases Nat.lt_or_ge o fu with h3 | h3
    · have hol : o < m.fu.length := by have := hfu.out; omega
      have h4 : (o : Int) < (fu : Int) := by omega
      obtain ⟨g9, o9, q9, eB, _, hq9, hit9⟩ := Rt.at (f := f1) 1 (fun _ => rfl) (R2.out.later (fun _ => Nat.succ_pos _) L1.out) o hol
      rw [List.getElem?_eq_getElem hol] at hRo
      simp only [] at hRo
      generalize m.fu[o] = t at *
      have hRt : Hid (R = tyAt m t) := hRo
      obtain ⟨u9, _, rfl, e9, _⟩ := hit9
      have e9 : u9 = .int .i64 t := e9
      subst e9
      have k9 := hq9 0 _ rfl
      simp only [Nat.add_zero, Nat.mul_one] at k9
      have l9 := cell_lt k9
      rw [eB] at c2
      clear hRo hq9 hol eB
      by_cases t0 : t < 0
      · have hRn : Hid (R = none) := by show R = none; rw [hRt.out]; exact if_pos t0
        clear hRt
        have n9 := ((N1.out.set 0 (.slice none 0 0)).set 1 (.slice none 0 0)).later (La (c := #[.string x0, .string x1, .int .i64 x2, .int .i64 x3, .bool x4, .int .i64 x5, .int .i64 x6]) (t := 58) (Lz _))
        have d2 := n9.cell 0 rfl
        have d3 := n9.cell 1 rfl
        have d4 := n9.lt
        have hl9 : Hid (Later w (((w1.setCell ⟨w.heap.size + 1, 0, none⟩ (.slice none 0 0)).setCell ⟨w.heap.size + 1, 1, none⟩ (.slice none 0 0)).alloc (.cells #[.string x0, .string x1, .int .i64 x2, .int .i64 x3, .bool x4, .int .i64 x5, .int .i64 x6] 58))) := La (later_set (later_set L1.out (by omega) _ _) (by omega) _ _)
        clear n9
        go_wp2_with fail
        refine ⟨rfl, .tuple #[.agg #[.slice none 0 0, .slice none 0 0], .int .i64 1701], by simp [results, Try.results7, go_sem, d2, d3, d4], by rw [hRn.out]; rfl, hl9⟩
      by_cases t1 : (ty : Int) ≤ t
      · have hRn : Hid (R = none) := by
          show R = none
          rw [hRt.out, tyAt, if_neg t0]
          exact List.getElem?_eq_none (by have := hty.out; omega)
        clear hRt
        have n9 := ((N1.out.set 0 (.slice none 0 0)).set 1 (.slice none 0 0)).later (La (c := #[.string x0, .string x1, .int .i64 x2, .int .i64 x3, .bool x4, .int .i64 x5, .int .i64 x6]) (t := 58) (Lz _))
        have d2 := n9.cell 0 rfl
        have d3 := n9.cell 1 rfl
        have d4 := n9.lt
        have hl9 : Hid (Later w (((w1.setCell ⟨w.heap.size + 1, 0, none⟩ (.slice none 0 0)).setCell ⟨w.heap.size + 1, 1, none⟩ (.slice none 0 0)).alloc (.cells #[.string x0, .string x1, .int .i64 x2, .int .i64 x3, .bool x4, .int .i64 x5, .int .i64 x6] 58))) := La (later_set (later_set L1.out (by omega) _ _) (by omega) _ _)
        clear n9
        go_wp2_with fail
        refine ⟨rfl, .tuple #[.agg #[.slice none 0 0, .slice none 0 0], .int .i64 1701], by simp [results, Try.results7, go_sem, d2, d3, d4], by rw [hRn.out]; rfl, hl9⟩
      obtain ⟨i, rfl⟩ := Int.eq_ofNat_of_zero_le (show 0 ≤ t by omega)
      have hil : i < m.ty.length := by have := hty.out; omega
      obtain ⟨g, o2, cc, eA, hz, hc, hit⟩ := Rt.at (f := fTy) 2 (fun _ => rfl) (R0.out.later (fun _ => Nat.succ_pos _) L1.out) i hil
      have hxx := hm.out.ty.1 _ (List.getElem_mem hil)
      have hRs : Hid (R = some m.ty[i]) := by
        show R = _
        rw [hRt.out, tyAt, if_neg (by omega)]
        simp [hil]
      clear hRt
      generalize m.ty[i] = y at *
      obtain ⟨y0, y1⟩ := y
      obtain ⟨u0, e0, rfl, ⟨P0, p0, rfl, hP0⟩, u1, e1, rfl, ⟨P1, p1, rfl, hP1⟩, hnil⟩ := hit
      have k0 := hc 0 _ rfl
      have k1 := hc 1 _ rfl
      simp only [Nat.add_zero] at k0
      have lg := cell_lt k0
      rw [eA] at c0
      have hl2 : (i : Int) < (ty : Int) := by omega
      clear hc hnil hz hil eA t1 R0 R2
      go_wp2_with fail
      obtain ⟨W2, hW2⟩ : ∃ W2, W2 = (w1.alloc (.cells #[.string x0, .string x1, .int .i64 x2, .int .i64 x3, .bool x4, .int .i64 x5, .int .i64 x6] 58)).alloc (.cells #[.slice P0 y0.length p0, .slice P1 y1.length p1] 34) := ⟨_, rfl⟩
      rw [← hW2]
      have L2 : Hid (Later w W2) := by rw [hW2]; exact La (La L1.out)
      have z2 : Hid (W2.heap.size = w1.heap.size + 2) := by show _ = _; rw [hW2]; simp
      have k0' : W2.cell? ⟨w1.heap.size + 1, 0, none⟩ = some (.slice P0 y0.length p0) := by rw [hW2]; simp [go_sem]
      have k1' : W2.cell? ⟨w1.heap.size + 1, 1, none⟩ = some (.slice P1 y1.length p1) := by rw [hW2]; simp [go_sem]
      have N2 : Hid (Rl W2 (w.heap.size + 1) 34 [.slice none 0 0, .slice none 0 0]) := by rw [hW2]; exact N1.out.later (La (La (Lz _)))
      have s0 : Hid (∀ W b, Later W2 W → ∃ r w', (Builtin.append_ #[24, 24] 24 #[.slice (some ⟨b, 0, none⟩) 0 0, .slice P0 y0.length p0]).run Try.prog W = .ok r w' ∧ ∃ A' cap, r = .slice (some ⟨A', 0, none⟩) y0.length cap ∧ Hid (Lq (Zf W2.heap.size w') w' (some ⟨A', 0, none⟩) y0) ∧ Later W w') := fun W b hW => by
        obtain ⟨r, w', h1, A', cap, h2, h3, h4⟩ := app_lq P0 y0 b p0 24 _ W hxx.1.2 (hP0.later ((show Later w1 W2 by rw [hW2]; exact La (La (Lz _))).trans hW))
        exact ⟨r, w', h1, A', cap, h2, h3.mono (fun k hk => ⟨Nat.le_trans hW.size hk.1, hk.2⟩), h4⟩
      have s1 : Hid (∀ W b, Later W2 W → ∃ r w', (Builtin.append_ #[24, 24] 24 #[.slice (some ⟨b, 0, none⟩) 0 0, .slice P1 y1.length p1]).run Try.prog W = .ok r w' ∧ ∃ A' cap, r = .slice (some ⟨A', 0, none⟩) y1.length cap ∧ Hid (Lq (Zf W2.heap.size w') w' (some ⟨A', 0, none⟩) y1) ∧ Later W w' ∧ Hid (Later W2 w') ∧ w'.cell? ⟨w.heap.size + 1, 0, none⟩ = some (.slice none 0 0) ∧ w'.cell? ⟨w.heap.size + 1, 1, none⟩ = some (.slice none 0 0) ∧ w'.frozen? ⟨w.heap.size + 1, 0, none⟩ = false ∧ w'.frozen? ⟨w.heap.size + 1, 1, none⟩ = false ∧ w.heap.size + 1 < w'.heap.size ∧ Hid (Rl w' (w.heap.size + 1) 34 [.slice none 0 0, .slice none 0 0])) := fun W b hW => by
        obtain ⟨r, w', h1, A', cap, h2, h3, h4⟩ := app_lq P1 y1 b p1 24 _ W hxx.2.2 (hP1.later ((show Later w1 W2 by rw [hW2]; exact La (La (Lz _))).trans hW))
        have f9 := N2.out.later (hW.trans h4)
        exact ⟨r, w', h1, A', cap, h2, h3.mono (fun k hk => ⟨Nat.le_trans hW.size hk.1, hk.2⟩), h4, hW.trans h4, f9.cell 0 rfl, f9.cell 1 rfl, f9.frozen 0, f9.frozen 1, f9.lt, f9⟩
      have hkeep : Hid (∀ W, Wr (fun k => k = w.heap.size + 1) W2 W → (Wr (fun k => k = w.heap.size + 1) W2 W ∧ W.cell? ⟨w1.heap.size + 1, 0, none⟩ = some (.slice P0 y0.length p0) ∧ W.cell? ⟨w1.heap.size + 1, 1, none⟩ = some (.slice P1 y1.length p1) ∧ w1.heap.size + 1 < W.heap.size)) := fun W hW => by
        have u1 : ¬ (w1.heap.size + 1 = w.heap.size + 1) := by omega
        have u3 := hW.size
        have u4 := z2.out
        exact ⟨hW, hW.cell u1 k0', hW.cell u1 k1', by omega⟩
      clear hP0 hP1 hxx hW2 N2 k0 k1 k0' k1' c0 d0 d1 ff0 ff1 c2 lp lg
      go_region_held3 (fun W => Wr (fun k => k = w.heap.size + 1) W2 W ∧ W.cell? ⟨w1.heap.size + 1, 0, none⟩ = some (.slice P0 y0.length p0) ∧ W.cell? ⟨w1.heap.size + 1, 1, none⟩ = some (.slice P1 y1.length p1) ∧ w1.heap.size + 1 < W.heap.size) (refine hkeep.out _ ?_ <;> (repeat first | assumption | exact Wr.refl _ _ | refine Wr.ltr ?_ (La (Lz _)) | refine Wr.ltr ?_ (Ld (Lz _)) | refine Wr.set ?_ _ _ (Or.inl rfl) | refine Wr.ltr ?_ (by assumption))) (first | (refine' step_app_ex (by rfl) _ _ 24 (by rfl) _ _ (by rfl) (by rfl) (s0.out _ _ (by repeat first | exact Lz _ | apply La | apply Ld | refine Later.trans ?_ (by assumption))) ?_; rintro _ w5 ⟨A5, m5, rfl, q5, l5⟩) | (refine' step_app_ex (by rfl) _ _ 24 (by rfl) _ _ (by rfl) (by rfl) (s1.out _ _ (by repeat first | exact Lz _ | apply La | apply Ld | refine Later.trans ?_ (by assumption))) ?_; rintro _ w6 ⟨A6, m6, rfl, q6, l6, l7, t0, t1, t2, t3, t4, t5⟩))
      all_goals
        clear s0 s1 hkeep
        have l56 : Later w5 w6 := by first | exact l6 | exact (La (Lz _)).trans l6
        have hfin : Hid (Lq (Zf w.heap.size ((w6.setCell ⟨w.heap.size + 1, 0, none⟩ (.slice (some ⟨A5, 0, none⟩) y0.length m5)).setCell ⟨w.heap.size + 1, 1, none⟩ (.slice (some ⟨A6, 0, none⟩) y1.length m6))) ((w6.setCell ⟨w.heap.size + 1, 0, none⟩ (.slice (some ⟨A5, 0, none⟩) y0.length m5)).setCell ⟨w.heap.size + 1, 1, none⟩ (.slice (some ⟨A6, 0, none⟩) y1.length m6)) (some ⟨A5, 0, none⟩) y0 ∧ Lq (Zf w.heap.size ((w6.setCell ⟨w.heap.size + 1, 0, none⟩ (.slice (some ⟨A5, 0, none⟩) y0.length m5)).setCell ⟨w.heap.size + 1, 1, none⟩ (.slice (some ⟨A6, 0, none⟩) y1.length m6))) ((w6.setCell ⟨w.heap.size + 1, 0, none⟩ (.slice (some ⟨A5, 0, none⟩) y0.length m5)).setCell ⟨w.heap.size + 1, 1, none⟩ (.slice (some ⟨A6, 0, none⟩) y1.length m6)) (some ⟨A6, 0, none⟩) y1 ∧ Later w ((w6.setCell ⟨w.heap.size + 1, 0, none⟩ (.slice (some ⟨A5, 0, none⟩) y0.length m5)).setCell ⟨w.heap.size + 1, 1, none⟩ (.slice (some ⟨A6, 0, none⟩) y1.length m6))) := by
          have hB : w.heap.size + 1 < W2.heap.size := by rw [z2.out]; omega
          have hB2 : w.heap.size ≤ W2.heap.size := by omega
          exact ⟨lq_low hB2 (lq_zset (lq_zset (lq_zl q5.out l56) hB _ _) hB _ _), lq_low hB2 (lq_zset (lq_zset q6.out hB _ _) hB _ _), later_set (later_set (L2.out.trans l7.out) (by omega) _ _) (by omega) _ _⟩
        have f9 := (t5.out.set 0 (.slice (some ⟨A5, 0, none⟩) y0.length m5)).set 1 (.slice (some ⟨A6, 0, none⟩) y1.length m6)
        have f90 := f9.cell 0 rfl
        have f91 := f9.cell 1 rfl
        clear l56 q5 q6 l7 l5 l6 f9
        go_wp2_with fail
        refine ⟨rfl, .tuple #[.agg #[.slice (some ⟨A5, 0, none⟩) y0.length m5, .slice (some ⟨A6, 0, none⟩) y1.length m6], .int .i64 0], by simp [results, Try.results7, go_sem, f90, f91], by rw [hRs.out]; exact ⟨_, m5, _, m6, rfl, hfin.out.1, hfin.out.2.1⟩, hfin.out.2.2⟩
    · have hRn : Hid (R = none) := by
        show R = none
        rw [hRo, List.getElem?_eq_none (by have := hfu.out; omega)]
      have h4 : ¬ (o : Int) < (fu : Int) := by omega
      have h5 : (fu : Int) ≤ (o : Int) := by omega
      clear hRo
      have n9 := ((N1.out.set 0 (.slice none 0 0)).set 1 (.slice none 0 0)).later (La (c := #[.string x0, .string x1, .int .i64 x2, .int .i64 x3, .bool x4, .int .i64 x5, .int .i64 x6]) (t := 58) (Lz _))
      have d2 := n9.cell 0 rfl
      have d3 := n9.cell 1 rfl
      have d4 := n9.lt
      have hl9 : Hid (Later w (((w1.setCell ⟨w.heap.size + 1, 0, none⟩ (.slice none 0 0)).setCell ⟨w.heap.size + 1, 1, none⟩ (.slice none 0 0)).alloc (.cells #[.string x0, .string x1, .int .i64 x2, .int .i64 x3, .bool x4, .int .i64 x5, .int .i64 x6] 58))) := La (later_set (later_set L1.out (by omega) _ _) (by omega) _ _)
      clear n9
      go_wp2_with fail
      refine ⟨rfl, .tuple #[.agg #[.slice none 0 0, .slice none 0 0], .int .i64 1701], by simp [results, Try.results7, go_sem, d2, d3, d4], by rw [hRn.out]; rfl, hl9⟩
end Go.Proofs.Ytonnmbmdmkmhmaa.ty
