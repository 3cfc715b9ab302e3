/- The document's types of a module: TypeMay, Counts, imported. -/
import Derived.Test.YtonnmbmdmkmhmaaTYH
import Derived.LoopTactic
set_option linter.unusedVariables false
set_option linter.unusedSimpArgs false
set_option maxRecDepth 100000
set_option maxHeartbeats 8000000
namespace Go.Proofs.Ytonnmbmdmkmhmaa.ty
open Go.RowKit
theorem rmay_any (A B : Option Addr) (x : List Int × List Int) (a b : Nat) (h1 : x.1.length ≤ 140737488351232) (h2 : x.2.length ≤ 140737488351232) (w : World) (hA : Lst w A x.1.length (fun j => x.1.getD j 0)) (hB : Lst w B x.2.length (fun j => x.2.getD j 0)) :
    Calls Try.prog 17 #[.agg #[.slice A x.1.length a, .slice B x.2.length b]] w fun e w' => e = .returned (.bool (tMay x)) ∧ Hid (Later w w') := by
  obtain ⟨p, q⟩ := x
  simp only [] at *
  by_cases g1 : p.length ≤ 32 ∧ q.length ≤ 1
  · obtain ⟨l1, l2⟩ := g1
    have hr : tMay (p, q) = (p.all isT && q.all isT) := by simp [tMay, l1, l2]
    rw [hr]
    obtain ⟨n, hn⟩ : ∃ n, n = p.length := ⟨_, rfl⟩
    obtain ⟨P, hP⟩ : ∃ P, P = p.all isT := ⟨_, rfl⟩
    rw [← hn, ← hP]
    have e1 : (n : Int) ≤ 32 := by omega
    have e2 : (q.length : Int) ≤ 1 := by omega
    replace hA : Hid (Lst w A p.length (fun j => p.getD j 0)) := hA
    replace hB : Hid (Lst w B q.length (fun j => q.getD j 0)) := hB
    replace hn : Hid (n = p.length) := hn
    replace hP : Hid (P = p.all isT) := hP
    clear hr
    go_enter Try.func17, Try.ntmps17
    go_wp2_with fail
    go_loopw [3] (fun i wr => ∃ j : Nat, j ≤ n ∧ i = .int .i64 (j : Nat) ∧ wr = w.alloc (.cells #[.slice A n a, .slice B q.length b] 34) ∧ Hid (∀ t, t < j → isT (p.getD t 0) = true)) (fun i _ => n - (intOf i).toNat)
    case atStart => exact ⟨0, Nat.zero_le _, rfl, rfl, fun t ht => by omega⟩
    case round =>
      obtain ⟨j, hj, rfl, rfl, hall⟩ := hrel
      by_cases hlt : j < n
      · obtain ⟨b', o, rfl, g1⟩ := hA.out.resolve_left (by have := hn.out; omega)
        obtain ⟨x, hx⟩ : ∃ x, x = p.getD j 0 := ⟨_, rfl⟩
        have a0 := g1 j (by rw [← hn.out]; exact hlt)
        simp only [] at a0
        rw [← hx] at a0
        have lb := cell_lt a0
        have hl1 : (j : Int) < (n : Int) := by omega
        have hm := typeMay_any x
        by_cases hi : 124 ≤ x ∧ x ≤ 127
        · have hti : Hid (∀ t, t < j + 1 → isT (p.getD t 0) = true) := fun t ht => by
            rcases Nat.lt_succ_iff_lt_or_eq.1 ht with h | rfl
            · exact hall.out t h
            · rw [← hx]; exact decide_eq_true hi
          rw [decide_eq_true hi] at hm
          replace hm : Hid _ := hm
          clear g1 hi hx hall
          go_wp2_with (go_at_call 30; refine (hm.out _).mono ?_; rintro e w1 ⟨rfl, rfl⟩)
          go_roundw
          case rel => exact ⟨j + 1, by omega, by go_num, by trivial, hti⟩
          case measure => simp [intOf]; omega
        · have hPf : Hid (P = false) := by
            show P = false
            rw [hP.out]
            refine Bool.eq_false_iff.2 fun h => ?_
            have := List.all_eq_true.1 h (p.getD j 0) (by
              rw [List.getD_eq_getElem?_getD, List.getElem?_eq_getElem (by rw [← hn.out]; exact hlt)]
              exact List.getElem_mem _)
            rw [← hx] at this
            exact hi (of_decide_eq_true this)
          rw [decide_eq_false hi] at hm
          replace hm : Hid _ := hm
          clear g1 hi hx hall
          go_wp2_with (go_at_call 30; refine (hm.out _).mono ?_; rintro e w1 ⟨rfl, rfl⟩)
          go_ret
          exact ⟨by rw [hPf.out]; rfl, La (Lz _)⟩
      · have hPt : Hid (P = true) := by
          show P = true
          rw [hP.out, List.all_eq_true]
          intro y hy
          obtain ⟨t, ht, rfl⟩ := List.getElem_of_mem hy
          have := hall.out t (by have := hn.out; omega)
          rwa [List.getD_eq_getElem?_getD, List.getElem?_eq_getElem ht] at this
        have hl1 : ¬ (j : Int) < (n : Int) := by omega
        rcases q with _ | ⟨y, q⟩
        · clear hall
          go_wp2_with fail
          go_ret
          exact ⟨by rw [hPt.out]; rfl, La (Lz _)⟩
        · obtain rfl : q = [] := by simpa using l2
          obtain ⟨b', o, rfl, g1⟩ := hB.out.resolve_left (by simp)
          have a0 := g1 0 (by simp)
          simp only [List.getD_cons_zero, Nat.add_zero] at a0
          have lb := cell_lt a0
          have hm := typeMay_any y
          have hi : decide (124 ≤ y ∧ y ≤ 127) = isT y := rfl
          rw [hi] at hm
          replace hm : Hid _ := hm
          clear g1 hi hall
          simp only [List.length_singleton] at *
          go_wp2_with (go_at_call 30; refine (hm.out _).mono ?_; rintro e w1 ⟨rfl, rfl⟩)
          go_ret
          exact ⟨by rw [hPt.out]; simp, La (Lz _)⟩
  · have hr : tMay (p, q) = false := by
      rcases Classical.em (p.length ≤ 32) with h | h
      · have h' : ¬ q.length ≤ 1 := fun e => g1 ⟨h, e⟩
        simp [tMay, h']
      · simp [tMay, h]
    rw [hr]
    generalize p.length = n at *
    generalize q.length = k at *
    clear hr hA hB
    by_cases l1 : n ≤ 32
    · have e1 : ¬ 32 < (n : Int) := by omega
      have e2 : 1 < (k : Int) := by have : ¬ k ≤ 1 := fun e => g1 ⟨l1, e⟩; omega
      clear g1 l1
      go_enter Try.func17, Try.ntmps17
      go_wp2_with fail
      go_ret
      exact ⟨rfl, La (Lz _)⟩
    · have e1 : 32 < (n : Int) := by omega
      clear g1 l1
      go_enter Try.func17, Try.ntmps17
      go_wp2_with fail
      go_ret
      exact ⟨rfl, La (Lz _)⟩
theorem imp_at {Z : Nat → Prop} {W : World} {A : Option Addr} {xs d r : List Imp} {x : Imp} (hR : Rt fIm Z W A xs) (hd : d ++ x :: r = xs) :
    ∃ g o, A = some ⟨g, o, none⟩ ∧ (W.cell? ⟨g, o + d.length * 7, none⟩ = some (.string x.1) ∧ W.cell? ⟨g, o + d.length * 7 + 1, none⟩ = some (.string x.2.1) ∧ W.cell? ⟨g, o + d.length * 7 + 2, none⟩ = some (.int .i64 x.2.2.1) ∧ W.cell? ⟨g, o + d.length * 7 + 3, none⟩ = some (.int .i64 x.2.2.2.1)
      ∧ W.cell? ⟨g, o + d.length * 7 + 4, none⟩ = some (.bool x.2.2.2.2.1) ∧ W.cell? ⟨g, o + d.length * 7 + 5, none⟩ = some (.int .i64 x.2.2.2.2.2.1) ∧ W.cell? ⟨g, o + d.length * 7 + 6, none⟩ = some (.int .i64 x.2.2.2.2.2.2)) := by
  have hlt : d.length < xs.length := by rw [← hd]; simp
  have hxe : xs[d.length] = x := by simp [← hd]
  obtain ⟨g, o, cl, eA, hz, hc, hi⟩ := Rt.at (f := fIm) 7 (fun _ => rfl) hR d.length hlt
  rw [hxe] at hi
  obtain ⟨x0, x1, x2, x3, x4, x5, x6⟩ := x
  obtain ⟨v0, d0, rfl, f0, v1, d1, rfl, f1, v2, d2, rfl, f2, v3, d3, rfl, f3, v4, d4, rfl, f4, v5, d5, rfl, f5, v6, d6, rfl, f6, f7⟩ := hi
  have f0 : v0 = .string x0 := f0
  have f1 : v1 = .string x1 := f1
  have f2 : v2 = .int .i64 x2 := f2
  have f3 : v3 = .int .i64 x3 := f3
  have f4 : v4 = .bool x4 := f4
  have f5 : v5 = .int .i64 x5 := f5
  have f6 : v6 = .int .i64 x6 := f6
  subst f0 f1 f2 f3 f4 f5 f6
  exact ⟨g, o, eA, hc 0 _ rfl, hc 1 _ rfl, hc 2 _ rfl, hc 3 _ rfl, hc 4 _ rfl, hc 5 _ rfl, hc 6 _ rfl⟩
theorem imk_more (d : List Imp) (x : Imp) (k : Int) : imk (d ++ [x]) k = imk d k ++ if x.2.2.1 = k then [x] else [] := by
  unfold imk
  rw [List.filter_append]
  by_cases h : x.2.2.1 = k <;> simp [h]
theorem imk_le (d r : List Imp) (k : Int) : (imk d k).length ≤ (imk (d ++ r) k).length := by unfold imk; rw [List.filter_append, List.length_append]; omega
theorem rcounts_any {Z : Nat → Prop} {m : Md} (hm : MdV m) {w : World} {LA : List Value} (hA : ModC Z w m LA) :
    Calls Try.prog 11 #[.agg LA.toArray] w fun e w' => e = .returned (.tuple #[.int .i64 ((imk m.im 0).length + m.fu.length : Nat), .int .i64 ((imk m.im 1).length + m.ta.length : Nat), .int .i64 ((imk m.im 2).length + m.me.length : Nat), .int .i64 ((imk m.im 3).length + m.gl.length : Nat)]) ∧ Hid (Later w w') := by
  obtain ⟨v0, v1, v2, v3, v4, v5, v6, v8, v9, v10, eA, ⟨A0, a0, rfl, r0⟩, ⟨A1, a1, rfl, r1⟩, ⟨A2, a2, rfl, r2⟩, ⟨A3, a3, rfl, r3⟩, ⟨A4, a4, rfl, r4⟩, ⟨A5, a5, rfl, r5⟩, _⟩ := hA
  subst eA
  have hi := hm.im.2
  have hf := hm.fu.2
  have ht := hm.ta.2
  have he := hm.me.2
  have hg := hm.gl.2
  obtain ⟨xs, hxs⟩ : ∃ xs, xs = m.im := ⟨_, rfl⟩
  rw [← hxs] at hi r1 ⊢
  clear r0 r2 r3 r4 r5 hm hxs
  generalize m.ty.length = l0 at *
  generalize m.fu.length = l2 at *
  generalize m.ta.length = l3 at *
  generalize m.me.length = l4 at *
  generalize m.gl.length = l5 at *
  generalize m.st = st at *
  obtain ⟨l1, hl1⟩ : ∃ n, n = xs.length := ⟨_, rfl⟩
  rw [← hl1] at hi ⊢
  replace hl1 : Hid (l1 = xs.length) := hl1
  replace r1 : Hid (Rt fIm Z w A1 xs) := r1
  go_enter Try.func11, Try.ntmps11
  go_wp2_with fail
  refine wp_region_quiet_far (by kernel_rfl) (by kernel_rfl) ?_
  repeat (go_big_quiet_step (fail))
  refine wpQuiet_nil ?_
  rintro _ ⟨⟨bs, dr⟩, rfl⟩
  obtain ⟨W1, hW1⟩ : ∃ W1, W1 = (w.alloc (.cells #[.slice A0 l0 a0, .slice A1 l1 a1, .slice A2 l2 a2, .slice A3 l3 a3, .slice A4 l4 a4, .slice A5 l5 a5, v6, .int .i64 st, v8, v9, v10] 32)).far bs dr := ⟨_, rfl⟩
  have c1 : W1.cell? ⟨w.heap.size, 1, none⟩ = some (.slice A1 l1 a1) := by rw [hW1]; exact (Lv (Lz _)).cell_of (by simp [go_sem])
  have L1 : Hid (Later w W1) := by rw [hW1]; exact Lv (La (Lz _))
  rw [← hW1]
  have lp := cell_lt c1
  clear hW1
  go_wp2_with fail
  go_loopw [6, 7, 8, 9, 10] (fun f t e g i wr => ∃ (d r : List Imp) (nf nt ne ng : Nat), i = .int .i64 (d.length : Nat) ∧ d ++ r = xs ∧ wr = W1 ∧ f = .int .i64 (nf : Nat) ∧ t = .int .i64 (nt : Nat) ∧ e = .int .i64 (ne : Nat) ∧ g = .int .i64 (ng : Nat) ∧ Hid (nf = (imk d 0).length + l2 ∧ nt = (imk d 1).length + l3 ∧ ne = (imk d 2).length + l4 ∧ ng = (imk d 3).length + l5)) (fun _ _ _ _ i _ => l1 - (intOf i).toNat)
  case atStart => exact ⟨[], xs, l2, l3, l4, l5, rfl, rfl, rfl, rfl, rfl, rfl, rfl, by simp [imk], by simp [imk], by simp [imk], by simp [imk]⟩
  case round =>
    obtain ⟨d, r, nf, nt, ne, ng, rfl, hd, rfl, rfl, rfl, rfl, rfl, hn⟩ := hrel
    have hdl : d.length + r.length = l1 := by rw [hl1.out, ← hd, List.length_append]
    cases r with
    | nil =>
      have hde : d = xs := by simpa using hd
      have hq1 : ¬ (d.length : Int) < (l1 : Int) := by simp at hdl; omega
      have hfin : Hid (nf = (imk xs 0).length + l2 ∧ nt = (imk xs 1).length + l3 ∧ ne = (imk xs 2).length + l4 ∧ ng = (imk xs 3).length + l5) := by rw [← hde]; exact hn
      clear hn hd hde hdl
      go_wp2_with fail
      obtain ⟨q0, q1, q2, q3⟩ := hfin.out
      refine ⟨rfl, .tuple #[.int .i64 (nf : Nat), .int .i64 (nt : Nat), .int .i64 (ne : Nat), .int .i64 (ng : Nat)], by simp [results, Try.results11], by simp only [q0, q1, q2, q3, Int.natCast_add], by first | exact L1.out | exact Ld L1.out⟩
    | cons x r =>
      have hq1 : (d.length : Int) < (l1 : Int) := by simp at hdl; omega
      obtain ⟨gb, o, eA, _, _, k2, _⟩ := imp_at (r1.out.later (fun _ => Nat.succ_pos _) L1.out) hd
      have lk := cell_lt k2
      have hb : ∀ k, (imk d k).length ≤ d.length := fun k => imk_len d k
      have b0 := hb 0
      have b1 := hb 1
      have b2 := hb 2
      have b3 := hb 3
      have hm := fun k => imk_more d x k
      obtain ⟨hn0, hn1, hn2, hn3⟩ := hn.out
      have z0 : (nf : Int) ≤ 562949953421312 := by simp at hdl; omega
      have z1 : (nt : Int) ≤ 562949953421312 := by simp at hdl; omega
      have z2 : (ne : Int) ≤ 562949953421312 := by simp at hdl; omega
      have z3 : (ng : Int) ≤ 562949953421312 := by simp at hdl; omega
      have hd2 : Hid ((d ++ [x]) ++ r = xs) := by show _ = _; rw [List.append_assoc]; exact hd
      obtain ⟨y, hy⟩ : ∃ y, y = x.2.2.1 := ⟨_, rfl⟩
      rw [← hy] at k2
      have hdn : (d ++ [x]).length = d.length + 1 := by simp
      have hd1 : (d.length : Int) ≤ 140737488351232 := by simp at hdl; omega
      rw [eA] at c1
      obtain ⟨hs0, hs1, hs2, hs3⟩ : Hid ((imk (d ++ [x]) 0).length + l2 = nf + (if y = 0 then 1 else 0)) ∧ Hid ((imk (d ++ [x]) 1).length + l3 = nt + (if y = 1 then 1 else 0)) ∧ Hid ((imk (d ++ [x]) 2).length + l4 = ne + (if y = 2 then 1 else 0)) ∧ Hid ((imk (d ++ [x]) 3).length + l5 = ng + (if y = 3 then 1 else 0)) := by
        refine ⟨?_, ?_, ?_, ?_⟩ <;> (show _ = _; rw [hm, List.length_append, ← hy]; split <;> simp only [List.length_singleton, List.length_nil] <;> omega)
      clear hm hb b0 b1 b2 b3 hn0 hn1 hn2 hn3 hn hd hdl eA hy
      generalize d.length = D at *
      rcases (by omega : y = 0 ∨ y = 1 ∨ y = 2 ∨ y = 3 ∨ (¬ y = 0 ∧ ¬ y = 1 ∧ ¬ y = 2 ∧ ¬ y = 3)) with rfl | rfl | rfl | rfl | ⟨y0, y1, y2, y3⟩
      all_goals
        go_wp2_with fail
        go_roundw
        case rel =>
          refine ⟨d ++ [x], r, (imk (d ++ [x]) 0).length + l2, (imk (d ++ [x]) 1).length + l3, (imk (d ++ [x]) 2).length + l4, (imk (d ++ [x]) 3).length + l5, ?_, hd2.out, by first | rfl | trivial, ?_, ?_, ?_, ?_, rfl, rfl, rfl, rfl⟩
          · rw [hdn]; go_num
          · rw [hs0.out]; simp [*] <;> go_num
          · rw [hs1.out]; simp [*] <;> go_num
          · rw [hs2.out]; simp [*] <;> go_num
          · rw [hs3.out]; simp [*] <;> go_num
        case measure => simp [intOf]; omega
end Go.Proofs.Ytonnmbmdmkmhmaa.ty
