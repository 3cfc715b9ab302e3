/- Two modules that are alike: types, imports, functions, sizes, over this seat. -/
import Derived.Test.YtonnmbmdmkmhmaaFS
import Derived.LoopTactic
set_option linter.unusedVariables false
set_option linter.unusedSimpArgs false
set_option maxRecDepth 100000
set_option maxHeartbeats 8000000
namespace Go.Proofs.Ytonnmbmdmkmhmaa
open Go.RowKit
theorem same1_any {Z Y : Nat → Prop} {m : Md} (hm : MdBig m) {w : World} {LA LB : List Value} (hA : ModC Z w m LA) (hB : ModC Y w m LB) :
    Calls Try.prog 27 #[.agg LA.toArray, .agg LB.toArray] w fun e w' => e = .returned (.bool true) ∧ Hid (Later w w') := by
  obtain ⟨v0, v1, v2, v3, v4, v5, v6, v8, v9, v10, eA, ⟨A0, a0, rfl, r0⟩, ⟨A1, a1, rfl, r1⟩, ⟨A2, a2, rfl, r2⟩, ⟨A3, a3, rfl, r3⟩, ⟨A4, a4, rfl, r4⟩, ⟨A5, a5, rfl, r5⟩, ⟨A6, a6, rfl, r6⟩, ⟨A8, a8, rfl, r8⟩, ⟨A9, a9, rfl, r9⟩, ⟨A10, a10, rfl, r10⟩⟩ := hA
  obtain ⟨u0, u1, u2, u3, u4, u5, u6, u8, u9, u10, eB, ⟨B0, b0, rfl, s0⟩, ⟨B1, b1, rfl, s1⟩, ⟨B2, b2, rfl, s2⟩, ⟨B3, b3, rfl, s3⟩, ⟨B4, b4, rfl, s4⟩, ⟨B5, b5, rfl, s5⟩, ⟨B6, b6, rfl, s6⟩, ⟨B8, b8, rfl, s8⟩, ⟨B9, b9, rfl, s9⟩, ⟨B10, b10, rfl, s10⟩⟩ := hB
  subst eA eB
  have z0 := hm.ty
  have hfu : m.fu.length ≤ 9223372036854775807 := Nat.le_trans hm.fu (by decide)
  have c2 : Hid (∀ W, Later w W → Calls Try.prog 26 #[.slice A2 m.fu.length a2, .slice B2 m.fu.length b2] W fun e w' => e = .returned (.bool true) ∧ Later W w') := fun W hW => same_any A2 B2 m.fu.length a2 b2 _ hfu W (r2.lq.later hW).1 (s2.lq.later hW).1
  have R0 : Hid (Rt fTy Z w A0 m.ty) := r0
  have S0 : Hid (Rt fTy Y w B0 m.ty) := s0
  have R1 : Hid (Rt fIm Z w A1 m.im) := r1
  have S1 : Hid (Rt fIm Y w B1 m.im) := s1
  have R2 : Hid (Rt f1 Z w A2 m.fu) := r2
  have S2 : Hid (Rt f1 Y w B2 m.fu) := s2
  have R3 : Hid (Rt fLi Z w A3 m.ta) := r3
  have S3 : Hid (Rt fLi Y w B3 m.ta) := s3
  have R4 : Hid (Rt fLi Z w A4 m.me) := r4
  have S4 : Hid (Rt fLi Y w B4 m.me) := s4
  have R5 : Hid (Rt fGl Z w A5 m.gl) := r5
  have S5 : Hid (Rt fGl Y w B5 m.gl) := s5
  have R6 : Hid (Rt fEx Z w A6 m.ex) := r6
  have S6 : Hid (Rt fEx Y w B6 m.ex) := s6
  have R8 : Hid (Rt fEl Z w A8 m.el) := r8
  have S8 : Hid (Rt fEl Y w B8 m.el) := s8
  have R9 : Hid (Rt fCo Z w A9 m.co) := r9
  have S9 : Hid (Rt fCo Y w B9 m.co) := s9
  have R10 : Hid (Rt fDa Z w A10 m.da) := r10
  have S10 : Hid (Rt fDa Y w B10 m.da) := s10
  clear r0 s0 r1 s1 r2 s2 r3 s3 r4 s4 r5 s5 r6 s6 r8 s8 r9 s9 r10 s10
  go_enter Try.func27, Try.ntmps27
  go_wp2_with fail
  refine (c2.out _ (La (La (Lz _)))).mono ?_
  clear c2
  rintro e w1 ⟨rfl, l1⟩
  have k0 : w1.cell? ⟨w.heap.size, 0, none⟩ = some (.slice A0 m.ty.length a0) := l1.cell_of (by simp [go_sem])
  have t0 : w1.cell? ⟨w.heap.size + 1, 0, none⟩ = some (.slice B0 m.ty.length b0) := l1.cell_of (by simp [go_sem])
  have k1 : w1.cell? ⟨w.heap.size, 1, none⟩ = some (.slice A1 m.im.length a1) := l1.cell_of (by simp [go_sem])
  have t1 : w1.cell? ⟨w.heap.size + 1, 1, none⟩ = some (.slice B1 m.im.length b1) := l1.cell_of (by simp [go_sem])
  have k3 : w1.cell? ⟨w.heap.size, 3, none⟩ = some (.slice A3 m.ta.length a3) := l1.cell_of (by simp [go_sem])
  have t3 : w1.cell? ⟨w.heap.size + 1, 3, none⟩ = some (.slice B3 m.ta.length b3) := l1.cell_of (by simp [go_sem])
  have k4 : w1.cell? ⟨w.heap.size, 4, none⟩ = some (.slice A4 m.me.length a4) := l1.cell_of (by simp [go_sem])
  have t4 : w1.cell? ⟨w.heap.size + 1, 4, none⟩ = some (.slice B4 m.me.length b4) := l1.cell_of (by simp [go_sem])
  have lt0 := cell_lt k0
  have lt1 := cell_lt t0
  have L1 : Hid (Later w w1) := (La (La (Lz _))).trans l1
  clear l1
  go_wp2_with fail
  obtain ⟨n0, hn0⟩ : ∃ n, n = m.ty.length := ⟨_, rfl⟩
  have hb0 : n0 ≤ 140737488351232 := by rw [hn0]; exact hm.ty.1
  rw [← hn0] at k0 t0 ⊢
  replace hn0 : Hid (n0 = m.ty.length) := hn0
  go_loopw [5] (fun i wr => ∃ d : Nat, d ≤ n0 ∧ i = .int .i64 (d : Int) ∧ Later w1 wr) (fun i _ => n0 - (intOf i).toNat)
  case atStart => exact ⟨0, Nat.zero_le _, rfl, Lz _⟩
  case round =>
    obtain ⟨d, hd, rfl, hL⟩ := hrel
    replace k0 := hL.cell_of k0
    replace t0 := hL.cell_of t0
    replace k1 := hL.cell_of k1
    replace t1 := hL.cell_of t1
    replace k3 := hL.cell_of k3
    replace t3 := hL.cell_of t3
    replace k4 := hL.cell_of k4
    replace t4 := hL.cell_of t4
    have lt0 := cell_lt k0
    have lt1 := cell_lt t0
    by_cases hlt : d < n0
    · have hl1 : (d : Int) < (n0 : Int) := by omega
      have hdm : d < m.ty.length := by rw [← hn0.out]; exact hlt
      have Lw := L1.out.trans hL
      obtain ⟨g, o, c, rfl, hz, hc, hi⟩ := Rt.at (f := fTy) 2 (fun _ => rfl) (Rt.later (f := fTy) (fun _ => Nat.succ_pos _) Lw R0.out) d hdm
      obtain ⟨g', o', c', rfl, hz', hc', hi'⟩ := Rt.at (f := fTy) 2 (fun _ => rfl) (Rt.later (f := fTy) (fun _ => Nat.succ_pos _) Lw S0.out) d hdm
      have hx := z0.2 _ (List.getElem_mem hdm)
      generalize m.ty[d] = x at *
      obtain ⟨v, d1, rfl, ⟨P, p, rfl, hP⟩, v', d2, rfl, ⟨Q, q, rfl, hQ⟩, hnil⟩ := hi
      obtain ⟨y, e1, rfl, ⟨P', p', rfl, hP'⟩, y', e2, rfl, ⟨Q', q', rfl, hQ'⟩, hnil'⟩ := hi'
      have x0 := hc 0 _ rfl
      have x1 := hc 1 _ rfl
      have y0 := hc' 0 _ rfl
      have y1 := hc' 1 _ rfl
      simp only [Nat.add_zero] at x0 y0
      have cs : Hid (∀ W, Later wr W → Calls Try.prog 12 #[.agg #[.slice P x.1.length p, .slice Q x.2.length q], .agg #[.slice P' x.1.length p', .slice Q' x.2.length q']] W fun e w' => e = .returned (.bool true) ∧ Hid (Later W w')) := fun W hW => stype_any Z Y x ⟨by omega, by omega⟩ W P Q P' Q' p q p' q' (hP.later hW) (hQ.later hW) (hP'.later hW) (hQ'.later hW)
      clear hP hQ hP' hQ' hnil hnil' hc hc' hz hz' hx hdm
      generalize x.1.length = lx at *
      generalize x.2.length = ly at *
      replace hL : Hid _ := hL
      replace Lw : Hid _ := Lw
      go_wp2_with fail
      go_region_law (go_simp; go_at_call 12; refine (cs.out _ (by first | exact Lz _ | exact Ld (Lz _))).mono ?_; rintro e w2 ⟨rfl, l2⟩; replace l2 : Hid _ := l2)
      all_goals
        go_simp
        go_wp2_with fail
        refine ⟨⟨d + 1, by omega, by simp, Later.trans hL.out (by first | exact l2.out | exact (Ld (Lz _)).trans l2.out)⟩, ?_⟩
        simp [intOf]
        omega
    · have hde : d = n0 := by omega
      subst hde
      have w3L : Hid (Later w wr) := L1.out.trans hL
      clear L1 hL hn0 hb0 hd hlt R0 S0
      rename World => w3
      have L1 : Hid (Later w w3) := w3L
      clear w3L
      go_wp2_with fail
      clear k0 t0
      obtain ⟨n1, hn1⟩ : ∃ n, n = m.im.length := ⟨_, rfl⟩
      have hb1 : n1 ≤ 140737488351232 := by rw [hn1]; exact hm.im
      rw [← hn1] at k1 t1 ⊢
      replace hn1 : Hid (n1 = m.im.length) := hn1
      go_loopw [6] (fun i wr => ∃ d : Nat, d ≤ n1 ∧ i = .int .i64 (d : Int) ∧ Later w3 wr) (fun i _ => n1 - (intOf i).toNat)
      case atStart => exact ⟨0, Nat.zero_le _, rfl, Lz _⟩
      case round =>
        obtain ⟨d, hd, rfl, hL⟩ := hrel
        replace k1 := hL.cell_of k1
        replace t1 := hL.cell_of t1
        replace k3 := hL.cell_of k3
        replace t3 := hL.cell_of t3
        replace k4 := hL.cell_of k4
        replace t4 := hL.cell_of t4
        have lt0 := cell_lt k1
        have lt1 := cell_lt t1
        by_cases hlt : d < n1
        · have hl1 : (d : Int) < (n1 : Int) := by omega
          have hdm : d < m.im.length := by rw [← hn1.out]; exact hlt
          have Lw := L1.out.trans hL
          obtain ⟨g, o, c, rfl, hz, hc, hi⟩ := Rt.at (f := fIm) 7 (fun _ => rfl) (Rt.later (f := fIm) (fun _ => Nat.succ_pos _) Lw R1.out) d hdm
          obtain ⟨g', o', c', rfl, hz', hc', hi'⟩ := Rt.at (f := fIm) 7 (fun _ => rfl) (Rt.later (f := fIm) (fun _ => Nat.succ_pos _) Lw S1.out) d hdm
          generalize m.im[d] = x at *
          obtain ⟨x0, x1, x2, x3, x4, x5, x6⟩ := x
          obtain ⟨v0, d0, rfl, f0, v1, d1, rfl, f1, v2, d2, rfl, f2, v3, d3, rfl, f3, v4, d4, rfl, f4, v5, d5, rfl, f5, v6, d6, rfl, f6, f7⟩ := hi
          obtain ⟨y0, e0, rfl, g0, y1, e1, rfl, g1, y2, e2, rfl, g2, y3, e3, rfl, g3, y4, e4, rfl, g4, y5, e5, rfl, g5, y6, e6, rfl, g6, g7⟩ := hi'
          have f0 : v0 = .string x0 := f0
          have f1 : v1 = .string x1 := f1
          have f2 : v2 = .int .i64 x2 := f2
          have f3 : v3 = .int .i64 x3 := f3
          have f4 : v4 = .bool x4 := f4
          have f5 : v5 = .int .i64 x5 := f5
          have f6 : v6 = .int .i64 x6 := f6
          have g0 : y0 = .string x0 := g0
          have g1 : y1 = .string x1 := g1
          have g2 : y2 = .int .i64 x2 := g2
          have g3 : y3 = .int .i64 x3 := g3
          have g4 : y4 = .bool x4 := g4
          have g5 : y5 = .int .i64 x5 := g5
          have g6 : y6 = .int .i64 x6 := g6
          subst f0 f1 f2 f3 f4 f5 f6 g0 g1 g2 g3 g4 g5 g6
          have p0 := hc 0 _ rfl
          have q0 := hc' 0 _ rfl
          have p1 := hc 1 _ rfl
          have q1 := hc' 1 _ rfl
          have p2 := hc 2 _ rfl
          have q2 := hc' 2 _ rfl
          have p3 := hc 3 _ rfl
          have q3 := hc' 3 _ rfl
          have p4 := hc 4 _ rfl
          have q4 := hc' 4 _ rfl
          have p5 := hc 5 _ rfl
          have q5 := hc' 5 _ rfl
          have p6 := hc 6 _ rfl
          have q6 := hc' 6 _ rfl
          simp only [Nat.add_zero] at p0 q0
          clear f7 g7 hc hc' hz hz' hdm Lw
          replace hL : Hid _ := hL
          go_wp2_with fail
          go_quiet (fail)
          go_wp2_with fail
          refine ⟨⟨d + 1, by omega, by simp, Later.trans hL.out (by first | exact Lz _ | exact Ld (Lz _) | exact Later.drewN (Lz _))⟩, ?_⟩
          simp [intOf]
          omega
        · have hde : d = n1 := by omega
          subst hde
          have w4L : Hid (Later w wr) := L1.out.trans hL
          clear L1 hL hn1 hb1 hd hlt R1 S1
          rename World => w4
          have L1 : Hid (Later w w4) := w4L
          clear w4L
          go_wp2_with fail
          clear k1 t1
          obtain ⟨n3, hn3⟩ : ∃ n, n = m.ta.length := ⟨_, rfl⟩
          have hb3 : n3 ≤ 140737488351232 := by rw [hn3]; exact hm.ta
          rw [← hn3] at k3 t3 ⊢
          replace hn3 : Hid (n3 = m.ta.length) := hn3
          go_loopw [7] (fun i wr => ∃ d : Nat, d ≤ n3 ∧ i = .int .i64 (d : Int) ∧ Later w4 wr) (fun i _ => n3 - (intOf i).toNat)
          case atStart => exact ⟨0, Nat.zero_le _, rfl, Lz _⟩
          case round =>
            obtain ⟨d, hd, rfl, hL⟩ := hrel
            replace k3 := hL.cell_of k3
            replace t3 := hL.cell_of t3
            replace k4 := hL.cell_of k4
            replace t4 := hL.cell_of t4
            have lt0 := cell_lt k3
            have lt1 := cell_lt t3
            by_cases hlt : d < n3
            · have hl1 : (d : Int) < (n3 : Int) := by omega
              have hdm : d < m.ta.length := by rw [← hn3.out]; exact hlt
              have Lw := L1.out.trans hL
              obtain ⟨g, o, c, rfl, hz, hc, hi⟩ := Rt.at (f := fLi) 2 (fun _ => rfl) (Rt.later (f := fLi) (fun _ => Nat.succ_pos _) Lw R3.out) d hdm
              obtain ⟨g', o', c', rfl, hz', hc', hi'⟩ := Rt.at (f := fLi) 2 (fun _ => rfl) (Rt.later (f := fLi) (fun _ => Nat.succ_pos _) Lw S3.out) d hdm
              generalize m.ta[d] = x at *
              obtain ⟨x0, x1⟩ := x
              obtain ⟨v0, d0, rfl, f0, v1, d1, rfl, f1, f7⟩ := hi
              obtain ⟨y0, e0, rfl, g0, y1, e1, rfl, g1, g7⟩ := hi'
              have f0 : v0 = .int .i64 x0 := f0
              have f1 : v1 = .int .i64 x1 := f1
              have g0 : y0 = .int .i64 x0 := g0
              have g1 : y1 = .int .i64 x1 := g1
              subst f0 f1 g0 g1
              have p0 := hc 0 _ rfl
              have q0 := hc' 0 _ rfl
              have p1 := hc 1 _ rfl
              have q1 := hc' 1 _ rfl
              simp only [Nat.add_zero] at p0 q0
              clear f7 g7 hc hc' hz hz' hdm Lw
              replace hL : Hid _ := hL
              go_wp2_with fail
              go_quiet (fail)
              go_wp2_with fail
              refine ⟨⟨d + 1, by omega, by simp, Later.trans hL.out (by first | exact Lz _ | exact Ld (Lz _) | exact Later.drewN (Lz _))⟩, ?_⟩
              simp [intOf]
              omega
            · have hde : d = n3 := by omega
              subst hde
              have w5L : Hid (Later w wr) := L1.out.trans hL
              clear L1 hL hn3 hb3 hd hlt R3 S3
              rename World => w5
              have L1 : Hid (Later w w5) := w5L
              clear w5L
              go_wp2_with fail
              clear k3 t3
              obtain ⟨n4, hn4⟩ : ∃ n, n = m.me.length := ⟨_, rfl⟩
              have hb4 : n4 ≤ 140737488351232 := by rw [hn4]; exact hm.me
              rw [← hn4] at k4 t4 ⊢
              replace hn4 : Hid (n4 = m.me.length) := hn4
              go_loopw [8] (fun i wr => ∃ d : Nat, d ≤ n4 ∧ i = .int .i64 (d : Int) ∧ Later w5 wr) (fun i _ => n4 - (intOf i).toNat)
              case atStart => exact ⟨0, Nat.zero_le _, rfl, Lz _⟩
              case round =>
                obtain ⟨d, hd, rfl, hL⟩ := hrel
                replace k4 := hL.cell_of k4
                replace t4 := hL.cell_of t4
                have lt0 := cell_lt k4
                have lt1 := cell_lt t4
                by_cases hlt : d < n4
                · have hl1 : (d : Int) < (n4 : Int) := by omega
                  have hdm : d < m.me.length := by rw [← hn4.out]; exact hlt
                  have Lw := L1.out.trans hL
                  obtain ⟨g, o, c, rfl, hz, hc, hi⟩ := Rt.at (f := fLi) 2 (fun _ => rfl) (Rt.later (f := fLi) (fun _ => Nat.succ_pos _) Lw R4.out) d hdm
                  obtain ⟨g', o', c', rfl, hz', hc', hi'⟩ := Rt.at (f := fLi) 2 (fun _ => rfl) (Rt.later (f := fLi) (fun _ => Nat.succ_pos _) Lw S4.out) d hdm
                  generalize m.me[d] = x at *
                  obtain ⟨x0, x1⟩ := x
                  obtain ⟨v0, d0, rfl, f0, v1, d1, rfl, f1, f7⟩ := hi
                  obtain ⟨y0, e0, rfl, g0, y1, e1, rfl, g1, g7⟩ := hi'
                  have f0 : v0 = .int .i64 x0 := f0
                  have f1 : v1 = .int .i64 x1 := f1
                  have g0 : y0 = .int .i64 x0 := g0
                  have g1 : y1 = .int .i64 x1 := g1
                  subst f0 f1 g0 g1
                  have p0 := hc 0 _ rfl
                  have q0 := hc' 0 _ rfl
                  have p1 := hc 1 _ rfl
                  have q1 := hc' 1 _ rfl
                  simp only [Nat.add_zero] at p0 q0
                  clear f7 g7 hc hc' hz hz' hdm Lw
                  replace hL : Hid _ := hL
                  go_wp2_with fail
                  go_quiet (fail)
                  go_wp2_with fail
                  refine ⟨⟨d + 1, by omega, by simp, Later.trans hL.out (by first | exact Lz _ | exact Ld (Lz _) | exact Later.drewN (Lz _))⟩, ?_⟩
                  simp [intOf]
                  omega
                · have hde : d = n4 := by omega
                  subst hde
                  have w6L : Hid (Later w wr) := L1.out.trans hL
                  clear L1 hL hn4 hb4 hd hlt R4 S4
                  rename World => w6
                  have L1 : Hid (Later w w6) := w6L
                  clear w6L
                  go_wp2_with fail
                  clear k4 t4
                  go_ret
                  exact ⟨rfl, L1.out⟩
end Go.Proofs.Ytonnmbmdmkmhmaa
