/- Two modules that are alike: all of a module, over this seat. -/
import Derived.Test.YtonnmbmdmkmhmaaFT
import Derived.LoopTactic
set_option linter.unusedVariables false
set_option linter.unusedSimpArgs false
set_option maxRecDepth 100000
set_option maxHeartbeats 8000000
namespace Go.Proofs.Ytonnmbmdmkmhmaa
open Go.RowKit
theorem smod_big {Z Y : Nat → Prop} {m : Md} (hm : MdBig m) {w : World} {LA LB : List Value} (hA : ModC Z w m LA) (hB : ModC Y w m LB) :
    Calls Try.prog 15 #[.agg LA.toArray, .agg LB.toArray] w fun e w' => e = .returned (.bool true) ∧ Hid (Later w w') := by
  have c1 : Hid (∀ W, Later w W → Calls Try.prog 27 #[.agg LA.toArray, .agg LB.toArray] W fun e w' => e = .returned (.bool true) ∧ Hid (Later W w')) := fun W hW => same1_any hm (hA.move fun k hk hl => ⟨hk, hW.block hl⟩) (hB.move fun k hk hl => ⟨hk, hW.block hl⟩)
  obtain ⟨v0, v1, v2, v3, v4, v5, v6, v8, v9, v10, eA, ⟨A0, a0, rfl, r0⟩, ⟨A1, a1, rfl, r1⟩, ⟨A2, a2, rfl, r2⟩, ⟨A3, a3, rfl, r3⟩, ⟨A4, a4, rfl, r4⟩, ⟨A5, a5, rfl, r5⟩, ⟨A6, a6, rfl, r6⟩, ⟨A8, a8, rfl, r8⟩, ⟨A9, a9, rfl, r9⟩, ⟨A10, a10, rfl, r10⟩⟩ := hA
  obtain ⟨u0, u1, u2, u3, u4, u5, u6, u8, u9, u10, eB, ⟨B0, b0, rfl, s0⟩, ⟨B1, b1, rfl, s1⟩, ⟨B2, b2, rfl, s2⟩, ⟨B3, b3, rfl, s3⟩, ⟨B4, b4, rfl, s4⟩, ⟨B5, b5, rfl, s5⟩, ⟨B6, b6, rfl, s6⟩, ⟨B8, b8, rfl, s8⟩, ⟨B9, b9, rfl, s9⟩, ⟨B10, b10, rfl, s10⟩⟩ := hB
  subst eA eB
  have R0 : Hid (Rt fTy Z w A0 m.ty) := r0
  have S0 : Hid (Rt fTy Y w B0 m.ty) := s0
  have R1 : Hid (Rt fIm Z w A1 m.im) := r1
  have S1 : Hid (Rt fIm Y w B1 m.im) := s1
  have R2 : Hid (Rt f1 Z w A2 m.fu) := r2
  have S2 : Hid (Rt f1 Y w B2 m.fu) := s2
  have R3 : Hid (Rt fLi Z w A3 m.ta) := r3
  have S3 : Hid (Rt fLi Y w B3 m.ta) := s3
  have R4 : Hid (Rt fLi Z w A4 m.me) := r4
  have S4 : Hid (Rt fLi Y w B4 m.me) := s4
  have R5 : Hid (Rt fGl Z w A5 m.gl) := r5
  have S5 : Hid (Rt fGl Y w B5 m.gl) := s5
  have R6 : Hid (Rt fEx Z w A6 m.ex) := r6
  have S6 : Hid (Rt fEx Y w B6 m.ex) := s6
  have R8 : Hid (Rt fEl Z w A8 m.el) := r8
  have S8 : Hid (Rt fEl Y w B8 m.el) := s8
  have R9 : Hid (Rt fCo Z w A9 m.co) := r9
  have S9 : Hid (Rt fCo Y w B9 m.co) := s9
  have R10 : Hid (Rt fDa Z w A10 m.da) := r10
  have S10 : Hid (Rt fDa Y w B10 m.da) := s10
  clear r0 s0 r1 s1 r2 s2 r3 s3 r4 s4 r5 s5 r6 s6 r8 s8 r9 s9 r10 s10
  go_enter Try.func15, Try.ntmps15
  go_wp2_with fail
  refine (c1.out _ (by first | exact La (La (Lz _)) | exact Ld (La (La (Lz _))))).mono ?_
  clear c1
  rintro e w1 ⟨rfl, l1⟩
  have k5 : w1.cell? ⟨w.heap.size, 5, none⟩ = some (.slice A5 m.gl.length a5) := l1.out.cell_of (by simp [go_sem])
  have t5 : w1.cell? ⟨w.heap.size + 1, 5, none⟩ = some (.slice B5 m.gl.length b5) := l1.out.cell_of (by simp [go_sem])
  have k6 : w1.cell? ⟨w.heap.size, 6, none⟩ = some (.slice A6 m.ex.length a6) := l1.out.cell_of (by simp [go_sem])
  have t6 : w1.cell? ⟨w.heap.size + 1, 6, none⟩ = some (.slice B6 m.ex.length b6) := l1.out.cell_of (by simp [go_sem])
  have k8 : w1.cell? ⟨w.heap.size, 8, none⟩ = some (.slice A8 m.el.length a8) := l1.out.cell_of (by simp [go_sem])
  have t8 : w1.cell? ⟨w.heap.size + 1, 8, none⟩ = some (.slice B8 m.el.length b8) := l1.out.cell_of (by simp [go_sem])
  have k9 : w1.cell? ⟨w.heap.size, 9, none⟩ = some (.slice A9 m.co.length a9) := l1.out.cell_of (by simp [go_sem])
  have t9 : w1.cell? ⟨w.heap.size + 1, 9, none⟩ = some (.slice B9 m.co.length b9) := l1.out.cell_of (by simp [go_sem])
  have k10 : w1.cell? ⟨w.heap.size, 10, none⟩ = some (.slice A10 m.da.length a10) := l1.out.cell_of (by simp [go_sem])
  have t10 : w1.cell? ⟨w.heap.size + 1, 10, none⟩ = some (.slice B10 m.da.length b10) := l1.out.cell_of (by simp [go_sem])
  have k7 : w1.cell? ⟨w.heap.size, 7, none⟩ = some (.int .i64 m.st) := l1.out.cell_of (by simp [go_sem])
  have t7 : w1.cell? ⟨w.heap.size + 1, 7, none⟩ = some (.int .i64 m.st) := l1.out.cell_of (by simp [go_sem])
  have lt0 := cell_lt k5
  have lt1 := cell_lt t5
  have L1 : Hid (Later w w1) := by first | exact (La (La (Lz _))).trans l1.out | exact (Ld (La (La (Lz _)))).trans l1.out
  clear l1
  go_wp2_with fail
  clear k7 t7
  obtain ⟨n5, hn5⟩ : ∃ n, n = m.gl.length := ⟨_, rfl⟩
  have hb5 : n5 ≤ 140737488351232 := by rw [hn5]; exact hm.gl.1
  rw [← hn5] at k5 t5 ⊢
  replace hn5 : Hid (n5 = m.gl.length) := hn5
  go_loopw [5] (fun i wr => ∃ d : Nat, d ≤ n5 ∧ i = .int .i64 (d : Int) ∧ Later w1 wr) (fun i _ => n5 - (intOf i).toNat)
  case atStart => exact ⟨0, Nat.zero_le _, rfl, Lz _⟩
  case round =>
    obtain ⟨d, hd, rfl, hL⟩ := hrel
    replace k5 := hL.cell_of k5
    replace t5 := hL.cell_of t5
    replace k6 := hL.cell_of k6
    replace t6 := hL.cell_of t6
    replace k8 := hL.cell_of k8
    replace t8 := hL.cell_of t8
    replace k9 := hL.cell_of k9
    replace t9 := hL.cell_of t9
    replace k10 := hL.cell_of k10
    replace t10 := hL.cell_of t10
    have lt0 := cell_lt k5
    have lt1 := cell_lt t5
    by_cases hlt : d < n5
    · have hl1 : (d : Int) < (n5 : Int) := by omega
      have hdm : d < m.gl.length := by rw [← hn5.out]; exact hlt
      have Lw := L1.out.trans hL
      obtain ⟨g, o, c, rfl, hz, hc, hi⟩ := Rt.at (f := fGl) 3 (fun _ => rfl) (Rt.later (f := fGl) (fun _ => Nat.succ_pos _) Lw R5.out) d hdm
      obtain ⟨g', o', c', rfl, hz', hc', hi'⟩ := Rt.at (f := fGl) 3 (fun _ => rfl) (Rt.later (f := fGl) (fun _ => Nat.succ_pos _) Lw S5.out) d hdm
      have hx := hm.gl.2 _ (List.getElem_mem hdm)
      generalize m.gl[d] = x at *
      obtain ⟨x0, x1, x2⟩ := x
      obtain ⟨v0, d0, rfl, f0, v1, d1, rfl, f1, v2, d2, rfl, ⟨P2, pp2, f2, hP2⟩, f9⟩ := hi
      obtain ⟨y0, e0, rfl, g0, y1, e1, rfl, g1, y2, e2, rfl, ⟨Q2, qp2, g2, hQ2⟩, g9⟩ := hi'
      have f0 : v0 = .int .i64 x0 := f0
      have g0 : y0 = .int .i64 x0 := g0
      have f1 : v1 = .bool x1 := f1
      have g1 : y1 = .bool x1 := g1
      subst f0 g0 f1 g1 f2 g2
      have p0 := hc 0 _ rfl
      have q0 := hc' 0 _ rfl
      have p1 := hc 1 _ rfl
      have q1 := hc' 1 _ rfl
      have p2 := hc 2 _ rfl
      have q2 := hc' 2 _ rfl
      simp only [Nat.add_zero] at p0 q0
      have cs : Hid (∀ W, Later wr W → Calls Try.prog 28 #[.slice P2 x2.len pp2, .slice Q2 x2.len qp2] W fun e w' => e = .returned (.bool true) ∧ Later W w') := fun W hW => sameI_any _ x2 (Nat.le_refl _) hx.1 hx.2 Z Y W P2 Q2 pp2 qp2 (hP2.later hW) (hQ2.later hW)
      have cj : Hid True := trivial
      clear f9 g9 hc hc' hz hz' hdm Lw hP2 hQ2 hx
      try simp only at p2 q2
      have lp := cell_lt p0
      have lq := cell_lt q0
      generalize x2.len = lx2 at *
      replace hL : Hid _ := hL
      go_wp2_with fail
      refine wp_region_quiet_far (by kernel_rfl) (by kernel_rfl) ?_
      repeat (go_big_quiet_step (first | (go_at_call 28; exact Calls.far_of (cs.out _ (by repeat first | exact Lz _ | apply La | apply Lv | apply Ld | apply Ln))) | (go_at_call 26; exact Calls.far_of (cj.out _ (by repeat first | exact Lz _ | apply La | apply Lv | apply Ld | apply Ln)))))
      refine wpQuiet_nil ?_
      rintro _ ⟨⟨bs, dr⟩, rfl⟩
      go_wp2_with fail
      refine ⟨⟨d + 1, by omega, by simp, Later.trans hL.out (by repeat first | exact Lz _ | apply La | apply Lv | apply Ld | apply Ln)⟩, ?_⟩
      simp [intOf]
      omega
    · have hde : d = n5 := by omega
      subst hde
      have w3L : Hid (Later w wr) := L1.out.trans hL
      clear L1 hL hn5 hb5 hd hlt R5 S5
      rename World => w3
      have L1 : Hid (Later w w3) := w3L
      clear w3L
      go_wp2_with fail
      clear k5 t5
      obtain ⟨n6, hn6⟩ : ∃ n, n = m.ex.length := ⟨_, rfl⟩
      have hb6 : n6 ≤ 140737488351232 := by rw [hn6]; exact hm.ex
      rw [← hn6] at k6 t6 ⊢
      replace hn6 : Hid (n6 = m.ex.length) := hn6
      go_loopw [6] (fun i wr => ∃ d : Nat, d ≤ n6 ∧ i = .int .i64 (d : Int) ∧ Later w3 wr) (fun i _ => n6 - (intOf i).toNat)
      case atStart => exact ⟨0, Nat.zero_le _, rfl, Lz _⟩
      case round =>
        obtain ⟨d, hd, rfl, hL⟩ := hrel
        replace k6 := hL.cell_of k6
        replace t6 := hL.cell_of t6
        replace k8 := hL.cell_of k8
        replace t8 := hL.cell_of t8
        replace k9 := hL.cell_of k9
        replace t9 := hL.cell_of t9
        replace k10 := hL.cell_of k10
        replace t10 := hL.cell_of t10
        have lt0 := cell_lt k6
        have lt1 := cell_lt t6
        by_cases hlt : d < n6
        · have hl1 : (d : Int) < (n6 : Int) := by omega
          have hdm : d < m.ex.length := by rw [← hn6.out]; exact hlt
          have Lw := L1.out.trans hL
          obtain ⟨g, o, c, rfl, hz, hc, hi⟩ := Rt.at (f := fEx) 3 (fun _ => rfl) (Rt.later (f := fEx) (fun _ => Nat.succ_pos _) Lw R6.out) d hdm
          obtain ⟨g', o', c', rfl, hz', hc', hi'⟩ := Rt.at (f := fEx) 3 (fun _ => rfl) (Rt.later (f := fEx) (fun _ => Nat.succ_pos _) Lw S6.out) d hdm
          generalize m.ex[d] = x at *
          obtain ⟨x0, x1, x2⟩ := x
          obtain ⟨v0, d0, rfl, f0, v1, d1, rfl, f1, v2, d2, rfl, f2, f9⟩ := hi
          obtain ⟨y0, e0, rfl, g0, y1, e1, rfl, g1, y2, e2, rfl, g2, g9⟩ := hi'
          have f0 : v0 = .string x0 := f0
          have g0 : y0 = .string x0 := g0
          have f1 : v1 = .int .i64 x1 := f1
          have g1 : y1 = .int .i64 x1 := g1
          have f2 : v2 = .int .i64 x2 := f2
          have g2 : y2 = .int .i64 x2 := g2
          subst f0 g0 f1 g1 f2 g2
          have p0 := hc 0 _ rfl
          have q0 := hc' 0 _ rfl
          have p1 := hc 1 _ rfl
          have q1 := hc' 1 _ rfl
          have p2 := hc 2 _ rfl
          have q2 := hc' 2 _ rfl
          simp only [Nat.add_zero] at p0 q0
          clear f9 g9 hc hc' hz hz' hdm Lw
          replace hL : Hid _ := hL
          go_wp2_with fail
          go_quiet (fail)
          go_wp2_with fail
          refine ⟨⟨d + 1, by omega, by simp, Later.trans hL.out (by first | exact Lz _ | exact Ld (Lz _) | exact Later.drewN (Lz _))⟩, ?_⟩
          simp [intOf]
          omega
        · have hde : d = n6 := by omega
          subst hde
          have w4L : Hid (Later w wr) := L1.out.trans hL
          clear L1 hL hn6 hb6 hd hlt R6 S6
          rename World => w4
          have L1 : Hid (Later w w4) := w4L
          clear w4L
          go_wp2_with fail
          clear k6 t6
          obtain ⟨n8, hn8⟩ : ∃ n, n = m.el.length := ⟨_, rfl⟩
          have hb8 : n8 ≤ 140737488351232 := by rw [hn8]; exact hm.el.1
          rw [← hn8] at k8 t8 ⊢
          replace hn8 : Hid (n8 = m.el.length) := hn8
          go_loopw [7] (fun i wr => ∃ d : Nat, d ≤ n8 ∧ i = .int .i64 (d : Int) ∧ Later w4 wr) (fun i _ => n8 - (intOf i).toNat)
          case atStart => exact ⟨0, Nat.zero_le _, rfl, Lz _⟩
          case round =>
            obtain ⟨d, hd, rfl, hL⟩ := hrel
            replace k8 := hL.cell_of k8
            replace t8 := hL.cell_of t8
            replace k9 := hL.cell_of k9
            replace t9 := hL.cell_of t9
            replace k10 := hL.cell_of k10
            replace t10 := hL.cell_of t10
            have lt0 := cell_lt k8
            have lt1 := cell_lt t8
            by_cases hlt : d < n8
            · have hl1 : (d : Int) < (n8 : Int) := by omega
              have hdm : d < m.el.length := by rw [← hn8.out]; exact hlt
              have Lw := L1.out.trans hL
              obtain ⟨g, o, c, rfl, hz, hc, hi⟩ := Rt.at (f := fEl) 2 (fun _ => rfl) (Rt.later (f := fEl) (fun _ => Nat.succ_pos _) Lw R8.out) d hdm
              obtain ⟨g', o', c', rfl, hz', hc', hi'⟩ := Rt.at (f := fEl) 2 (fun _ => rfl) (Rt.later (f := fEl) (fun _ => Nat.succ_pos _) Lw S8.out) d hdm
              have hx := hm.el.2 _ (List.getElem_mem hdm)
              generalize m.el[d] = x at *
              obtain ⟨x0, x1⟩ := x
              obtain ⟨v0, d0, rfl, ⟨P0, pp0, f0, hP0⟩, v1, d1, rfl, ⟨P1, pp1, f1, hP1⟩, f9⟩ := hi
              obtain ⟨y0, e0, rfl, ⟨Q0, qp0, g0, hQ0⟩, y1, e1, rfl, ⟨Q1, qp1, g1, hQ1⟩, g9⟩ := hi'
              subst f0 g0 f1 g1
              have p0 := hc 0 _ rfl
              have q0 := hc' 0 _ rfl
              have p1 := hc 1 _ rfl
              have q1 := hc' 1 _ rfl
              simp only [Nat.add_zero] at p0 q0
              have cs : Hid (∀ W, Later wr W → Calls Try.prog 28 #[.slice P0 x0.len pp0, .slice Q0 x0.len qp0] W fun e w' => e = .returned (.bool true) ∧ Later W w') := fun W hW => sameI_any _ x0 (Nat.le_refl _) hx.1.1 hx.1.2 Z Y W P0 Q0 pp0 qp0 (hP0.later hW) (hQ0.later hW)
              have hxl : x1.length ≤ 140737488351232 := hx.2
              have cj : Hid (∀ W, Later wr W → Calls Try.prog 26 #[.slice P1 x1.length pp1, .slice Q1 x1.length qp1] W fun e w' => e = .returned (.bool true) ∧ Later W w') := fun W hW => same_any P1 Q1 x1.length pp1 qp1 _ (by omega) W (hP1.later hW).1 (hQ1.later hW).1
              clear f9 g9 hc hc' hz hz' hdm Lw hP0 hQ0 hP1 hQ1 hx
              clear hxl
              try simp only at p0 q0
              try simp only at p1 q1
              have lp := cell_lt p0
              have lq := cell_lt q0
              generalize x0.len = lx0 at *
              generalize x1.length = lx1 at *
              replace hL : Hid _ := hL
              go_wp2_with fail
              refine wp_region_quiet_far (by kernel_rfl) (by kernel_rfl) ?_
              repeat (go_big_quiet_step (first | (go_at_call 28; exact Calls.far_of (cs.out _ (by repeat first | exact Lz _ | apply La | apply Lv | apply Ld | apply Ln))) | (go_at_call 26; exact Calls.far_of (cj.out _ (by repeat first | exact Lz _ | apply La | apply Lv | apply Ld | apply Ln)))))
              refine wpQuiet_nil ?_
              rintro _ ⟨⟨bs, dr⟩, rfl⟩
              go_wp2_with fail
              refine ⟨⟨d + 1, by omega, by simp, Later.trans hL.out (by repeat first | exact Lz _ | apply La | apply Lv | apply Ld | apply Ln)⟩, ?_⟩
              simp [intOf]
              omega
            · have hde : d = n8 := by omega
              subst hde
              have w5L : Hid (Later w wr) := L1.out.trans hL
              clear L1 hL hn8 hb8 hd hlt R8 S8
              rename World => w5
              have L1 : Hid (Later w w5) := w5L
              clear w5L
              go_wp2_with fail
              clear k8 t8
              obtain ⟨n9, hn9⟩ : ∃ n, n = m.co.length := ⟨_, rfl⟩
              have hb9 : n9 ≤ 140737488351232 := by rw [hn9]; exact hm.co.1
              rw [← hn9] at k9 t9 ⊢
              replace hn9 : Hid (n9 = m.co.length) := hn9
              go_loopw [8] (fun i wr => ∃ d : Nat, d ≤ n9 ∧ i = .int .i64 (d : Int) ∧ Later w5 wr) (fun i _ => n9 - (intOf i).toNat)
              case atStart => exact ⟨0, Nat.zero_le _, rfl, Lz _⟩
              case round =>
                obtain ⟨d, hd, rfl, hL⟩ := hrel
                replace k9 := hL.cell_of k9
                replace t9 := hL.cell_of t9
                replace k10 := hL.cell_of k10
                replace t10 := hL.cell_of t10
                have lt0 := cell_lt k9
                have lt1 := cell_lt t9
                by_cases hlt : d < n9
                · have hl1 : (d : Int) < (n9 : Int) := by omega
                  have hdm : d < m.co.length := by rw [← hn9.out]; exact hlt
                  have Lw := L1.out.trans hL
                  obtain ⟨g, o, c, rfl, hz, hc, hi⟩ := Rt.at (f := fCo) 2 (fun _ => rfl) (Rt.later (f := fCo) (fun _ => Nat.succ_pos _) Lw R9.out) d hdm
                  obtain ⟨g', o', c', rfl, hz', hc', hi'⟩ := Rt.at (f := fCo) 2 (fun _ => rfl) (Rt.later (f := fCo) (fun _ => Nat.succ_pos _) Lw S9.out) d hdm
                  have hx := hm.co.2 _ (List.getElem_mem hdm)
                  generalize m.co[d] = x at *
                  obtain ⟨x0, x1⟩ := x
                  obtain ⟨v0, d0, rfl, ⟨P0, pp0, f0, hP0⟩, v1, d1, rfl, ⟨P1, pp1, f1, hP1⟩, f9⟩ := hi
                  obtain ⟨y0, e0, rfl, ⟨Q0, qp0, g0, hQ0⟩, y1, e1, rfl, ⟨Q1, qp1, g1, hQ1⟩, g9⟩ := hi'
                  subst f0 g0 f1 g1
                  have p0 := hc 0 _ rfl
                  have q0 := hc' 0 _ rfl
                  have p1 := hc 1 _ rfl
                  have q1 := hc' 1 _ rfl
                  simp only [Nat.add_zero] at p0 q0
                  have cs : Hid (∀ W, Later wr W → Calls Try.prog 28 #[.slice P1 x1.len pp1, .slice Q1 x1.len qp1] W fun e w' => e = .returned (.bool true) ∧ Later W w') := fun W hW => sameI_any _ x1 (Nat.le_refl _) hx.2.1 hx.2.2 Z Y W P1 Q1 pp1 qp1 (hP1.later hW) (hQ1.later hW)
                  have hxl : x0.length ≤ 140737488351232 := hx.1
                  have cj : Hid (∀ W, Later wr W → Calls Try.prog 26 #[.slice P0 x0.length pp0, .slice Q0 x0.length qp0] W fun e w' => e = .returned (.bool true) ∧ Later W w') := fun W hW => same_any P0 Q0 x0.length pp0 qp0 _ (by omega) W (hP0.later hW).1 (hQ0.later hW).1
                  clear f9 g9 hc hc' hz hz' hdm Lw hP0 hQ0 hP1 hQ1 hx
                  clear hxl
                  try simp only at p0 q0
                  try simp only at p1 q1
                  have lp := cell_lt p0
                  have lq := cell_lt q0
                  generalize x0.length = lx0 at *
                  generalize x1.len = lx1 at *
                  replace hL : Hid _ := hL
                  go_wp2_with fail
                  refine wp_region_quiet_far (by kernel_rfl) (by kernel_rfl) ?_
                  repeat (go_big_quiet_step (first | (go_at_call 28; exact Calls.far_of (cs.out _ (by repeat first | exact Lz _ | apply La | apply Lv | apply Ld | apply Ln))) | (go_at_call 26; exact Calls.far_of (cj.out _ (by repeat first | exact Lz _ | apply La | apply Lv | apply Ld | apply Ln)))))
                  refine wpQuiet_nil ?_
                  rintro _ ⟨⟨bs, dr⟩, rfl⟩
                  go_wp2_with fail
                  refine ⟨⟨d + 1, by omega, by simp, Later.trans hL.out (by repeat first | exact Lz _ | apply La | apply Lv | apply Ld | apply Ln)⟩, ?_⟩
                  simp [intOf]
                  omega
                · have hde : d = n9 := by omega
                  subst hde
                  have w6L : Hid (Later w wr) := L1.out.trans hL
                  clear L1 hL hn9 hb9 hd hlt R9 S9
                  rename World => w6
                  have L1 : Hid (Later w w6) := w6L
                  clear w6L
                  go_wp2_with fail
                  clear k9 t9
                  obtain ⟨n10, hn10⟩ : ∃ n, n = m.da.length := ⟨_, rfl⟩
                  have hb10 : n10 ≤ 140737488351232 := by rw [hn10]; exact hm.da.1
                  rw [← hn10] at k10 t10 ⊢
                  replace hn10 : Hid (n10 = m.da.length) := hn10
                  go_loopw [9] (fun i wr => ∃ d : Nat, d ≤ n10 ∧ i = .int .i64 (d : Int) ∧ Later w6 wr) (fun i _ => n10 - (intOf i).toNat)
                  case atStart => exact ⟨0, Nat.zero_le _, rfl, Lz _⟩
                  case round =>
                    obtain ⟨d, hd, rfl, hL⟩ := hrel
                    replace k10 := hL.cell_of k10
                    replace t10 := hL.cell_of t10
                    have lt0 := cell_lt k10
                    have lt1 := cell_lt t10
                    by_cases hlt : d < n10
                    · have hl1 : (d : Int) < (n10 : Int) := by omega
                      have hdm : d < m.da.length := by rw [← hn10.out]; exact hlt
                      have Lw := L1.out.trans hL
                      obtain ⟨g, o, c, rfl, hz, hc, hi⟩ := Rt.at (f := fDa) 2 (fun _ => rfl) (Rt.later (f := fDa) (fun _ => Nat.succ_pos _) Lw R10.out) d hdm
                      obtain ⟨g', o', c', rfl, hz', hc', hi'⟩ := Rt.at (f := fDa) 2 (fun _ => rfl) (Rt.later (f := fDa) (fun _ => Nat.succ_pos _) Lw S10.out) d hdm
                      have hx := hm.da.2 _ (List.getElem_mem hdm)
                      generalize m.da[d] = x at *
                      obtain ⟨x0, x1⟩ := x
                      obtain ⟨v0, d0, rfl, ⟨P0, pp0, f0, hP0⟩, v1, d1, rfl, f1, f9⟩ := hi
                      obtain ⟨y0, e0, rfl, ⟨Q0, qp0, g0, hQ0⟩, y1, e1, rfl, g1, g9⟩ := hi'
                      have f1 : v1 = .string x1 := f1
                      have g1 : y1 = .string x1 := g1
                      subst f0 g0 f1 g1
                      have p0 := hc 0 _ rfl
                      have q0 := hc' 0 _ rfl
                      have p1 := hc 1 _ rfl
                      have q1 := hc' 1 _ rfl
                      simp only [Nat.add_zero] at p0 q0
                      have cs : Hid (∀ W, Later wr W → Calls Try.prog 28 #[.slice P0 x0.len pp0, .slice Q0 x0.len qp0] W fun e w' => e = .returned (.bool true) ∧ Later W w') := fun W hW => sameI_any _ x0 (Nat.le_refl _) hx.1 hx.2 Z Y W P0 Q0 pp0 qp0 (hP0.later hW) (hQ0.later hW)
                      have cj : Hid True := trivial
                      clear f9 g9 hc hc' hz hz' hdm Lw hP0 hQ0 hx
                      try simp only at p0 q0
                      have lp := cell_lt p0
                      have lq := cell_lt q0
                      generalize x0.len = lx0 at *
                      replace hL : Hid _ := hL
                      go_wp2_with fail
                      refine wp_region_quiet_far (by kernel_rfl) (by kernel_rfl) ?_
                      repeat (go_big_quiet_step (first | (go_at_call 28; exact Calls.far_of (cs.out _ (by repeat first | exact Lz _ | apply La | apply Lv | apply Ld | apply Ln))) | (go_at_call 26; exact Calls.far_of (cj.out _ (by repeat first | exact Lz _ | apply La | apply Lv | apply Ld | apply Ln)))))
                      refine wpQuiet_nil ?_
                      rintro _ ⟨⟨bs, dr⟩, rfl⟩
                      go_wp2_with fail
                      refine ⟨⟨d + 1, by omega, by simp, Later.trans hL.out (by repeat first | exact Lz _ | apply La | apply Lv | apply Ld | apply Ln)⟩, ?_⟩
                      simp [intOf]
                      omega
                    · have hde : d = n10 := by omega
                      subst hde
                      have w7L : Hid (Later w wr) := L1.out.trans hL
                      clear L1 hL hn10 hb10 hd hlt R10 S10
                      rename World => w7
                      have L1 : Hid (Later w w7) := w7L
                      clear w7L
                      go_wp2_with fail
                      clear k10 t10
                      go_ret
                      exact ⟨rfl, L1.out⟩
theorem smod_any {Z Y : Nat → Prop} {m : Md} (hm : MdOk m) {w : World} {LA LB : List Value} (hA : ModC Z w m LA) (hB : ModC Y w m LB) :
    Calls Try.prog 15 #[.agg LA.toArray, .agg LB.toArray] w fun e w' => e = .returned (.bool true) ∧ Hid (Later w w') := smod_big hm.big hA hB
end Go.Proofs.Ytonnmbmdmkmhmaa
