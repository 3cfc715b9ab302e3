/- FtypeMay: a type may be a function's where it has at most 32 parameters and one result, each of the four types; held against a type of one result. -/
import Derived.Test.YtolcabcfllafeaaTYH
import Derived.LoopTactic
import Derived.OpenShut
import Derived.ChangeMaps5
import Derived.ShutString
import Derived.SizedLaws
set_option linter.unusedVariables false
set_option linter.unusedSimpArgs false
set_option maxRecDepth 100000
set_option maxHeartbeats 8000000
namespace Go.Proofs.Ytolcabcfllafeaa.ftypeMay
open Go.ChangeShapes Go.WideShapes Go.ChangeAt Go.RowKit Go.Proofs.Ytolcabcfllafeaa.ty
def ps (n : Nat) : List Int := (List.range n).map fun (j : Nat) => 127 - ((j % 4 : Nat) : Int)
theorem ps_len (n : Nat) : (ps n).length = n := by simp [ps]
theorem ps_more (n : Nat) : ps n ++ [127 - ((n % 4 : Nat) : Int)] = ps (n + 1) := by simp [ps, List.range_succ]
theorem ps_all (n : Nat) : (ps n).all isT = true := by
  rw [List.all_eq_true]
  intro x hx
  obtain ⟨j, _, rfl⟩ := List.mem_map.1 hx
  unfold isT
  exact decide_eq_true (by omega)
def rs (n : Nat) : List Int := List.replicate n 124
theorem rs_len (n : Nat) : (rs n).length = n := by simp [rs]
theorem rs_more (n : Nat) : rs n ++ [124] = rs (n + 1) := by simp [rs, List.replicate_succ']
theorem rs_all (n : Nat) : (rs n).all isT = true := by
  rw [List.all_eq_true]
  intro x hx
  rw [(List.mem_replicate.1 hx).2]
  rfl
theorem may_t (p r : Nat) : tMay (ps p, rs r) = (decide (p ≤ 32) && decide (r ≤ 1)) := by simp [tMay, ps_len, rs_len, ps_all, rs_all]
theorem may_u (c : Nat) : tMay ([], [(c : Int)]) = decide (124 ≤ c ∧ c ≤ 127) := by
  have e : ((124 : Int) ≤ c ∧ (c : Int) ≤ 127) ↔ (124 ≤ c ∧ c ≤ 127) := by omega
  simp only [tMay, isT, List.all_nil, List.all_cons, List.length_nil, List.length_singleton, e, Bool.and_true]
  simp
theorem same_tt (x : List Int × List Int) : tSame x x = true := by simp [tSame]
theorem same_tu (p r c : Nat) : tSame (ps p, rs r) ([], [(c : Int)]) = (decide (p = 0) && (decide (r = 1) && decide (c = 124))) := by
  have h1 : ps p = [] ↔ p = 0 := by rw [← List.length_eq_zero_iff, ps_len]
  have h2 : rs r = [(c : Int)] ↔ (r = 1 ∧ c = 124) := by
    constructor
    · intro h
      have := congrArg List.length h
      rw [rs_len] at this
      have hr : r = 1 := by simpa using this
      subst hr
      have : (124 : Int) = (c : Int) := by simpa [rs] using h
      exact ⟨rfl, by omega⟩
    · rintro ⟨rfl, rfl⟩
      rfl
  simp only [tSame, h1, h2]
  rw [Bool.decide_and]
theorem wrap_i64 (j : Nat) (h : j < 64) : bits .and .i64 (j : Int) 3 = ((j % 4 : Nat) : Int) := by
  have := BM.and_mask (j : Int) 2 (by decide)
  rw [show (3 : Int) = ((2 ^ 2 : Nat) - 1 : Int) by decide, this]
  simp
theorem walk (p0 r0 b0 : Int) (w : World) : Calls Try.prog 5 #[.int .i64 p0, .int .i64 r0, .int .i64 b0] w fun e w' => e = .returned (.bool true) ∧ Later w w' := by
  have h0 : Hid (∀ W, Calls Try.prog 21 #[] W fun e w' => e = .returned (.bool true) ∧ Hid (Later W w')) := fun W => awake_any W
  obtain ⟨p, hp, hp1⟩ : ∃ i : Nat, bits .and .i64 p0 63 = (i : Int) ∧ i < 64 := and_n p0 6 (by decide)
  obtain ⟨r, hr, hr1⟩ : ∃ i : Nat, bits .and .i64 r0 3 = (i : Int) ∧ i < 4 := and_n r0 2 (by decide)
  obtain ⟨c, hc, hc1⟩ : ∃ i : Nat, bits .and .i64 b0 255 = (i : Int) ∧ i < 256 := and_n b0 8 (by decide)
  go_enter Try.func5, Try.ntmps5
  go_wp2_with fail
  refine (h0.out _).mono ?_
  rintro e w1 ⟨rfl, l1⟩
  clear h0
  go_wp2_with fail
  obtain ⟨W0, hW0⟩ : ∃ W0, W0 = w1.alloc (.cells #[.slice none 0 0, .slice none 0 0] 34) := ⟨_, rfl⟩
  obtain ⟨q, hq⟩ : ∃ q, q = w1.heap.size := ⟨_, rfl⟩
  have R0 : Rl W0 q 34 [.slice none 0 0, .slice none 0 0] := by rw [hW0, hq]; exact rl_new w1 34 [.slice none 0 0, .slice none 0 0]
  have z0 : Hid (q < W0.heap.size ∧ Later w1 W0 ∧ w1.heap.size ≤ q) := ⟨R0.lt, by rw [hW0]; exact La (Lz _), by omega⟩
  rw [← hW0, ← hq]
  replace R0 : Hid (Rl W0 q 34 [.slice none 0 0, .slice none 0 0]) := R0
  clear hW0 hq
  go_loopw [10] (fun i wr => ∃ (d : Nat) (A : Option Addr) (cap : Nat), i = .int .i64 (d : Nat) ∧ d ≤ p ∧ Hid (Lf f1 3 1 q 0 34 W0 wr [.slice none 0 0, .slice none 0 0] (.slice A (ps d).length cap) (ps d))) (fun i _ => p - (intOf i).toNat)
  case atStart => exact ⟨0, none, 0, rfl, Nat.zero_le _, Lf.start R0.out rfl⟩
  case round =>
    obtain ⟨d, A, cap, rfl, hd, hC⟩ := hrel
    rw [ps_len] at hC
    by_cases hlt : d < p
    · have hl1 : (d : Int) < (p : Int) := by omega
      obtain ⟨b0', bl⟩ := hC.out.cell (by decide)
      have hd6 : (d : Int) ≤ 64 := by omega
      have hw := wrap_i64 d (by omega)
      have hm : d % 4 < 4 := Nat.mod_lt _ (by decide)
      generalize hm4 : d % 4 = m4 at hw hm
      replace hm4 : Hid (d % 4 = m4) := hm4
      have s9 : Hid (∃ r w', (Builtin.append_ #[24, 24] 24 #[.slice A d cap, .slice (some ⟨wr.heap.size, 0, none⟩) 1 1]).run Try.prog (wr.alloc (.cells #[.int .i64 (127 - (m4 : Int))] 3)) = .ok r w' ∧ ∃ g cap', r = .slice (some ⟨g, 0, none⟩) (d + 1) cap' ∧ (w'.cell? ⟨q, 0, none⟩ = some (.slice A d cap) ∧ w'.frozen? ⟨q, 0, none⟩ = false ∧ q < w'.heap.size) ∧ Hid (Lf f1 3 1 q 0 34 W0 (w'.setCell ⟨q, 0, none⟩ (.slice (some ⟨g, 0, none⟩) (d + 1) cap')) [.slice none 0 0, .slice none 0 0] (.slice (some ⟨g, 0, none⟩) (ps (d + 1)).length cap') (ps (d + 1)))) := by
        obtain ⟨g, cap', w', h1, h2, h3, h4⟩ := hC.out.more z0.out.1 (by decide) ti_int 24 (127 - (m4 : Int)) rfl [.int .i64 (127 - (m4 : Int))] (by rw [ps_len]; omega) (by rw [ps_len]; omega) (Lz wr) ⟨_, _, rfl, rfl, rfl⟩
        rw [ps_len] at h1
        refine ⟨_, w', h1, g, cap', rfl, by simpa [ps_len] using h2, ?_⟩
        rw [ps_len, ← ps_more, hm4.out]
        show Lf f1 3 1 q 0 34 W0 _ _ _ _
        simpa [ps_len] using h4
      clear hC
      obtain ⟨rv, w', h1, g, cap', rfl, ⟨t0, t1, t2⟩, hn⟩ := s9.out
      replace h1 : Hid _ := h1
      clear s9
      go_wp2_with (at_builtin; refine wpList_app rfl _ _ 24 rfl _ _ _ rfl rfl h1.out ?_)
      refine ⟨⟨d + 1, some ⟨g, 0, none⟩, cap', by simp, by omega, hn⟩, ?_⟩
      simp [intOf]
      omega
    · obtain rfl : d = p := by omega
      have R1 : Hid (Rl wr q 34 [.slice A d cap, .slice none 0 0]) := hC.out.2.1
      have D1 : Hid (Rt f1 (W0.heap.size ≤ ·) wr A (ps d)) := by have := hC.out.2.2.rt; exact this
      have z1 : Hid (q < wr.heap.size ∧ Later w1 wr ∧ w1.heap.size ≤ q ∧ q < W0.heap.size) := ⟨R1.out.lt, hC.out.low z0.out.2.1 z0.out.2.2, z0.out.2.2, z0.out.1⟩
      clear hC R0 z0 hlt hd
      obtain ⟨W1, hW1⟩ : ∃ W1, W1 = wr := ⟨_, rfl⟩
      subst hW1
      go_wp2_with fail
      go_loopw [11] (fun i wr => ∃ (s : Nat) (B : Option Addr) (cap' : Nat), i = .int .i64 (s : Nat) ∧ s ≤ r ∧ Hid (Lf f1 3 1 q 1 34 W1 wr [.slice A d cap, .slice none 0 0] (.slice B (rs s).length cap') (rs s))) (fun i _ => r - (intOf i).toNat)
      case atStart => exact ⟨0, none, 0, rfl, Nat.zero_le _, Lf.start R1.out rfl⟩
      case round =>
        obtain ⟨s, B, cap', rfl, he, hC⟩ := hrel
        rw [rs_len] at hC
        by_cases hlt : s < r
        · have hl1 : (s : Int) < (r : Int) := by omega
          obtain ⟨b0', bl⟩ := hC.out.cell (by simp)
          have s9 : Hid (∃ rr w', (Builtin.append_ #[24, 24] 24 #[.slice B s cap', .slice (some ⟨wr.heap.size, 0, none⟩) 1 1]).run Try.prog (wr.alloc (.cells #[.int .i64 124] 3)) = .ok rr w' ∧ ∃ g cap2, rr = .slice (some ⟨g, 0, none⟩) (s + 1) cap2 ∧ (w'.cell? ⟨q, 1, none⟩ = some (.slice B s cap') ∧ w'.frozen? ⟨q, 1, none⟩ = false ∧ q < w'.heap.size) ∧ Hid (Lf f1 3 1 q 1 34 W1 (w'.setCell ⟨q, 1, none⟩ (.slice (some ⟨g, 0, none⟩) (s + 1) cap2)) [.slice A d cap, .slice none 0 0] (.slice (some ⟨g, 0, none⟩) (rs (s + 1)).length cap2) (rs (s + 1)))) := by
            obtain ⟨g, cap2, w', h1, h2, h3, h4⟩ := hC.out.more z1.out.1 (by simp) ti_int 24 (124) rfl [.int .i64 124] (by rw [rs_len]; omega) (by rw [rs_len]; omega) (Lz wr) ⟨_, _, rfl, rfl, rfl⟩
            rw [rs_len] at h1
            refine ⟨_, w', h1, g, cap2, rfl, by simpa [rs_len] using h2, ?_⟩
            rw [rs_len, ← rs_more]
            show Lf f1 3 1 q 1 34 W1 _ _ _ _
            simpa [rs_len] using h4
          clear hC
          obtain ⟨rv, w', h1, g, cap2, rfl, ⟨t0, t1, t2⟩, hn⟩ := s9.out
          replace h1 : Hid _ := h1
          clear s9
          go_wp2_with (at_builtin; refine wpList_app rfl _ _ 24 rfl _ _ _ rfl rfl h1.out ?_)
          refine ⟨⟨s + 1, some ⟨g, 0, none⟩, cap2, by simp, by omega, hn⟩, ?_⟩
          simp [intOf]
          omega
        · obtain rfl : s = r := by omega
          have R2 : Rl wr q 34 [.slice A d cap, .slice B s cap'] := hC.out.2.1
          have D2 : Rt f1 (W1.heap.size ≤ ·) wr B (rs s) := by have := hC.out.2.2.rt; exact this
          have z2 : Later w1 wr := hC.out.low z1.out.2.1 z1.out.2.2.1
          have D3 : Rt f1 (fun k => W0.heap.size ≤ k) wr A (ps d) := D1.out.move (fun _ => Nat.succ_pos _) (fun k hk hl => ⟨hk, hC.out.1.block k hl (fun e => by have e : k = q := e; have := z1.out.2.2.2; have hk : W0.heap.size ≤ k := hk; omega)⟩)
          have c0 := R2.cell 0 rfl
          have c1 := R2.cell 1 rfl
          have cl := cell_lt c0
          have qA : ∀ W, Later wr W → Lst W A (ps d).length (fun j => (ps d).getD j 0) := fun W hW => (D3.lq.1).later hW
          have qB : ∀ W, Later wr W → Lst W B (rs s).length (fun j => (rs s).getD j 0) := fun W hW => (D2.lq.1).later hW
          have z3 : Hid (Later w wr) := l1.out.trans z2
          clear hC R1 D1 z1 R2 D2 D3 z2 hlt he
          have t1 : Hid (∀ W, Later wr W → Calls Try.prog 17 #[.agg #[.slice A d cap, .slice B s cap']] W fun e w' => e = .returned (.bool (decide (d ≤ 32) && decide (s ≤ 1))) ∧ Later W w') := fun W hW => by
            have := may_any A B (ps d, rs s) cap cap' (by simp only [ps_len]; omega) (by simp only [rs_len]; omega) W (qA W hW) (qB W hW)
            simp only [ps_len, rs_len, may_t] at this
            exact this.mono (by rintro e w' ⟨h1, h2⟩; exact ⟨h1, h2.out⟩)
          have t2 : Hid (∀ W, Later wr W → Calls Try.prog 19 #[.agg #[.slice A d cap, .slice B s cap'], .agg #[.slice A d cap, .slice B s cap']] W fun e w' => e = .returned (.bool true) ∧ Later W w') := fun W hW => by
            have := fsame_any A B A B (ps d, rs s) (ps d, rs s) cap cap' cap cap' W (by simp only [ps_len, rs_len]; omega) (by simp only [ps_len, rs_len]; omega) (qA W hW) (qB W hW) (qA W hW) (qB W hW)
            simp only [ps_len, rs_len, same_tt] at this
            exact this.mono (by rintro e w' ⟨h1, h2⟩; exact ⟨h1, h2.out⟩)
          have qU : ∀ (W : World) g, W.cell? ⟨g, 0, none⟩ = some (.int .i64 (c : Int)) → Lst W (some ⟨g, 0, none⟩) 1 (fun j => [(c : Int)].getD j 0) := fun W g hg => Or.inr ⟨g, 0, rfl, fun j hj => (by obtain rfl : j = 0 := (by omega); exact hg)⟩
          have t3 : Hid (∀ W g, W.cell? ⟨g, 0, none⟩ = some (.int .i64 (c : Int)) → Calls Try.prog 17 #[.agg #[.slice none 0 0, .slice (some ⟨g, 0, none⟩) 1 1]] W fun e w' => e = .returned (.bool (decide (124 ≤ c ∧ c ≤ 127))) ∧ Later W w') := fun W g hg => by
            have := may_any none (some ⟨g, 0, none⟩) ([], [(c : Int)]) 0 1 (by simp) (by simp) W (Or.inl rfl) (qU W g hg)
            rw [may_u] at this
            exact this.mono (by rintro e w' ⟨h1, h2⟩; exact ⟨h1, h2.out⟩)
          have t4 : Hid (∀ W g, Later wr W → W.cell? ⟨g, 0, none⟩ = some (.int .i64 (c : Int)) → Calls Try.prog 19 #[.agg #[.slice A d cap, .slice B s cap'], .agg #[.slice none 0 0, .slice (some ⟨g, 0, none⟩) 1 1]] W fun e w' => e = .returned (.bool (decide (d = 0) && (decide (s = 1) && decide (c = 124)))) ∧ Later W w') := fun W g hW hg => by
            have := fsame_any A B none (some ⟨g, 0, none⟩) (ps d, rs s) ([], [(c : Int)]) cap cap' 0 1 W (by simp only [ps_len, rs_len]; omega) (by simp) (qA W hW) (qB W hW) (Or.inl rfl) (qU W g hg)
            rw [same_tu] at this
            simp only [ps_len, rs_len] at this
            exact this.mono (by rintro e w' ⟨h1, h2⟩; exact ⟨h1, h2.out⟩)
          clear qA qB qU
          have i5 : (c : Int) ≤ 256 := by omega
          have cls : (d = 0 ∧ s = 0) ∨ (d = 0 ∧ s = 1) ∨ (d = 0 ∧ 2 ≤ s) ∨ (1 ≤ d ∧ d ≤ 32 ∧ s ≤ 1) ∨ (1 ≤ d ∧ d ≤ 32 ∧ 2 ≤ s) ∨ 33 ≤ d := by omega
          have clc : c < 124 ∨ c = 124 ∨ (125 ≤ c ∧ c ≤ 127) ∨ 128 ≤ c := by omega
          rcases cls with ⟨h5, h6⟩ | ⟨h5, h6⟩ | ⟨h5, h6⟩ | ⟨h5, h6, h7⟩ | ⟨h5, h6, h7⟩ | h5
          · rcases clc with h8 | h8 | ⟨h8, h9⟩ | h8
            · have e1 : (decide (d ≤ 32) && decide (s ≤ 1)) = true := by simp; omega
              have e2 : decide (124 ≤ c ∧ c ≤ 127) = false := by simp; omega
              have e3 : (decide (d = 0) && (decide (s = 1) && decide (c = 124))) = false := by simp; omega
              rw [e1] at t1
              rw [e2] at t3
              rw [e3] at t4
              have i1 : decide ((d : Int) ≤ 32) = true := by simp; omega
              have i2 : decide ((s : Int) ≤ 1) = true := by simp; omega
              have i3 : decide ((124 : Int) ≤ (c : Int)) = false := by simp; omega
              have i6 : ((d : Int) == 0) = true := by simp; omega
              have i7 : ((s : Int) == 1) = false := by simp; omega
              have i8 : ((c : Int) == 124) = false := by simp; omega
              clear e1 e2 e3 h5 h6 h8
              go_wp2_with fail
              refine (t1.out _ (La (La (Lz _)))).mono ?_
              rintro e w2 ⟨rfl, l2⟩
              have M2 : Later wr w2 := (La (La (Lz wr))).trans l2
              have x0 := M2.cell_of c0
              have x1 := M2.cell_of c1
              have u0 : w2.cell? ⟨wr.heap.size + 1, 0, none⟩ = some (.slice none 0 0) := l2.cell_of (by simp [go_sem])
              have u1 : w2.cell? ⟨wr.heap.size + 1, 1, none⟩ = some (.slice (some ⟨wr.heap.size, 0, none⟩) 1 1) := l2.cell_of (by simp [go_sem])
              have g0 : w2.cell? ⟨wr.heap.size, 0, none⟩ = some (.int .i64 (c : Int)) := l2.cell_of (by simp [go_sem])
              have y0 := cell_lt x0
              have y1 := cell_lt u0
              have N2 : Hid (Later wr w2) := M2
              clear l2 M2 t1
              go_wp2_with fail
              refine (t3.out _ _ g0).mono ?_
              rintro e w3 ⟨rfl, l3⟩
              replace x0 := l3.cell_of x0
              replace x1 := l3.cell_of x1
              replace u0 := l3.cell_of u0
              replace u1 := l3.cell_of u1
              replace g0 := l3.cell_of g0
              replace y0 := cell_lt x0
              replace y1 := cell_lt u0
              have N3 : Hid (Later wr w3) := N2.out.trans l3
              clear l3 N2 t3
              go_wp2_with fail
              refine (t2.out _ N3.out).mono ?_
              rintro e w4 ⟨rfl, l4⟩
              replace x0 := l4.cell_of x0
              replace x1 := l4.cell_of x1
              replace u0 := l4.cell_of u0
              replace u1 := l4.cell_of u1
              replace g0 := l4.cell_of g0
              replace y0 := cell_lt x0
              replace y1 := cell_lt u0
              have N4 : Hid (Later wr w4) := N3.out.trans l4
              clear l4 N3 t2
              go_wp2_with fail
              refine (t4.out _ _ N4.out g0).mono ?_
              rintro e w5 ⟨rfl, l5⟩
              have N5 : Hid (Later wr w5) := N4.out.trans l5
              clear l5 N4 t4 x0 x1 u0 u1 g0 y0 y1
              go_wp2_with (go_at_call 14; refine (num_any _ _).mono ?_; rintro e w6 ⟨rfl, rfl⟩)
              go_ret
              exact ⟨rfl, z3.out.trans N5.out⟩
            · have e1 : (decide (d ≤ 32) && decide (s ≤ 1)) = true := by simp; omega
              have e2 : decide (124 ≤ c ∧ c ≤ 127) = true := by simp; omega
              have e3 : (decide (d = 0) && (decide (s = 1) && decide (c = 124))) = false := by simp; omega
              rw [e1] at t1
              rw [e2] at t3
              rw [e3] at t4
              have i1 : decide ((d : Int) ≤ 32) = true := by simp; omega
              have i2 : decide ((s : Int) ≤ 1) = true := by simp; omega
              have i3 : decide ((124 : Int) ≤ (c : Int)) = true := by simp; omega
              have i4 : decide ((c : Int) ≤ 127) = true := by simp; omega
              have i6 : ((d : Int) == 0) = true := by simp; omega
              have i7 : ((s : Int) == 1) = false := by simp; omega
              have i8 : ((c : Int) == 124) = true := by simp; omega
              clear e1 e2 e3 h5 h6 h8
              go_wp2_with fail
              refine (t1.out _ (La (La (Lz _)))).mono ?_
              rintro e w2 ⟨rfl, l2⟩
              have M2 : Later wr w2 := (La (La (Lz wr))).trans l2
              have x0 := M2.cell_of c0
              have x1 := M2.cell_of c1
              have u0 : w2.cell? ⟨wr.heap.size + 1, 0, none⟩ = some (.slice none 0 0) := l2.cell_of (by simp [go_sem])
              have u1 : w2.cell? ⟨wr.heap.size + 1, 1, none⟩ = some (.slice (some ⟨wr.heap.size, 0, none⟩) 1 1) := l2.cell_of (by simp [go_sem])
              have g0 : w2.cell? ⟨wr.heap.size, 0, none⟩ = some (.int .i64 (c : Int)) := l2.cell_of (by simp [go_sem])
              have y0 := cell_lt x0
              have y1 := cell_lt u0
              have N2 : Hid (Later wr w2) := M2
              clear l2 M2 t1
              go_wp2_with fail
              refine (t3.out _ _ g0).mono ?_
              rintro e w3 ⟨rfl, l3⟩
              replace x0 := l3.cell_of x0
              replace x1 := l3.cell_of x1
              replace u0 := l3.cell_of u0
              replace u1 := l3.cell_of u1
              replace g0 := l3.cell_of g0
              replace y0 := cell_lt x0
              replace y1 := cell_lt u0
              have N3 : Hid (Later wr w3) := N2.out.trans l3
              clear l3 N2 t3
              go_wp2_with fail
              refine (t2.out _ N3.out).mono ?_
              rintro e w4 ⟨rfl, l4⟩
              replace x0 := l4.cell_of x0
              replace x1 := l4.cell_of x1
              replace u0 := l4.cell_of u0
              replace u1 := l4.cell_of u1
              replace g0 := l4.cell_of g0
              replace y0 := cell_lt x0
              replace y1 := cell_lt u0
              have N4 : Hid (Later wr w4) := N3.out.trans l4
              clear l4 N3 t2
              go_wp2_with fail
              refine (t4.out _ _ N4.out g0).mono ?_
              rintro e w5 ⟨rfl, l5⟩
              have N5 : Hid (Later wr w5) := N4.out.trans l5
              clear l5 N4 t4 x0 x1 u0 u1 g0 y0 y1
              go_wp2_with (go_at_call 14; refine (num_any _ _).mono ?_; rintro e w6 ⟨rfl, rfl⟩)
              go_ret
              exact ⟨rfl, z3.out.trans N5.out⟩
            · have e1 : (decide (d ≤ 32) && decide (s ≤ 1)) = true := by simp; omega
              have e2 : decide (124 ≤ c ∧ c ≤ 127) = true := by simp; omega
              have e3 : (decide (d = 0) && (decide (s = 1) && decide (c = 124))) = false := by simp; omega
              rw [e1] at t1
              rw [e2] at t3
              rw [e3] at t4
              have i1 : decide ((d : Int) ≤ 32) = true := by simp; omega
              have i2 : decide ((s : Int) ≤ 1) = true := by simp; omega
              have i3 : decide ((124 : Int) ≤ (c : Int)) = true := by simp; omega
              have i4 : decide ((c : Int) ≤ 127) = true := by simp; omega
              have i6 : ((d : Int) == 0) = true := by simp; omega
              have i7 : ((s : Int) == 1) = false := by simp; omega
              have i8 : ((c : Int) == 124) = false := by simp; omega
              clear e1 e2 e3 h5 h6 h8 h9
              go_wp2_with fail
              refine (t1.out _ (La (La (Lz _)))).mono ?_
              rintro e w2 ⟨rfl, l2⟩
              have M2 : Later wr w2 := (La (La (Lz wr))).trans l2
              have x0 := M2.cell_of c0
              have x1 := M2.cell_of c1
              have u0 : w2.cell? ⟨wr.heap.size + 1, 0, none⟩ = some (.slice none 0 0) := l2.cell_of (by simp [go_sem])
              have u1 : w2.cell? ⟨wr.heap.size + 1, 1, none⟩ = some (.slice (some ⟨wr.heap.size, 0, none⟩) 1 1) := l2.cell_of (by simp [go_sem])
              have g0 : w2.cell? ⟨wr.heap.size, 0, none⟩ = some (.int .i64 (c : Int)) := l2.cell_of (by simp [go_sem])
              have y0 := cell_lt x0
              have y1 := cell_lt u0
              have N2 : Hid (Later wr w2) := M2
              clear l2 M2 t1
              go_wp2_with fail
              refine (t3.out _ _ g0).mono ?_
              rintro e w3 ⟨rfl, l3⟩
              replace x0 := l3.cell_of x0
              replace x1 := l3.cell_of x1
              replace u0 := l3.cell_of u0
              replace u1 := l3.cell_of u1
              replace g0 := l3.cell_of g0
              replace y0 := cell_lt x0
              replace y1 := cell_lt u0
              have N3 : Hid (Later wr w3) := N2.out.trans l3
              clear l3 N2 t3
              go_wp2_with fail
              refine (t2.out _ N3.out).mono ?_
              rintro e w4 ⟨rfl, l4⟩
              replace x0 := l4.cell_of x0
              replace x1 := l4.cell_of x1
              replace u0 := l4.cell_of u0
              replace u1 := l4.cell_of u1
              replace g0 := l4.cell_of g0
              replace y0 := cell_lt x0
              replace y1 := cell_lt u0
              have N4 : Hid (Later wr w4) := N3.out.trans l4
              clear l4 N3 t2
              go_wp2_with fail
              refine (t4.out _ _ N4.out g0).mono ?_
              rintro e w5 ⟨rfl, l5⟩
              have N5 : Hid (Later wr w5) := N4.out.trans l5
              clear l5 N4 t4 x0 x1 u0 u1 g0 y0 y1
              go_wp2_with (go_at_call 14; refine (num_any _ _).mono ?_; rintro e w6 ⟨rfl, rfl⟩)
              go_ret
              exact ⟨rfl, z3.out.trans N5.out⟩
            · have e1 : (decide (d ≤ 32) && decide (s ≤ 1)) = true := by simp; omega
              have e2 : decide (124 ≤ c ∧ c ≤ 127) = false := by simp; omega
              have e3 : (decide (d = 0) && (decide (s = 1) && decide (c = 124))) = false := by simp; omega
              rw [e1] at t1
              rw [e2] at t3
              rw [e3] at t4
              have i1 : decide ((d : Int) ≤ 32) = true := by simp; omega
              have i2 : decide ((s : Int) ≤ 1) = true := by simp; omega
              have i3 : decide ((124 : Int) ≤ (c : Int)) = true := by simp; omega
              have i4 : decide ((c : Int) ≤ 127) = false := by simp; omega
              have i6 : ((d : Int) == 0) = true := by simp; omega
              have i7 : ((s : Int) == 1) = false := by simp; omega
              have i8 : ((c : Int) == 124) = false := by simp; omega
              clear e1 e2 e3 h5 h6 h8
              go_wp2_with fail
              refine (t1.out _ (La (La (Lz _)))).mono ?_
              rintro e w2 ⟨rfl, l2⟩
              have M2 : Later wr w2 := (La (La (Lz wr))).trans l2
              have x0 := M2.cell_of c0
              have x1 := M2.cell_of c1
              have u0 : w2.cell? ⟨wr.heap.size + 1, 0, none⟩ = some (.slice none 0 0) := l2.cell_of (by simp [go_sem])
              have u1 : w2.cell? ⟨wr.heap.size + 1, 1, none⟩ = some (.slice (some ⟨wr.heap.size, 0, none⟩) 1 1) := l2.cell_of (by simp [go_sem])
              have g0 : w2.cell? ⟨wr.heap.size, 0, none⟩ = some (.int .i64 (c : Int)) := l2.cell_of (by simp [go_sem])
              have y0 := cell_lt x0
              have y1 := cell_lt u0
              have N2 : Hid (Later wr w2) := M2
              clear l2 M2 t1
              go_wp2_with fail
              refine (t3.out _ _ g0).mono ?_
              rintro e w3 ⟨rfl, l3⟩
              replace x0 := l3.cell_of x0
              replace x1 := l3.cell_of x1
              replace u0 := l3.cell_of u0
              replace u1 := l3.cell_of u1
              replace g0 := l3.cell_of g0
              replace y0 := cell_lt x0
              replace y1 := cell_lt u0
              have N3 : Hid (Later wr w3) := N2.out.trans l3
              clear l3 N2 t3
              go_wp2_with fail
              refine (t2.out _ N3.out).mono ?_
              rintro e w4 ⟨rfl, l4⟩
              replace x0 := l4.cell_of x0
              replace x1 := l4.cell_of x1
              replace u0 := l4.cell_of u0
              replace u1 := l4.cell_of u1
              replace g0 := l4.cell_of g0
              replace y0 := cell_lt x0
              replace y1 := cell_lt u0
              have N4 : Hid (Later wr w4) := N3.out.trans l4
              clear l4 N3 t2
              go_wp2_with fail
              refine (t4.out _ _ N4.out g0).mono ?_
              rintro e w5 ⟨rfl, l5⟩
              have N5 : Hid (Later wr w5) := N4.out.trans l5
              clear l5 N4 t4 x0 x1 u0 u1 g0 y0 y1
              go_wp2_with (go_at_call 14; refine (num_any _ _).mono ?_; rintro e w6 ⟨rfl, rfl⟩)
              go_ret
              exact ⟨rfl, z3.out.trans N5.out⟩
          · rcases clc with h8 | h8 | ⟨h8, h9⟩ | h8
            · have e1 : (decide (d ≤ 32) && decide (s ≤ 1)) = true := by simp; omega
              have e2 : decide (124 ≤ c ∧ c ≤ 127) = false := by simp; omega
              have e3 : (decide (d = 0) && (decide (s = 1) && decide (c = 124))) = false := by simp; omega
              rw [e1] at t1
              rw [e2] at t3
              rw [e3] at t4
              have i1 : decide ((d : Int) ≤ 32) = true := by simp; omega
              have i2 : decide ((s : Int) ≤ 1) = true := by simp; omega
              have i3 : decide ((124 : Int) ≤ (c : Int)) = false := by simp; omega
              have i6 : ((d : Int) == 0) = true := by simp; omega
              have i7 : ((s : Int) == 1) = true := by simp; omega
              have i8 : ((c : Int) == 124) = false := by simp; omega
              clear e1 e2 e3 h5 h6 h8
              go_wp2_with fail
              refine (t1.out _ (La (La (Lz _)))).mono ?_
              rintro e w2 ⟨rfl, l2⟩
              have M2 : Later wr w2 := (La (La (Lz wr))).trans l2
              have x0 := M2.cell_of c0
              have x1 := M2.cell_of c1
              have u0 : w2.cell? ⟨wr.heap.size + 1, 0, none⟩ = some (.slice none 0 0) := l2.cell_of (by simp [go_sem])
              have u1 : w2.cell? ⟨wr.heap.size + 1, 1, none⟩ = some (.slice (some ⟨wr.heap.size, 0, none⟩) 1 1) := l2.cell_of (by simp [go_sem])
              have g0 : w2.cell? ⟨wr.heap.size, 0, none⟩ = some (.int .i64 (c : Int)) := l2.cell_of (by simp [go_sem])
              have y0 := cell_lt x0
              have y1 := cell_lt u0
              have N2 : Hid (Later wr w2) := M2
              clear l2 M2 t1
              go_wp2_with fail
              refine (t3.out _ _ g0).mono ?_
              rintro e w3 ⟨rfl, l3⟩
              replace x0 := l3.cell_of x0
              replace x1 := l3.cell_of x1
              replace u0 := l3.cell_of u0
              replace u1 := l3.cell_of u1
              replace g0 := l3.cell_of g0
              replace y0 := cell_lt x0
              replace y1 := cell_lt u0
              have N3 : Hid (Later wr w3) := N2.out.trans l3
              clear l3 N2 t3
              go_wp2_with fail
              refine (t2.out _ N3.out).mono ?_
              rintro e w4 ⟨rfl, l4⟩
              replace x0 := l4.cell_of x0
              replace x1 := l4.cell_of x1
              replace u0 := l4.cell_of u0
              replace u1 := l4.cell_of u1
              replace g0 := l4.cell_of g0
              replace y0 := cell_lt x0
              replace y1 := cell_lt u0
              have N4 : Hid (Later wr w4) := N3.out.trans l4
              clear l4 N3 t2
              go_wp2_with fail
              refine (t4.out _ _ N4.out g0).mono ?_
              rintro e w5 ⟨rfl, l5⟩
              have N5 : Hid (Later wr w5) := N4.out.trans l5
              clear l5 N4 t4 x0 x1 u0 u1 g0 y0 y1
              go_wp2_with (go_at_call 14; refine (num_any _ _).mono ?_; rintro e w6 ⟨rfl, rfl⟩)
              go_ret
              exact ⟨rfl, z3.out.trans N5.out⟩
            · have e1 : (decide (d ≤ 32) && decide (s ≤ 1)) = true := by simp; omega
              have e2 : decide (124 ≤ c ∧ c ≤ 127) = true := by simp; omega
              have e3 : (decide (d = 0) && (decide (s = 1) && decide (c = 124))) = true := by simp; omega
              rw [e1] at t1
              rw [e2] at t3
              rw [e3] at t4
              have i1 : decide ((d : Int) ≤ 32) = true := by simp; omega
              have i2 : decide ((s : Int) ≤ 1) = true := by simp; omega
              have i3 : decide ((124 : Int) ≤ (c : Int)) = true := by simp; omega
              have i4 : decide ((c : Int) ≤ 127) = true := by simp; omega
              have i6 : ((d : Int) == 0) = true := by simp; omega
              have i7 : ((s : Int) == 1) = true := by simp; omega
              have i8 : ((c : Int) == 124) = true := by simp; omega
              clear e1 e2 e3 h5 h6 h8
              go_wp2_with fail
              refine (t1.out _ (La (La (Lz _)))).mono ?_
              rintro e w2 ⟨rfl, l2⟩
              have M2 : Later wr w2 := (La (La (Lz wr))).trans l2
              have x0 := M2.cell_of c0
              have x1 := M2.cell_of c1
              have u0 : w2.cell? ⟨wr.heap.size + 1, 0, none⟩ = some (.slice none 0 0) := l2.cell_of (by simp [go_sem])
              have u1 : w2.cell? ⟨wr.heap.size + 1, 1, none⟩ = some (.slice (some ⟨wr.heap.size, 0, none⟩) 1 1) := l2.cell_of (by simp [go_sem])
              have g0 : w2.cell? ⟨wr.heap.size, 0, none⟩ = some (.int .i64 (c : Int)) := l2.cell_of (by simp [go_sem])
              have y0 := cell_lt x0
              have y1 := cell_lt u0
              have N2 : Hid (Later wr w2) := M2
              clear l2 M2 t1
              go_wp2_with fail
              refine (t3.out _ _ g0).mono ?_
              rintro e w3 ⟨rfl, l3⟩
              replace x0 := l3.cell_of x0
              replace x1 := l3.cell_of x1
              replace u0 := l3.cell_of u0
              replace u1 := l3.cell_of u1
              replace g0 := l3.cell_of g0
              replace y0 := cell_lt x0
              replace y1 := cell_lt u0
              have N3 : Hid (Later wr w3) := N2.out.trans l3
              clear l3 N2 t3
              go_wp2_with fail
              refine (t2.out _ N3.out).mono ?_
              rintro e w4 ⟨rfl, l4⟩
              replace x0 := l4.cell_of x0
              replace x1 := l4.cell_of x1
              replace u0 := l4.cell_of u0
              replace u1 := l4.cell_of u1
              replace g0 := l4.cell_of g0
              replace y0 := cell_lt x0
              replace y1 := cell_lt u0
              have N4 : Hid (Later wr w4) := N3.out.trans l4
              clear l4 N3 t2
              go_wp2_with fail
              refine (t4.out _ _ N4.out g0).mono ?_
              rintro e w5 ⟨rfl, l5⟩
              have N5 : Hid (Later wr w5) := N4.out.trans l5
              clear l5 N4 t4 x0 x1 u0 u1 g0 y0 y1
              go_wp2_with (go_at_call 14; refine (num_any _ _).mono ?_; rintro e w6 ⟨rfl, rfl⟩)
              go_ret
              exact ⟨rfl, z3.out.trans N5.out⟩
            · have e1 : (decide (d ≤ 32) && decide (s ≤ 1)) = true := by simp; omega
              have e2 : decide (124 ≤ c ∧ c ≤ 127) = true := by simp; omega
              have e3 : (decide (d = 0) && (decide (s = 1) && decide (c = 124))) = false := by simp; omega
              rw [e1] at t1
              rw [e2] at t3
              rw [e3] at t4
              have i1 : decide ((d : Int) ≤ 32) = true := by simp; omega
              have i2 : decide ((s : Int) ≤ 1) = true := by simp; omega
              have i3 : decide ((124 : Int) ≤ (c : Int)) = true := by simp; omega
              have i4 : decide ((c : Int) ≤ 127) = true := by simp; omega
              have i6 : ((d : Int) == 0) = true := by simp; omega
              have i7 : ((s : Int) == 1) = true := by simp; omega
              have i8 : ((c : Int) == 124) = false := by simp; omega
              clear e1 e2 e3 h5 h6 h8 h9
              go_wp2_with fail
              refine (t1.out _ (La (La (Lz _)))).mono ?_
              rintro e w2 ⟨rfl, l2⟩
              have M2 : Later wr w2 := (La (La (Lz wr))).trans l2
              have x0 := M2.cell_of c0
              have x1 := M2.cell_of c1
              have u0 : w2.cell? ⟨wr.heap.size + 1, 0, none⟩ = some (.slice none 0 0) := l2.cell_of (by simp [go_sem])
              have u1 : w2.cell? ⟨wr.heap.size + 1, 1, none⟩ = some (.slice (some ⟨wr.heap.size, 0, none⟩) 1 1) := l2.cell_of (by simp [go_sem])
              have g0 : w2.cell? ⟨wr.heap.size, 0, none⟩ = some (.int .i64 (c : Int)) := l2.cell_of (by simp [go_sem])
              have y0 := cell_lt x0
              have y1 := cell_lt u0
              have N2 : Hid (Later wr w2) := M2
              clear l2 M2 t1
              go_wp2_with fail
              refine (t3.out _ _ g0).mono ?_
              rintro e w3 ⟨rfl, l3⟩
              replace x0 := l3.cell_of x0
              replace x1 := l3.cell_of x1
              replace u0 := l3.cell_of u0
              replace u1 := l3.cell_of u1
              replace g0 := l3.cell_of g0
              replace y0 := cell_lt x0
              replace y1 := cell_lt u0
              have N3 : Hid (Later wr w3) := N2.out.trans l3
              clear l3 N2 t3
              go_wp2_with fail
              refine (t2.out _ N3.out).mono ?_
              rintro e w4 ⟨rfl, l4⟩
              replace x0 := l4.cell_of x0
              replace x1 := l4.cell_of x1
              replace u0 := l4.cell_of u0
              replace u1 := l4.cell_of u1
              replace g0 := l4.cell_of g0
              replace y0 := cell_lt x0
              replace y1 := cell_lt u0
              have N4 : Hid (Later wr w4) := N3.out.trans l4
              clear l4 N3 t2
              go_wp2_with fail
              refine (t4.out _ _ N4.out g0).mono ?_
              rintro e w5 ⟨rfl, l5⟩
              have N5 : Hid (Later wr w5) := N4.out.trans l5
              clear l5 N4 t4 x0 x1 u0 u1 g0 y0 y1
              go_wp2_with (go_at_call 14; refine (num_any _ _).mono ?_; rintro e w6 ⟨rfl, rfl⟩)
              go_ret
              exact ⟨rfl, z3.out.trans N5.out⟩
            · have e1 : (decide (d ≤ 32) && decide (s ≤ 1)) = true := by simp; omega
              have e2 : decide (124 ≤ c ∧ c ≤ 127) = false := by simp; omega
              have e3 : (decide (d = 0) && (decide (s = 1) && decide (c = 124))) = false := by simp; omega
              rw [e1] at t1
              rw [e2] at t3
              rw [e3] at t4
              have i1 : decide ((d : Int) ≤ 32) = true := by simp; omega
              have i2 : decide ((s : Int) ≤ 1) = true := by simp; omega
              have i3 : decide ((124 : Int) ≤ (c : Int)) = true := by simp; omega
              have i4 : decide ((c : Int) ≤ 127) = false := by simp; omega
              have i6 : ((d : Int) == 0) = true := by simp; omega
              have i7 : ((s : Int) == 1) = true := by simp; omega
              have i8 : ((c : Int) == 124) = false := by simp; omega
              clear e1 e2 e3 h5 h6 h8
              go_wp2_with fail
              refine (t1.out _ (La (La (Lz _)))).mono ?_
              rintro e w2 ⟨rfl, l2⟩
              have M2 : Later wr w2 := (La (La (Lz wr))).trans l2
              have x0 := M2.cell_of c0
              have x1 := M2.cell_of c1
              have u0 : w2.cell? ⟨wr.heap.size + 1, 0, none⟩ = some (.slice none 0 0) := l2.cell_of (by simp [go_sem])
              have u1 : w2.cell? ⟨wr.heap.size + 1, 1, none⟩ = some (.slice (some ⟨wr.heap.size, 0, none⟩) 1 1) := l2.cell_of (by simp [go_sem])
              have g0 : w2.cell? ⟨wr.heap.size, 0, none⟩ = some (.int .i64 (c : Int)) := l2.cell_of (by simp [go_sem])
              have y0 := cell_lt x0
              have y1 := cell_lt u0
              have N2 : Hid (Later wr w2) := M2
              clear l2 M2 t1
              go_wp2_with fail
              refine (t3.out _ _ g0).mono ?_
              rintro e w3 ⟨rfl, l3⟩
              replace x0 := l3.cell_of x0
              replace x1 := l3.cell_of x1
              replace u0 := l3.cell_of u0
              replace u1 := l3.cell_of u1
              replace g0 := l3.cell_of g0
              replace y0 := cell_lt x0
              replace y1 := cell_lt u0
              have N3 : Hid (Later wr w3) := N2.out.trans l3
              clear l3 N2 t3
              go_wp2_with fail
              refine (t2.out _ N3.out).mono ?_
              rintro e w4 ⟨rfl, l4⟩
              replace x0 := l4.cell_of x0
              replace x1 := l4.cell_of x1
              replace u0 := l4.cell_of u0
              replace u1 := l4.cell_of u1
              replace g0 := l4.cell_of g0
              replace y0 := cell_lt x0
              replace y1 := cell_lt u0
              have N4 : Hid (Later wr w4) := N3.out.trans l4
              clear l4 N3 t2
              go_wp2_with fail
              refine (t4.out _ _ N4.out g0).mono ?_
              rintro e w5 ⟨rfl, l5⟩
              have N5 : Hid (Later wr w5) := N4.out.trans l5
              clear l5 N4 t4 x0 x1 u0 u1 g0 y0 y1
              go_wp2_with (go_at_call 14; refine (num_any _ _).mono ?_; rintro e w6 ⟨rfl, rfl⟩)
              go_ret
              exact ⟨rfl, z3.out.trans N5.out⟩
          · rcases clc with h8 | h8 | ⟨h8, h9⟩ | h8
            · have e1 : (decide (d ≤ 32) && decide (s ≤ 1)) = false := by simp; omega
              have e2 : decide (124 ≤ c ∧ c ≤ 127) = false := by simp; omega
              have e3 : (decide (d = 0) && (decide (s = 1) && decide (c = 124))) = false := by simp; omega
              rw [e1] at t1
              rw [e2] at t3
              rw [e3] at t4
              have i1 : decide ((d : Int) ≤ 32) = true := by simp; omega
              have i2 : decide ((s : Int) ≤ 1) = false := by simp; omega
              have i3 : decide ((124 : Int) ≤ (c : Int)) = false := by simp; omega
              have i6 : ((d : Int) == 0) = true := by simp; omega
              have i7 : ((s : Int) == 1) = false := by simp; omega
              have i8 : ((c : Int) == 124) = false := by simp; omega
              clear e1 e2 e3 h5 h6 h8
              go_wp2_with fail
              refine (t1.out _ (La (La (Lz _)))).mono ?_
              rintro e w2 ⟨rfl, l2⟩
              have M2 : Later wr w2 := (La (La (Lz wr))).trans l2
              have x0 := M2.cell_of c0
              have x1 := M2.cell_of c1
              have u0 : w2.cell? ⟨wr.heap.size + 1, 0, none⟩ = some (.slice none 0 0) := l2.cell_of (by simp [go_sem])
              have u1 : w2.cell? ⟨wr.heap.size + 1, 1, none⟩ = some (.slice (some ⟨wr.heap.size, 0, none⟩) 1 1) := l2.cell_of (by simp [go_sem])
              have g0 : w2.cell? ⟨wr.heap.size, 0, none⟩ = some (.int .i64 (c : Int)) := l2.cell_of (by simp [go_sem])
              have y0 := cell_lt x0
              have y1 := cell_lt u0
              have N2 : Hid (Later wr w2) := M2
              clear l2 M2 t1
              go_wp2_with fail
              refine (t3.out _ _ g0).mono ?_
              rintro e w3 ⟨rfl, l3⟩
              replace x0 := l3.cell_of x0
              replace x1 := l3.cell_of x1
              replace u0 := l3.cell_of u0
              replace u1 := l3.cell_of u1
              replace g0 := l3.cell_of g0
              replace y0 := cell_lt x0
              replace y1 := cell_lt u0
              have N3 : Hid (Later wr w3) := N2.out.trans l3
              clear l3 N2 t3
              go_wp2_with fail
              refine (t2.out _ N3.out).mono ?_
              rintro e w4 ⟨rfl, l4⟩
              replace x0 := l4.cell_of x0
              replace x1 := l4.cell_of x1
              replace u0 := l4.cell_of u0
              replace u1 := l4.cell_of u1
              replace g0 := l4.cell_of g0
              replace y0 := cell_lt x0
              replace y1 := cell_lt u0
              have N4 : Hid (Later wr w4) := N3.out.trans l4
              clear l4 N3 t2
              go_wp2_with fail
              refine (t4.out _ _ N4.out g0).mono ?_
              rintro e w5 ⟨rfl, l5⟩
              have N5 : Hid (Later wr w5) := N4.out.trans l5
              clear l5 N4 t4 x0 x1 u0 u1 g0 y0 y1
              go_wp2_with (go_at_call 14; refine (num_any _ _).mono ?_; rintro e w6 ⟨rfl, rfl⟩)
              go_ret
              exact ⟨rfl, z3.out.trans N5.out⟩
            · have e1 : (decide (d ≤ 32) && decide (s ≤ 1)) = false := by simp; omega
              have e2 : decide (124 ≤ c ∧ c ≤ 127) = true := by simp; omega
              have e3 : (decide (d = 0) && (decide (s = 1) && decide (c = 124))) = false := by simp; omega
              rw [e1] at t1
              rw [e2] at t3
              rw [e3] at t4
              have i1 : decide ((d : Int) ≤ 32) = true := by simp; omega
              have i2 : decide ((s : Int) ≤ 1) = false := by simp; omega
              have i3 : decide ((124 : Int) ≤ (c : Int)) = true := by simp; omega
              have i4 : decide ((c : Int) ≤ 127) = true := by simp; omega
              have i6 : ((d : Int) == 0) = true := by simp; omega
              have i7 : ((s : Int) == 1) = false := by simp; omega
              have i8 : ((c : Int) == 124) = true := by simp; omega
              clear e1 e2 e3 h5 h6 h8
              go_wp2_with fail
              refine (t1.out _ (La (La (Lz _)))).mono ?_
              rintro e w2 ⟨rfl, l2⟩
              have M2 : Later wr w2 := (La (La (Lz wr))).trans l2
              have x0 := M2.cell_of c0
              have x1 := M2.cell_of c1
              have u0 : w2.cell? ⟨wr.heap.size + 1, 0, none⟩ = some (.slice none 0 0) := l2.cell_of (by simp [go_sem])
              have u1 : w2.cell? ⟨wr.heap.size + 1, 1, none⟩ = some (.slice (some ⟨wr.heap.size, 0, none⟩) 1 1) := l2.cell_of (by simp [go_sem])
              have g0 : w2.cell? ⟨wr.heap.size, 0, none⟩ = some (.int .i64 (c : Int)) := l2.cell_of (by simp [go_sem])
              have y0 := cell_lt x0
              have y1 := cell_lt u0
              have N2 : Hid (Later wr w2) := M2
              clear l2 M2 t1
              go_wp2_with fail
              refine (t3.out _ _ g0).mono ?_
              rintro e w3 ⟨rfl, l3⟩
              replace x0 := l3.cell_of x0
              replace x1 := l3.cell_of x1
              replace u0 := l3.cell_of u0
              replace u1 := l3.cell_of u1
              replace g0 := l3.cell_of g0
              replace y0 := cell_lt x0
              replace y1 := cell_lt u0
              have N3 : Hid (Later wr w3) := N2.out.trans l3
              clear l3 N2 t3
              go_wp2_with fail
              refine (t2.out _ N3.out).mono ?_
              rintro e w4 ⟨rfl, l4⟩
              replace x0 := l4.cell_of x0
              replace x1 := l4.cell_of x1
              replace u0 := l4.cell_of u0
              replace u1 := l4.cell_of u1
              replace g0 := l4.cell_of g0
              replace y0 := cell_lt x0
              replace y1 := cell_lt u0
              have N4 : Hid (Later wr w4) := N3.out.trans l4
              clear l4 N3 t2
              go_wp2_with fail
              refine (t4.out _ _ N4.out g0).mono ?_
              rintro e w5 ⟨rfl, l5⟩
              have N5 : Hid (Later wr w5) := N4.out.trans l5
              clear l5 N4 t4 x0 x1 u0 u1 g0 y0 y1
              go_wp2_with (go_at_call 14; refine (num_any _ _).mono ?_; rintro e w6 ⟨rfl, rfl⟩)
              go_ret
              exact ⟨rfl, z3.out.trans N5.out⟩
            · have e1 : (decide (d ≤ 32) && decide (s ≤ 1)) = false := by simp; omega
              have e2 : decide (124 ≤ c ∧ c ≤ 127) = true := by simp; omega
              have e3 : (decide (d = 0) && (decide (s = 1) && decide (c = 124))) = false := by simp; omega
              rw [e1] at t1
              rw [e2] at t3
              rw [e3] at t4
              have i1 : decide ((d : Int) ≤ 32) = true := by simp; omega
              have i2 : decide ((s : Int) ≤ 1) = false := by simp; omega
              have i3 : decide ((124 : Int) ≤ (c : Int)) = true := by simp; omega
              have i4 : decide ((c : Int) ≤ 127) = true := by simp; omega
              have i6 : ((d : Int) == 0) = true := by simp; omega
              have i7 : ((s : Int) == 1) = false := by simp; omega
              have i8 : ((c : Int) == 124) = false := by simp; omega
              clear e1 e2 e3 h5 h6 h8 h9
              go_wp2_with fail
              refine (t1.out _ (La (La (Lz _)))).mono ?_
              rintro e w2 ⟨rfl, l2⟩
              have M2 : Later wr w2 := (La (La (Lz wr))).trans l2
              have x0 := M2.cell_of c0
              have x1 := M2.cell_of c1
              have u0 : w2.cell? ⟨wr.heap.size + 1, 0, none⟩ = some (.slice none 0 0) := l2.cell_of (by simp [go_sem])
              have u1 : w2.cell? ⟨wr.heap.size + 1, 1, none⟩ = some (.slice (some ⟨wr.heap.size, 0, none⟩) 1 1) := l2.cell_of (by simp [go_sem])
              have g0 : w2.cell? ⟨wr.heap.size, 0, none⟩ = some (.int .i64 (c : Int)) := l2.cell_of (by simp [go_sem])
              have y0 := cell_lt x0
              have y1 := cell_lt u0
              have N2 : Hid (Later wr w2) := M2
              clear l2 M2 t1
              go_wp2_with fail
              refine (t3.out _ _ g0).mono ?_
              rintro e w3 ⟨rfl, l3⟩
              replace x0 := l3.cell_of x0
              replace x1 := l3.cell_of x1
              replace u0 := l3.cell_of u0
              replace u1 := l3.cell_of u1
              replace g0 := l3.cell_of g0
              replace y0 := cell_lt x0
              replace y1 := cell_lt u0
              have N3 : Hid (Later wr w3) := N2.out.trans l3
              clear l3 N2 t3
              go_wp2_with fail
              refine (t2.out _ N3.out).mono ?_
              rintro e w4 ⟨rfl, l4⟩
              replace x0 := l4.cell_of x0
              replace x1 := l4.cell_of x1
              replace u0 := l4.cell_of u0
              replace u1 := l4.cell_of u1
              replace g0 := l4.cell_of g0
              replace y0 := cell_lt x0
              replace y1 := cell_lt u0
              have N4 : Hid (Later wr w4) := N3.out.trans l4
              clear l4 N3 t2
              go_wp2_with fail
              refine (t4.out _ _ N4.out g0).mono ?_
              rintro e w5 ⟨rfl, l5⟩
              have N5 : Hid (Later wr w5) := N4.out.trans l5
              clear l5 N4 t4 x0 x1 u0 u1 g0 y0 y1
              go_wp2_with (go_at_call 14; refine (num_any _ _).mono ?_; rintro e w6 ⟨rfl, rfl⟩)
              go_ret
              exact ⟨rfl, z3.out.trans N5.out⟩
            · have e1 : (decide (d ≤ 32) && decide (s ≤ 1)) = false := by simp; omega
              have e2 : decide (124 ≤ c ∧ c ≤ 127) = false := by simp; omega
              have e3 : (decide (d = 0) && (decide (s = 1) && decide (c = 124))) = false := by simp; omega
              rw [e1] at t1
              rw [e2] at t3
              rw [e3] at t4
              have i1 : decide ((d : Int) ≤ 32) = true := by simp; omega
              have i2 : decide ((s : Int) ≤ 1) = false := by simp; omega
              have i3 : decide ((124 : Int) ≤ (c : Int)) = true := by simp; omega
              have i4 : decide ((c : Int) ≤ 127) = false := by simp; omega
              have i6 : ((d : Int) == 0) = true := by simp; omega
              have i7 : ((s : Int) == 1) = false := by simp; omega
              have i8 : ((c : Int) == 124) = false := by simp; omega
              clear e1 e2 e3 h5 h6 h8
              go_wp2_with fail
              refine (t1.out _ (La (La (Lz _)))).mono ?_
              rintro e w2 ⟨rfl, l2⟩
              have M2 : Later wr w2 := (La (La (Lz wr))).trans l2
              have x0 := M2.cell_of c0
              have x1 := M2.cell_of c1
              have u0 : w2.cell? ⟨wr.heap.size + 1, 0, none⟩ = some (.slice none 0 0) := l2.cell_of (by simp [go_sem])
              have u1 : w2.cell? ⟨wr.heap.size + 1, 1, none⟩ = some (.slice (some ⟨wr.heap.size, 0, none⟩) 1 1) := l2.cell_of (by simp [go_sem])
              have g0 : w2.cell? ⟨wr.heap.size, 0, none⟩ = some (.int .i64 (c : Int)) := l2.cell_of (by simp [go_sem])
              have y0 := cell_lt x0
              have y1 := cell_lt u0
              have N2 : Hid (Later wr w2) := M2
              clear l2 M2 t1
              go_wp2_with fail
              refine (t3.out _ _ g0).mono ?_
              rintro e w3 ⟨rfl, l3⟩
              replace x0 := l3.cell_of x0
              replace x1 := l3.cell_of x1
              replace u0 := l3.cell_of u0
              replace u1 := l3.cell_of u1
              replace g0 := l3.cell_of g0
              replace y0 := cell_lt x0
              replace y1 := cell_lt u0
              have N3 : Hid (Later wr w3) := N2.out.trans l3
              clear l3 N2 t3
              go_wp2_with fail
              refine (t2.out _ N3.out).mono ?_
              rintro e w4 ⟨rfl, l4⟩
              replace x0 := l4.cell_of x0
              replace x1 := l4.cell_of x1
              replace u0 := l4.cell_of u0
              replace u1 := l4.cell_of u1
              replace g0 := l4.cell_of g0
              replace y0 := cell_lt x0
              replace y1 := cell_lt u0
              have N4 : Hid (Later wr w4) := N3.out.trans l4
              clear l4 N3 t2
              go_wp2_with fail
              refine (t4.out _ _ N4.out g0).mono ?_
              rintro e w5 ⟨rfl, l5⟩
              have N5 : Hid (Later wr w5) := N4.out.trans l5
              clear l5 N4 t4 x0 x1 u0 u1 g0 y0 y1
              go_wp2_with (go_at_call 14; refine (num_any _ _).mono ?_; rintro e w6 ⟨rfl, rfl⟩)
              go_ret
              exact ⟨rfl, z3.out.trans N5.out⟩
          · rcases clc with h8 | h8 | ⟨h8, h9⟩ | h8
            · have e1 : (decide (d ≤ 32) && decide (s ≤ 1)) = true := by simp; omega
              have e2 : decide (124 ≤ c ∧ c ≤ 127) = false := by simp; omega
              have e3 : (decide (d = 0) && (decide (s = 1) && decide (c = 124))) = false := by simp; omega
              rw [e1] at t1
              rw [e2] at t3
              rw [e3] at t4
              have i1 : decide ((d : Int) ≤ 32) = true := by simp; omega
              have i2 : decide ((s : Int) ≤ 1) = true := by simp; omega
              have i3 : decide ((124 : Int) ≤ (c : Int)) = false := by simp; omega
              have i6 : ((d : Int) == 0) = false := by simp; omega
              have i8 : ((c : Int) == 124) = false := by simp; omega
              clear e1 e2 e3 h5 h6 h7 h8
              go_wp2_with fail
              refine (t1.out _ (La (La (Lz _)))).mono ?_
              rintro e w2 ⟨rfl, l2⟩
              have M2 : Later wr w2 := (La (La (Lz wr))).trans l2
              have x0 := M2.cell_of c0
              have x1 := M2.cell_of c1
              have u0 : w2.cell? ⟨wr.heap.size + 1, 0, none⟩ = some (.slice none 0 0) := l2.cell_of (by simp [go_sem])
              have u1 : w2.cell? ⟨wr.heap.size + 1, 1, none⟩ = some (.slice (some ⟨wr.heap.size, 0, none⟩) 1 1) := l2.cell_of (by simp [go_sem])
              have g0 : w2.cell? ⟨wr.heap.size, 0, none⟩ = some (.int .i64 (c : Int)) := l2.cell_of (by simp [go_sem])
              have y0 := cell_lt x0
              have y1 := cell_lt u0
              have N2 : Hid (Later wr w2) := M2
              clear l2 M2 t1
              go_wp2_with fail
              refine (t3.out _ _ g0).mono ?_
              rintro e w3 ⟨rfl, l3⟩
              replace x0 := l3.cell_of x0
              replace x1 := l3.cell_of x1
              replace u0 := l3.cell_of u0
              replace u1 := l3.cell_of u1
              replace g0 := l3.cell_of g0
              replace y0 := cell_lt x0
              replace y1 := cell_lt u0
              have N3 : Hid (Later wr w3) := N2.out.trans l3
              clear l3 N2 t3
              go_wp2_with fail
              refine (t2.out _ N3.out).mono ?_
              rintro e w4 ⟨rfl, l4⟩
              replace x0 := l4.cell_of x0
              replace x1 := l4.cell_of x1
              replace u0 := l4.cell_of u0
              replace u1 := l4.cell_of u1
              replace g0 := l4.cell_of g0
              replace y0 := cell_lt x0
              replace y1 := cell_lt u0
              have N4 : Hid (Later wr w4) := N3.out.trans l4
              clear l4 N3 t2
              go_wp2_with fail
              refine (t4.out _ _ N4.out g0).mono ?_
              rintro e w5 ⟨rfl, l5⟩
              have N5 : Hid (Later wr w5) := N4.out.trans l5
              clear l5 N4 t4 x0 x1 u0 u1 g0 y0 y1
              go_wp2_with (go_at_call 14; refine (num_any _ _).mono ?_; rintro e w6 ⟨rfl, rfl⟩)
              go_ret
              exact ⟨rfl, z3.out.trans N5.out⟩
            · have e1 : (decide (d ≤ 32) && decide (s ≤ 1)) = true := by simp; omega
              have e2 : decide (124 ≤ c ∧ c ≤ 127) = true := by simp; omega
              have e3 : (decide (d = 0) && (decide (s = 1) && decide (c = 124))) = false := by simp; omega
              rw [e1] at t1
              rw [e2] at t3
              rw [e3] at t4
              have i1 : decide ((d : Int) ≤ 32) = true := by simp; omega
              have i2 : decide ((s : Int) ≤ 1) = true := by simp; omega
              have i3 : decide ((124 : Int) ≤ (c : Int)) = true := by simp; omega
              have i4 : decide ((c : Int) ≤ 127) = true := by simp; omega
              have i6 : ((d : Int) == 0) = false := by simp; omega
              have i8 : ((c : Int) == 124) = true := by simp; omega
              clear e1 e2 e3 h5 h6 h7 h8
              go_wp2_with fail
              refine (t1.out _ (La (La (Lz _)))).mono ?_
              rintro e w2 ⟨rfl, l2⟩
              have M2 : Later wr w2 := (La (La (Lz wr))).trans l2
              have x0 := M2.cell_of c0
              have x1 := M2.cell_of c1
              have u0 : w2.cell? ⟨wr.heap.size + 1, 0, none⟩ = some (.slice none 0 0) := l2.cell_of (by simp [go_sem])
              have u1 : w2.cell? ⟨wr.heap.size + 1, 1, none⟩ = some (.slice (some ⟨wr.heap.size, 0, none⟩) 1 1) := l2.cell_of (by simp [go_sem])
              have g0 : w2.cell? ⟨wr.heap.size, 0, none⟩ = some (.int .i64 (c : Int)) := l2.cell_of (by simp [go_sem])
              have y0 := cell_lt x0
              have y1 := cell_lt u0
              have N2 : Hid (Later wr w2) := M2
              clear l2 M2 t1
              go_wp2_with fail
              refine (t3.out _ _ g0).mono ?_
              rintro e w3 ⟨rfl, l3⟩
              replace x0 := l3.cell_of x0
              replace x1 := l3.cell_of x1
              replace u0 := l3.cell_of u0
              replace u1 := l3.cell_of u1
              replace g0 := l3.cell_of g0
              replace y0 := cell_lt x0
              replace y1 := cell_lt u0
              have N3 : Hid (Later wr w3) := N2.out.trans l3
              clear l3 N2 t3
              go_wp2_with fail
              refine (t2.out _ N3.out).mono ?_
              rintro e w4 ⟨rfl, l4⟩
              replace x0 := l4.cell_of x0
              replace x1 := l4.cell_of x1
              replace u0 := l4.cell_of u0
              replace u1 := l4.cell_of u1
              replace g0 := l4.cell_of g0
              replace y0 := cell_lt x0
              replace y1 := cell_lt u0
              have N4 : Hid (Later wr w4) := N3.out.trans l4
              clear l4 N3 t2
              go_wp2_with fail
              refine (t4.out _ _ N4.out g0).mono ?_
              rintro e w5 ⟨rfl, l5⟩
              have N5 : Hid (Later wr w5) := N4.out.trans l5
              clear l5 N4 t4 x0 x1 u0 u1 g0 y0 y1
              go_wp2_with (go_at_call 14; refine (num_any _ _).mono ?_; rintro e w6 ⟨rfl, rfl⟩)
              go_ret
              exact ⟨rfl, z3.out.trans N5.out⟩
            · have e1 : (decide (d ≤ 32) && decide (s ≤ 1)) = true := by simp; omega
              have e2 : decide (124 ≤ c ∧ c ≤ 127) = true := by simp; omega
              have e3 : (decide (d = 0) && (decide (s = 1) && decide (c = 124))) = false := by simp; omega
              rw [e1] at t1
              rw [e2] at t3
              rw [e3] at t4
              have i1 : decide ((d : Int) ≤ 32) = true := by simp; omega
              have i2 : decide ((s : Int) ≤ 1) = true := by simp; omega
              have i3 : decide ((124 : Int) ≤ (c : Int)) = true := by simp; omega
              have i4 : decide ((c : Int) ≤ 127) = true := by simp; omega
              have i6 : ((d : Int) == 0) = false := by simp; omega
              have i8 : ((c : Int) == 124) = false := by simp; omega
              clear e1 e2 e3 h5 h6 h7 h8 h9
              go_wp2_with fail
              refine (t1.out _ (La (La (Lz _)))).mono ?_
              rintro e w2 ⟨rfl, l2⟩
              have M2 : Later wr w2 := (La (La (Lz wr))).trans l2
              have x0 := M2.cell_of c0
              have x1 := M2.cell_of c1
              have u0 : w2.cell? ⟨wr.heap.size + 1, 0, none⟩ = some (.slice none 0 0) := l2.cell_of (by simp [go_sem])
              have u1 : w2.cell? ⟨wr.heap.size + 1, 1, none⟩ = some (.slice (some ⟨wr.heap.size, 0, none⟩) 1 1) := l2.cell_of (by simp [go_sem])
              have g0 : w2.cell? ⟨wr.heap.size, 0, none⟩ = some (.int .i64 (c : Int)) := l2.cell_of (by simp [go_sem])
              have y0 := cell_lt x0
              have y1 := cell_lt u0
              have N2 : Hid (Later wr w2) := M2
              clear l2 M2 t1
              go_wp2_with fail
              refine (t3.out _ _ g0).mono ?_
              rintro e w3 ⟨rfl, l3⟩
              replace x0 := l3.cell_of x0
              replace x1 := l3.cell_of x1
              replace u0 := l3.cell_of u0
              replace u1 := l3.cell_of u1
              replace g0 := l3.cell_of g0
              replace y0 := cell_lt x0
              replace y1 := cell_lt u0
              have N3 : Hid (Later wr w3) := N2.out.trans l3
              clear l3 N2 t3
              go_wp2_with fail
              refine (t2.out _ N3.out).mono ?_
              rintro e w4 ⟨rfl, l4⟩
              replace x0 := l4.cell_of x0
              replace x1 := l4.cell_of x1
              replace u0 := l4.cell_of u0
              replace u1 := l4.cell_of u1
              replace g0 := l4.cell_of g0
              replace y0 := cell_lt x0
              replace y1 := cell_lt u0
              have N4 : Hid (Later wr w4) := N3.out.trans l4
              clear l4 N3 t2
              go_wp2_with fail
              refine (t4.out _ _ N4.out g0).mono ?_
              rintro e w5 ⟨rfl, l5⟩
              have N5 : Hid (Later wr w5) := N4.out.trans l5
              clear l5 N4 t4 x0 x1 u0 u1 g0 y0 y1
              go_wp2_with (go_at_call 14; refine (num_any _ _).mono ?_; rintro e w6 ⟨rfl, rfl⟩)
              go_ret
              exact ⟨rfl, z3.out.trans N5.out⟩
            · have e1 : (decide (d ≤ 32) && decide (s ≤ 1)) = true := by simp; omega
              have e2 : decide (124 ≤ c ∧ c ≤ 127) = false := by simp; omega
              have e3 : (decide (d = 0) && (decide (s = 1) && decide (c = 124))) = false := by simp; omega
              rw [e1] at t1
              rw [e2] at t3
              rw [e3] at t4
              have i1 : decide ((d : Int) ≤ 32) = true := by simp; omega
              have i2 : decide ((s : Int) ≤ 1) = true := by simp; omega
              have i3 : decide ((124 : Int) ≤ (c : Int)) = true := by simp; omega
              have i4 : decide ((c : Int) ≤ 127) = false := by simp; omega
              have i6 : ((d : Int) == 0) = false := by simp; omega
              have i8 : ((c : Int) == 124) = false := by simp; omega
              clear e1 e2 e3 h5 h6 h7 h8
              go_wp2_with fail
              refine (t1.out _ (La (La (Lz _)))).mono ?_
              rintro e w2 ⟨rfl, l2⟩
              have M2 : Later wr w2 := (La (La (Lz wr))).trans l2
              have x0 := M2.cell_of c0
              have x1 := M2.cell_of c1
              have u0 : w2.cell? ⟨wr.heap.size + 1, 0, none⟩ = some (.slice none 0 0) := l2.cell_of (by simp [go_sem])
              have u1 : w2.cell? ⟨wr.heap.size + 1, 1, none⟩ = some (.slice (some ⟨wr.heap.size, 0, none⟩) 1 1) := l2.cell_of (by simp [go_sem])
              have g0 : w2.cell? ⟨wr.heap.size, 0, none⟩ = some (.int .i64 (c : Int)) := l2.cell_of (by simp [go_sem])
              have y0 := cell_lt x0
              have y1 := cell_lt u0
              have N2 : Hid (Later wr w2) := M2
              clear l2 M2 t1
              go_wp2_with fail
              refine (t3.out _ _ g0).mono ?_
              rintro e w3 ⟨rfl, l3⟩
              replace x0 := l3.cell_of x0
              replace x1 := l3.cell_of x1
              replace u0 := l3.cell_of u0
              replace u1 := l3.cell_of u1
              replace g0 := l3.cell_of g0
              replace y0 := cell_lt x0
              replace y1 := cell_lt u0
              have N3 : Hid (Later wr w3) := N2.out.trans l3
              clear l3 N2 t3
              go_wp2_with fail
              refine (t2.out _ N3.out).mono ?_
              rintro e w4 ⟨rfl, l4⟩
              replace x0 := l4.cell_of x0
              replace x1 := l4.cell_of x1
              replace u0 := l4.cell_of u0
              replace u1 := l4.cell_of u1
              replace g0 := l4.cell_of g0
              replace y0 := cell_lt x0
              replace y1 := cell_lt u0
              have N4 : Hid (Later wr w4) := N3.out.trans l4
              clear l4 N3 t2
              go_wp2_with fail
              refine (t4.out _ _ N4.out g0).mono ?_
              rintro e w5 ⟨rfl, l5⟩
              have N5 : Hid (Later wr w5) := N4.out.trans l5
              clear l5 N4 t4 x0 x1 u0 u1 g0 y0 y1
              go_wp2_with (go_at_call 14; refine (num_any _ _).mono ?_; rintro e w6 ⟨rfl, rfl⟩)
              go_ret
              exact ⟨rfl, z3.out.trans N5.out⟩
          · rcases clc with h8 | h8 | ⟨h8, h9⟩ | h8
            · have e1 : (decide (d ≤ 32) && decide (s ≤ 1)) = false := by simp; omega
              have e2 : decide (124 ≤ c ∧ c ≤ 127) = false := by simp; omega
              have e3 : (decide (d = 0) && (decide (s = 1) && decide (c = 124))) = false := by simp; omega
              rw [e1] at t1
              rw [e2] at t3
              rw [e3] at t4
              have i1 : decide ((d : Int) ≤ 32) = true := by simp; omega
              have i2 : decide ((s : Int) ≤ 1) = false := by simp; omega
              have i3 : decide ((124 : Int) ≤ (c : Int)) = false := by simp; omega
              have i6 : ((d : Int) == 0) = false := by simp; omega
              have i8 : ((c : Int) == 124) = false := by simp; omega
              clear e1 e2 e3 h5 h6 h7 h8
              go_wp2_with fail
              refine (t1.out _ (La (La (Lz _)))).mono ?_
              rintro e w2 ⟨rfl, l2⟩
              have M2 : Later wr w2 := (La (La (Lz wr))).trans l2
              have x0 := M2.cell_of c0
              have x1 := M2.cell_of c1
              have u0 : w2.cell? ⟨wr.heap.size + 1, 0, none⟩ = some (.slice none 0 0) := l2.cell_of (by simp [go_sem])
              have u1 : w2.cell? ⟨wr.heap.size + 1, 1, none⟩ = some (.slice (some ⟨wr.heap.size, 0, none⟩) 1 1) := l2.cell_of (by simp [go_sem])
              have g0 : w2.cell? ⟨wr.heap.size, 0, none⟩ = some (.int .i64 (c : Int)) := l2.cell_of (by simp [go_sem])
              have y0 := cell_lt x0
              have y1 := cell_lt u0
              have N2 : Hid (Later wr w2) := M2
              clear l2 M2 t1
              go_wp2_with fail
              refine (t3.out _ _ g0).mono ?_
              rintro e w3 ⟨rfl, l3⟩
              replace x0 := l3.cell_of x0
              replace x1 := l3.cell_of x1
              replace u0 := l3.cell_of u0
              replace u1 := l3.cell_of u1
              replace g0 := l3.cell_of g0
              replace y0 := cell_lt x0
              replace y1 := cell_lt u0
              have N3 : Hid (Later wr w3) := N2.out.trans l3
              clear l3 N2 t3
              go_wp2_with fail
              refine (t2.out _ N3.out).mono ?_
              rintro e w4 ⟨rfl, l4⟩
              replace x0 := l4.cell_of x0
              replace x1 := l4.cell_of x1
              replace u0 := l4.cell_of u0
              replace u1 := l4.cell_of u1
              replace g0 := l4.cell_of g0
              replace y0 := cell_lt x0
              replace y1 := cell_lt u0
              have N4 : Hid (Later wr w4) := N3.out.trans l4
              clear l4 N3 t2
              go_wp2_with fail
              refine (t4.out _ _ N4.out g0).mono ?_
              rintro e w5 ⟨rfl, l5⟩
              have N5 : Hid (Later wr w5) := N4.out.trans l5
              clear l5 N4 t4 x0 x1 u0 u1 g0 y0 y1
              go_wp2_with (go_at_call 14; refine (num_any _ _).mono ?_; rintro e w6 ⟨rfl, rfl⟩)
              go_ret
              exact ⟨rfl, z3.out.trans N5.out⟩
            · have e1 : (decide (d ≤ 32) && decide (s ≤ 1)) = false := by simp; omega
              have e2 : decide (124 ≤ c ∧ c ≤ 127) = true := by simp; omega
              have e3 : (decide (d = 0) && (decide (s = 1) && decide (c = 124))) = false := by simp; omega
              rw [e1] at t1
              rw [e2] at t3
              rw [e3] at t4
              have i1 : decide ((d : Int) ≤ 32) = true := by simp; omega
              have i2 : decide ((s : Int) ≤ 1) = false := by simp; omega
              have i3 : decide ((124 : Int) ≤ (c : Int)) = true := by simp; omega
              have i4 : decide ((c : Int) ≤ 127) = true := by simp; omega
              have i6 : ((d : Int) == 0) = false := by simp; omega
              have i8 : ((c : Int) == 124) = true := by simp; omega
              clear e1 e2 e3 h5 h6 h7 h8
              go_wp2_with fail
              refine (t1.out _ (La (La (Lz _)))).mono ?_
              rintro e w2 ⟨rfl, l2⟩
              have M2 : Later wr w2 := (La (La (Lz wr))).trans l2
              have x0 := M2.cell_of c0
              have x1 := M2.cell_of c1
              have u0 : w2.cell? ⟨wr.heap.size + 1, 0, none⟩ = some (.slice none 0 0) := l2.cell_of (by simp [go_sem])
              have u1 : w2.cell? ⟨wr.heap.size + 1, 1, none⟩ = some (.slice (some ⟨wr.heap.size, 0, none⟩) 1 1) := l2.cell_of (by simp [go_sem])
              have g0 : w2.cell? ⟨wr.heap.size, 0, none⟩ = some (.int .i64 (c : Int)) := l2.cell_of (by simp [go_sem])
              have y0 := cell_lt x0
              have y1 := cell_lt u0
              have N2 : Hid (Later wr w2) := M2
              clear l2 M2 t1
              go_wp2_with fail
              refine (t3.out _ _ g0).mono ?_
              rintro e w3 ⟨rfl, l3⟩
              replace x0 := l3.cell_of x0
              replace x1 := l3.cell_of x1
              replace u0 := l3.cell_of u0
              replace u1 := l3.cell_of u1
              replace g0 := l3.cell_of g0
              replace y0 := cell_lt x0
              replace y1 := cell_lt u0
              have N3 : Hid (Later wr w3) := N2.out.trans l3
              clear l3 N2 t3
              go_wp2_with fail
              refine (t2.out _ N3.out).mono ?_
              rintro e w4 ⟨rfl, l4⟩
              replace x0 := l4.cell_of x0
              replace x1 := l4.cell_of x1
              replace u0 := l4.cell_of u0
              replace u1 := l4.cell_of u1
              replace g0 := l4.cell_of g0
              replace y0 := cell_lt x0
              replace y1 := cell_lt u0
              have N4 : Hid (Later wr w4) := N3.out.trans l4
              clear l4 N3 t2
              go_wp2_with fail
              refine (t4.out _ _ N4.out g0).mono ?_
              rintro e w5 ⟨rfl, l5⟩
              have N5 : Hid (Later wr w5) := N4.out.trans l5
              clear l5 N4 t4 x0 x1 u0 u1 g0 y0 y1
              go_wp2_with (go_at_call 14; refine (num_any _ _).mono ?_; rintro e w6 ⟨rfl, rfl⟩)
              go_ret
              exact ⟨rfl, z3.out.trans N5.out⟩
            · have e1 : (decide (d ≤ 32) && decide (s ≤ 1)) = false := by simp; omega
              have e2 : decide (124 ≤ c ∧ c ≤ 127) = true := by simp; omega
              have e3 : (decide (d = 0) && (decide (s = 1) && decide (c = 124))) = false := by simp; omega
              rw [e1] at t1
              rw [e2] at t3
              rw [e3] at t4
              have i1 : decide ((d : Int) ≤ 32) = true := by simp; omega
              have i2 : decide ((s : Int) ≤ 1) = false := by simp; omega
              have i3 : decide ((124 : Int) ≤ (c : Int)) = true := by simp; omega
              have i4 : decide ((c : Int) ≤ 127) = true := by simp; omega
              have i6 : ((d : Int) == 0) = false := by simp; omega
              have i8 : ((c : Int) == 124) = false := by simp; omega
              clear e1 e2 e3 h5 h6 h7 h8 h9
              go_wp2_with fail
              refine (t1.out _ (La (La (Lz _)))).mono ?_
              rintro e w2 ⟨rfl, l2⟩
              have M2 : Later wr w2 := (La (La (Lz wr))).trans l2
              have x0 := M2.cell_of c0
              have x1 := M2.cell_of c1
              have u0 : w2.cell? ⟨wr.heap.size + 1, 0, none⟩ = some (.slice none 0 0) := l2.cell_of (by simp [go_sem])
              have u1 : w2.cell? ⟨wr.heap.size + 1, 1, none⟩ = some (.slice (some ⟨wr.heap.size, 0, none⟩) 1 1) := l2.cell_of (by simp [go_sem])
              have g0 : w2.cell? ⟨wr.heap.size, 0, none⟩ = some (.int .i64 (c : Int)) := l2.cell_of (by simp [go_sem])
              have y0 := cell_lt x0
              have y1 := cell_lt u0
              have N2 : Hid (Later wr w2) := M2
              clear l2 M2 t1
              go_wp2_with fail
              refine (t3.out _ _ g0).mono ?_
              rintro e w3 ⟨rfl, l3⟩
              replace x0 := l3.cell_of x0
              replace x1 := l3.cell_of x1
              replace u0 := l3.cell_of u0
              replace u1 := l3.cell_of u1
              replace g0 := l3.cell_of g0
              replace y0 := cell_lt x0
              replace y1 := cell_lt u0
              have N3 : Hid (Later wr w3) := N2.out.trans l3
              clear l3 N2 t3
              go_wp2_with fail
              refine (t2.out _ N3.out).mono ?_
              rintro e w4 ⟨rfl, l4⟩
              replace x0 := l4.cell_of x0
              replace x1 := l4.cell_of x1
              replace u0 := l4.cell_of u0
              replace u1 := l4.cell_of u1
              replace g0 := l4.cell_of g0
              replace y0 := cell_lt x0
              replace y1 := cell_lt u0
              have N4 : Hid (Later wr w4) := N3.out.trans l4
              clear l4 N3 t2
              go_wp2_with fail
              refine (t4.out _ _ N4.out g0).mono ?_
              rintro e w5 ⟨rfl, l5⟩
              have N5 : Hid (Later wr w5) := N4.out.trans l5
              clear l5 N4 t4 x0 x1 u0 u1 g0 y0 y1
              go_wp2_with (go_at_call 14; refine (num_any _ _).mono ?_; rintro e w6 ⟨rfl, rfl⟩)
              go_ret
              exact ⟨rfl, z3.out.trans N5.out⟩
            · have e1 : (decide (d ≤ 32) && decide (s ≤ 1)) = false := by simp; omega
              have e2 : decide (124 ≤ c ∧ c ≤ 127) = false := by simp; omega
              have e3 : (decide (d = 0) && (decide (s = 1) && decide (c = 124))) = false := by simp; omega
              rw [e1] at t1
              rw [e2] at t3
              rw [e3] at t4
              have i1 : decide ((d : Int) ≤ 32) = true := by simp; omega
              have i2 : decide ((s : Int) ≤ 1) = false := by simp; omega
              have i3 : decide ((124 : Int) ≤ (c : Int)) = true := by simp; omega
              have i4 : decide ((c : Int) ≤ 127) = false := by simp; omega
              have i6 : ((d : Int) == 0) = false := by simp; omega
              have i8 : ((c : Int) == 124) = false := by simp; omega
              clear e1 e2 e3 h5 h6 h7 h8
              go_wp2_with fail
              refine (t1.out _ (La (La (Lz _)))).mono ?_
              rintro e w2 ⟨rfl, l2⟩
              have M2 : Later wr w2 := (La (La (Lz wr))).trans l2
              have x0 := M2.cell_of c0
              have x1 := M2.cell_of c1
              have u0 : w2.cell? ⟨wr.heap.size + 1, 0, none⟩ = some (.slice none 0 0) := l2.cell_of (by simp [go_sem])
              have u1 : w2.cell? ⟨wr.heap.size + 1, 1, none⟩ = some (.slice (some ⟨wr.heap.size, 0, none⟩) 1 1) := l2.cell_of (by simp [go_sem])
              have g0 : w2.cell? ⟨wr.heap.size, 0, none⟩ = some (.int .i64 (c : Int)) := l2.cell_of (by simp [go_sem])
              have y0 := cell_lt x0
              have y1 := cell_lt u0
              have N2 : Hid (Later wr w2) := M2
              clear l2 M2 t1
              go_wp2_with fail
              refine (t3.out _ _ g0).mono ?_
              rintro e w3 ⟨rfl, l3⟩
              replace x0 := l3.cell_of x0
              replace x1 := l3.cell_of x1
              replace u0 := l3.cell_of u0
              replace u1 := l3.cell_of u1
              replace g0 := l3.cell_of g0
              replace y0 := cell_lt x0
              replace y1 := cell_lt u0
              have N3 : Hid (Later wr w3) := N2.out.trans l3
              clear l3 N2 t3
              go_wp2_with fail
              refine (t2.out _ N3.out).mono ?_
              rintro e w4 ⟨rfl, l4⟩
              replace x0 := l4.cell_of x0
              replace x1 := l4.cell_of x1
              replace u0 := l4.cell_of u0
              replace u1 := l4.cell_of u1
              replace g0 := l4.cell_of g0
              replace y0 := cell_lt x0
              replace y1 := cell_lt u0
              have N4 : Hid (Later wr w4) := N3.out.trans l4
              clear l4 N3 t2
              go_wp2_with fail
              refine (t4.out _ _ N4.out g0).mono ?_
              rintro e w5 ⟨rfl, l5⟩
              have N5 : Hid (Later wr w5) := N4.out.trans l5
              clear l5 N4 t4 x0 x1 u0 u1 g0 y0 y1
              go_wp2_with (go_at_call 14; refine (num_any _ _).mono ?_; rintro e w6 ⟨rfl, rfl⟩)
              go_ret
              exact ⟨rfl, z3.out.trans N5.out⟩
          · rcases clc with h8 | h8 | ⟨h8, h9⟩ | h8
            · have e1 : (decide (d ≤ 32) && decide (s ≤ 1)) = false := by simp; omega
              have e2 : decide (124 ≤ c ∧ c ≤ 127) = false := by simp; omega
              have e3 : (decide (d = 0) && (decide (s = 1) && decide (c = 124))) = false := by simp; omega
              rw [e1] at t1
              rw [e2] at t3
              rw [e3] at t4
              have i1 : decide ((d : Int) ≤ 32) = false := by simp; omega
              have i3 : decide ((124 : Int) ≤ (c : Int)) = false := by simp; omega
              have i6 : ((d : Int) == 0) = false := by simp; omega
              have i8 : ((c : Int) == 124) = false := by simp; omega
              clear e1 e2 e3 h5 h8
              go_wp2_with fail
              refine (t1.out _ (La (La (Lz _)))).mono ?_
              rintro e w2 ⟨rfl, l2⟩
              have M2 : Later wr w2 := (La (La (Lz wr))).trans l2
              have x0 := M2.cell_of c0
              have x1 := M2.cell_of c1
              have u0 : w2.cell? ⟨wr.heap.size + 1, 0, none⟩ = some (.slice none 0 0) := l2.cell_of (by simp [go_sem])
              have u1 : w2.cell? ⟨wr.heap.size + 1, 1, none⟩ = some (.slice (some ⟨wr.heap.size, 0, none⟩) 1 1) := l2.cell_of (by simp [go_sem])
              have g0 : w2.cell? ⟨wr.heap.size, 0, none⟩ = some (.int .i64 (c : Int)) := l2.cell_of (by simp [go_sem])
              have y0 := cell_lt x0
              have y1 := cell_lt u0
              have N2 : Hid (Later wr w2) := M2
              clear l2 M2 t1
              go_wp2_with fail
              refine (t3.out _ _ g0).mono ?_
              rintro e w3 ⟨rfl, l3⟩
              replace x0 := l3.cell_of x0
              replace x1 := l3.cell_of x1
              replace u0 := l3.cell_of u0
              replace u1 := l3.cell_of u1
              replace g0 := l3.cell_of g0
              replace y0 := cell_lt x0
              replace y1 := cell_lt u0
              have N3 : Hid (Later wr w3) := N2.out.trans l3
              clear l3 N2 t3
              go_wp2_with fail
              refine (t2.out _ N3.out).mono ?_
              rintro e w4 ⟨rfl, l4⟩
              replace x0 := l4.cell_of x0
              replace x1 := l4.cell_of x1
              replace u0 := l4.cell_of u0
              replace u1 := l4.cell_of u1
              replace g0 := l4.cell_of g0
              replace y0 := cell_lt x0
              replace y1 := cell_lt u0
              have N4 : Hid (Later wr w4) := N3.out.trans l4
              clear l4 N3 t2
              go_wp2_with fail
              refine (t4.out _ _ N4.out g0).mono ?_
              rintro e w5 ⟨rfl, l5⟩
              have N5 : Hid (Later wr w5) := N4.out.trans l5
              clear l5 N4 t4 x0 x1 u0 u1 g0 y0 y1
              go_wp2_with (go_at_call 14; refine (num_any _ _).mono ?_; rintro e w6 ⟨rfl, rfl⟩)
              go_ret
              exact ⟨rfl, z3.out.trans N5.out⟩
            · have e1 : (decide (d ≤ 32) && decide (s ≤ 1)) = false := by simp; omega
              have e2 : decide (124 ≤ c ∧ c ≤ 127) = true := by simp; omega
              have e3 : (decide (d = 0) && (decide (s = 1) && decide (c = 124))) = false := by simp; omega
              rw [e1] at t1
              rw [e2] at t3
              rw [e3] at t4
              have i1 : decide ((d : Int) ≤ 32) = false := by simp; omega
              have i3 : decide ((124 : Int) ≤ (c : Int)) = true := by simp; omega
              have i4 : decide ((c : Int) ≤ 127) = true := by simp; omega
              have i6 : ((d : Int) == 0) = false := by simp; omega
              have i8 : ((c : Int) == 124) = true := by simp; omega
              clear e1 e2 e3 h5 h8
              go_wp2_with fail
              refine (t1.out _ (La (La (Lz _)))).mono ?_
              rintro e w2 ⟨rfl, l2⟩
              have M2 : Later wr w2 := (La (La (Lz wr))).trans l2
              have x0 := M2.cell_of c0
              have x1 := M2.cell_of c1
              have u0 : w2.cell? ⟨wr.heap.size + 1, 0, none⟩ = some (.slice none 0 0) := l2.cell_of (by simp [go_sem])
              have u1 : w2.cell? ⟨wr.heap.size + 1, 1, none⟩ = some (.slice (some ⟨wr.heap.size, 0, none⟩) 1 1) := l2.cell_of (by simp [go_sem])
              have g0 : w2.cell? ⟨wr.heap.size, 0, none⟩ = some (.int .i64 (c : Int)) := l2.cell_of (by simp [go_sem])
              have y0 := cell_lt x0
              have y1 := cell_lt u0
              have N2 : Hid (Later wr w2) := M2
              clear l2 M2 t1
              go_wp2_with fail
              refine (t3.out _ _ g0).mono ?_
              rintro e w3 ⟨rfl, l3⟩
              replace x0 := l3.cell_of x0
              replace x1 := l3.cell_of x1
              replace u0 := l3.cell_of u0
              replace u1 := l3.cell_of u1
              replace g0 := l3.cell_of g0
              replace y0 := cell_lt x0
              replace y1 := cell_lt u0
              have N3 : Hid (Later wr w3) := N2.out.trans l3
              clear l3 N2 t3
              go_wp2_with fail
              refine (t2.out _ N3.out).mono ?_
              rintro e w4 ⟨rfl, l4⟩
              replace x0 := l4.cell_of x0
              replace x1 := l4.cell_of x1
              replace u0 := l4.cell_of u0
              replace u1 := l4.cell_of u1
              replace g0 := l4.cell_of g0
              replace y0 := cell_lt x0
              replace y1 := cell_lt u0
              have N4 : Hid (Later wr w4) := N3.out.trans l4
              clear l4 N3 t2
              go_wp2_with fail
              refine (t4.out _ _ N4.out g0).mono ?_
              rintro e w5 ⟨rfl, l5⟩
              have N5 : Hid (Later wr w5) := N4.out.trans l5
              clear l5 N4 t4 x0 x1 u0 u1 g0 y0 y1
              go_wp2_with (go_at_call 14; refine (num_any _ _).mono ?_; rintro e w6 ⟨rfl, rfl⟩)
              go_ret
              exact ⟨rfl, z3.out.trans N5.out⟩
            · have e1 : (decide (d ≤ 32) && decide (s ≤ 1)) = false := by simp; omega
              have e2 : decide (124 ≤ c ∧ c ≤ 127) = true := by simp; omega
              have e3 : (decide (d = 0) && (decide (s = 1) && decide (c = 124))) = false := by simp; omega
              rw [e1] at t1
              rw [e2] at t3
              rw [e3] at t4
              have i1 : decide ((d : Int) ≤ 32) = false := by simp; omega
              have i3 : decide ((124 : Int) ≤ (c : Int)) = true := by simp; omega
              have i4 : decide ((c : Int) ≤ 127) = true := by simp; omega
              have i6 : ((d : Int) == 0) = false := by simp; omega
              have i8 : ((c : Int) == 124) = false := by simp; omega
              clear e1 e2 e3 h5 h8 h9
              go_wp2_with fail
              refine (t1.out _ (La (La (Lz _)))).mono ?_
              rintro e w2 ⟨rfl, l2⟩
              have M2 : Later wr w2 := (La (La (Lz wr))).trans l2
              have x0 := M2.cell_of c0
              have x1 := M2.cell_of c1
              have u0 : w2.cell? ⟨wr.heap.size + 1, 0, none⟩ = some (.slice none 0 0) := l2.cell_of (by simp [go_sem])
              have u1 : w2.cell? ⟨wr.heap.size + 1, 1, none⟩ = some (.slice (some ⟨wr.heap.size, 0, none⟩) 1 1) := l2.cell_of (by simp [go_sem])
              have g0 : w2.cell? ⟨wr.heap.size, 0, none⟩ = some (.int .i64 (c : Int)) := l2.cell_of (by simp [go_sem])
              have y0 := cell_lt x0
              have y1 := cell_lt u0
              have N2 : Hid (Later wr w2) := M2
              clear l2 M2 t1
              go_wp2_with fail
              refine (t3.out _ _ g0).mono ?_
              rintro e w3 ⟨rfl, l3⟩
              replace x0 := l3.cell_of x0
              replace x1 := l3.cell_of x1
              replace u0 := l3.cell_of u0
              replace u1 := l3.cell_of u1
              replace g0 := l3.cell_of g0
              replace y0 := cell_lt x0
              replace y1 := cell_lt u0
              have N3 : Hid (Later wr w3) := N2.out.trans l3
              clear l3 N2 t3
              go_wp2_with fail
              refine (t2.out _ N3.out).mono ?_
              rintro e w4 ⟨rfl, l4⟩
              replace x0 := l4.cell_of x0
              replace x1 := l4.cell_of x1
              replace u0 := l4.cell_of u0
              replace u1 := l4.cell_of u1
              replace g0 := l4.cell_of g0
              replace y0 := cell_lt x0
              replace y1 := cell_lt u0
              have N4 : Hid (Later wr w4) := N3.out.trans l4
              clear l4 N3 t2
              go_wp2_with fail
              refine (t4.out _ _ N4.out g0).mono ?_
              rintro e w5 ⟨rfl, l5⟩
              have N5 : Hid (Later wr w5) := N4.out.trans l5
              clear l5 N4 t4 x0 x1 u0 u1 g0 y0 y1
              go_wp2_with (go_at_call 14; refine (num_any _ _).mono ?_; rintro e w6 ⟨rfl, rfl⟩)
              go_ret
              exact ⟨rfl, z3.out.trans N5.out⟩
            · have e1 : (decide (d ≤ 32) && decide (s ≤ 1)) = false := by simp; omega
              have e2 : decide (124 ≤ c ∧ c ≤ 127) = false := by simp; omega
              have e3 : (decide (d = 0) && (decide (s = 1) && decide (c = 124))) = false := by simp; omega
              rw [e1] at t1
              rw [e2] at t3
              rw [e3] at t4
              have i1 : decide ((d : Int) ≤ 32) = false := by simp; omega
              have i3 : decide ((124 : Int) ≤ (c : Int)) = true := by simp; omega
              have i4 : decide ((c : Int) ≤ 127) = false := by simp; omega
              have i6 : ((d : Int) == 0) = false := by simp; omega
              have i8 : ((c : Int) == 124) = false := by simp; omega
              clear e1 e2 e3 h5 h8
              go_wp2_with fail
              refine (t1.out _ (La (La (Lz _)))).mono ?_
              rintro e w2 ⟨rfl, l2⟩
              have M2 : Later wr w2 := (La (La (Lz wr))).trans l2
              have x0 := M2.cell_of c0
              have x1 := M2.cell_of c1
              have u0 : w2.cell? ⟨wr.heap.size + 1, 0, none⟩ = some (.slice none 0 0) := l2.cell_of (by simp [go_sem])
              have u1 : w2.cell? ⟨wr.heap.size + 1, 1, none⟩ = some (.slice (some ⟨wr.heap.size, 0, none⟩) 1 1) := l2.cell_of (by simp [go_sem])
              have g0 : w2.cell? ⟨wr.heap.size, 0, none⟩ = some (.int .i64 (c : Int)) := l2.cell_of (by simp [go_sem])
              have y0 := cell_lt x0
              have y1 := cell_lt u0
              have N2 : Hid (Later wr w2) := M2
              clear l2 M2 t1
              go_wp2_with fail
              refine (t3.out _ _ g0).mono ?_
              rintro e w3 ⟨rfl, l3⟩
              replace x0 := l3.cell_of x0
              replace x1 := l3.cell_of x1
              replace u0 := l3.cell_of u0
              replace u1 := l3.cell_of u1
              replace g0 := l3.cell_of g0
              replace y0 := cell_lt x0
              replace y1 := cell_lt u0
              have N3 : Hid (Later wr w3) := N2.out.trans l3
              clear l3 N2 t3
              go_wp2_with fail
              refine (t2.out _ N3.out).mono ?_
              rintro e w4 ⟨rfl, l4⟩
              replace x0 := l4.cell_of x0
              replace x1 := l4.cell_of x1
              replace u0 := l4.cell_of u0
              replace u1 := l4.cell_of u1
              replace g0 := l4.cell_of g0
              replace y0 := cell_lt x0
              replace y1 := cell_lt u0
              have N4 : Hid (Later wr w4) := N3.out.trans l4
              clear l4 N3 t2
              go_wp2_with fail
              refine (t4.out _ _ N4.out g0).mono ?_
              rintro e w5 ⟨rfl, l5⟩
              have N5 : Hid (Later wr w5) := N4.out.trans l5
              clear l5 N4 t4 x0 x1 u0 u1 g0 y0 y1
              go_wp2_with (go_at_call 14; refine (num_any _ _).mono ?_; rintro e w6 ⟨rfl, rfl⟩)
              go_ret
              exact ⟨rfl, z3.out.trans N5.out⟩

set_option maxRecDepth 100000 in
theorem lifted (os : Os) (started : os.Started) (H : Type) (enc : TypeId × Value → H) :
    ReturnsInHanded {} Try.checked os 5 .any (Rows.ftypeMaySpec.pre6 enc Try.prog Try.f5 Rows.ftypeMayRow.domain false) (Rows.ftypeMaySpec.post enc Try.prog Try.f5 false true false false) := by
  refine returnsInHanded_of_change_sized (C := Try.checked) own started (by kernel_rfl) Try.func5
    (ChangeSpec.witness6 (enc := enc) (C := Try.checked) false ⟨#[], #[.int .i64 0, .int .i64 0, .int .i64 0], []⟩ 8 (by kernel_rfl) (by kernel_rfl) (by kernel_rfl) (by kernel_rfl)) ?_
  intro W base args ds gs before hval0 hW _ _ _
  have hval : ∀ (j : Nat) t v, Try.f5.params[j]? = some t → args[j]? = some v → Value.okWide Try.prog W .any base t v := hval0
  have hW' := hW
  obtain ⟨p, q, hA0, hV, rfl, hfz, hnd⟩ := hW
  have hA : DataW.TrodAll enc Try.prog W 0 (fun _ => true) true Try.f5.params.toList args.toList ds p := hA0
  rw [Try.params5] at hA hval
  obtain ⟨v0, vs0, d0, ds0, p0, q0, hargs, rfl, rfl, h0, r0⟩ := trodAll_cons hA
  obtain ⟨v1, vs1, d1, ds1, p1, q1, rfl, rfl, rfl, h1, r1⟩ := trodAll_cons r0
  obtain ⟨v2, vs2, d2, ds2, p2, q2, rfl, rfl, rfl, h2, r2⟩ := trodAll_cons r1
  obtain ⟨rfl, rfl, rfl⟩ := trodAll_nil r2
  obtain rfl : args = #[v0, v1, v2] := by cases args; simp_all
  obtain ⟨rfl, rfl⟩ := trodVars_none hV
  obtain ⟨a0, rfl, rfl, rfl, w0⟩ := open_int Try.underlying3 (hval 0 3 v0 rfl rfl) h0
  obtain ⟨a1, rfl, rfl, rfl, w1⟩ := open_int Try.underlying3 (hval 1 3 v1 rfl rfl) h1
  obtain ⟨a2, rfl, rfl, rfl, w2⟩ := open_int Try.underlying3 (hval 2 3 v2 rfl rfl) h2
  clear hA0 hval0
  simp only [List.append_nil, List.nil_append] at hW'
  have hlt : ∀ x ∈ ([] : List MemPlace), x.block < W.heap.size := fun x hx => by simpa using hW'.lt x hx
  refine (walk a0 a1 a2 W ).mono fun e W' ⟨he, hl⟩ => ?_
  subst he
  have hbel : Below W.heap.size W W' := by obtain ⟨bs, nn, rfl⟩ := hl; exact ⟨rfl, rfl, rfl, by rw [World.far_size]; omega, fun k hk => World.far_block W bs nn k hk⟩
  have hx : ∀ sp : Nat → Bool, (∀ p ∈ ([] : List MemPlace), sp p.block = true) → DataW.TrodAll enc Try.prog W' 0 sp true [3, 3, 3] [.int .i64 a0, .int .i64 a1, .int .i64 a2] [.lit (.int .i64 a0), .lit (.int .i64 a1), .lit (.int .i64 a2)] (([] : List MemPlace)) := fun sp hsp => by simpa using (trodAll_cons_mk (shut_int Try.underlying3 w0) (trodAll_cons_mk (shut_int Try.underlying3 w1) (trodAll_cons_mk (shut_int Try.underlying3 w2) trodAll_mk0)))
  exact ⟨_, rfl, post_kept (pa := ([] : List MemPlace)) (pv := []) hW' (fun _ _ _ => (trodAll_cons_mk (shut_bool Try.underlying4 _) trodAll_mk0)) (fun sp hsp => hx sp hsp) (fun _ _ => rfl) (by simp) (hbel.frame _) hbel.block (ok_one (by kernel_rfl) rfl (okWide_bool_mk Try.underlying4 _))⟩

theorem over : Rows.ftypeMayRow.holds Try.pinned (OpenSpec.ofChange Rows.ftypeMaySpec) :=
  OpenClaim.holds_of_wide 5 Try.f5 rfl rfl rfl rfl rfl rfl rfl ⟨rfl, rfl, rfl, rfl, rfl⟩ rfl rfl rfl rfl rfl (by kernel_rfl) Try.func5 (by kernel_rfl)
    (of_decide_eq_true (by kernel_rfl)) (by unfold Func.isWrapper; first | (rw [if_pos (by decide +kernel)]; kernel_rfl) | (rw [if_neg (by decide +kernel)]; exact ⟨rfl, rfl⟩))
    (fun os started H enc _ => lifted os started H enc)


theorem proved : Rows.FtypeMaySaid := over
end Go.Proofs.Ytolcabcfllafeaa.ftypeMay
namespace Go.Proofs.Ytolcabcfllafeaa
theorem ftypeMay_holds : Rows.FtypeMaySaid := ftypeMay.proved
#print axioms ftypeMay_holds
end Go.Proofs.Ytolcabcfllafeaa
