/- 'ApplyEach' of package peloruslaw7 returns true at every two ints: each numeric operation, of the same bits, has the document's type and answers as the document says; a result is a value of its type. No condition. -/
import Derived.Test.YtdfgcagbpndabaaGreatDoorVM
import Derived.Test.YtdfgcagbpndabaaGreatDoorCards
import Derived.Test.YtdfgcagbpndabaaGreatDoorTie
import Derived.LoopTactic
import Derived.OpenShut
set_option linter.unusedVariables false
set_option linter.unusedSimpArgs false
set_option maxRecDepth 100000
set_option maxHeartbeats 60000000
namespace Go.Proofs.YtdfgcagbpndabaaGreatDoor.applyEach
open Go.ChangeShapes Go.WideShapes Go.ChangeAt Go.RowKit Go.AM
theorem core (a b : Int) (w : World) (hT : Hid (Tabs w)) (ha : Hid (inI a)) (hB64 : Hid (inI b)) :
    RW Tryz.prog 4 #[.int .i64 a, .int .i64 b] w (.bool true) := by
  go_enter Tryz.func4, Tryz.ntmps4
  go_wp2_with fail
  refine (awake_any _).mono ?_
  rintro e w' ⟨rfl, bs0, n0, rfl⟩
  go_wp2
  go_loopw [5] (fun i wr => ∃ j : Nat, j ≤ 125 ∧ i = .int .i64 ((68 + j : Nat) : Int) ∧ Later w wr) (fun i _ => 193 - (intOf i).toNat)
  case atStart => exact ⟨0, Nat.zero_le _, rfl, ⟨_, _, rfl⟩⟩
  case round =>
    obtain ⟨j, hj, rfl, hlr⟩ := hrel
    replace hlr : Hid (Later w wr) := hlr
    by_cases hlt : j < 125
    · obtain ⟨op, hop⟩ : ∃ op : Int, ((68 + j : Nat) : Int) = op := ⟨_, rfl⟩
      rw [hop]
      have o1 : 68 ≤ op := by omega
      have o2 : op ≤ 192 := by omega
      have HO : Hid (op = ((68 + j : Nat) : Int)) := hop.symm
      clear hop
      by_cases hb : 69 ≤ op ∧ op ≤ 191
      · rcases kC_or op with hc | hc
        · have hR := rt1 op hb hc
          have hA := at1 op hb hc
          have hr : Hid (kR op = 127 ∨ kR op = 126 ∨ kR op = 125 ∨ kR op = 124) := kR_or op hb.1 hb.2
          have hp : kP op = 127 ∨ kP op = 125 ∨ kP op = 126 ∨ kP op = 124 := by have := kP_or op hb.1 hb.2; omega
          have hOA := oa1 op a hb hc ha.out w hT.out
          clear hb hc
          generalize kP op = p at *
          generalize kR op = r at *
          rcases hp with h127 | h125 | hw
          all_goals first
            | (have z1 : (p == 127) = true := (by rw [h127]; rfl); rw [cut_low p a (Or.inl h127)] at hOA; have hm := and_low a; have hm2 := and_low b; generalize a % 4294967296 = xa at *; generalize b % 4294967296 = xb at *; clear h127)
            | (have z1 : (p == 127) = false := (by rw [h125]; rfl); have z2 : (p == 125) = true := (by rw [h125]; rfl); rw [cut_low p a (Or.inr h125)] at hOA; have hm := and_low a; have hm2 := and_low b; generalize a % 4294967296 = xa at *; generalize b % 4294967296 = xb at *; clear h125)
            | (have z1 : (p == 127) = false := (by rcases hw with rfl | rfl <;> rfl); have z2 : (p == 125) = false := (by rcases hw with rfl | rfl <;> rfl); rw [cut_wide p a (by omega) (by omega)] at hOA; clear hw)
          all_goals
            as_aux_lemma =>
              go_wp2_with fail
              refine (hR _).mono ?_
              rintro e w1 ⟨B, C, cp, rfl, hl, hB0, hC0, hBC, hB, hC⟩
              have L1 : Hid (Later w w1) := (later_of hlr).trans (Later.trans (by repeat first | exact Lz _ | apply La | apply Lp | apply Lv | apply Ln | apply Ld) (later_of hl))
              have b0 := hB.out.cell (j := 0) (x := p) rfl
              have q0 := hC.out.cell (j := 0) (x := r) rfl
              have lB := hB.out.lt
              have lC := hC.out.lt
              clear hB0 hC0 hl hlr
              obtain ⟨i0, hi, hz0, hz1, hz2⟩ := info_parts info_val
              go_wp2_with fail
              refine wp_loop_rounds 2 ?_
              rw [rounds_succ]
              go_wp2_with (at_builtin; refine wpList_append_later (Lz _) rfl _ _ 22 rfl 33 i0 (.agg #[.int .i64 0, .int .i64 0]) 2 16 Tryz.underlying22 hi hz0 hz1 hz2 rfl (by decide) _ _ _ rfl (World.ownsRow_nil _ _ _ _) _ 1 _ [.int .i64 p, .int .i64 _] rfl rfl (news2 (by simp)) (one2 _ _) (by decide) (by decide) (by decide) ?_; clear b0 q0 lB lC; intro g cap w2 hown hL2; simp only [Nat.zero_add, List.nil_append, List.cons_append] at hown; have v0 := owns_cell hown (j := 0) rfl; have v1 := owns_cell hown (j := 1) rfl; have lg := (owns_base hown).2; have t0 : w2.cell? ⟨w1.heap.size, 0, none⟩ = some (.slice (some ⟨B, 0, none⟩) 1 cp) := (later_of hL2).cell_of (by simp [go_sem]); have t1 : w2.cell? ⟨w1.heap.size, 1, none⟩ = some (.slice (some ⟨C, 0, none⟩) 1 1) := (later_of hL2).cell_of (by simp [go_sem]); have Lw2 : Hid (Later w1 w2) := Later.trans (by repeat first | exact Lz _ | apply La | apply Lp | apply Lv | apply Ln | apply Ld) (later_of hL2); have b0 := (hB.out.later (later_of Lw2)).cell (j := 0) (x := p) rfl; have q0 := (hC.out.later (later_of Lw2)).cell (j := 0) (x := r) rfl; have lT := cell_lt t0; have lB := cell_lt b0; have lC := cell_lt q0)
              rw [rounds_succ]
              have Lv : Hid (Later w w2) := (later_of L1).trans (later_of Lw2)
              obtain ⟨A4, B4, C4, hof, hap, HW⟩ := hOA w2 g cap Lv v0 v1
              clear hOA hown hL2 Lw2 L1 hB hC
              go_wp2_with fail
              refine (hA _).mono ?_
              rintro e w4 ⟨B2, C2, cp2, rfl, h4, hB4, hC4, hBC4, hB2, hC2⟩
              have L4 : Hid (Later w2 w4) := Later.trans (by repeat first | exact Lz _ | apply La | apply Lp | apply Lv | apply Ln | apply Ld) (later_of h4)
              replace v0 := (later_of L4).cell_of v0
              replace v1 := (later_of L4).cell_of v1
              replace t0 := (later_of L4).cell_of t0
              replace t1 := (later_of L4).cell_of t1
              replace b0 := (later_of L4).cell_of b0
              replace q0 := (later_of L4).cell_of q0
              clear lT lB lC lg
              have lT := cell_lt t0
              have lB := cell_lt b0
              have lC := cell_lt q0
              have lg := cell_lt v0
              have e0 := hB2.out.cell (j := 0) (x := p) rfl
              have f0 := hC2.out.cell (j := 0) (x := r) rfl
              have le := cell_lt e0
              have lf := cell_lt f0
              clear h4 hB4 hC4 hB2 hC2
              go_wp2_with fail
              refine (hof _ (Later.trans (later_of L4) (by repeat first | exact Lz _ | apply La | apply Lp | apply Lv | apply Ln | apply Ld))).mono ?_
              rintro e w5 ⟨rfl, h5⟩
              have L5 : Hid (Later w4 w5) := Later.trans (by repeat first | exact Lz _ | apply La | apply Lp | apply Lv | apply Ln | apply Ld) h5
              have p0 : w5.cell? ⟨w4.heap.size, 0, none⟩ = some (.slice (some ⟨B2, 0, none⟩) 1 cp2) := h5.cell_of (by simp [go_sem])
              have p1 : w5.cell? ⟨w4.heap.size, 1, none⟩ = some (.slice (some ⟨C2, 0, none⟩) 1 1) := h5.cell_of (by simp [go_sem])
              replace h5 : Hid True := trivial
              clear v0 v1 lg
              replace t0 := (later_of L5).cell_of t0
              replace t1 := (later_of L5).cell_of t1
              replace b0 := (later_of L5).cell_of b0
              replace q0 := (later_of L5).cell_of q0
              replace e0 := (later_of L5).cell_of e0
              replace f0 := (later_of L5).cell_of f0
              clear lT lB lC le lf
              have lT := cell_lt t0
              have lB := cell_lt b0
              have lC := cell_lt q0
              have le := cell_lt e0
              have lf := cell_lt f0
              have lp := cell_lt p0
              go_wp2_with fail
              refine (hap _ (Later.trans ((later_of L4).trans (later_of L5)) (by repeat first | exact Lz _ | apply La | apply Lp | apply Lv | apply Ln | apply Ld))).mono ?_
              rintro e w6 ⟨rfl, h6⟩
              have L6 : Hid (Later w5 w6) := Later.trans (by repeat first | exact Lz _ | apply La | apply Lp | apply Lv | apply Ln | apply Ld) h6
              have u0 : w6.cell? ⟨w5.heap.size, 0, none⟩ = some (.int .i64 A4) := h6.cell_of (by simp [go_sem])
              have u1 : w6.cell? ⟨w5.heap.size, 1, none⟩ = some (.int .i64 B4) := h6.cell_of (by simp [go_sem])
              replace h6 : Hid True := trivial
              replace t0 := (later_of L6).cell_of t0
              replace t1 := (later_of L6).cell_of t1
              replace b0 := (later_of L6).cell_of b0
              replace q0 := (later_of L6).cell_of q0
              replace e0 := (later_of L6).cell_of e0
              replace f0 := (later_of L6).cell_of f0
              replace p0 := (later_of L6).cell_of p0
              replace p1 := (later_of L6).cell_of p1
              clear lT lB lC le lf lp
              have lT := cell_lt t0
              have lB := cell_lt b0
              have lC := cell_lt q0
              have le := cell_lt e0
              have lf := cell_lt f0
              have lp := cell_lt p0
              have lu := cell_lt u0
              have L16 : Hid (Later w w6) := (((later_of Lv).trans (later_of L4)).trans (later_of L5)).trans (later_of L6)
              clear Lv L4 L5 L6
              go_wp2_with fail
              have hST : Hid (∀ w', Later w6 w' → Calls Tryz.prog 11 #[.agg #[.slice (some ⟨B2, 0, none⟩) 1 cp2, .slice (some ⟨C2, 0, none⟩) 1 1], .agg #[.slice (some ⟨B, 0, none⟩) 1 cp, .slice (some ⟨C, 0, none⟩) 1 1]] w' fun e w2 => e = .returned (.bool true) ∧ Later w' w2) := fun w' hh => stype _ _ _ _ _ _ _ _ _ _ _ _ w' (fun w7 h7 => by
                replace h7 := Later.trans hh h7
                exact same1 p _ _ _ _ w7 (h7.cell_of e0) (h7.cell_of b0) (cell_lt (h7.cell_of e0)) (cell_lt (h7.cell_of b0))) (fun w7 h7 => by
                replace h7 := Later.trans hh h7
                exact same1 r _ _ _ _ w7 (h7.cell_of f0) (h7.cell_of q0) (cell_lt (h7.cell_of f0)) (cell_lt (h7.cell_of q0)))
              clear b0 e0 f0 lB le lf
              rcases HW.out with ⟨rfl, rfl, hok⟩ | ⟨rfl, rfl, hne⟩
              · have hM : MY A4 B4 true := may_true A4 B4 hr.out hok
                clear hok
                refine wp_region_quiet_far (by kernel_rfl) (by kernel_rfl) ?_
                repeat (quiet_step (first | (go_at_call 11; exact Calls.far_of (hST.out _ (by repeat first | exact Lz _ | apply La | apply Lp | apply Lv | apply Ln | apply Ld))) | (go_at_call 12; exact Calls.far_of_same (num_any _ _)) | (go_at_call 16; exact Calls.far_of (hM _))))
                refine wpQuiet_nil ?_
                rintro _ ⟨⟨bs, n⟩, rfl⟩
                go_wp2
                go_roundw
                case rel => exact ⟨j + 1, by omega, by rw [HO.out]; go_num, (later_of L16).trans (by repeat first | exact Lz _ | apply La | apply Lp | apply Lv | apply Ln | apply Ld)⟩
                case measure => simp [intOf]; omega
              · refine wp_region_quiet_far (by kernel_rfl) (by kernel_rfl) ?_
                repeat (quiet_step (first | (go_at_call 11; exact Calls.far_of (hST.out _ (by repeat first | exact Lz _ | apply La | apply Lp | apply Lv | apply Ln | apply Ld))) | (go_at_call 12; exact Calls.far_of_same (num_any _ _))))
                refine wpQuiet_nil ?_
                rintro _ ⟨⟨bs, n⟩, rfl⟩
                go_wp2
                go_roundw
                case rel => exact ⟨j + 1, by omega, by rw [HO.out]; go_num, (later_of L16).trans (by repeat first | exact Lz _ | apply La | apply Lp | apply Lv | apply Ln | apply Ld)⟩
                case measure => simp [intOf]; omega
        · have hR := (rt2 op hb hc).2
          have hA := at2 op hb hc
          have hr : Hid (kR op = 127 ∨ kR op = 126 ∨ kR op = 125 ∨ kR op = 124) := kR_or op hb.1 hb.2
          have hp : kP op = 127 ∨ kP op = 125 ∨ kP op = 126 ∨ kP op = 124 := by have := kP_or op hb.1 hb.2; omega
          have hOA := oa2 op a b hb hc ha.out hB64.out w
          clear hb hc
          generalize kP op = p at *
          generalize kR op = r at *
          rcases hp with h127 | h125 | hw
          all_goals first
            | (have z1 : (p == 127) = true := (by rw [h127]; rfl); rw [cut_low p a (Or.inl h127), cut_low p b (Or.inl h127)] at hOA; have hm := and_low a; have hm2 := and_low b; generalize a % 4294967296 = xa at *; generalize b % 4294967296 = xb at *; clear h127)
            | (have z1 : (p == 127) = false := (by rw [h125]; rfl); have z2 : (p == 125) = true := (by rw [h125]; rfl); rw [cut_low p a (Or.inr h125), cut_low p b (Or.inr h125)] at hOA; have hm := and_low a; have hm2 := and_low b; generalize a % 4294967296 = xa at *; generalize b % 4294967296 = xb at *; clear h125)
            | (have z1 : (p == 127) = false := (by rcases hw with rfl | rfl <;> rfl); have z2 : (p == 125) = false := (by rcases hw with rfl | rfl <;> rfl); rw [cut_wide p a (by omega) (by omega), cut_wide p b (by omega) (by omega)] at hOA; clear hw)
          all_goals
            as_aux_lemma =>
              go_wp2_with fail
              refine (hR _).mono ?_
              rintro e w1 ⟨B, C, cp, rfl, hl, hB0, hC0, hBC, hB, hC⟩
              have L1 : Hid (Later w w1) := (later_of hlr).trans (Later.trans (by repeat first | exact Lz _ | apply La | apply Lp | apply Lv | apply Ln | apply Ld) (later_of hl))
              have b0 := hB.out.cell (j := 0) (x := p) rfl
              have b1 := hB.out.cell (j := 1) (x := p) rfl
              have q0 := hC.out.cell (j := 0) (x := r) rfl
              have lB := hB.out.lt
              have lC := hC.out.lt
              clear hB0 hC0 hl hlr
              obtain ⟨i0, hi, hz0, hz1, hz2⟩ := info_parts info_val
              go_wp2_with fail
              refine wp_loop_rounds 3 ?_
              rw [rounds_succ]
              go_wp2_with (at_builtin; refine wpList_append_later (Lz _) rfl _ _ 22 rfl 33 i0 (.agg #[.int .i64 0, .int .i64 0]) 2 16 Tryz.underlying22 hi hz0 hz1 hz2 rfl (by decide) _ _ _ rfl (World.ownsRow_nil _ _ _ _) _ 1 _ [.int .i64 p, .int .i64 _] rfl rfl (news2 (by simp)) (one2 _ _) (by decide) (by decide) (by decide) ?_; clear b0 b1 q0 lB lC; intro g cap w2 hown hL2; simp only [Nat.zero_add, List.nil_append, List.cons_append] at hown; have v0 := owns_cell hown (j := 0) rfl; have v1 := owns_cell hown (j := 1) rfl; have lg := (owns_base hown).2; have t0 : w2.cell? ⟨w1.heap.size, 0, none⟩ = some (.slice (some ⟨B, 0, none⟩) 2 cp) := (later_of hL2).cell_of (by simp [go_sem]); have t1 : w2.cell? ⟨w1.heap.size, 1, none⟩ = some (.slice (some ⟨C, 0, none⟩) 1 1) := (later_of hL2).cell_of (by simp [go_sem]); have Lw2 : Hid (Later w1 w2) := Later.trans (by repeat first | exact Lz _ | apply La | apply Lp | apply Lv | apply Ln | apply Ld) (later_of hL2); have b0 := (hB.out.later (later_of Lw2)).cell (j := 0) (x := p) rfl; have b1 := (hB.out.later (later_of Lw2)).cell (j := 1) (x := p) rfl; have q0 := (hC.out.later (later_of Lw2)).cell (j := 0) (x := r) rfl; have lT := cell_lt t0; have lB := cell_lt b0; have lC := cell_lt q0)
              rw [rounds_succ]
              go_wp2_with (at_builtin; refine wpList_append_later (La (later_of hL2)) rfl _ _ 22 rfl 33 i0 (.agg #[.int .i64 0, .int .i64 0]) 2 16 Tryz.underlying22 hi hz0 hz1 hz2 rfl (by decide) _ _ _ rfl (hown.alloc _) _ 1 _ [.int .i64 p, .int .i64 _] rfl rfl (news2 (by simp)) (one2 _ _) (by decide) (by decide) (by decide) ?_; clear b0 b1 q0 lB lC lT lg t0 t1 v0 v1; intro g2 cap2 w3 hown3 hL3; simp only [Nat.zero_add, List.nil_append, List.cons_append] at hown3; have v0 := owns_cell hown3 (j := 0) rfl; have v1 := owns_cell hown3 (j := 1) rfl; have v2 := owns_cell hown3 (j := 2) rfl; have v3 := owns_cell hown3 (j := 3) rfl; have lg := (owns_base hown3).2; have t0 : w3.cell? ⟨w1.heap.size, 0, none⟩ = some (.slice (some ⟨B, 0, none⟩) 2 cp) := (later_of hL3).cell_of (by simp [go_sem]); have t1 : w3.cell? ⟨w1.heap.size, 1, none⟩ = some (.slice (some ⟨C, 0, none⟩) 1 1) := (later_of hL3).cell_of (by simp [go_sem]); have Lw3 : Hid (Later w1 w3) := Later.trans (by repeat first | exact Lz _ | apply La | apply Lp | apply Lv | apply Ln | apply Ld) (later_of hL3); have b0 := (hB.out.later (later_of Lw3)).cell (j := 0) (x := p) rfl; have b1 := (hB.out.later (later_of Lw3)).cell (j := 1) (x := p) rfl; have q0 := (hC.out.later (later_of Lw3)).cell (j := 0) (x := r) rfl; have lT := cell_lt t0; have lB := cell_lt b0; have lC := cell_lt q0)
              rw [rounds_succ]
              have Lv : Hid (Later w w3) := (later_of L1).trans (later_of Lw3)
              obtain ⟨A4, B4, C4, hof, hap, HW⟩ := hOA w3 g2 cap2 Lv v0 v1 v2 v3
              clear hOA hown hL2 Lw2 hown3 hL3 Lw3 L1 hB hC
              go_wp2_with fail
              refine (hA _).mono ?_
              rintro e w4 ⟨B2, C2, cp2, rfl, h4, hB4, hC4, hBC4, hB2, hC2⟩
              have L4 : Hid (Later w3 w4) := Later.trans (by repeat first | exact Lz _ | apply La | apply Lp | apply Lv | apply Ln | apply Ld) (later_of h4)
              replace v0 := (later_of L4).cell_of v0
              replace v1 := (later_of L4).cell_of v1
              replace v2 := (later_of L4).cell_of v2
              replace v3 := (later_of L4).cell_of v3
              replace t0 := (later_of L4).cell_of t0
              replace t1 := (later_of L4).cell_of t1
              replace b0 := (later_of L4).cell_of b0
              replace b1 := (later_of L4).cell_of b1
              replace q0 := (later_of L4).cell_of q0
              clear lT lB lC lg
              have lT := cell_lt t0
              have lB := cell_lt b0
              have lC := cell_lt q0
              have lg := cell_lt v0
              have e0 := hB2.out.cell (j := 0) (x := p) rfl
              have e1 := hB2.out.cell (j := 1) (x := p) rfl
              have f0 := hC2.out.cell (j := 0) (x := r) rfl
              have le := cell_lt e0
              have lf := cell_lt f0
              clear h4 hB4 hC4 hB2 hC2
              go_wp2_with fail
              refine (hof _ (Later.trans (later_of L4) (by repeat first | exact Lz _ | apply La | apply Lp | apply Lv | apply Ln | apply Ld))).mono ?_
              rintro e w5 ⟨rfl, h5⟩
              have L5 : Hid (Later w4 w5) := Later.trans (by repeat first | exact Lz _ | apply La | apply Lp | apply Lv | apply Ln | apply Ld) h5
              have p0 : w5.cell? ⟨w4.heap.size, 0, none⟩ = some (.slice (some ⟨B2, 0, none⟩) 2 cp2) := h5.cell_of (by simp [go_sem])
              have p1 : w5.cell? ⟨w4.heap.size, 1, none⟩ = some (.slice (some ⟨C2, 0, none⟩) 1 1) := h5.cell_of (by simp [go_sem])
              replace h5 : Hid True := trivial
              clear v0 v1 v2 v3 lg
              replace t0 := (later_of L5).cell_of t0
              replace t1 := (later_of L5).cell_of t1
              replace b0 := (later_of L5).cell_of b0
              replace b1 := (later_of L5).cell_of b1
              replace q0 := (later_of L5).cell_of q0
              replace e0 := (later_of L5).cell_of e0
              replace e1 := (later_of L5).cell_of e1
              replace f0 := (later_of L5).cell_of f0
              clear lT lB lC le lf
              have lT := cell_lt t0
              have lB := cell_lt b0
              have lC := cell_lt q0
              have le := cell_lt e0
              have lf := cell_lt f0
              have lp := cell_lt p0
              go_wp2_with fail
              refine (hap _ (Later.trans ((later_of L4).trans (later_of L5)) (by repeat first | exact Lz _ | apply La | apply Lp | apply Lv | apply Ln | apply Ld))).mono ?_
              rintro e w6 ⟨rfl, h6⟩
              have L6 : Hid (Later w5 w6) := Later.trans (by repeat first | exact Lz _ | apply La | apply Lp | apply Lv | apply Ln | apply Ld) h6
              have u0 : w6.cell? ⟨w5.heap.size, 0, none⟩ = some (.int .i64 A4) := h6.cell_of (by simp [go_sem])
              have u1 : w6.cell? ⟨w5.heap.size, 1, none⟩ = some (.int .i64 B4) := h6.cell_of (by simp [go_sem])
              replace h6 : Hid True := trivial
              replace t0 := (later_of L6).cell_of t0
              replace t1 := (later_of L6).cell_of t1
              replace b0 := (later_of L6).cell_of b0
              replace b1 := (later_of L6).cell_of b1
              replace q0 := (later_of L6).cell_of q0
              replace e0 := (later_of L6).cell_of e0
              replace e1 := (later_of L6).cell_of e1
              replace f0 := (later_of L6).cell_of f0
              replace p0 := (later_of L6).cell_of p0
              replace p1 := (later_of L6).cell_of p1
              clear lT lB lC le lf lp
              have lT := cell_lt t0
              have lB := cell_lt b0
              have lC := cell_lt q0
              have le := cell_lt e0
              have lf := cell_lt f0
              have lp := cell_lt p0
              have lu := cell_lt u0
              have L16 : Hid (Later w w6) := (((later_of Lv).trans (later_of L4)).trans (later_of L5)).trans (later_of L6)
              clear Lv L4 L5 L6
              go_wp2_with fail
              have hST : Hid (∀ w', Later w6 w' → Calls Tryz.prog 11 #[.agg #[.slice (some ⟨B2, 0, none⟩) 2 cp2, .slice (some ⟨C2, 0, none⟩) 1 1], .agg #[.slice (some ⟨B, 0, none⟩) 2 cp, .slice (some ⟨C, 0, none⟩) 1 1]] w' fun e w2 => e = .returned (.bool true) ∧ Later w' w2) := fun w' hh => stype _ _ _ _ _ _ _ _ _ _ _ _ w' (fun w7 h7 => by
                replace h7 := Later.trans hh h7
                exact same2 p _ _ _ _ w7 (h7.cell_of e0) (h7.cell_of b0) (h7.cell_of e1) (h7.cell_of b1) (cell_lt (h7.cell_of e0)) (cell_lt (h7.cell_of b0))) (fun w7 h7 => by
                replace h7 := Later.trans hh h7
                exact same1 r _ _ _ _ w7 (h7.cell_of f0) (h7.cell_of q0) (cell_lt (h7.cell_of f0)) (cell_lt (h7.cell_of q0)))
              clear b0 b1 e0 e1 f0 lB le lf
              rcases HW.out with ⟨rfl, rfl, hok⟩ | ⟨rfl, rfl, hne⟩
              · have hM : MY A4 B4 true := may_true A4 B4 hr.out hok
                clear hok
                refine wp_region_quiet_far (by kernel_rfl) (by kernel_rfl) ?_
                repeat (quiet_step (first | (go_at_call 11; exact Calls.far_of (hST.out _ (by repeat first | exact Lz _ | apply La | apply Lp | apply Lv | apply Ln | apply Ld))) | (go_at_call 12; exact Calls.far_of_same (num_any _ _)) | (go_at_call 16; exact Calls.far_of (hM _))))
                refine wpQuiet_nil ?_
                rintro _ ⟨⟨bs, n⟩, rfl⟩
                go_wp2
                go_roundw
                case rel => exact ⟨j + 1, by omega, by rw [HO.out]; go_num, (later_of L16).trans (by repeat first | exact Lz _ | apply La | apply Lp | apply Lv | apply Ln | apply Ld)⟩
                case measure => simp [intOf]; omega
              · refine wp_region_quiet_far (by kernel_rfl) (by kernel_rfl) ?_
                repeat (quiet_step (first | (go_at_call 11; exact Calls.far_of (hST.out _ (by repeat first | exact Lz _ | apply La | apply Lp | apply Lv | apply Ln | apply Ld))) | (go_at_call 12; exact Calls.far_of_same (num_any _ _))))
                refine wpQuiet_nil ?_
                rintro _ ⟨⟨bs, n⟩, rfl⟩
                go_wp2
                go_roundw
                case rel => exact ⟨j + 1, by omega, by rw [HO.out]; go_num, (later_of L16).trans (by repeat first | exact Lz _ | apply La | apply Lp | apply Lv | apply Ln | apply Ld)⟩
                case measure => simp [intOf]; omega
      · as_aux_lemma =>
          obtain ⟨E, hE⟩ : ∃ E : Int, E = 700 := ⟨_, rfl⟩
          have zE : (E == 0) = false := by rw [hE]; rfl
          have zE2 : ¬ E = 0 := by omega
          replace hE : Hid (E = 700) := hE
          go_wp2_with fail
          refine (rtype_badE E op hE.out hb _).mono ?_
          rintro e w1 ⟨rfl, h1⟩
          have L1 : Hid (Later w w1) := (later_of hlr).trans (Later.trans (by repeat first | exact Lz _ | apply La | apply Lp | apply Lv | apply Ln | apply Ld) h1)
          replace h1 : Hid True := trivial
          have HB : Hid (¬ (69 ≤ op ∧ op ≤ 191)) := hb
          clear hlr hb
          go_wp2_with fail
          refine wp_loop_rounds 1 ?_
          rw [rounds_succ]
          go_wp2_with fail
          refine (atype_badE E op hE.out HB.out _).mono ?_
          rintro e w4 ⟨rfl, h4⟩
          have L4 : Hid (Later w1 w4) := Later.trans (by repeat first | exact Lz _ | apply La | apply Lp | apply Lv | apply Ln | apply Ld) h4
          have t0 : w4.cell? ⟨w1.heap.size, 0, none⟩ = some (.slice none 0 0) := h4.cell_of (by simp [go_sem])
          have t1 : w4.cell? ⟨w1.heap.size, 1, none⟩ = some (.slice none 0 0) := h4.cell_of (by simp [go_sem])
          replace h4 : Hid True := trivial
          go_wp2_with fail
          refine (aof_badE E op _ hE.out HB.out _).mono ?_
          rintro e w5 ⟨rfl, h5⟩
          have L5 : Hid (Later w4 w5) := Later.trans (by repeat first | exact Lz _ | apply La | apply Lp | apply Lv | apply Ln | apply Ld) h5
          have p0 : w5.cell? ⟨w4.heap.size, 0, none⟩ = some (.slice none 0 0) := h5.cell_of (by simp [go_sem])
          have p1 : w5.cell? ⟨w4.heap.size, 1, none⟩ = some (.slice none 0 0) := h5.cell_of (by simp [go_sem])
          replace h5 : Hid True := trivial
          replace t0 := (later_of L5).cell_of t0
          replace t1 := (later_of L5).cell_of t1
          go_wp2_with fail
          refine (rap_badE E op _ hE.out HB.out _).mono ?_
          rintro e w6 ⟨rfl, h6⟩
          have L6 : Hid (Later w5 w6) := Later.trans (by repeat first | exact Lz _ | apply La | apply Lp | apply Lv | apply Ln | apply Ld) h6
          have u0 : w6.cell? ⟨w5.heap.size, 0, none⟩ = some (.int .i64 0) := h6.cell_of (by simp [go_sem])
          have u1 : w6.cell? ⟨w5.heap.size, 1, none⟩ = some (.int .i64 0) := h6.cell_of (by simp [go_sem])
          replace h6 : Hid True := trivial
          replace t0 := (later_of L6).cell_of t0
          replace t1 := (later_of L6).cell_of t1
          replace p0 := (later_of L6).cell_of p0
          replace p1 := (later_of L6).cell_of p1
          have lT := cell_lt t0
          have lp := cell_lt p0
          have lu := cell_lt u0
          have L16 : Hid (Later w w6) := (((later_of L1).trans (later_of L4)).trans (later_of L5)).trans (later_of L6)
          clear L1 L4 L5 L6
          have hST : Hid (∀ w' : World, Calls Tryz.prog 11 #[.agg #[.slice none 0 0, .slice none 0 0], .agg #[.slice none 0 0, .slice none 0 0]] w' fun e w2 => e = .returned (.bool true) ∧ Later w' w2) := fun w' => stype _ _ _ _ _ _ _ _ _ _ _ _ w' (fun w7 h7 => same0 w7) (fun w7 h7 => same0 w7)
          go_wp2_with fail
          refine wp_region_quiet_far (by kernel_rfl) (by kernel_rfl) ?_
          repeat (go_big_quiet_step (first | (go_at_call 11; exact Calls.far_of (hST.out _)) | (go_at_call 12; exact Calls.far_of_same (num_any _ _))))
          refine wpQuiet_nil ?_
          rintro _ ⟨⟨bs, n⟩, rfl⟩
          go_wp2
          go_roundw
          case rel => exact ⟨j + 1, by omega, by rw [HO.out]; go_num, (later_of L16).trans (by repeat first | exact Lz _ | apply La | apply Lp | apply Lv | apply Ln | apply Ld)⟩
          case measure => simp [intOf]; omega
    · have hjw : j = 125 := by omega
      subst hjw
      go_wp2
      go_ret
      exact ⟨rfl, (later_of hlr).trans (by repeat first | exact Lz _ | apply La | apply Lp | apply Lv | apply Ln | apply Ld)⟩
theorem walk (a0 : Int) (a1 : Int) (w0 : (Lit.int .i64 a0).wf = true) (w1 : (Lit.int .i64 a1).wf = true) (w : World) (hT : Tabs w) :
    Calls Tryz.prog 4 #[.int .i64 a0, .int .i64 a1] w fun e w' => e = .returned (.bool true) ∧ Grown w w' :=
  (core a0 a1 w hT (bounds_i64 w0) (bounds_i64 w1)).mono (fun e w' h => ⟨h.1, h.2.grown⟩)

set_option maxRecDepth 100000 in
theorem lifted (os : Os) (started : os.Started) (H : Type) (enc : TypeId × Value → H) :
    ReturnsInHanded {} Tryz.checked os 4 .any (fun w args => (Rows.applyEachSpec.pre enc Tryz.prog Tryz.f4 [] false w args ∧ laidMetH Tryz.prog tabs w) ∧ sizedMet enc Tryz.prog Tryz.f4 (OpenSpec.ofChange Rows.applyEachSpec) false w args)
      (Rows.applyEachSpec.post enc Tryz.prog Tryz.f4 false true false false) := by
  refine returnsInHanded_of_change_and (C := Tryz.checked) (X := fun w _ => laidMetH Tryz.prog tabs w) (fun _ _ _ hh h => h.of_heap hh) own started (by kernel_rfl) Tryz.func4
    (ChangeSpec.witness_shaped (enc := enc) (C := Tryz.checked) (os := os) (X := fun w _ => laidMetH Tryz.prog tabs w) false (World.doorLaid Tryz.prog 400 os) #[.int .i64 0, .int .i64 0] 8 rfl (World.shaped_of_RefB (by kernel_rfl) (by kernel_rfl)) (by kernel_rfl) (by kernel_rfl) (by kernel_rfl) (door_met os _)) ?_
  intro W base args ds gs before hval0 hW _ _ hL _
  have hval : ∀ (j : Nat) t v, Tryz.f4.params[j]? = some t → args[j]? = some v → Value.okWide Tryz.prog W .any base t v := hval0
  have hW' := hW
  obtain ⟨p, q, hA0, hV, rfl, hfz, hnd⟩ := hW
  have hA : DataW.TrodAll enc Tryz.prog W 0 (fun _ => true) true Tryz.f4.params.toList args.toList ds p := hA0
  rw [Tryz.params4] at hA hval
  obtain ⟨v0, vs0, d0, ds0, p0, q0, hargs, rfl, rfl, h0, r0⟩ := trodAll_cons hA
  obtain ⟨v1, vs1, d1, ds1, p1, q1, rfl, rfl, rfl, h1, r1⟩ := trodAll_cons r0
  obtain ⟨rfl, rfl, rfl⟩ := trodAll_nil r1
  obtain rfl : args = #[v0, v1] := by cases args; simp_all
  obtain ⟨rfl, rfl⟩ := trodVars_none hV
  obtain ⟨a0, rfl, rfl, rfl, w0⟩ := open_int Tryz.underlying3 (hval 0 3 v0 rfl rfl) h0
  obtain ⟨a1, rfl, rfl, rfl, w1⟩ := open_int Tryz.underlying3 (hval 1 3 v1 rfl rfl) h1
  clear hA0 hval0
  simp only [List.append_nil] at hW'
  refine (walk a0 a1 w0 w1 W (of_laid hL)).mono fun e W' ⟨he, hg⟩ => ?_
  subst he
  exact ⟨_, rfl, post_of_same (pa := []) (pv := []) hW' (fun _ _ _ => (trodAll_cons_mk (shut_bool Tryz.underlying4 _) trodAll_mk0)) (fun sp _ => (trodAll_cons_mk (shut_int Tryz.underlying3 w0) (trodAll_cons_mk (shut_int Tryz.underlying3 w1) trodAll_mk0))) (fun _ _ => rfl) rfl
    (hg.frame _) hg.2.1 (ok_one (by kernel_rfl) rfl (okWide_bool_mk Tryz.underlying4 _))⟩

theorem over : Rows.applyEachRow.holds Tryz.pinned (OpenSpec.ofChange Rows.applyEachSpec) :=
  OpenClaim.holds_of_wide 4 Tryz.f4 rfl rfl rfl rfl rfl rfl rfl ⟨rfl, rfl, rfl, rfl, rfl⟩ rfl rfl rfl rfl rfl (by kernel_rfl) Tryz.func4 (by kernel_rfl)
    (of_decide_eq_true (by kernel_rfl)) (by unfold Func.isWrapper; first | (rw [if_pos (by decide +kernel)]; kernel_rfl) | (rw [if_neg (by decide +kernel)]; exact ⟨rfl, rfl⟩))
    (fun os started H enc _ => lifted os started H enc)

theorem row_holds : Rows.ApplyEachSaid := over

theorem card_holds : Rows.ApplyEachCardSaid :=
  Claim7.holds_tied_plain_at .later [] [.data, .data] true (true, "858e6e0648fcb45bf74692b8baf86f4e36d11ad85089584bc713cf3883128cf4") false
    row_holds (fun _ h => by cases h) (by kernel_rfl) (fun _ h => by cases h) applyEach_row_tie rfl ⟨rfl, rfl⟩ (by kernel_rfl) rfl
    (fun f fn hf hfn => by
      obtain rfl : f = 4 := Option.some.inj ((show Tryz.prog.funcNamed Rows.applyEachRow.func = some 4 by kernel_rfl).symm.trans hf) |>.symm
      obtain rfl : fn = Tryz.f4 := (Option.some.inj (Tryz.func4.symm.trans hfn)).symm
      exact ⟨by kernel_rfl, fun j t ht => by
        rw [Tryz.params4] at ht
        have hm : t ∈ [3, 3] := by simpa using Array.mem_of_getElem? ht
        have hall : ([3, 3].all fun u => !Tryz.prog.wantsStandIn u) = true := by kernel_rfl
        exact (show Tryz.prog.wantsStandIn t = false by simpa using List.all_eq_true.1 hall t hm)⟩)
    (by kernel_rfl)
end Go.Proofs.YtdfgcagbpndabaaGreatDoor.applyEach
namespace Go.Proofs.YtdfgcagbpndabaaGreatDoor
theorem applyEach_holds : Rows.ApplyEachCardSaid := applyEach.card_holds
#print axioms applyEach_holds
end Go.Proofs.YtdfgcagbpndabaaGreatDoor

