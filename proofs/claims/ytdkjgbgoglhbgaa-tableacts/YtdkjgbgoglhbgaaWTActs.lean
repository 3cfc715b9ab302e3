/- 'TableActs' of package peloruslaw9 returns true at all limits and every list of acts: a table under any calls answers as the document's table, call by call, and holds the same functions; lists stay. No condition. -/
import Derived.Test.YtdkjgbgoglhbgaaNI
import Derived.LoopTactic
import Derived.OpenShut
import Derived.Carry
import Derived.Deep.Slices
import Derived.Deep.RegionHeld3
import Derived.RegionCalls
import Derived.ChangeMaps5
import Derived.Lib.SmallJoins
import Derived.SizedLaws
set_option linter.unusedVariables false
set_option linter.unusedSimpArgs false
set_option maxRecDepth 100000
set_option maxHeartbeats 8000000
namespace Go.Proofs.Ytdkjgbgoglhbgaa.tableActs
open Go.ChangeShapes Go.WideShapes Go.ChangeAt Go.RowKit
def actV (t : Int) (S : Option Addr) (m c : Nat) (q : Int) (i : Nat) : Value := if i = 0 then .int .i64 t else if i = 1 then .slice S m c else .int .i64 q
theorem act_row (w : World) (t : Int) (S : Option Addr) (m c : Nat) (q : Int) : (w.alloc (.cells #[.int .i64 t, .slice S m c, .int .i64 q] 36)).rowIs w.heap.size 36 3 (actV t S m c q) := by
  refine World.rowIs_alloc w #[.int .i64 t, .slice S m c, .int .i64 q] _ _ ?_
  intro i hi
  match i, hi with
  | 0, _ => rfl
  | 1, _ => rfl
  | 2, _ => rfl
theorem core_bad (l0 l1 : Int) (A : Option Addr) (n cap : Nat) (w : World) (h : ¬ Fine l0 l1) :
    Calls Try.prog 3 #[.agg #[.int .i64 l0, .int .i64 l1], .slice A n cap] w fun e w' => e = .returned (.bool true) ∧ Later w w' := by
  replace h : Hid _ := h
  go_enter Try.func3, Try.ntmps3
  go_wp2_with fail
  refine (new_bad l0 l1 h.out _).mono ?_
  rintro e w1 ⟨rfl, h1⟩
  have t0 : w1.cell? ⟨w.heap.size, 0, none⟩ = some (.int .i64 l0) := h1.cell_of (by simp [go_sem])
  have t1 : w1.cell? ⟨w.heap.size, 1, none⟩ = some (.int .i64 l1) := h1.cell_of (by simp [go_sem])
  replace h1 : Hid (Later w w1) := Later.trans (by repeat first | exact Lz _ | apply La | apply Ld) h1
  go_wp2_with fail
  refine (rnew_bad l0 l1 h.out _).mono ?_
  rintro e w2 ⟨rfl, h2⟩
  replace h2 : Hid (Later w w2) := h1.out.trans (Later.trans (by repeat first | exact Lz _ | apply La | apply Ld) h2)
  clear h h1 t0 t1
  go_wp2_with (first | (go_at_call 8; refine (num_any _ _).mono ?_; rintro e w' ⟨rfl, rfl⟩) | (go_at_call 9; refine (awake_any w _ h2).mono ?_; rintro e w3 ⟨rfl, h3⟩; replace h3 : Hid (Later w w3) := h3))
  go_ret
  exact ⟨rfl, by first | exact h3.out | assumption⟩
/-- what one act's cells hold -/
def actAt (W : World) (bb oo i : Nat) (t : Int) (S : Option Addr) (m c : Nat) (q : Int) (h : Nat → Int) : Prop :=
  (W.cell? ⟨bb, oo + i * 3, none⟩ = some (.int .i64 t) ∧ W.cell? ⟨bb, oo + i * 3 + 1, none⟩ = some (.slice S m c) ∧ W.cell? ⟨bb, oo + i * 3 + 2, none⟩ = some (.int .i64 q)) ∧ (-9223372036854775808 ≤ t ∧ t ≤ 9223372036854775807) ∧ m * 8 ≤ 140737488351232 ∧ Lst W S m h
theorem core_good (q : Nat) (l1 : Int) (hq : Fine (q : Int) l1) (bb oo n cap : Nat) (w : World) (hA : ∀ i, i < n → ∃ t S m c k h, actAt w bb oo i t S m c k h) :
    Calls Try.prog 3 #[.agg #[.int .i64 (q : Int), .int .i64 l1], .slice (some ⟨bb, oo, none⟩) n cap] w fun e w' => e = .returned (.bool true) ∧ Later w w' := by
  replace hq : Hid _ := hq
  replace hA : Hid _ := hA
  go_enter Try.func3, Try.ntmps3
  go_wp2_with fail
  refine (new_ok q l1 hq.out _).mono ?_
  rintro e w1 ⟨p, g, rfl, h1, m1⟩
  have t0 : w1.cell? ⟨w.heap.size, 0, none⟩ = some (.int .i64 (q : Int)) := h1.cell_of (by simp [go_sem])
  have t1 : w1.cell? ⟨w.heap.size, 1, none⟩ = some (.int .i64 l1) := h1.cell_of (by simp [go_sem])
  have hd : Hid (∀ (pr : Nat) (A : Option Addr) (capr : Nat) (w2 : World), Later w1 w2 → Tab 48 w2 w1.heap.size pr A q capr (fun _ => -1) → Duo w w2 p g pr A q (fun _ => -1) (fun _ => -1)) := fun pr A capr w2 h2 m2 => duo_new w _ w1 w2 p g pr A q q capr _ _ (by repeat first | exact Lz _ | apply La | apply Ld) h1 m1 h2 m2 (fun _ => Or.inr rfl)
  clear h1 m1
  go_wp2_with fail
  refine (rnew_ok q l1 hq.out _).mono ?_
  rintro e w2 ⟨pr, A, capr, rfl, h2, m2⟩
  have D : Duo w w2 p g pr A q (fun _ => -1) (fun _ => -1) := hd.out pr A capr w2 h2 m2
  clear h2 m2 hd t0 t1 hq
  go_wp2_with (go_at_call 8; refine (num_any _ _).mono ?_; rintro e w' ⟨rfl, rfl⟩)
  go_loopw [9] (fun i wr => ∃ (j : Nat) (f : Nat → Int), j ≤ 60 ∧ i = .int .i64 (j : Nat) ∧ Duo w wr p g pr A q f f) (fun i _ => 60 - (intOf i).toNat)
  case atStart => exact ⟨0, _, Nat.zero_le _, rfl, D⟩
  case round =>
    obtain ⟨j, f, hj, rfl, DR⟩ := hrel
    clear D
    by_cases hlt : j < n ∧ j < 60
    · have hl1 : (j : Int) < (n : Int) := by omega
      have hl2 : (j : Int) < 60 := by omega
      obtain ⟨at_, S, m, c, k, h, ⟨a0, a1, a2⟩, hTb, hmb, hS⟩ := hA.out j hlt.1
      replace a0 := DR.ltr.cell_of a0
      replace a1 := DR.ltr.cell_of a1
      replace a2 := DR.ltr.cell_of a2
      replace hTb : Hid _ := hTb
      replace hS : Hid (Lst w S m h) := hS
      have hM : Hid (∀ k, (Of p (some ⟨g, 0, none⟩) k ∨ Of pr A k) → k < wr.heap.size) := fun k hk => (DR.bound hk).2
      have hwr : Hid (w.heap.size ≤ wr.heap.size) := DR.ltr.size
      go_wp2_with fail
      have RA := act_row wr at_ S m c k
      have D3 := DR.later (La (c := #[.int .i64 at_, .slice S m c, .int .i64 k]) (t := 36) (Lz wr))
      have hsz : Hid ((wr.alloc (.cells #[.int .i64 at_, .slice S m c, .int .i64 k] 36)).heap.size = wr.heap.size + 1) := by
        show _ = _
        simp
      generalize wr.alloc (.cells #[.int .i64 at_, .slice S m c, .int .i64 k] 36) = w3 at *
      clear DR a0 a1 a2
      refine (lend_any S m c h _ hmb (hS.out.later D3.ltr)).mono ?_
      rintro e w4 ⟨g1, cap1, rfl, hc1, O4, L4⟩
      obtain ⟨hg1, F1, R4, _, hF1⟩ := owns_row O4.out
      have hg1' : Hid (wr.heap.size < g1) := by
        show _ < _
        have := hsz.out
        omega
      replace RA := rowIs_later (later_of L4) RA
      have D4 := D3.later (later_of L4)
      have hX : Hid (Lst w4 (some ⟨g1, 0, none⟩) m h) := Or.inr ⟨g1, 0, rfl, fun i hi => by
        have hc := R4.cell (i := i) (by omega)
        rw [hF1 i _ (by rw [List.getElem?_append_left (by rw [xs_len]; exact hi)]; exact xs_get h m i hi)] at hc
        rw [Nat.zero_add]
        exact hc⟩
      replace R4 : Hid (w4.rowIs g1 3 cap1 F1) := R4
      replace hF1 : Hid (∀ i u, (xs h m ++ marks)[i]? = some u → F1 i = u) := hF1
      clear D3 O4 L4 hsz hg1
      have c0 : w4.cell? ⟨wr.heap.size, 0, none⟩ = some (.int .i64 at_) := RA.cell (i := 0) (by decide)
      have lA := cell_lt c0
      replace RA : Hid (w4.rowIs wr.heap.size 36 3 (actV at_ S m c k)) := RA
      have hrp : Hid (∀ w', Duo w w' p g pr A q (ptF q f at_ m h) f → Calls Try.prog 12 #[.pointer (some ⟨pr, 0, none⟩), .int .i64 at_, .slice S m c] w' fun e w2 => e = .returned (.int .i64 (ptE q at_ m h)) ∧ Duo w w2 p g pr A q (ptF q f at_ m h) (ptF q f at_ m h) ∧ Wrote pr A w' w2) := fun w' hd => duo_rput hd at_ S m c h (by omega) hTb.out (hS.out.later hd.ltr)
      go_wp2_with fail
      refine (duo_put D4 at_ _ m cap1 h (by omega) hTb.out hX.out).mono ?_
      rintro e w5 ⟨rfl, D5, W5⟩
      generalize ptE q at_ m h = E at *
      generalize ptF q f at_ m h = f' at *
      have RA5 := wrote_row W5 (fun k hk => hM.out k (Or.inl hk)) (Nat.le_refl _) RA.out
      have R5 : Hid (w5.rowIs g1 3 cap1 F1) := wrote_row W5 (fun k hk => hM.out k (Or.inl hk)) (Nat.le_of_lt hg1'.out) R4.out
      clear W5 RA R4 D4 hX c0 lA
      have c0 : w5.cell? ⟨wr.heap.size, 0, none⟩ = some (.int .i64 at_) := RA5.cell (i := 0) (by decide)
      have c1 : w5.cell? ⟨wr.heap.size, 1, none⟩ = some (.slice S m c) := RA5.cell (i := 1) (by decide)
      have lA := cell_lt c0
      replace RA5 : Hid (w5.rowIs wr.heap.size 36 3 (actV at_ S m c k)) := RA5
      go_wp2_with fail
      refine (hrp.out _ D5).mono ?_
      rintro e w6 ⟨rfl, D6, W6⟩
      have RA6 := wrote_row W6 (fun k hk => hM.out k (Or.inr hk)) (Nat.le_refl _) RA5.out
      have R6 : Hid (w6.rowIs g1 3 cap1 F1) := wrote_row W6 (fun k hk => hM.out k (Or.inr hk)) (Nat.le_of_lt hg1'.out) R5.out
      clear W6 RA5 R5 D5 hrp c0 c1 lA
      have c1 : w6.cell? ⟨wr.heap.size, 1, none⟩ = some (.slice S m c) := RA6.cell (i := 1) (by decide)
      have c2 : w6.cell? ⟨wr.heap.size, 2, none⟩ = some (.int .i64 k) := RA6.cell (i := 2) (by decide)
      have lA := cell_lt c1
      have hg : Hid (Calls Try.prog 13 #[.pointer (some ⟨p, 0, none⟩), .int .i64 k] w6 fun e w' => e = .returned (.tuple #[.int .i64 (gtR q f' k).1, .int .i64 (gtR q f' k).2]) ∧ w' = w6) := duo_get D6 k
      have hrg : Hid (Calls Try.prog 14 #[.pointer (some ⟨pr, 0, none⟩), .int .i64 k] w6 fun e w' => e = .returned (.tuple #[.int .i64 (gtR q f' k).1, .int .i64 (gtR q f' k).2]) ∧ w' = w6) := duo_rget D6 k
      have hkp : Hid (Calls Try.prog 15 #[.slice (some ⟨g1, 0, none⟩) m cap1, .slice S m c] w6 fun e w' => e = .returned (.bool true) ∧ Later w6 w') := kept_any g1 cap1 m c h S hmb hc1 w6 (fun i u hu => by
        have hi : i < cap1 := by
          have := (List.getElem?_eq_some_iff.1 hu).1
          simp only [List.length_append, xs_len, marks, List.length_cons, List.length_nil] at this
          omega
        rw [R6.out.cell hi, hF1.out i u hu]) (hS.out.later D6.ltr)
      generalize (gtR q f' k).1 = GV at *
      generalize (gtR q f' k).2 = GE at *
      have hsp : Hid (∀ w7, Later w6 w7 → Calls Try.prog 16 #[.slice (some ⟨g1, 0, none⟩) m cap1] w7 fun e w' => e = .returned (.tuple #[]) ∧ Duo w w' p g pr A q f' f') := fun w7 hl => by
        have hr7 := rowIs_later hl R6.out
        refine (spoil_any g1 cap1 m cap1 3 F1 h (by omega) (by omega) w7 hr7 (fun i hi => hF1.out i _ (by rw [List.getElem?_append_left (by rw [xs_len]; exact hi)]; exact xs_get h m i hi))).mono ?_
        rintro e w' ⟨rfl, ht⟩
        have h1 := hg1'.out
        have h2 := hwr.out
        exact ⟨rfl, (D6.later hl).turn (fun hk => by have := hM.out g1 (Or.inl hk); omega) (fun hk => by have := hM.out g1 (Or.inr hk); omega) ht ((D6.ltr.trans hl).turned hr7 (by omega) ht)⟩
      clear RA6 R6 hF1
      go_wp2_with (first | (go_at_call 8; refine (num_any _ _).mono ?_; rintro e w' ⟨rfl, h1⟩; obtain rfl : w6 = w' := h1.symm) | (go_at_call 13; refine hg.out.mono ?_; rintro e w' ⟨rfl, h1⟩; obtain rfl : w6 = w' := h1.symm) | (go_at_call 14; refine hrg.out.mono ?_; rintro e w' ⟨rfl, h1⟩; obtain rfl : w6 = w' := h1.symm))
      refine hkp.out.mono ?_
      rintro e w7 ⟨rfl, h7⟩
      replace h7 : Hid (Later w6 w7) := h7
      clear hg hrg hkp c1 c2 lA D6
      go_wp2_with fail
      refine (hsp.out _ h7.out).mono ?_
      rintro e w8 ⟨rfl, D8⟩
      clear hsp h7
      go_wp2_with fail
      refine (duo_all D8).mono ?_
      rintro e w9 ⟨g2, cap2, rfl, O9, L9⟩
      obtain ⟨hg2, F2, R9, hn2, hF2⟩ := owns_row O9.out
      have D9 := D8.later (later_of L9)
      have hM2 : Hid (∀ k, (Of p (some ⟨g, 0, none⟩) k ∨ Of pr A k) → k < g2) := fun k hk => Nat.lt_of_lt_of_le (D8.bound hk).2 hg2
      have hw2 : Hid (w.heap.size ≤ g2) := Nat.le_trans D8.ltr.size hg2
      obtain ⟨capr, hcr⟩ := D9.rcell
      have hpl := cell_lt hcr
      have hsm := D9.small
      have hsame : Hid (∀ d, Calls Try.prog 18 #[.slice (some ⟨g2, 0, none⟩) q cap2, .slice A q d] w9 fun e w' => e = .returned (.bool true) ∧ Later w9 w') := fun d => same_any _ _ q _ _ f' (by omega) w9 (owns_lst O9.out) D9.rlst
      have hsp : Hid (∀ w7, Later w9 w7 → Calls Try.prog 16 #[.slice (some ⟨g2, 0, none⟩) q cap2] w7 fun e w' => e = .returned (.tuple #[]) ∧ Duo w w' p g pr A q f' f') := fun w7 hl => by
        have hr7 := rowIs_later hl R9
        refine (spoil_any g2 cap2 q cap2 3 F2 f' (by omega) hn2 w7 hr7 (fun i hi => hF2 i _ (xs_get f' q i hi))).mono ?_
        rintro e w' ⟨rfl, ht⟩
        exact ⟨rfl, (D9.later hl).turn (fun hk => by have := hM2.out g2 (Or.inl hk); omega) (fun hk => by have := hM2.out g2 (Or.inr hk); omega) ht ((D9.ltr.trans hl).turned hr7 hw2.out ht)⟩
      clear O9 L9 R9 hF2 D8 D9 hg2
      go_wp2_with (go_at_call 18; refine (hsame.out _).mono ?_; rintro e w10 ⟨rfl, h10⟩; replace h10 : Hid (Later w9 w10) := h10)
      refine (hsp.out _ h10.out).mono ?_
      rintro e w11 ⟨rfl, D11⟩
      clear hsp hsame h10 hcr hpl
      go_wp2
      go_roundw
      case rel => exact ⟨j + 1, _, by omega, by go_num, D11⟩
      case measure => simp [intOf]; omega
    · rcases (by omega : ¬ (j : Int) < (n : Int) ∨ ((j : Int) < (n : Int) ∧ ¬ (j : Int) < 60)) with hl1 | ⟨hl1, hl2⟩
      all_goals
        have hcr := DR.rcell
        obtain ⟨capr, hcr⟩ := hcr
        have hpl := cell_lt hcr
        have hsm := DR.small
        have hal : Hid (∀ W, Later wr W → Calls Try.prog 17 #[.pointer (some ⟨p, 0, none⟩)] W fun e w' => ∃ g2 cap2, e = .returned (.slice (some ⟨g2, 0, none⟩) q cap2) ∧ Hid (w'.ownsRow W.heap.size 3 1 (.slice (some ⟨g2, 0, none⟩) q cap2) q (xs f q)) ∧ Hid (Later W w')) := fun W hl => duo_all (DR.later hl)
        have hrl : Hid (Lst wr A q f) := DR.rlst
        replace DR : Hid (Duo w wr p g pr A q f f) := DR
        go_wp2_with fail
        go_region_held3 (fun w' => w'.cell? ⟨pr, 0, none⟩ = some (.slice A q capr)) (first | assumption | go_keep) (first | (go_at_call 17; refine (hal.out _ (by repeat first | exact Lz _ | apply La | apply Ld)).mono ?_; rintro e w8 ⟨g2, cap2, rfl, O8, L8⟩; have c8 := (later_of L8).cell_of (hcr)) | (go_at_call 18; refine (same_any _ _ q _ _ f (by omega) _ (owns_lst O8.out) (hrl.out.later (Later.trans (by repeat first | exact Lz _ | apply La | apply Ld) (later_of L8)))).mono ?_; rintro e w9 ⟨rfl, L9⟩; have c9 := L9.cell_of c8; replace L9 : Hid _ := L9) | (go_at_call 9; refine (awake_any _ _ (Lz _)).mono ?_; rintro e w10 ⟨rfl, L10⟩; have c10 := L10.cell_of c9; replace L10 : Hid _ := L10))
        replace L9 : Later w8 w9 := L9.out
        replace L10 : Later w9 w10 := L10.out
        have hX : Hid (Later w w10) := DR.out.ltr.trans ((Ld (Lz _)).trans ((later_of L8).trans (L9.trans L10)))
        clear L8 L9 L10 c8 c9 c10 O8 hal hrl hcr
        go_wp2
        go_ret
        exact ⟨rfl, hX.out⟩
theorem core_zero (q : Nat) (l1 : Int) (hq : Fine (q : Int) l1) (A0 : Option Addr) (n cap : Nat) (w : World) (hn0 : n = 0) :
    Calls Try.prog 3 #[.agg #[.int .i64 (q : Int), .int .i64 l1], .slice A0 n cap] w fun e w' => e = .returned (.bool true) ∧ Later w w' := by
  replace hq : Hid _ := hq
  subst hn0
  go_enter Try.func3, Try.ntmps3
  go_wp2_with fail
  refine (new_ok q l1 hq.out _).mono ?_
  rintro e w1 ⟨p, g, rfl, h1, m1⟩
  have t0 : w1.cell? ⟨w.heap.size, 0, none⟩ = some (.int .i64 (q : Int)) := h1.cell_of (by simp [go_sem])
  have t1 : w1.cell? ⟨w.heap.size, 1, none⟩ = some (.int .i64 l1) := h1.cell_of (by simp [go_sem])
  have hd : Hid (∀ (pr : Nat) (A : Option Addr) (capr : Nat) (w2 : World), Later w1 w2 → Tab 48 w2 w1.heap.size pr A q capr (fun _ => -1) → Duo w w2 p g pr A q (fun _ => -1) (fun _ => -1)) := fun pr A capr w2 h2 m2 => duo_new w _ w1 w2 p g pr A q q capr _ _ (by repeat first | exact Lz _ | apply La | apply Ld) h1 m1 h2 m2 (fun _ => Or.inr rfl)
  clear h1 m1
  go_wp2_with fail
  refine (rnew_ok q l1 hq.out _).mono ?_
  rintro e w2 ⟨pr, A, capr, rfl, h2, m2⟩
  have D : Duo w w2 p g pr A q (fun _ => -1) (fun _ => -1) := hd.out pr A capr w2 h2 m2
  clear h2 m2 hd t0 t1 hq
  go_wp2_with (go_at_call 8; refine (num_any _ _).mono ?_; rintro e w' ⟨rfl, rfl⟩)
  go_loopw [9] (fun i wr => ∃ (j : Nat) (f : Nat → Int), j ≤ 60 ∧ i = .int .i64 (j : Nat) ∧ Duo w wr p g pr A q f f) (fun i _ => 60 - (intOf i).toNat)
  case atStart => exact ⟨0, _, Nat.zero_le _, rfl, D⟩
  case round =>
    obtain ⟨j, f, hj, rfl, DR⟩ := hrel
    clear D
    have hl1 : ¬ (j : Int) < 0 := by omega
    have hcr := DR.rcell
    obtain ⟨capr, hcr⟩ := hcr
    have hpl := cell_lt hcr
    have hsm := DR.small
    have hal : Hid (∀ W, Later wr W → Calls Try.prog 17 #[.pointer (some ⟨p, 0, none⟩)] W fun e w' => ∃ g2 cap2, e = .returned (.slice (some ⟨g2, 0, none⟩) q cap2) ∧ Hid (w'.ownsRow W.heap.size 3 1 (.slice (some ⟨g2, 0, none⟩) q cap2) q (xs f q)) ∧ Hid (Later W w')) := fun W hl => duo_all (DR.later hl)
    have hrl : Hid (Lst wr A q f) := DR.rlst
    replace DR : Hid (Duo w wr p g pr A q f f) := DR
    go_wp2_with fail
    go_region_held3 (fun w' => w'.cell? ⟨pr, 0, none⟩ = some (.slice A q capr)) (first | assumption | go_keep) (first | (go_at_call 17; refine (hal.out _ (by repeat first | exact Lz _ | apply La | apply Ld)).mono ?_; rintro e w8 ⟨g2, cap2, rfl, O8, L8⟩; have c8 := (later_of L8).cell_of (hcr)) | (go_at_call 18; refine (same_any _ _ q _ _ f (by omega) _ (owns_lst O8.out) (hrl.out.later (Later.trans (by repeat first | exact Lz _ | apply La | apply Ld) (later_of L8)))).mono ?_; rintro e w9 ⟨rfl, L9⟩; have c9 := L9.cell_of c8; replace L9 : Hid _ := L9) | (go_at_call 9; refine (awake_any _ _ (Lz _)).mono ?_; rintro e w10 ⟨rfl, L10⟩; have c10 := L10.cell_of c9; replace L10 : Hid _ := L10))
    replace L9 : Later w8 w9 := L9.out
    replace L10 : Later w9 w10 := L10.out
    have hX : Hid (Later w w10) := DR.out.ltr.trans ((Ld (Lz _)).trans ((later_of L8).trans (L9.trans L10)))
    clear L8 L9 L10 c8 c9 c10 O8 hal hrl hcr
    go_wp2
    go_ret
    exact ⟨rfl, hX.out⟩
theorem weightsAll_mem {H : Type} {P : Program} {e : TypeId} : ∀ {l : List (DataW H)} {d : DataW H}, d ∈ l → ∀ n ∈ d.weights P e, n ∈ DataW.weightsAll P e l
  | d' :: r, d, hd, n, hn => by
    simp only [DataW.weightsAll, List.mem_append]
    rcases List.mem_cons.1 hd with rfl | h
    · exact Or.inl hn
    · exact Or.inr (weightsAll_mem h n hn)
/-- a list of ints as it is handed in -/
theorem view_ints {H : Type} {enc : TypeId × Value → H} {W : World} {fuel : Nat} {u : Value} {y : DataW H × List MemPlace} (h : DataW.trod enc Try.prog W 0 (fun _ => true) true fuel 34 [u] = some y) :
    ∃ S m c f, u = .slice S m c ∧ Lst W S m f ∧ (m = 0 ∨ ∃ el sp, y.1 = .slice el sp ∧ el.length = m) := by
  have ci : Try.prog.cellsOf 3 = 1 := by kernel_rfl
  rcases Go.Deep.open_slice1 Try.underlying34 ci h with ⟨hcs, _⟩ | ⟨a, len, cap, m, k, V, D, Pl, hcs, _, hl, hm, hmm, hx, hel⟩
  · simp only [List.cons.injEq, and_true] at hcs
    exact ⟨none, 0, 0, fun _ => 0, hcs, Or.inl rfl, Or.inl rfl⟩
  · simp only [List.cons.injEq, and_true] at hcs
    simp only [if_true] at hmm
    by_cases h0 : len = 0
    · exact ⟨_, _, _, fun _ => 0, hcs, Or.inl h0, Or.inl h0⟩
    · obtain ⟨b, off, spot⟩ := a
      have hspot : spot = none := by
        have h1 := (hel 0 (by omega)).1
        simpa [Addr.add] using World.cell?_spot h1
      subst hspot
      have each : ∀ i, i < len → ∃ z : Int, W.cell? ⟨b, off + i, none⟩ = some (.int .i64 z) := by
        intro i hi
        obtain ⟨h1, h2⟩ := hel i (by omega)
        obtain ⟨z, e0, _, _⟩ := DataW.trod_int Try.underlying3 h2
        simp only [List.cons.injEq, and_true] at e0
        rw [add_of, e0] at h1
        exact ⟨z, h1⟩
      obtain ⟨f, hf⟩ := Go.Deep.choose_lt each
      exact ⟨_, _, _, f, hcs, Or.inr ⟨b, off, rfl, hf⟩, Or.inr ⟨_, _, by rw [hx], by simp⟩⟩
theorem view_acts {H : Type} {enc : TypeId × Value → H} {W : World} {A : Option Addr} {n cap : Nat} {d : DataW H} {ps : List MemPlace} (h : DataW.Trod enc Try.prog W 0 (fun _ => true) true 24 (.slice A n cap) d ps) (hw : ∀ x ∈ d.weights Try.prog 24, x ≤ reachBytes) :
    n = 0 ∨ ∃ (bb oo : Nat), A = some ⟨bb, oo, none⟩ ∧ ∀ i, i < n → ∃ t S m c k h, actAt W bb oo i t S m c k h := by
  obtain ⟨fuel, hf⟩ := h
  have ce : Try.prog.cellsOf 36 = 3 := by kernel_rfl
  have ci : Try.prog.cellsOf 3 = 1 := by kernel_rfl
  have cs : Try.prog.cellsOf 34 = 1 := by kernel_rfl
  have hby : Try.prog.bytesOf 3 = 8 := by kernel_rfl
  rcases Go.Deep.open_slice Try.underlying24 hf with ⟨hcs, hx⟩ | ⟨a, len', cap', m, k, D, Pl, hcs, _, hl, hm, hmm, hx, hel⟩
  · simp [Value.cells] at hcs
    exact Or.inl hcs.2.1
  · simp [Value.cells] at hcs
    obtain ⟨rfl, rfl, rfl⟩ := hcs
    simp only [if_true] at hmm
    by_cases h0 : n = 0
    · exact Or.inl h0
    · rw [ce] at hel
      obtain ⟨b, off, spot⟩ := a
      have hspot : spot = none := by
        obtain ⟨cs', h1, _⟩ := hel 0 (by omega)
        obtain ⟨_, hlen, hcell⟩ := World.cells?_some h1
        have h2 := hcell 0 (by decide)
        have h3 : 0 < cs'.length := by omega
        rw [List.getElem?_eq_getElem h3] at h2
        simpa [Addr.add] using World.cell?_spot h2
      subst hspot
      refine Or.inr ⟨b, off, rfl, fun i hi => ?_⟩
      obtain ⟨cs', h1, h2⟩ := hel i (by omega)
      obtain ⟨_, hlen, hcell⟩ := World.cells?_some h1
      obtain ⟨xs, k', hk, hxy, _, hxl, hfl⟩ := DataW.trod_struct Try.underlying36 h2
      match xs, hxl, cs', hlen with
      | [y0, y1, y2], _, [u0, u1, u2], _ =>
        have g0 := hfl 0 _ rfl
        have g1 := hfl 1 _ rfl
        have g2 := hfl 2 _ rfl
        simp [ci, cs] at g0 g1 g2
        obtain ⟨x0, e0, _, b0⟩ := DataW.trod_int Try.underlying3 g0
        obtain ⟨S, mm, c, f, e1, hS, hsz⟩ := view_ints g1
        obtain ⟨x2, e2, _, _⟩ := DataW.trod_int Try.underlying3 g2
        simp at e0 e2
        subst e0 e1 e2
        have c0 := hcell 0 (by decide)
        have c1 := hcell 1 (by decide)
        have c2 := hcell 2 (by decide)
        rw [Go.Deep.add_add, add_of] at c0 c1 c2
        refine ⟨x0, S, mm, c, x2, f, ⟨by simpa using c0, by simpa [Nat.add_assoc] using c1, by simpa [Nat.add_assoc] using c2⟩, bounds_i64 b0, ?_, hS⟩
        rcases hsz with rfl | ⟨el, sp, hy, hlen2⟩
        · omega
        · have hD : D i = .agg [y0.1, y1.1, y2.1] := by
            have := congrArg Prod.fst hxy
            simpa using this
          have hmem : (el.length + sp.length) * 8 ∈ (D i).weights Try.prog 36 := by
            rw [hD]
            simp only [DataW.weights, Try.underlying36]
            refine DataW.weights_mem_each (j := 1) (t := 34) (d := y1.1) (by rfl) rfl _ ?_
            rw [hy]
            simp [DataW.weights, Try.underlying34, hby]
          have hall := hw ((el.length + sp.length) * 8) (by
            have hdd := congrArg Prod.fst hx
            simp only at hdd
            rw [hdd]
            simp only [DataW.weights, Try.underlying24, List.mem_cons, List.mem_append]
            exact Or.inr (Or.inl (weightsAll_mem (List.mem_map.2 ⟨i, List.mem_range.2 hi, rfl⟩) _ hmem)))
          unfold reachBytes at hall
          omega
theorem walk (l0 l1 : Int) (A : Option Addr) (n cap : Nat) (w : World) (hv : n = 0 ∨ ∃ (bb oo : Nat), A = some ⟨bb, oo, none⟩ ∧ ∀ i, i < n → ∃ t S m c k h, actAt w bb oo i t S m c k h) :
    Calls Try.prog 3 #[.agg #[.int .i64 l0, .int .i64 l1], .slice A n cap] w fun e w' => e = .returned (.bool true) ∧ Later w w' := by
  by_cases h : Fine l0 l1
  · obtain ⟨q, rfl⟩ := Int.eq_ofNat_of_zero_le h.1
    rcases hv with h0 | ⟨bb, oo, rfl, hV⟩
    · exact core_zero q l1 h A n cap w h0
    · exact core_good q l1 h bb oo n cap w hV
  · exact core_bad l0 l1 A n cap w h

set_option maxRecDepth 100000 in
theorem lifted (os : Os) (started : os.Started) (H : Type) (enc : TypeId × Value → H) :
    ReturnsInHanded {} Try.checked os 3 .any (Rows.tableActsSpec.pre6 enc Try.prog Try.f3 Rows.tableActsRow.domain false) (Rows.tableActsSpec.post enc Try.prog Try.f3 false true false false) := by
  refine returnsInHanded_of_change_sized (C := Try.checked) own started (by kernel_rfl) Try.func3
    (ChangeSpec.witness6 (enc := enc) (C := Try.checked) false ⟨#[], #[.agg #[.int .i64 0, .int .i64 0], .slice none 0 0], []⟩ 8 (by kernel_rfl) (by kernel_rfl) (by kernel_rfl) (by kernel_rfl)) ?_
  intro W base args ds gs before hval0 hW _ hsz0 _
  have hval : ∀ (j : Nat) t v, Try.f3.params[j]? = some t → args[j]? = some v → Value.okWide Try.prog W .any base t v := hval0
  have hW' := hW
  obtain ⟨p, q, hA0, hV, rfl, hfz, hnd⟩ := hW
  have hA : DataW.TrodAll enc Try.prog W 0 (fun _ => true) true Try.f3.params.toList args.toList ds p := hA0
  rw [Try.params3] at hA hval
  obtain ⟨v0, vs0, d0, ds0, p0, q0, hargs, rfl, rfl, h0, r0⟩ := trodAll_cons hA
  obtain ⟨v1, vs1, d1, ds1, p1, q1, rfl, rfl, rfl, h1, r1⟩ := trodAll_cons r0
  obtain ⟨rfl, rfl, rfl⟩ := trodAll_nil r1
  obtain rfl : args = #[v0, v1] := by cases args; simp_all
  obtain ⟨rfl, rfl⟩ := trodVars_none hV
  have k0 := h0
  obtain ⟨va0, vb0, ya0, yb0, m0, rfl, hd0, hp0, ta0, tb0⟩ := Joins.open_agg2 Try.underlying23 (by kernel_rfl) (by kernel_rfl) (hval 0 23 v0 rfl rfl) h0
  obtain ⟨la0, ea0, _, _⟩ := DataW.trod_int Try.underlying3 ta0
  obtain ⟨lb0, eb0, _, _⟩ := DataW.trod_int Try.underlying3 tb0
  simp only [List.cons.injEq, and_true] at ea0 eb0
  subst ea0 eb0
  obtain ⟨A1, n1, c1, rfl⟩ := okWide_slice Try.underlying24 (hval 1 24 v1 rfl rfl)
  have hw1 : ∀ x ∈ d1.weights Try.prog 24, x ≤ reachBytes := fun x hx => of_decide_eq_true (List.all_eq_true.1 hsz0 _ (DataW.weights_mem_each (j := 1) (t := 24) (d := d1) rfl rfl x hx))
  clear hA0 hval0
  simp only [List.append_nil, List.nil_append] at hW'
  have hlt : ∀ x ∈ p0 ++ p1, x.block < W.heap.size := fun x hx => by simpa using hW'.lt x hx
  refine (walk la0 lb0 A1 n1 c1 W (view_acts h1 hw1)).mono fun e W' ⟨he, hl⟩ => ?_
  subst he
  have hg := hl.grown
  have hbel : Below W.heap.size W W' := by obtain ⟨bs, nn, rfl⟩ := hl; exact ⟨rfl, rfl, rfl, by rw [World.far_size]; omega, fun k hk => World.far_block W bs nn k hk⟩
  have hx : ∀ sp : Nat → Bool, (∀ p ∈ p0 ++ p1, sp p.block = true) → DataW.TrodAll enc Try.prog W' 0 sp true [23, 24] [.agg #[.int .i64 la0, .int .i64 lb0], .slice A1 n1 c1] [d0, d1] (p0 ++ p1) := fun sp hsp => by simpa using (trodAll_cons_mk (WideElems.Trod_stays (by kernel_rfl) (by kernel_rfl) (of_decide_eq_true (by kernel_rfl)) k0 (fun x hx => hbel.same (hlt x (by simp [hx]))) (fun x hx => hsp x (by simp [hx]))) (trodAll_cons_mk (WideElems.Trod_stays (by kernel_rfl) (by kernel_rfl) (of_decide_eq_true (by kernel_rfl)) h1 (fun x hx => hbel.same (hlt x (by simp [hx]))) (fun x hx => hsp x (by simp [hx]))) trodAll_mk0))
  exact ⟨_, rfl, post_of_same (pa := p0 ++ p1) (pv := []) hW' (fun _ _ _ => (trodAll_cons_mk (shut_bool Try.underlying4 _) trodAll_mk0)) (fun sp hsp => hx sp hsp) (fun _ _ => rfl) (by simp)
    (hg.frame _) hg.2.1 (ok_one (by kernel_rfl) rfl (okWide_bool_mk Try.underlying4 _))⟩

theorem over : Rows.tableActsRow.holds Try.pinned (OpenSpec.ofChange Rows.tableActsSpec) :=
  OpenClaim.holds_of_wide 3 Try.f3 rfl rfl rfl rfl rfl rfl rfl ⟨rfl, rfl, rfl, rfl, rfl⟩ rfl rfl rfl rfl rfl (by kernel_rfl) Try.func3 (by kernel_rfl)
    (of_decide_eq_true (by kernel_rfl)) (by unfold Func.isWrapper; first | (rw [if_pos (by decide +kernel)]; kernel_rfl) | (rw [if_neg (by decide +kernel)]; exact ⟨rfl, rfl⟩))
    (fun os started H enc _ => lifted os started H enc)


theorem proved : Rows.TableActsSaid := over
end Go.Proofs.Ytdkjgbgoglhbgaa.tableActs
namespace Go.Proofs.Ytdkjgbgoglhbgaa
theorem tableActs_holds : Rows.TableActsSaid := tableActs.proved
#print axioms tableActs_holds
end Go.Proofs.Ytdkjgbgoglhbgaa
