/- 'MemoryActs' of package peloruslaw8 returns true at all limits, every bound and every list of acts: a memory under any calls answers as the document's memory, call by call, and holds the same bytes at the end. No condition. -/
import Derived.Test.YtbbjbgbpjhhcoaaDoorMVM
import Derived.Test.YtbbjbgbpjhhcoaaDoorCards
import Derived.Test.YtbbjbgbpjhhcoaaDoorTie
import Derived.LoopTactic
import Derived.OpenShut
import Derived.Carry
import Derived.Deep.Slices
import Derived.Deep.RegionHeld3
import Derived.RegionCalls
import Derived.ChangeMaps5
import Derived.Lib.SmallJoins
set_option linter.unusedVariables false
set_option linter.unusedSimpArgs false
set_option maxRecDepth 100000
set_option maxHeartbeats 8000000
namespace Go.Proofs.YtbbjbgbpjhhcoaaDoor.memoryActs
open Go.ChangeShapes Go.WideShapes Go.ChangeAt Go.RowKit Go.BY
def actV (k o t f b : Int) (x : ByteArray) (i : Nat) : Value := if i = 0 then .int .i64 k else if i = 1 then .int .i64 o else if i = 2 then .int .i64 t else if i = 3 then .int .i64 f else if i = 4 then .int .i64 b else .string x
theorem act_row (w : World) (k o t f b : Int) (x : ByteArray) : (w.alloc (.cells #[.int .i64 k, .int .i64 o, .int .i64 t, .int .i64 f, .int .i64 b, .string x] 35)).rowIs w.heap.size 35 6 (actV k o t f b x) := by
  refine World.rowIs_alloc w #[.int .i64 k, .int .i64 o, .int .i64 t, .int .i64 f, .int .i64 b, .string x] _ _ ?_
  intro i hi
  match i, hi with
  | 0, _ => rfl
  | 1, _ => rfl
  | 2, _ => rfl
  | 3, _ => rfl
  | 4, _ => rfl
  | 5, _ => rfl
theorem conv_far {T : TypeId} {w : World} {p b n : Nat} {most : Int} {f : Nat → Nat} (hm : Mem T w p b n most f) (bs : Array (Array Value × TypeId)) (m : Nat) : (convert 47 9 (.slice (some ⟨b, 0, none⟩) n n)).run Tryd.prog (w.far bs m) = .ok (.string (strOf f n)) (w.far bs m) := by
  have hm' := hm.later (Lv (bs := bs) (n := m) (Lz w))
  have := run_convert_bytes_back (P := Tryd.prog) (w.far bs m) 47 9 5 ⟨b, 0, none⟩ n ((List.range n).map fun i => UInt8.ofNat (f i)) Tryd.underlying47 Tryd.underlying5 Tryd.underlying9 (by
    intro j hj
    have hj' : j < n := by simpa using hj
    rw [show (⟨b, 0, none⟩ : Addr).add j = ⟨b, j, none⟩ from by unfold Addr.add; split <;> simp_all, hm'.by_ j hj']
    have := hm'.2.2.2.1 j
    simp
    omega)
  simpa [strOf] using this
theorem core_bad (l0 l1 most : Int) (A : Option Addr) (n cap : Nat) (w : World) (hT : Hid (Tabs w)) (h : ¬ (0 ≤ l0 ∧ l0 ≤ 65536 ∧ (l1 = -1 ∨ (l0 ≤ l1 ∧ l1 ≤ 65536)) ∧ 0 ≤ most ∧ most ≤ 16 ∧ l0 ≤ most)) :
    Calls Tryd.prog 3 #[.agg #[.int .i64 l0, .int .i64 l1], .int .i64 most, .slice A n cap] w fun e w' => e = .returned (.bool true) ∧ Later w w' := by
  replace h : Hid _ := h
  go_enter Tryd.func3, Tryd.ntmps3
  go_wp2_with fail
  refine (new_bad l0 l1 most h.out _).mono ?_
  rintro e w1 ⟨rfl, h1⟩
  have t0 : w1.cell? ⟨w.heap.size, 0, none⟩ = some (.int .i64 l0) := h1.cell_of (by simp [go_sem])
  have t1 : w1.cell? ⟨w.heap.size, 1, none⟩ = some (.int .i64 l1) := h1.cell_of (by simp [go_sem])
  replace h1 : Hid (Later w w1) := Later.trans (by repeat first | exact Lz _ | apply La | apply Ld) h1
  go_wp2_with fail
  refine (rnew_bad l0 l1 most h.out _).mono ?_
  rintro e w2 ⟨rfl, h2⟩
  replace h2 : Hid (Later w w2) := h1.out.trans (Later.trans (by repeat first | exact Lz _ | apply La | apply Ld) h2)
  clear h h1 t0 t1
  go_wp2_with (first | (go_at_call 11; refine (num_any _ _).mono ?_; rintro e w' ⟨rfl, rfl⟩) | (go_at_call 12; refine (awake_any w _ hT h2).mono ?_; rintro e w3 ⟨rfl, h3⟩; replace h3 : Hid (Later w w3) := h3))
  go_ret
  exact ⟨rfl, by first | exact h3.out | assumption⟩
theorem core_good (q : Nat) (l1 most top : Int) (hq : (q : Int) ≤ most ∧ most ≤ 16) (hl : (l1 = -1 ∧ top = most) ∨ ((q : Int) ≤ l1 ∧ l1 ≤ 65536 ∧ top = min most l1)) (bb oo n cap : Nat) (K O T F B : Nat → Int) (X : Nat → ByteArray) (w : World)
    (hA : ∀ i, i < n → (w.cell? ⟨bb, oo + i * 6, none⟩ = some (.int .i64 (K i)) ∧ w.cell? ⟨bb, oo + i * 6 + 1, none⟩ = some (.int .i64 (O i)) ∧ w.cell? ⟨bb, oo + i * 6 + 2, none⟩ = some (.int .i64 (T i)) ∧ w.cell? ⟨bb, oo + i * 6 + 3, none⟩ = some (.int .i64 (F i)) ∧ w.cell? ⟨bb, oo + i * 6 + 4, none⟩ = some (.int .i64 (B i)) ∧ w.cell? ⟨bb, oo + i * 6 + 5, none⟩ = some (.string (X i))) ∧ (-9223372036854775808 ≤ T i ∧ T i ≤ 9223372036854775807) ∧ (X i).size ≤ 9223372036854775807) (hT : Hid (Tabs w)) :
    Calls Tryd.prog 3 #[.agg #[.int .i64 (q : Int), .int .i64 l1], .int .i64 most, .slice (some ⟨bb, oo, none⟩) n cap] w fun e w' => e = .returned (.bool true) ∧ Later w w' := by
  replace hl : Hid ((l1 = -1 ∧ top = most) ∨ ((q : Int) ≤ l1 ∧ l1 ≤ 65536 ∧ top = min most l1)) := hl
  replace hA : Hid _ := hA
  go_enter Tryd.func3, Tryd.ntmps3
  go_wp2_with fail
  refine (new_ok q l1 most top hq hl.out _).mono ?_
  rintro e w1 ⟨p, b, rfl, h1, p1, p2, m1⟩
  have t0 : w1.cell? ⟨w.heap.size, 0, none⟩ = some (.int .i64 (q : Int)) := h1.cell_of (by simp [go_sem])
  have t1 : w1.cell? ⟨w.heap.size, 1, none⟩ = some (.int .i64 l1) := h1.cell_of (by simp [go_sem])
  replace h1 : Hid (Later w w1) := Later.trans (by repeat first | exact Lz _ | apply La | apply Ld) h1
  replace m1 : Hid (Mem 59 w1 p b (q * 65536) top (fun _ => 0)) := m1
  replace p1 : Hid (w.heap.size ≤ p) := Nat.le_trans (by simp) p1
  replace p2 : Hid (w.heap.size ≤ b) := Nat.le_trans (by simp) p2
  go_wp2_with fail
  refine (rnew_ok q l1 most top hq hl.out _).mono ?_
  rintro e w2 ⟨pr, b2, rfl, h2, p3, p4, m2⟩
  have D : Duo w w2 p pr q q top (fun _ => 0) (fun _ => 0) := by
    have hb := m1.out.lt.2
    have hs := h1.out.size
    exact ⟨b, b2, h1.out.trans h2, hT.out, ⟨p1.out, p2.out, by omega, by omega⟩, m1.out.later h2, m2, by omega, by have := hl.out; omega, by have := hl.out; omega, by have := hl.out; omega⟩
  clear m1 h1 p1 p2 h2 p3 p4 m2 t0 t1
  go_wp2_with (go_at_call 11; refine (num_any _ _).mono ?_; rintro e w' ⟨rfl, rfl⟩)
  go_loopw [11] (fun i wr => ∃ (j q : Nat) (f : Nat → Nat), j ≤ 200 ∧ i = .int .i64 (j : Nat) ∧ Duo w wr p pr q q top f f) (fun i _ => 200 - (intOf i).toNat)
  case atStart => exact ⟨0, q, _, Nat.zero_le _, rfl, D⟩
  case round =>
    obtain ⟨j, q, f, hj, rfl, DR⟩ := hrel
    clear D
    by_cases hlt : j < n ∧ j < 200
    · have hl1 : (j : Int) < (n : Int) := by omega
      have hl2 : (j : Int) < 200 := by omega
      obtain ⟨⟨a0, a1, a2, a3, a4, a5⟩, hTb, hXs⟩ := hA.out j hlt.1
      replace a0 := DR.ltr.cell_of a0
      replace a1 := DR.ltr.cell_of a1
      replace a2 := DR.ltr.cell_of a2
      replace a3 := DR.ltr.cell_of a3
      replace a4 := DR.ltr.cell_of a4
      replace a5 := DR.ltr.cell_of a5
      generalize K j = kk at *
      generalize O j = op at *
      generalize T j = at_ at *
      generalize F j = off at *
      generalize B j = bi at *
      generalize X j = st at *
      replace hTb : Hid _ := hTb
      replace hXs : Hid _ := hXs
      by_cases k4 : kk < 4
      · go_wp2_with fail
        refine (duo_mstore (DR.later (La (Lz _))) op at_ off bi).mono ?_
        rintro e w3 ⟨rfl, D3, K3⟩
        have hrs : Hid (∀ w', Duo w w' p pr q q top (stR (q * 65536) f op at_ off bi).2 f → Calls Tryd.prog 14 #[.pointer (some ⟨pr, 0, none⟩), .int .i64 op, .int .i64 at_, .int .i64 off, .int .i64 bi] w' fun e w2 => e = .returned (.int .i64 (stR (q * 65536) f op at_ off bi).1) ∧ Duo w w2 p pr q q top (stR (q * 65536) f op at_ off bi).2 (stR (q * 65536) f op at_ off bi).2 ∧ Hid (Keep w' w2)) := fun w' h => duo_rstore h op at_ off bi
        generalize stR (q * 65536) f op at_ off bi = R at *
        obtain ⟨E, f'⟩ := R
        simp only at *
        have RA := K3.out _ _ _ (act_row wr kk op at_ off bi st)
        have c1 := RA.cell (i := 1) (by decide)
        have c2 := RA.cell (i := 2) (by decide)
        have c3 := RA.cell (i := 3) (by decide)
        have c4 := RA.cell (i := 4) (by decide)
        simp only [actV] at c1 c2 c3 c4
        clear DR a0 a1 a2 a3 a4 a5
        replace D3 : Hid (Duo w w3 p pr q q top f' f) := D3
        replace K3 : Hid True := trivial
        replace RA : Hid (w3.rowIs wr.heap.size 35 6 (actV kk op at_ off bi st)) := RA
        have lA := cell_lt c1
        go_wp2_with fail
        go_region_held3 (fun w' => w'.cell? ⟨wr.heap.size, 1, none⟩ = some (.int .i64 op) ∧ w'.cell? ⟨wr.heap.size, 2, none⟩ = some (.int .i64 at_) ∧ w'.cell? ⟨wr.heap.size, 3, none⟩ = some (.int .i64 off) ∧ w'.cell? ⟨wr.heap.size, 4, none⟩ = some (.int .i64 bi)) (first | (refine ⟨?_, ?_, ?_, ?_⟩ <;> assumption) | assumption | go_keep) (first | (go_at_call 11; refine (num_any _ _).mono ?_; rintro e w' ⟨rfl, rfl⟩) | (go_at_call 14; refine (hrs.out _ (D3.out.later (Ld (Lz _)))).mono ?_; rintro e w9 ⟨rfl, D9, K9⟩; have R9 := K9.out _ _ _ (rowIs_later (Ld (Lz _)) RA.out); have d1 := R9.cell (i := 1) (by decide); have d2 := R9.cell (i := 2) (by decide); have d3 := R9.cell (i := 3) (by decide); have d4 := R9.cell (i := 4) (by decide); simp only [actV] at d1 d2 d3 d4))
        have D8 : Hid _ := D9
        clear D3 RA c1 c2 c3 c4 lA hrs
        go_wp2_with (first | (go_at_call 21; refine (duo_mpages D8.out).mono ?_; rintro e w' ⟨rfl, rfl⟩) | (go_at_call 22; refine (duo_rpages D8.out).mono ?_; rintro e w' ⟨rfl, rfl⟩))
        go_roundw
        case rel => exact ⟨j + 1, _, _, by omega, by go_num, D8.out⟩
        case measure => simp [intOf]; omega
      · by_cases k7 : kk < 8
        · go_wp2_with fail
          refine (duo_mload (DR.later (La (Lz _))) op at_ off).mono ?_
          rintro e w3 ⟨rfl, D3, K3⟩
          have hrs : Hid (∀ w', Duo w w' p pr q q top f f → Calls Tryd.prog 16 #[.pointer (some ⟨pr, 0, none⟩), .int .i64 op, .int .i64 at_, .int .i64 off] w' fun e w2 => e = .returned (.tuple #[.int .i64 (ldR (q * 65536) f op at_ off).1, .int .i64 (ldR (q * 65536) f op at_ off).2]) ∧ Duo w w2 p pr q q top f f ∧ Hid (Keep w' w2)) := fun w' h => duo_rload h op at_ off
          generalize ldR (q * 65536) f op at_ off = R at *
          obtain ⟨V, E⟩ := R
          simp only at *
          have RA := K3.out _ _ _ (act_row wr kk op at_ off bi st)
          have c1 := RA.cell (i := 1) (by decide)
          have c2 := RA.cell (i := 2) (by decide)
          have c3 := RA.cell (i := 3) (by decide)
          simp only [actV] at c1 c2 c3
          clear DR a0 a1 a2 a3 a4 a5
          replace D3 : Hid (Duo w w3 p pr q q top f f) := D3
          replace K3 : Hid True := trivial
          replace RA : Hid (w3.rowIs wr.heap.size 35 6 (actV kk op at_ off bi st)) := RA
          have lA := cell_lt c1
          go_wp2_with fail
          refine (hrs.out _ (D3.out.later (by repeat first | exact Lz _ | apply Ld))).mono ?_
          rintro e w9 ⟨rfl, D9, K9⟩
          have D8 : Hid _ := D9
          clear D3 RA c1 c2 c3 lA hrs D9 K9
          go_wp2_with (first | (go_at_call 11; refine (num_any _ _).mono ?_; rintro e w' ⟨rfl, rfl⟩) | (go_at_call 21; refine (duo_mpages D8.out).mono ?_; rintro e w' ⟨rfl, rfl⟩) | (go_at_call 22; refine (duo_rpages D8.out).mono ?_; rintro e w' ⟨rfl, rfl⟩))
          go_roundw
          case rel => exact ⟨j + 1, _, _, by omega, by go_num, D8.out⟩
          case measure => simp [intOf]; omega
        · by_cases k8 : kk = 8
          · subst k8
            have RA := act_row wr 8 op at_ off bi st
            have D3 := DR.later (La (c := #[.int .i64 8, .int .i64 op, .int .i64 at_, .int .i64 off, .int .i64 bi, .string st]) (t := 35) (Lz wr))
            have hms : Hid (∀ w', Duo w w' p pr q q top f f → Calls Tryd.prog 17 #[.pointer (some ⟨p, 0, none⟩), .int .i64 bi] w' fun e w2 => e = .returned (.int .i64 (grA top q bi)) ∧ Duo w w2 p pr (grQ top q bi) q top (grF top q f bi) f ∧ Hid (Keep w' w2)) := fun w' h => duo_mgrow h bi
            have hrs : Hid (∀ w', Duo w w' p pr (grQ top q bi) q top (grF top q f bi) f → Calls Tryd.prog 18 #[.pointer (some ⟨pr, 0, none⟩), .int .i64 bi] w' fun e w2 => e = .returned (.int .i64 (grA top q bi)) ∧ Duo w w2 p pr (grQ top q bi) (grQ top q bi) top (grF top q f bi) (grF top q f bi) ∧ Hid (Keep w' w2)) := fun w' h => duo_rgrow h bi
            generalize grA top q bi = E at *
            generalize grF top q f bi = f' at *
            generalize grQ top q bi = q' at *
            go_wp2_with fail
            clear DR a0 a1 a2 a3 a4 a5
            have c4 := RA.cell (i := 4) (by decide)
            simp only [actV] at c4
            generalize wr.alloc (.cells #[.int .i64 8, .int .i64 op, .int .i64 at_, .int .i64 off, .int .i64 bi, .string st] 35) = w3 at *
            replace D3 : Hid (Duo w w3 p pr q q top f f) := D3
            replace RA : Hid (w3.rowIs wr.heap.size 35 6 (actV 8 op at_ off bi st)) := RA
            have lA := cell_lt c4
            go_region_held3 (fun w' => w'.cell? ⟨wr.heap.size, 4, none⟩ = some (.int .i64 bi)) (first | (refine ⟨?_⟩ <;> assumption) | assumption | go_keep) (first | (go_at_call 17; refine (hms.out _ (D3.out.later (Ld (Lz _)))).mono ?_; rintro e w7 ⟨rfl, D7, K7⟩; have R7 := K7.out _ _ _ (rowIs_later (Ld (Lz _)) RA.out); have e4 := R7.cell (i := 4) (by decide); simp only [actV] at e4) | (go_at_call 18; refine (hrs.out _ (by assumption)).mono ?_; rintro e w9 ⟨rfl, D9, K9⟩; have R9 := K9.out _ _ _ (by assumption); have d4 := R9.cell (i := 4) (by decide); simp only [actV] at d4))
            have D8 : Hid _ := D9
            go_wp2_with (first | (go_at_call 21; refine (duo_mpages D8.out).mono ?_; rintro e w' ⟨rfl, rfl⟩) | (go_at_call 22; refine (duo_rpages D8.out).mono ?_; rintro e w' ⟨rfl, rfl⟩))
            go_roundw
            case rel => exact ⟨j + 1, _, _, by omega, by go_num, D8.out⟩
            case measure => simp [intOf]; omega
          · have k9 : (kk == 8) = false := beq_eq_false_iff_ne.2 k8
            go_wp2_with fail
            refine (duo_mput (DR.later (La (Lz _))) at_ st hTb.out hXs.out).mono ?_
            rintro e w3 ⟨rfl, D3, K3⟩
            have hrs : Hid (∀ w', Duo w w' p pr q q top (ptR (q * 65536) f at_ st).2 f → Calls Tryd.prog 20 #[.pointer (some ⟨pr, 0, none⟩), .int .i64 at_, .string st] w' fun e w2 => e = .returned (.int .i64 (ptR (q * 65536) f at_ st).1) ∧ Duo w w2 p pr q q top (ptR (q * 65536) f at_ st).2 (ptR (q * 65536) f at_ st).2 ∧ Hid (Keep w' w2)) := fun w' h => duo_rput h at_ st hTb.out hXs.out
            generalize ptR (q * 65536) f at_ st = R at *
            obtain ⟨E, f'⟩ := R
            simp only at *
            have RA := K3.out _ _ _ (act_row wr kk op at_ off bi st)
            have c2 := RA.cell (i := 2) (by decide)
            have c5 := RA.cell (i := 5) (by decide)
            simp only [actV] at c2 c5
            clear DR a0 a1 a2 a3 a4 a5
            replace D3 : Hid (Duo w w3 p pr q q top f' f) := D3
            replace K3 : Hid True := trivial
            replace RA : Hid (w3.rowIs wr.heap.size 35 6 (actV kk op at_ off bi st)) := RA
            have lA := cell_lt c2
            go_wp2_with fail
            go_region_held3 (fun w' => w'.cell? ⟨wr.heap.size, 2, none⟩ = some (.int .i64 at_) ∧ w'.cell? ⟨wr.heap.size, 5, none⟩ = some (.string st)) (first | (refine ⟨?_, ?_⟩ <;> assumption) | assumption | go_keep) (first | (go_at_call 11; refine (num_any _ _).mono ?_; rintro e w' ⟨rfl, rfl⟩) | (go_at_call 20; refine (hrs.out _ (D3.out.later (Ld (Lz _)))).mono ?_; rintro e w9 ⟨rfl, D9, K9⟩; have R9 := K9.out _ _ _ (rowIs_later (Ld (Lz _)) RA.out); have d2 := R9.cell (i := 2) (by decide); have d5 := R9.cell (i := 5) (by decide); simp only [actV] at d2 d5))
            have D8 : Hid _ := D9
            clear D3 RA c2 c5 lA hrs
            go_wp2_with (first | (go_at_call 21; refine (duo_mpages D8.out).mono ?_; rintro e w' ⟨rfl, rfl⟩) | (go_at_call 22; refine (duo_rpages D8.out).mono ?_; rintro e w' ⟨rfl, rfl⟩))
            go_roundw
            case rel => exact ⟨j + 1, _, _, by omega, by go_num, D8.out⟩
            case measure => simp [intOf]; omega
    · rcases (by omega : ¬ (j : Int) < (n : Int) ∨ ((j : Int) < (n : Int) ∧ ¬ (j : Int) < 200)) with hl1 | ⟨hl1, hl2⟩
      · obtain ⟨b, b2, h1, h2, h3, h4, h5, h6, h7, h8, h9⟩ := id DR
        have hal : Hid (∀ W, Later wr W → Calls Tryd.prog 23 #[.pointer (some ⟨p, 0, none⟩)] W fun e w' => e = .returned (.string (strOf f (q * 65536))) ∧ w' = W) := fun W hl => duo_all (DR.later hl)
        have haw : Hid (∀ W, Later wr W → Calls Tryd.prog 12 #[] W fun e w' => e = .returned (.bool true) ∧ Later W w') := fun W hl => awake_any W W (DR.tabs.later hl) (Lz W)
        have hcv : ∀ bs m, (convert 47 9 (.slice (some ⟨b2, 0, none⟩) (q * 65536) (q * 65536))).run Tryd.prog (wr.far bs m) = .ok (.string (strOf f (q * 65536))) (wr.far bs m) := fun bs m => conv_far h5 bs m
        have hc := h5.c0
        have hpl := h5.lt.1
        replace DR : Hid (Duo w wr p pr q q top f f) := DR
        clear h1 h2 h3 h4 h5 h6 h7 h8 h9
        generalize strOf f (q * 65536) = s at *
        go_wp2_with fail
        refine wp_region_quiet_far (by kernel_rfl) (by kernel_rfl) ?_
        repeat (quiet_step (first | (go_at_call 23; exact Calls.far_of_same (hal.out _ (Lv (Lz _)))) | (go_at_call 12; exact Calls.far_of (haw.out _ (Lv (Lz _))))))
        refine wpQuiet_nil ?_
        rintro _ ⟨⟨bs, m⟩, rfl⟩
        go_wp2
        go_ret
        exact ⟨rfl, Lv DR.out.ltr⟩
      · obtain ⟨b, b2, h1, h2, h3, h4, h5, h6, h7, h8, h9⟩ := id DR
        have hal : Hid (∀ W, Later wr W → Calls Tryd.prog 23 #[.pointer (some ⟨p, 0, none⟩)] W fun e w' => e = .returned (.string (strOf f (q * 65536))) ∧ w' = W) := fun W hl => duo_all (DR.later hl)
        have haw : Hid (∀ W, Later wr W → Calls Tryd.prog 12 #[] W fun e w' => e = .returned (.bool true) ∧ Later W w') := fun W hl => awake_any W W (DR.tabs.later hl) (Lz W)
        have hcv : ∀ bs m, (convert 47 9 (.slice (some ⟨b2, 0, none⟩) (q * 65536) (q * 65536))).run Tryd.prog (wr.far bs m) = .ok (.string (strOf f (q * 65536))) (wr.far bs m) := fun bs m => conv_far h5 bs m
        have hc := h5.c0
        have hpl := h5.lt.1
        replace DR : Hid (Duo w wr p pr q q top f f) := DR
        clear h1 h2 h3 h4 h5 h6 h7 h8 h9
        generalize strOf f (q * 65536) = s at *
        go_wp2_with fail
        refine wp_region_quiet_far (by kernel_rfl) (by kernel_rfl) ?_
        repeat (quiet_step (first | (go_at_call 23; exact Calls.far_of_same (hal.out _ (Lv (Lz _)))) | (go_at_call 12; exact Calls.far_of (haw.out _ (Lv (Lz _))))))
        refine wpQuiet_nil ?_
        rintro _ ⟨⟨bs, m⟩, rfl⟩
        go_wp2
        go_ret
        exact ⟨rfl, Lv DR.out.ltr⟩
theorem core_zero (q : Nat) (l1 most top : Int) (hq : (q : Int) ≤ most ∧ most ≤ 16) (hl : (l1 = -1 ∧ top = most) ∨ ((q : Int) ≤ l1 ∧ l1 ≤ 65536 ∧ top = min most l1)) (A : Option Addr) (n cap : Nat) (w : World) (hn0 : n = 0) (hT : Hid (Tabs w)) :
    Calls Tryd.prog 3 #[.agg #[.int .i64 (q : Int), .int .i64 l1], .int .i64 most, .slice A n cap] w fun e w' => e = .returned (.bool true) ∧ Later w w' := by
  replace hl : Hid ((l1 = -1 ∧ top = most) ∨ ((q : Int) ≤ l1 ∧ l1 ≤ 65536 ∧ top = min most l1)) := hl
  subst hn0
  go_enter Tryd.func3, Tryd.ntmps3
  go_wp2_with fail
  refine (new_ok q l1 most top hq hl.out _).mono ?_
  rintro e w1 ⟨p, b, rfl, h1, p1, p2, m1⟩
  have t0 : w1.cell? ⟨w.heap.size, 0, none⟩ = some (.int .i64 (q : Int)) := h1.cell_of (by simp [go_sem])
  have t1 : w1.cell? ⟨w.heap.size, 1, none⟩ = some (.int .i64 l1) := h1.cell_of (by simp [go_sem])
  replace h1 : Hid (Later w w1) := Later.trans (by repeat first | exact Lz _ | apply La | apply Ld) h1
  replace m1 : Hid (Mem 59 w1 p b (q * 65536) top (fun _ => 0)) := m1
  replace p1 : Hid (w.heap.size ≤ p) := Nat.le_trans (by simp) p1
  replace p2 : Hid (w.heap.size ≤ b) := Nat.le_trans (by simp) p2
  go_wp2_with fail
  refine (rnew_ok q l1 most top hq hl.out _).mono ?_
  rintro e w2 ⟨pr, b2, rfl, h2, p3, p4, m2⟩
  have D : Duo w w2 p pr q q top (fun _ => 0) (fun _ => 0) := by
    have hb := m1.out.lt.2
    have hs := h1.out.size
    exact ⟨b, b2, h1.out.trans h2, hT.out, ⟨p1.out, p2.out, by omega, by omega⟩, m1.out.later h2, m2, by omega, by have := hl.out; omega, by have := hl.out; omega, by have := hl.out; omega⟩
  clear m1 h1 p1 p2 h2 p3 p4 m2 t0 t1
  go_wp2_with (go_at_call 11; refine (num_any _ _).mono ?_; rintro e w' ⟨rfl, rfl⟩)
  go_loopw [11] (fun i wr => ∃ (j q : Nat) (f : Nat → Nat), j ≤ 200 ∧ i = .int .i64 (j : Nat) ∧ Duo w wr p pr q q top f f) (fun i _ => 200 - (intOf i).toNat)
  case atStart => exact ⟨0, q, _, Nat.zero_le _, rfl, D⟩
  case round =>
    obtain ⟨j, q, f, hj, rfl, DR⟩ := hrel
    clear D
    have hl1 : ¬ (j : Int) < 0 := by omega
    obtain ⟨b, b2, h1, h2, h3, h4, h5, h6, h7, h8, h9⟩ := id DR
    have hal : Hid (∀ W, Later wr W → Calls Tryd.prog 23 #[.pointer (some ⟨p, 0, none⟩)] W fun e w' => e = .returned (.string (strOf f (q * 65536))) ∧ w' = W) := fun W hl => duo_all (DR.later hl)
    have haw : Hid (∀ W, Later wr W → Calls Tryd.prog 12 #[] W fun e w' => e = .returned (.bool true) ∧ Later W w') := fun W hl => awake_any W W (DR.tabs.later hl) (Lz W)
    have hcv : ∀ bs m, (convert 47 9 (.slice (some ⟨b2, 0, none⟩) (q * 65536) (q * 65536))).run Tryd.prog (wr.far bs m) = .ok (.string (strOf f (q * 65536))) (wr.far bs m) := fun bs m => conv_far h5 bs m
    have hc := h5.c0
    have hpl := h5.lt.1
    replace DR : Hid (Duo w wr p pr q q top f f) := DR
    clear h1 h2 h3 h4 h5 h6 h7 h8 h9
    generalize strOf f (q * 65536) = s at *
    go_wp2_with fail
    refine wp_region_quiet_far (by kernel_rfl) (by kernel_rfl) ?_
    repeat (quiet_step (first | (go_at_call 23; exact Calls.far_of_same (hal.out _ (Lv (Lz _)))) | (go_at_call 12; exact Calls.far_of (haw.out _ (Lv (Lz _))))))
    refine wpQuiet_nil ?_
    rintro _ ⟨⟨bs, m⟩, rfl⟩
    go_wp2
    go_ret
    exact ⟨rfl, Lv DR.out.ltr⟩
/-- what one act's cells hold -/
def actAt (W : World) (bb oo i : Nat) (t : Int × Int × Int × Int × Int × ByteArray) : Prop :=
  (W.cell? ⟨bb, oo + i * 6, none⟩ = some (.int .i64 t.1) ∧ W.cell? ⟨bb, oo + i * 6 + 1, none⟩ = some (.int .i64 t.2.1) ∧ W.cell? ⟨bb, oo + i * 6 + 2, none⟩ = some (.int .i64 t.2.2.1) ∧ W.cell? ⟨bb, oo + i * 6 + 3, none⟩ = some (.int .i64 t.2.2.2.1) ∧ W.cell? ⟨bb, oo + i * 6 + 4, none⟩ = some (.int .i64 t.2.2.2.2.1) ∧ W.cell? ⟨bb, oo + i * 6 + 5, none⟩ = some (.string t.2.2.2.2.2)) ∧ (-9223372036854775808 ≤ t.2.2.1 ∧ t.2.2.1 ≤ 9223372036854775807) ∧ t.2.2.2.2.2.size ≤ 9223372036854775807
theorem view_acts {H : Type} {enc : TypeId × Value → H} {W : World} {A : Option Addr} {n cap : Nat} {d : DataW H} {ps : List MemPlace} (h : DataW.Trod enc Tryd.prog W 0 (fun _ => true) true 24 (.slice A n cap) d ps) :
    n = 0 ∨ ∃ (bb oo : Nat) (V : Nat → Int × Int × Int × Int × Int × ByteArray), A = some ⟨bb, oo, none⟩ ∧ ∀ i, i < n → actAt W bb oo i (V i) := by
  obtain ⟨fuel, hf⟩ := h
  have ce : Tryd.prog.cellsOf 35 = 6 := by kernel_rfl
  have ci : Tryd.prog.cellsOf 3 = 1 := by kernel_rfl
  have cs : Tryd.prog.cellsOf 9 = 1 := by kernel_rfl
  rcases Go.Deep.open_slice Tryd.underlying24 hf with ⟨hcs, hx⟩ | ⟨a, len', cap', m, k, D, Pl, hcs, _, hl, hm, hmm, hx, hel⟩
  · simp [Value.cells] at hcs
    exact Or.inl hcs.2.1
  · simp [Value.cells] at hcs
    obtain ⟨rfl, rfl, rfl⟩ := hcs
    simp only [if_true] at hmm
    by_cases h0 : n = 0
    · exact Or.inl h0
    · rw [ce] at hel
      obtain ⟨b, off, spot⟩ := a
      have hspot : spot = none := by
        obtain ⟨cs', h1, _⟩ := hel 0 (by omega)
        obtain ⟨_, hlen, hcell⟩ := World.cells?_some h1
        have h2 := hcell 0 (by decide)
        have h3 : 0 < cs'.length := by omega
        rw [List.getElem?_eq_getElem h3] at h2
        simpa [Addr.add] using World.cell?_spot h2
      subst hspot
      have each : ∀ i, i < n → ∃ t, actAt W b off i t := by
        intro i hi
        obtain ⟨cs', h1, h2⟩ := hel i (by omega)
        obtain ⟨_, hlen, hcell⟩ := World.cells?_some h1
        obtain ⟨xs, k', hk, hxy, _, hxl, hfl⟩ := DataW.trod_struct Tryd.underlying35 h2
        match xs, hxl, cs', hlen with
        | [y0, y1, y2, y3, y4, y5], _, [u0, u1, u2, u3, u4, u5], _ =>
          have g0 := hfl 0 _ rfl
          have g1 := hfl 1 _ rfl
          have g2 := hfl 2 _ rfl
          have g3 := hfl 3 _ rfl
          have g4 := hfl 4 _ rfl
          have g5 := hfl 5 _ rfl
          simp [ci, cs] at g0 g1 g2 g3 g4 g5
          obtain ⟨x0, e0, _, _⟩ := DataW.trod_int Tryd.underlying3 g0
          obtain ⟨x1, e1, _, _⟩ := DataW.trod_int Tryd.underlying3 g1
          obtain ⟨x2, e2, _, b2⟩ := DataW.trod_int Tryd.underlying3 g2
          obtain ⟨x3, e3, _, _⟩ := DataW.trod_int Tryd.underlying3 g3
          obtain ⟨x4, e4, _, _⟩ := DataW.trod_int Tryd.underlying3 g4
          obtain ⟨x5, e5, _, b5⟩ := DataW.trod_string Tryd.underlying9 g5
          simp at e0 e1 e2 e3 e4 e5
          subst e0 e1 e2 e3 e4 e5
          have c0 := hcell 0 (by decide)
          have c1 := hcell 1 (by decide)
          have c2 := hcell 2 (by decide)
          have c3 := hcell 3 (by decide)
          have c4 := hcell 4 (by decide)
          have c5 := hcell 5 (by decide)
          rw [Go.Deep.add_add, add_plain] at c0 c1 c2 c3 c4 c5
          exact ⟨(x0, x1, x2, x3, x4, x5), ⟨by simpa using c0, by simpa [Nat.add_assoc] using c1, by simpa [Nat.add_assoc] using c2, by simpa [Nat.add_assoc] using c3, by simpa [Nat.add_assoc] using c4, by simpa [Nat.add_assoc] using c5⟩, bounds_i64 b2, by simpa [maxLen] using b5⟩
      obtain ⟨V, hV⟩ := Go.Deep.choose_lt each
      exact Or.inr ⟨b, off, V, rfl, hV⟩
theorem walk (l0 l1 most : Int) (A : Option Addr) (n cap : Nat) (w : World) (hv : n = 0 ∨ ∃ (bb oo : Nat) (V : Nat → Int × Int × Int × Int × Int × ByteArray), A = some ⟨bb, oo, none⟩ ∧ ∀ i, i < n → actAt w bb oo i (V i)) (hT : Tabs w) :
    Calls Tryd.prog 3 #[.agg #[.int .i64 l0, .int .i64 l1], .int .i64 most, .slice A n cap] w fun e w' => e = .returned (.bool true) ∧ Later w w' := by
  by_cases h : 0 ≤ l0 ∧ l0 ≤ 65536 ∧ (l1 = -1 ∨ (l0 ≤ l1 ∧ l1 ≤ 65536)) ∧ 0 ≤ most ∧ most ≤ 16 ∧ l0 ≤ most
  · obtain ⟨h1, h2, h3, h4, h5, h6⟩ := h
    obtain ⟨q, rfl⟩ := Int.eq_ofNat_of_zero_le h1
    have hl : ∃ top : Int, (l1 = -1 ∧ top = most) ∨ ((q : Int) ≤ l1 ∧ l1 ≤ 65536 ∧ top = min most l1) := by
      rcases h3 with h3 | h3
      · exact ⟨_, Or.inl ⟨h3, rfl⟩⟩
      · exact ⟨_, Or.inr ⟨h3.1, h3.2, rfl⟩⟩
    obtain ⟨top, hl⟩ := hl
    rcases hv with h0 | ⟨bb, oo, V, rfl, hV⟩
    · exact core_zero q l1 most top ⟨h6, h5⟩ hl A n cap w h0 hT
    · exact core_good q l1 most top ⟨h6, h5⟩ hl bb oo n cap (fun i => (V i).1) (fun i => (V i).2.1) (fun i => (V i).2.2.1) (fun i => (V i).2.2.2.1) (fun i => (V i).2.2.2.2.1) (fun i => (V i).2.2.2.2.2) w hV hT
  · exact core_bad l0 l1 most A n cap w hT h

set_option maxRecDepth 100000 in
theorem lifted (os : Os) (started : os.Started) (H : Type) (enc : TypeId × Value → H) :
    ReturnsInHanded {} Tryd.checked os 3 .any (fun w args => (Rows.memoryActsSpec.pre enc Tryd.prog Tryd.f3 [] false w args ∧ laidMetH Tryd.prog tabs w) ∧ sizedMet enc Tryd.prog Tryd.f3 (OpenSpec.ofChange Rows.memoryActsSpec) false w args)
      (Rows.memoryActsSpec.post enc Tryd.prog Tryd.f3 false true false false) := by
  refine returnsInHanded_of_change_and (C := Tryd.checked) (X := fun w _ => laidMetH Tryd.prog tabs w) (fun _ _ _ hh h => h.of_heap hh) own started (by kernel_rfl) Tryd.func3
    (ChangeSpec.witness_shaped (enc := enc) (C := Tryd.checked) (os := os) (X := fun w _ => laidMetH Tryd.prog tabs w) false (World.doorLaid Tryd.prog 400 os) #[.agg #[.int .i64 0, .int .i64 0], .int .i64 0, .slice none 0 0] 8 rfl (World.shaped_of_RefB (by kernel_rfl) (by kernel_rfl)) (by kernel_rfl) (by kernel_rfl) (by kernel_rfl) (door_met os _)) ?_
  intro W base args ds gs before hval0 hW _ _ hL _
  have hval : ∀ (j : Nat) t v, Tryd.f3.params[j]? = some t → args[j]? = some v → Value.okWide Tryd.prog W .any base t v := hval0
  have hW' := hW
  obtain ⟨p, q, hA0, hV, rfl, hfz, hnd⟩ := hW
  have hA : DataW.TrodAll enc Tryd.prog W 0 (fun _ => true) true Tryd.f3.params.toList args.toList ds p := hA0
  rw [Tryd.params3] at hA hval
  obtain ⟨v0, vs0, d0, ds0, p0, q0, hargs, rfl, rfl, h0, r0⟩ := trodAll_cons hA
  obtain ⟨v1, vs1, d1, ds1, p1, q1, rfl, rfl, rfl, h1, r1⟩ := trodAll_cons r0
  obtain ⟨v2, vs2, d2, ds2, p2, q2, rfl, rfl, rfl, h2, r2⟩ := trodAll_cons r1
  obtain ⟨rfl, rfl, rfl⟩ := trodAll_nil r2
  obtain rfl : args = #[v0, v1, v2] := by cases args; simp_all
  obtain ⟨rfl, rfl⟩ := trodVars_none hV
  have k0 := h0
  obtain ⟨va0, vb0, ya0, yb0, m0, rfl, hd0, hp0, ta0, tb0⟩ := Joins.open_agg2 Tryd.underlying23 (by kernel_rfl) (by kernel_rfl) (hval 0 23 v0 rfl rfl) h0
  obtain ⟨la0, ea0, _, _⟩ := DataW.trod_int Tryd.underlying3 ta0
  obtain ⟨lb0, eb0, _, _⟩ := DataW.trod_int Tryd.underlying3 tb0
  simp only [List.cons.injEq, and_true] at ea0 eb0
  subst ea0 eb0
  obtain ⟨a1, rfl, rfl, rfl, w1⟩ := open_int Tryd.underlying3 (hval 1 3 v1 rfl rfl) h1
  obtain ⟨A2, n2, c2, rfl⟩ := okWide_slice Tryd.underlying24 (hval 2 24 v2 rfl rfl)
  clear hA0 hval0
  simp only [List.append_nil, List.nil_append] at hW'
  have hlt : ∀ x ∈ p0 ++ p2, x.block < W.heap.size := fun x hx => by simpa using hW'.lt x hx
  refine (walk la0 lb0 a1 A2 n2 c2 W (view_acts h2) (of_laid hL)).mono fun e W' ⟨he, hl⟩ => ?_
  subst he
  have hg := hl.grown
  have hbel : Below W.heap.size W W' := by obtain ⟨bs, nn, rfl⟩ := hl; exact ⟨rfl, rfl, rfl, by rw [World.far_size]; omega, fun k hk => World.far_block W bs nn k hk⟩
  have hx : ∀ sp : Nat → Bool, (∀ p ∈ p0 ++ p2, sp p.block = true) → DataW.TrodAll enc Tryd.prog W' 0 sp true [23, 3, 24] [.agg #[.int .i64 la0, .int .i64 lb0], .int .i64 a1, .slice A2 n2 c2] [d0, .lit (.int .i64 a1), d2] (p0 ++ p2) := fun sp hsp => by simpa using (trodAll_cons_mk (WideElems.Trod_stays (by kernel_rfl) (by kernel_rfl) (of_decide_eq_true (by kernel_rfl)) k0 (fun x hx => hbel.same (hlt x (by simp [hx]))) (fun x hx => hsp x (by simp [hx]))) (trodAll_cons_mk (shut_int Tryd.underlying3 w1) (trodAll_cons_mk (WideElems.Trod_stays (by kernel_rfl) (by kernel_rfl) (of_decide_eq_true (by kernel_rfl)) h2 (fun x hx => hbel.same (hlt x (by simp [hx]))) (fun x hx => hsp x (by simp [hx]))) trodAll_mk0)))
  exact ⟨_, rfl, post_of_same (pa := p0 ++ p2) (pv := []) hW' (fun _ _ _ => (trodAll_cons_mk (shut_bool Tryd.underlying4 _) trodAll_mk0)) (fun sp hsp => hx sp hsp) (fun _ _ => rfl) (by simp)
    (hg.frame _) hg.2.1 (ok_one (by kernel_rfl) rfl (okWide_bool_mk Tryd.underlying4 _))⟩

theorem over : Rows.memoryActsRow.holds Tryd.pinned (OpenSpec.ofChange Rows.memoryActsSpec) :=
  OpenClaim.holds_of_wide 3 Tryd.f3 rfl rfl rfl rfl rfl rfl rfl ⟨rfl, rfl, rfl, rfl, rfl⟩ rfl rfl rfl rfl rfl (by kernel_rfl) Tryd.func3 (by kernel_rfl)
    (of_decide_eq_true (by kernel_rfl)) (by unfold Func.isWrapper; first | (rw [if_pos (by decide +kernel)]; kernel_rfl) | (rw [if_neg (by decide +kernel)]; exact ⟨rfl, rfl⟩))
    (fun os started H enc _ => lifted os started H enc)


theorem row_holds : Rows.MemoryActsSaid := over

theorem card_holds : Rows.MemoryActsCardSaid :=
  Claim7.holds_tied_plain_at .later [] [.data] true (true, "18417c4c36e59d634bb1d7bc2a46973f3e80d886067ccc57eeafcee2dfb5387b") false
    row_holds (fun _ h => by cases h) (by kernel_rfl) (fun _ h => by cases h) memoryActs_row_tie rfl ⟨rfl, rfl⟩ (by kernel_rfl) rfl
    (fun f fn hf hfn => by
      obtain rfl : f = 3 := Option.some.inj ((show Tryd.prog.funcNamed Rows.memoryActsRow.func = some 3 by kernel_rfl).symm.trans hf) |>.symm
      obtain rfl : fn = Tryd.f3 := (Option.some.inj (Tryd.func3.symm.trans hfn)).symm
      exact ⟨by kernel_rfl, fun j t ht => by
        rw [Tryd.params3] at ht
        have hm : t ∈ [23, 3, 24] := by simpa using Array.mem_of_getElem? ht
        have hall : ([23, 3, 24].all fun u => !Tryd.prog.wantsStandIn u) = true := by kernel_rfl
        exact (show Tryd.prog.wantsStandIn t = false by simpa using List.all_eq_true.1 hall t hm)⟩)
    (by kernel_rfl)
end Go.Proofs.YtbbjbgbpjhhcoaaDoor.memoryActs
namespace Go.Proofs.YtbbjbgbpjhhcoaaDoor
theorem memoryActs_holds : Rows.MemoryActsCardSaid := memoryActs.card_holds
#print axioms memoryActs_holds
end Go.Proofs.YtbbjbgbpjhhcoaaDoor
