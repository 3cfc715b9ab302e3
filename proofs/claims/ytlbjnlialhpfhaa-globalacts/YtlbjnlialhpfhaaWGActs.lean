/- 'GlobalActs' of package peloruslaw10 returns true at every list of acts: globals under any calls answer as the document's globals, call by call, and hold the same values. No condition. -/
import Derived.Test.YtlbjnlialhpfhaaUL
import Derived.LoopTactic
import Derived.OpenShut
import Derived.Carry
import Derived.Deep.Slices
import Derived.Deep.RegionHeld3
import Derived.RegionCalls
import Derived.ChangeMaps5
import Derived.Lib.SmallJoins
import Derived.SizedLaws
set_option linter.unusedVariables false
set_option linter.unusedSimpArgs false
set_option maxRecDepth 100000
set_option maxHeartbeats 8000000
namespace Go.Proofs.Ytlbjnlialhpfhaa.globalActs
open Go.ChangeShapes Go.WideShapes Go.ChangeAt Go.RowKit
/-- an act: which call, at which number, a value's type and bits, mut -/
abbrev Ac : Type := Int × Int × Int × Int × Bool
def actV (a : Ac) (i : Nat) : Value := if i = 0 then .int .i64 a.1 else if i = 1 then .int .i64 a.2.1 else if i = 2 then .int .i64 a.2.2.1 else if i = 3 then .int .i64 a.2.2.2.1 else .bool a.2.2.2.2
theorem act_row (w : World) (k0 k x y : Int) (μ : Bool) : (w.alloc (.cells #[.int .i64 k0, .int .i64 k, .int .i64 x, .int .i64 y, .bool μ] 33)).rowIs w.heap.size 33 5 (actV (k0, k, x, y, μ)) := by
  refine World.rowIs_alloc w #[.int .i64 k0, .int .i64 k, .int .i64 x, .int .i64 y, .bool μ] _ _ ?_
  intro i hi
  match i, hi with
  | 0, _ => rfl
  | 1, _ => rfl
  | 2, _ => rfl
  | 3, _ => rfl
  | 4, _ => rfl
/-- what one act's cells hold -/
def actAt (W : World) (bb oo i : Nat) (a : Ac) : Prop :=
  (W.cell? ⟨bb, oo + i * 5, none⟩ = some (.int .i64 a.1) ∧ W.cell? ⟨bb, oo + i * 5 + 1, none⟩ = some (.int .i64 a.2.1) ∧ W.cell? ⟨bb, oo + i * 5 + 2, none⟩ = some (.int .i64 a.2.2.1) ∧ W.cell? ⟨bb, oo + i * 5 + 3, none⟩ = some (.int .i64 a.2.2.2.1) ∧ W.cell? ⟨bb, oo + i * 5 + 4, none⟩ = some (.bool a.2.2.2.2)) ∧ I64 a.2.2.2.1
theorem core_good (bb oo n cap : Nat) (w : World) (hA : ∀ i, i < n → ∃ a, actAt w bb oo i a) :
    Calls Try.prog 3 #[.slice (some ⟨bb, oo, none⟩) n cap] w fun e w' => e = .returned (.bool true) ∧ Later w w' := by
  replace hA : Hid _ := hA
  go_enter Try.func3, Try.ntmps3
  go_wp2_with fail
  refine (new_any w w (Lz _)).mono ?_
  rintro e w1 ⟨p, rfl, h1, G1⟩
  obtain ⟨lab1, C1, D1⟩ := rnew (fun _ => 0) w1 w.heap.size h1.size (fun _ => 0) (fun _ => false) (fun _ => 0)
  have D : Duo w (w1.alloc (.cells #[.slice none 0 0, .slice none 0 0] 29)) p w1.heap.size (0, (fun _ => 0), (fun _ => false), (fun _ => 0)) (0, (fun _ => 0), (fun _ => false), (fun _ => 0)) := ⟨lab1, La h1, (G1 _ _ _).chg C1 (fun _ x => x.elim), D1⟩
  obtain ⟨pr, hpr⟩ : ∃ pr, pr = w1.heap.size := ⟨_, rfl⟩
  rw [← hpr] at D
  clear h1 G1 C1 D1
  go_wp2_with fail
  rw [← hpr]
  generalize w1.alloc (.cells #[.slice none 0 0, .slice none 0 0] 29) = w2 at *
  clear hpr
  go_loopw [5] (fun i wr => ∃ (j : Nat) (s : Gs), j ≤ 200 ∧ i = .int .i64 (j : Nat) ∧ Duo w wr p pr s s) (fun i _ => 200 - (intOf i).toNat)
  case atStart => exact ⟨0, _, Nat.zero_le _, rfl, D⟩
  case round =>
    obtain ⟨j, s, hj, rfl, DR⟩ := hrel
    clear D
    by_cases hlt : j < n ∧ j < 200
    · have hl1 : (j : Int) < (n : Int) := by omega
      have hl2 : (j : Int) < 200 := by omega
      obtain ⟨⟨k0, k, x, y, μ⟩, ⟨a0, a1, a2, a3, a4⟩, hy⟩ := hA.out j hlt.1
      simp only at a0 a1 a2 a3 a4
      replace a0 := DR.ltr.cell_of a0
      replace a1 := DR.ltr.cell_of a1
      replace a2 := DR.ltr.cell_of a2
      replace a3 := DR.ltr.cell_of a3
      replace a4 := DR.ltr.cell_of a4
      have lb := cell_lt a0
      replace hy : Hid (I64 y) := hy
      by_cases hk1 : k0 < 3
      · go_wp2_with fail
        have M3 := duo_act DR (La (Lz wr)) (Nat.le_refl _) (act_row wr k0 k x y μ)
        generalize wr.alloc (.cells #[.int .i64 k0, .int .i64 k, .int .i64 x, .int .i64 y, .bool μ] 33) = w3 at *
        clear DR a2 a3 a4 lb
        go_wp2_with fail
        refine (mix_add M3 x y μ hy.out).mono ?_
        rintro e w4 ⟨rfl, M4⟩
        have hra : Hid (∀ W, Later w4 W → Calls Try.prog 9 #[.pointer (some ⟨pr, 0, none⟩), .agg #[.int .i64 x, .int .i64 y], .bool μ] W fun e w' => e = .returned (.int .i64 (adE s x y)) ∧ Mix w w' p pr (ad s x y μ) (ad s x y μ) wr.heap.size (actV (k0, k, x, y, μ))) := fun W hl => mix_radd (M4.later hl) x y μ
        generalize adE s x y = E at *
        generalize ad s x y μ = s1 at *
        have c2 : w4.cell? ⟨wr.heap.size, 2, none⟩ = some (.int .i64 x) := M4.cell 2 (by decide)
        have c3 : w4.cell? ⟨wr.heap.size, 3, none⟩ = some (.int .i64 y) := M4.cell 3 (by decide)
        have c4 : w4.cell? ⟨wr.heap.size, 4, none⟩ = some (.bool μ) := M4.cell 4 (by decide)
        have lA := cell_lt c2
        clear M3 M4 a0 a1
        go_wp2_with fail
        go_region_held3 (fun w' => w'.cell? ⟨wr.heap.size, 2, none⟩ = some (.int .i64 x) ∧ w'.cell? ⟨wr.heap.size, 3, none⟩ = some (.int .i64 y) ∧ w'.cell? ⟨wr.heap.size, 4, none⟩ = some (.bool μ)) (first | assumption | go_keep) (first | (go_at_call 8; refine (num_any _ _).mono ?_; rintro e w' ⟨rfl, rfl⟩) | (go_at_call 9; refine (hra.out _ (by repeat first | exact Lz _ | apply La | apply Lv | apply Ld | apply Ln)).mono ?_; rintro e w5 ⟨rfl, M5⟩; have c5 : w5.cell? ⟨wr.heap.size, 2, none⟩ = some (.int .i64 x) ∧ w5.cell? ⟨wr.heap.size, 3, none⟩ = some (.int .i64 y) ∧ w5.cell? ⟨wr.heap.size, 4, none⟩ = some (.bool μ) := ⟨M5.cell 2 (by decide), M5.cell 3 (by decide), M5.cell 4 (by decide)⟩; replace M5 : Hid (Mix w w5 p pr s1 s1 wr.heap.size (actV (k0, k, x, y, μ))) := M5))
        have hg : Hid (∀ W, Later w5 W → Calls Try.prog 12 #[.pointer (some ⟨p, 0, none⟩), .int .i64 k] W fun e w' => e = .returned (.tuple #[.agg #[.int .i64 (ge s1 k).1, .int .i64 (ge s1 k).2.1], .int .i64 (ge s1 k).2.2]) ∧ Later W w') := fun W hl => mix_get (M5.out.later hl) k
        have hrg : Hid (∀ W, Later w5 W → Calls Try.prog 13 #[.pointer (some ⟨pr, 0, none⟩), .int .i64 k] W fun e w' => e = .returned (.tuple #[.agg #[.int .i64 (ge s1 k).1, .int .i64 (ge s1 k).2.1], .int .i64 (ge s1 k).2.2]) ∧ Later W w') := fun W hl => mix_rget (M5.out.later hl) k
        generalize (ge s1 k).1 = X at *
        generalize (ge s1 k).2.1 = Y at *
        generalize (ge s1 k).2.2 = Z at *
        have d1 : w5.cell? ⟨wr.heap.size, 1, none⟩ = some (.int .i64 k) := M5.out.cell 1 (by decide)
        have D5 : Hid (Duo w w5 p pr s1 s1) := M5.out.duo
        clear M5
        go_wp2_with fail
        refine (hg.out _ (by repeat first | exact Lz _ | apply La | apply Lv | apply Ld | apply Ln)).mono ?_
        rintro e w6 ⟨rfl, L6⟩
        replace L6 : Later w5 w6 := Later.trans (by repeat first | exact Lz _ | apply La | apply Lv | apply Ld | apply Ln) L6
        replace d1 := L6.cell_of d1
        have lA6 := cell_lt d1
        go_wp2_with fail
        refine (hrg.out _ (L6.trans (by repeat first | exact Lz _ | apply La | apply Lv | apply Ld | apply Ln))).mono ?_
        rintro e w7 ⟨rfl, L7⟩
        have e0 : w7.cell? ⟨w6.heap.size, 0, none⟩ = some (.int .i64 X) := L7.cell_of (by simp [go_sem])
        have e1 : w7.cell? ⟨w6.heap.size, 1, none⟩ = some (.int .i64 Y) := L7.cell_of (by simp [go_sem])
        replace L7 : Later w5 w7 := L6.trans (Later.trans (by repeat first | exact Lz _ | apply La | apply Lv | apply Ld | apply Ln) L7)
        have le7 := cell_lt e0
        have D7 := D5.out.later L7
        clear hg hrg L6 lA6 d1 L7 D5
        go_wp2_with fail
        have D8 := D7.later ((by repeat first | exact Lz _ | apply La | apply Lv | apply Ld | apply Ln) : Later w7 (w7.alloc (.cells #[.int .i64 X, .int .i64 Y] 31)))
        have f0 : (w7.alloc (.cells #[.int .i64 X, .int .i64 Y] 31)).cell? ⟨w7.heap.size, 0, none⟩ = some (.int .i64 X) := by simp [go_sem]
        have f1 : (w7.alloc (.cells #[.int .i64 X, .int .i64 Y] 31)).cell? ⟨w7.heap.size, 1, none⟩ = some (.int .i64 Y) := by simp [go_sem]
        replace e0 := (La (c := #[.int .i64 X, .int .i64 Y]) (t := 31) (Lz w7)).cell_of e0
        replace e1 := (La (c := #[.int .i64 X, .int .i64 Y]) (t := 31) (Lz w7)).cell_of e1
        generalize w7.alloc (.cells #[.int .i64 X, .int .i64 Y] 31) = w8 at *
        clear D7
        refine (duo_all D8).mono ?_
        rintro e w9 ⟨rfl, L9, F9, R9, hF9⟩
        replace e0 := L9.cell_of e0
        replace e1 := L9.cell_of e1
        replace f0 := L9.cell_of f0
        replace f1 := L9.cell_of f1
        obtain ⟨hsm, A, capr, hcr, hvs⟩ := (D8.later L9).vals
        have hpl := cell_lt hcr
        have le9 := cell_lt e0
        have lf9 := cell_lt f0
        have hsame : Hid (∀ W, Later w9 W → Calls Try.prog 15 #[.slice (some ⟨w8.heap.size, 0, none⟩) s1.1 s1.1, .slice A s1.1 capr] W fun e w' => e = .returned (.bool true) ∧ Later W w') := fun W hl => samev_any _ _ s1.1 _ _ s1.2.1 s1.2.2.2 (by omega) W ((row_vst R9 hF9).later hl) (hvs.later hl)
        have hsp : Hid (∀ W, Later w9 W → Calls Try.prog 16 #[.slice (some ⟨w8.heap.size, 0, none⟩) s1.1 s1.1] W fun e w' => e = .returned (.tuple #[]) ∧ Duo w w' p pr s1 s1) := fun W hl => (spoilv_any w8.heap.size s1.1 s1.1 (s1.1 * 2) 31 F9 s1.2.1 s1.2.2.2 (by omega) (Nat.le_refl _) W (rowIs_later hl R9) (fun i hi => (hF9 i hi).2)).mono (fun e w' h => ⟨h.1, D8.spoil (L9.trans hl) (Nat.le_refl _) (rowIs_later hl R9) h.2⟩)
        clear L9 R9 hF9 hvs D8
        go_wp2_with (first | (go_at_call 8; refine (num_any _ _).mono ?_; rintro e w' ⟨rfl, hw⟩; obtain rfl : w9 = w' := hw.symm) | (go_at_call 15; refine (hsame.out _ (by repeat first | exact Lz _ | apply La | apply Lv | apply Ld | apply Ln)).mono ?_; rintro e w10 ⟨rfl, h10⟩; replace h10 : Hid (Later w9 w10) := h10))
        refine (hsp.out _ h10.out).mono ?_
        rintro e w11 ⟨rfl, D11⟩
        clear hsp hsame h10 hcr hpl e0 e1 f0 f1
        go_wp2
        go_roundw
        case rel => exact ⟨j + 1, _, by omega, by go_num, D11⟩
        case measure => simp [intOf]; omega
      · by_cases hk2 : k0 < 7
        · go_wp2_with fail
          have M3 := duo_act DR (La (Lz wr)) (Nat.le_refl _) (act_row wr k0 k x y μ)
          generalize wr.alloc (.cells #[.int .i64 k0, .int .i64 k, .int .i64 x, .int .i64 y, .bool μ] 33) = w3 at *
          clear DR a2 a3 a4 lb
          go_wp2_with fail
          refine (mix_set M3 k x y hy.out).mono ?_
          rintro e w4 ⟨rfl, M4⟩
          have hra : Hid (∀ W, Later w4 W → Calls Try.prog 11 #[.pointer (some ⟨pr, 0, none⟩), .int .i64 k, .agg #[.int .i64 x, .int .i64 y]] W fun e w' => e = .returned (.int .i64 (seE s k x y)) ∧ Mix w w' p pr (se s k x y) (se s k x y) wr.heap.size (actV (k0, k, x, y, μ))) := fun W hl => mix_rset (M4.later hl) k x y
          generalize seE s k x y = E at *
          generalize se s k x y = s1 at *
          have c1 : w4.cell? ⟨wr.heap.size, 1, none⟩ = some (.int .i64 k) := M4.cell 1 (by decide)
          have c2 : w4.cell? ⟨wr.heap.size, 2, none⟩ = some (.int .i64 x) := M4.cell 2 (by decide)
          have c3 : w4.cell? ⟨wr.heap.size, 3, none⟩ = some (.int .i64 y) := M4.cell 3 (by decide)
          have lA := cell_lt c2
          clear M3 M4 a0 a1
          go_wp2_with fail
          go_region_held3 (fun w' => w'.cell? ⟨wr.heap.size, 1, none⟩ = some (.int .i64 k) ∧ w'.cell? ⟨wr.heap.size, 2, none⟩ = some (.int .i64 x) ∧ w'.cell? ⟨wr.heap.size, 3, none⟩ = some (.int .i64 y)) (first | assumption | go_keep) (first | (go_at_call 8; refine (num_any _ _).mono ?_; rintro e w' ⟨rfl, rfl⟩) | (go_at_call 11; refine (hra.out _ (by repeat first | exact Lz _ | apply La | apply Lv | apply Ld | apply Ln)).mono ?_; rintro e w5 ⟨rfl, M5⟩; have c5 : w5.cell? ⟨wr.heap.size, 1, none⟩ = some (.int .i64 k) ∧ w5.cell? ⟨wr.heap.size, 2, none⟩ = some (.int .i64 x) ∧ w5.cell? ⟨wr.heap.size, 3, none⟩ = some (.int .i64 y) := ⟨M5.cell 1 (by decide), M5.cell 2 (by decide), M5.cell 3 (by decide)⟩; replace M5 : Hid (Mix w w5 p pr s1 s1 wr.heap.size (actV (k0, k, x, y, μ))) := M5))
          have hg : Hid (∀ W, Later w5 W → Calls Try.prog 12 #[.pointer (some ⟨p, 0, none⟩), .int .i64 k] W fun e w' => e = .returned (.tuple #[.agg #[.int .i64 (ge s1 k).1, .int .i64 (ge s1 k).2.1], .int .i64 (ge s1 k).2.2]) ∧ Later W w') := fun W hl => mix_get (M5.out.later hl) k
          have hrg : Hid (∀ W, Later w5 W → Calls Try.prog 13 #[.pointer (some ⟨pr, 0, none⟩), .int .i64 k] W fun e w' => e = .returned (.tuple #[.agg #[.int .i64 (ge s1 k).1, .int .i64 (ge s1 k).2.1], .int .i64 (ge s1 k).2.2]) ∧ Later W w') := fun W hl => mix_rget (M5.out.later hl) k
          generalize (ge s1 k).1 = X at *
          generalize (ge s1 k).2.1 = Y at *
          generalize (ge s1 k).2.2 = Z at *
          have d1 : w5.cell? ⟨wr.heap.size, 1, none⟩ = some (.int .i64 k) := M5.out.cell 1 (by decide)
          have D5 : Hid (Duo w w5 p pr s1 s1) := M5.out.duo
          clear M5
          go_wp2_with fail
          refine (hg.out _ (by repeat first | exact Lz _ | apply La | apply Lv | apply Ld | apply Ln)).mono ?_
          rintro e w6 ⟨rfl, L6⟩
          replace L6 : Later w5 w6 := Later.trans (by repeat first | exact Lz _ | apply La | apply Lv | apply Ld | apply Ln) L6
          replace d1 := L6.cell_of d1
          have lA6 := cell_lt d1
          go_wp2_with fail
          refine (hrg.out _ (L6.trans (by repeat first | exact Lz _ | apply La | apply Lv | apply Ld | apply Ln))).mono ?_
          rintro e w7 ⟨rfl, L7⟩
          have e0 : w7.cell? ⟨w6.heap.size, 0, none⟩ = some (.int .i64 X) := L7.cell_of (by simp [go_sem])
          have e1 : w7.cell? ⟨w6.heap.size, 1, none⟩ = some (.int .i64 Y) := L7.cell_of (by simp [go_sem])
          replace L7 : Later w5 w7 := L6.trans (Later.trans (by repeat first | exact Lz _ | apply La | apply Lv | apply Ld | apply Ln) L7)
          have le7 := cell_lt e0
          have D7 := D5.out.later L7
          clear hg hrg L6 lA6 d1 L7 D5
          go_wp2_with fail
          have D8 := D7.later ((by repeat first | exact Lz _ | apply La | apply Lv | apply Ld | apply Ln) : Later w7 (w7.alloc (.cells #[.int .i64 X, .int .i64 Y] 31)))
          have f0 : (w7.alloc (.cells #[.int .i64 X, .int .i64 Y] 31)).cell? ⟨w7.heap.size, 0, none⟩ = some (.int .i64 X) := by simp [go_sem]
          have f1 : (w7.alloc (.cells #[.int .i64 X, .int .i64 Y] 31)).cell? ⟨w7.heap.size, 1, none⟩ = some (.int .i64 Y) := by simp [go_sem]
          replace e0 := (La (c := #[.int .i64 X, .int .i64 Y]) (t := 31) (Lz w7)).cell_of e0
          replace e1 := (La (c := #[.int .i64 X, .int .i64 Y]) (t := 31) (Lz w7)).cell_of e1
          generalize w7.alloc (.cells #[.int .i64 X, .int .i64 Y] 31) = w8 at *
          clear D7
          refine (duo_all D8).mono ?_
          rintro e w9 ⟨rfl, L9, F9, R9, hF9⟩
          replace e0 := L9.cell_of e0
          replace e1 := L9.cell_of e1
          replace f0 := L9.cell_of f0
          replace f1 := L9.cell_of f1
          obtain ⟨hsm, A, capr, hcr, hvs⟩ := (D8.later L9).vals
          have hpl := cell_lt hcr
          have le9 := cell_lt e0
          have lf9 := cell_lt f0
          have hsame : Hid (∀ W, Later w9 W → Calls Try.prog 15 #[.slice (some ⟨w8.heap.size, 0, none⟩) s1.1 s1.1, .slice A s1.1 capr] W fun e w' => e = .returned (.bool true) ∧ Later W w') := fun W hl => samev_any _ _ s1.1 _ _ s1.2.1 s1.2.2.2 (by omega) W ((row_vst R9 hF9).later hl) (hvs.later hl)
          have hsp : Hid (∀ W, Later w9 W → Calls Try.prog 16 #[.slice (some ⟨w8.heap.size, 0, none⟩) s1.1 s1.1] W fun e w' => e = .returned (.tuple #[]) ∧ Duo w w' p pr s1 s1) := fun W hl => (spoilv_any w8.heap.size s1.1 s1.1 (s1.1 * 2) 31 F9 s1.2.1 s1.2.2.2 (by omega) (Nat.le_refl _) W (rowIs_later hl R9) (fun i hi => (hF9 i hi).2)).mono (fun e w' h => ⟨h.1, D8.spoil (L9.trans hl) (Nat.le_refl _) (rowIs_later hl R9) h.2⟩)
          clear L9 R9 hF9 hvs D8
          go_wp2_with (first | (go_at_call 8; refine (num_any _ _).mono ?_; rintro e w' ⟨rfl, hw⟩; obtain rfl : w9 = w' := hw.symm) | (go_at_call 15; refine (hsame.out _ (by repeat first | exact Lz _ | apply La | apply Lv | apply Ld | apply Ln)).mono ?_; rintro e w10 ⟨rfl, h10⟩; replace h10 : Hid (Later w9 w10) := h10))
          refine (hsp.out _ h10.out).mono ?_
          rintro e w11 ⟨rfl, D11⟩
          clear hsp hsame h10 hcr hpl e0 e1 f0 f1
          go_wp2
          go_roundw
          case rel => exact ⟨j + 1, _, by omega, by go_num, D11⟩
          case measure => simp [intOf]; omega
        · go_wp2_with fail
          have M3 := duo_act DR (La (Lz wr)) (Nat.le_refl _) (act_row wr k0 k x y μ)
          generalize wr.alloc (.cells #[.int .i64 k0, .int .i64 k, .int .i64 x, .int .i64 y, .bool μ] 33) = w3 at *
          clear DR a2 a3 a4 lb
          obtain ⟨w5, h35⟩ : ∃ w5 : World, w5 = w3 := ⟨_, rfl⟩
          rw [← h35]
          rw [← h35] at M3
          clear h35 a0 a1
          have M5 : Hid (Mix w w5 p pr s s wr.heap.size (actV (k0, k, x, y, μ))) := M3
          obtain ⟨s1, hs1⟩ : ∃ s1 : Gs, s1 = s := ⟨_, rfl⟩
          rw [← hs1] at M5
          clear hs1 M3
          have hg : Hid (∀ W, Later w5 W → Calls Try.prog 12 #[.pointer (some ⟨p, 0, none⟩), .int .i64 k] W fun e w' => e = .returned (.tuple #[.agg #[.int .i64 (ge s1 k).1, .int .i64 (ge s1 k).2.1], .int .i64 (ge s1 k).2.2]) ∧ Later W w') := fun W hl => mix_get (M5.out.later hl) k
          have hrg : Hid (∀ W, Later w5 W → Calls Try.prog 13 #[.pointer (some ⟨pr, 0, none⟩), .int .i64 k] W fun e w' => e = .returned (.tuple #[.agg #[.int .i64 (ge s1 k).1, .int .i64 (ge s1 k).2.1], .int .i64 (ge s1 k).2.2]) ∧ Later W w') := fun W hl => mix_rget (M5.out.later hl) k
          generalize (ge s1 k).1 = X at *
          generalize (ge s1 k).2.1 = Y at *
          generalize (ge s1 k).2.2 = Z at *
          have d1 : w5.cell? ⟨wr.heap.size, 1, none⟩ = some (.int .i64 k) := M5.out.cell 1 (by decide)
          have D5 : Hid (Duo w w5 p pr s1 s1) := M5.out.duo
          clear M5
          go_wp2_with fail
          refine (hg.out _ (by repeat first | exact Lz _ | apply La | apply Lv | apply Ld | apply Ln)).mono ?_
          rintro e w6 ⟨rfl, L6⟩
          replace L6 : Later w5 w6 := Later.trans (by repeat first | exact Lz _ | apply La | apply Lv | apply Ld | apply Ln) L6
          replace d1 := L6.cell_of d1
          have lA6 := cell_lt d1
          go_wp2_with fail
          refine (hrg.out _ (L6.trans (by repeat first | exact Lz _ | apply La | apply Lv | apply Ld | apply Ln))).mono ?_
          rintro e w7 ⟨rfl, L7⟩
          have e0 : w7.cell? ⟨w6.heap.size, 0, none⟩ = some (.int .i64 X) := L7.cell_of (by simp [go_sem])
          have e1 : w7.cell? ⟨w6.heap.size, 1, none⟩ = some (.int .i64 Y) := L7.cell_of (by simp [go_sem])
          replace L7 : Later w5 w7 := L6.trans (Later.trans (by repeat first | exact Lz _ | apply La | apply Lv | apply Ld | apply Ln) L7)
          have le7 := cell_lt e0
          have D7 := D5.out.later L7
          clear hg hrg L6 lA6 d1 L7 D5
          go_wp2_with fail
          have D8 := D7.later ((by repeat first | exact Lz _ | apply La | apply Lv | apply Ld | apply Ln) : Later w7 (w7.alloc (.cells #[.int .i64 X, .int .i64 Y] 31)))
          have f0 : (w7.alloc (.cells #[.int .i64 X, .int .i64 Y] 31)).cell? ⟨w7.heap.size, 0, none⟩ = some (.int .i64 X) := by simp [go_sem]
          have f1 : (w7.alloc (.cells #[.int .i64 X, .int .i64 Y] 31)).cell? ⟨w7.heap.size, 1, none⟩ = some (.int .i64 Y) := by simp [go_sem]
          replace e0 := (La (c := #[.int .i64 X, .int .i64 Y]) (t := 31) (Lz w7)).cell_of e0
          replace e1 := (La (c := #[.int .i64 X, .int .i64 Y]) (t := 31) (Lz w7)).cell_of e1
          generalize w7.alloc (.cells #[.int .i64 X, .int .i64 Y] 31) = w8 at *
          clear D7
          refine (duo_all D8).mono ?_
          rintro e w9 ⟨rfl, L9, F9, R9, hF9⟩
          replace e0 := L9.cell_of e0
          replace e1 := L9.cell_of e1
          replace f0 := L9.cell_of f0
          replace f1 := L9.cell_of f1
          obtain ⟨hsm, A, capr, hcr, hvs⟩ := (D8.later L9).vals
          have hpl := cell_lt hcr
          have le9 := cell_lt e0
          have lf9 := cell_lt f0
          have hsame : Hid (∀ W, Later w9 W → Calls Try.prog 15 #[.slice (some ⟨w8.heap.size, 0, none⟩) s1.1 s1.1, .slice A s1.1 capr] W fun e w' => e = .returned (.bool true) ∧ Later W w') := fun W hl => samev_any _ _ s1.1 _ _ s1.2.1 s1.2.2.2 (by omega) W ((row_vst R9 hF9).later hl) (hvs.later hl)
          have hsp : Hid (∀ W, Later w9 W → Calls Try.prog 16 #[.slice (some ⟨w8.heap.size, 0, none⟩) s1.1 s1.1] W fun e w' => e = .returned (.tuple #[]) ∧ Duo w w' p pr s1 s1) := fun W hl => (spoilv_any w8.heap.size s1.1 s1.1 (s1.1 * 2) 31 F9 s1.2.1 s1.2.2.2 (by omega) (Nat.le_refl _) W (rowIs_later hl R9) (fun i hi => (hF9 i hi).2)).mono (fun e w' h => ⟨h.1, D8.spoil (L9.trans hl) (Nat.le_refl _) (rowIs_later hl R9) h.2⟩)
          clear L9 R9 hF9 hvs D8
          go_wp2_with (first | (go_at_call 8; refine (num_any _ _).mono ?_; rintro e w' ⟨rfl, hw⟩; obtain rfl : w9 = w' := hw.symm) | (go_at_call 15; refine (hsame.out _ (by repeat first | exact Lz _ | apply La | apply Lv | apply Ld | apply Ln)).mono ?_; rintro e w10 ⟨rfl, h10⟩; replace h10 : Hid (Later w9 w10) := h10))
          refine (hsp.out _ h10.out).mono ?_
          rintro e w11 ⟨rfl, D11⟩
          clear hsp hsame h10 hcr hpl e0 e1 f0 f1
          go_wp2
          go_roundw
          case rel => exact ⟨j + 1, _, by omega, by go_num, D11⟩
          case measure => simp [intOf]; omega
    · rcases (by omega : ¬ (j : Int) < (n : Int) ∨ ((j : Int) < (n : Int) ∧ ¬ (j : Int) < 200)) with hl1 | ⟨hl1, hl2⟩
      all_goals
        obtain ⟨hsm, A, capr, hcr, hvs⟩ := DR.vals
        have hpl := cell_lt hcr
        have hal : Hid (∀ W, Later wr W → Calls Try.prog 14 #[.pointer (some ⟨p, 0, none⟩)] W fun e w' => e = .returned (.slice (some ⟨W.heap.size, 0, none⟩) s.1 s.1) ∧ Later W w' ∧ ∃ F, w'.rowIs W.heap.size 31 (s.1 * 2) F ∧ ∀ i, i < s.1 → F (i * 2) = .int .i64 (s.2.1 i) ∧ F (i * 2 + 1) = .int .i64 (s.2.2.2 i)) := fun W hl => duo_all (DR.later hl)
        replace hvs : Hid (Vst wr A s.1 s.2.1 s.2.2.2) := hvs
        replace DR : Hid (Duo w wr p pr s s) := DR
        go_wp2_with fail
        go_region_held3 (fun w' => w'.cell? ⟨pr, 0, none⟩ = some (.slice A s.1 capr)) (first | assumption | go_keep) (first | (go_at_call 14; refine (hal.out _ (by repeat first | exact Lz _ | apply La | apply Lv | apply Ld | apply Ln)).mono ?_; rintro e w8 ⟨rfl, L8, F8, R8, hF8⟩; have c8 := ((by repeat first | exact Lz _ | apply Ld : Later wr wr.drew).trans L8).cell_of hcr; have V8 : Hid (Vst w8 _ s.1 s.2.1 s.2.2.2) := row_vst R8 hF8; replace L8 : Hid (Later wr.drew w8) := L8; clear R8 hF8) | (go_at_call 15; refine (samev_any _ _ s.1 _ _ s.2.1 s.2.2.2 (by omega) _ V8 (hvs.out.later ((Ld (Lz _)).trans L8.out))).mono ?_; rintro e w9 ⟨rfl, L9⟩; have c9 := L9.cell_of c8; replace L9 : Hid (Later w8 w9) := L9) | (go_at_call 17; refine (awake_any _ _ (Lz _)).mono ?_; rintro e w10 ⟨rfl, L10⟩; have c10 := L10.cell_of c9; replace L10 : Hid (Later w9 w10) := L10))
        have hX : Hid (Later w w10) := DR.out.ltr.trans ((Ld (Lz _)).trans (L8.out.trans (L9.out.trans L10.out)))
        clear L8 L9 L10 c8 c9 c10 V8 hal hvs hcr
        go_wp2
        go_ret
        exact ⟨rfl, hX.out⟩
theorem core_zero (A0 : Option Addr) (n cap : Nat) (w : World) (hn0 : n = 0) :
    Calls Try.prog 3 #[.slice A0 n cap] w fun e w' => e = .returned (.bool true) ∧ Later w w' := by
  subst hn0
  go_enter Try.func3, Try.ntmps3
  go_wp2_with fail
  refine (new_any w w (Lz _)).mono ?_
  rintro e w1 ⟨p, rfl, h1, G1⟩
  obtain ⟨lab1, C1, D1⟩ := rnew (fun _ => 0) w1 w.heap.size h1.size (fun _ => 0) (fun _ => false) (fun _ => 0)
  have D : Duo w (w1.alloc (.cells #[.slice none 0 0, .slice none 0 0] 29)) p w1.heap.size (0, (fun _ => 0), (fun _ => false), (fun _ => 0)) (0, (fun _ => 0), (fun _ => false), (fun _ => 0)) := ⟨lab1, La h1, (G1 _ _ _).chg C1 (fun _ x => x.elim), D1⟩
  obtain ⟨pr, hpr⟩ : ∃ pr, pr = w1.heap.size := ⟨_, rfl⟩
  rw [← hpr] at D
  clear h1 G1 C1 D1
  go_wp2_with fail
  rw [← hpr]
  generalize w1.alloc (.cells #[.slice none 0 0, .slice none 0 0] 29) = w2 at *
  clear hpr
  go_loopw [5] (fun i wr => ∃ (j : Nat) (s : Gs), j ≤ 200 ∧ i = .int .i64 (j : Nat) ∧ Duo w wr p pr s s) (fun i _ => 200 - (intOf i).toNat)
  case atStart => exact ⟨0, _, Nat.zero_le _, rfl, D⟩
  case round =>
    obtain ⟨j, s, hj, rfl, DR⟩ := hrel
    clear D
    have hl1 : ¬ (j : Int) < 0 := by omega
    obtain ⟨hsm, A, capr, hcr, hvs⟩ := DR.vals
    have hpl := cell_lt hcr
    have hal : Hid (∀ W, Later wr W → Calls Try.prog 14 #[.pointer (some ⟨p, 0, none⟩)] W fun e w' => e = .returned (.slice (some ⟨W.heap.size, 0, none⟩) s.1 s.1) ∧ Later W w' ∧ ∃ F, w'.rowIs W.heap.size 31 (s.1 * 2) F ∧ ∀ i, i < s.1 → F (i * 2) = .int .i64 (s.2.1 i) ∧ F (i * 2 + 1) = .int .i64 (s.2.2.2 i)) := fun W hl => duo_all (DR.later hl)
    replace hvs : Hid (Vst wr A s.1 s.2.1 s.2.2.2) := hvs
    replace DR : Hid (Duo w wr p pr s s) := DR
    go_wp2_with fail
    go_region_held3 (fun w' => w'.cell? ⟨pr, 0, none⟩ = some (.slice A s.1 capr)) (first | assumption | go_keep) (first | (go_at_call 14; refine (hal.out _ (by repeat first | exact Lz _ | apply La | apply Lv | apply Ld | apply Ln)).mono ?_; rintro e w8 ⟨rfl, L8, F8, R8, hF8⟩; have c8 := ((by repeat first | exact Lz _ | apply Ld : Later wr wr.drew).trans L8).cell_of hcr; have V8 : Hid (Vst w8 _ s.1 s.2.1 s.2.2.2) := row_vst R8 hF8; replace L8 : Hid (Later wr.drew w8) := L8; clear R8 hF8) | (go_at_call 15; refine (samev_any _ _ s.1 _ _ s.2.1 s.2.2.2 (by omega) _ V8 (hvs.out.later ((Ld (Lz _)).trans L8.out))).mono ?_; rintro e w9 ⟨rfl, L9⟩; have c9 := L9.cell_of c8; replace L9 : Hid (Later w8 w9) := L9) | (go_at_call 17; refine (awake_any _ _ (Lz _)).mono ?_; rintro e w10 ⟨rfl, L10⟩; have c10 := L10.cell_of c9; replace L10 : Hid (Later w9 w10) := L10))
    have hX : Hid (Later w w10) := DR.out.ltr.trans ((Ld (Lz _)).trans (L8.out.trans (L9.out.trans L10.out)))
    clear L8 L9 L10 c8 c9 c10 V8 hal hvs hcr
    go_wp2
    go_ret
    exact ⟨rfl, hX.out⟩
theorem view_acts {H : Type} {enc : TypeId × Value → H} {W : World} {A : Option Addr} {n cap : Nat} {d : DataW H} {ps : List MemPlace} (h : DataW.Trod enc Try.prog W 0 (fun _ => true) true 22 (.slice A n cap) d ps) :
    n = 0 ∨ ∃ (bb oo : Nat), A = some ⟨bb, oo, none⟩ ∧ ∀ i, i < n → ∃ a, actAt W bb oo i a := by
  obtain ⟨fuel, hf⟩ := h
  have ce : Try.prog.cellsOf 33 = 5 := by kernel_rfl
  have ci : Try.prog.cellsOf 3 = 1 := by kernel_rfl
  have cb : Try.prog.cellsOf 4 = 1 := by kernel_rfl
  have cv : Try.prog.cellsOf 31 = 2 := by kernel_rfl
  rcases Go.Deep.open_slice Try.underlying22 hf with ⟨hcs, hx⟩ | ⟨a, len', cap', m, k, D, Pl, hcs, _, hl, hm, hmm, hx, hel⟩
  · simp [Value.cells] at hcs
    exact Or.inl hcs.2.1
  · simp [Value.cells] at hcs
    obtain ⟨rfl, rfl, rfl⟩ := hcs
    simp only [if_true] at hmm
    by_cases h0 : n = 0
    · exact Or.inl h0
    · rw [ce] at hel
      obtain ⟨b, off, spot⟩ := a
      have hspot : spot = none := by
        obtain ⟨cs', h1, _⟩ := hel 0 (by omega)
        obtain ⟨_, hlen, hcell⟩ := World.cells?_some h1
        have h2 := hcell 0 (by decide)
        have h3 : 0 < cs'.length := by omega
        rw [List.getElem?_eq_getElem h3] at h2
        simpa [Addr.add] using World.cell?_spot h2
      subst hspot
      refine Or.inr ⟨b, off, rfl, fun i hi => ?_⟩
      obtain ⟨cs', h1, h2⟩ := hel i (by omega)
      obtain ⟨_, hlen, hcell⟩ := World.cells?_some h1
      obtain ⟨xs, k', hk, hxy, _, hxl, hfl⟩ := DataW.trod_struct Try.underlying33 h2
      match xs, hxl, cs', hlen with
      | [y0, y1, y2, y3], _, [u0, u1, u2, u3, u4], _ =>
        have g0 := hfl 0 _ rfl
        have g1 := hfl 1 _ rfl
        have g2 := hfl 2 _ rfl
        have g3 := hfl 3 _ rfl
        simp [ci, cb, cv] at g0 g1 g2 g3
        obtain ⟨x0, e0, _, _⟩ := DataW.trod_int Try.underlying3 g0
        obtain ⟨x1, e1, _, _⟩ := DataW.trod_int Try.underlying3 g1
        obtain ⟨b4, e4, _⟩ := DataW.trod_bool Try.underlying4 g3
        obtain ⟨xs2, k2, hk2, hxy2, _, hxl2, hfl2⟩ := DataW.trod_struct Try.underlying31 g2
        match xs2, hxl2 with
        | [z0, z1], _ =>
          have t0 := hfl2 0 _ rfl
          have t1 := hfl2 1 _ rfl
          simp [ci] at t0 t1
          obtain ⟨x2, e2, _, _⟩ := DataW.trod_int Try.underlying3 t0
          obtain ⟨x3, e3, _, w3⟩ := DataW.trod_int Try.underlying3 t1
          simp at e0 e1 e2 e3 e4
          subst e0 e1 e2 e3 e4
          have c0 := hcell 0 (by decide)
          have c1 := hcell 1 (by decide)
          have c2 := hcell 2 (by decide)
          have c3 := hcell 3 (by decide)
          have c4 := hcell 4 (by decide)
          rw [Go.Deep.add_add, add_of] at c0 c1 c2 c3 c4
          exact ⟨(x0, x1, x2, x3, b4), ⟨by simpa using c0, by simpa [Nat.add_assoc] using c1, by simpa [Nat.add_assoc] using c2, by simpa [Nat.add_assoc] using c3, by simpa [Nat.add_assoc] using c4⟩, bounds_i64 w3⟩
theorem walk (A : Option Addr) (n cap : Nat) (w : World) (hv : n = 0 ∨ ∃ (bb oo : Nat), A = some ⟨bb, oo, none⟩ ∧ ∀ i, i < n → ∃ a, actAt w bb oo i a) :
    Calls Try.prog 3 #[.slice A n cap] w fun e w' => e = .returned (.bool true) ∧ Later w w' := by
  rcases hv with h0 | ⟨bb, oo, rfl, hV⟩
  · exact core_zero A n cap w h0
  · exact core_good bb oo n cap w hV

set_option maxRecDepth 100000 in
theorem lifted (os : Os) (started : os.Started) (H : Type) (enc : TypeId × Value → H) :
    ReturnsInHanded {} Try.checked os 3 .any (Rows.globalActsSpec.pre6 enc Try.prog Try.f3 Rows.globalActsRow.domain false) (Rows.globalActsSpec.post enc Try.prog Try.f3 false true false false) := by
  refine returnsInHanded_of_change_sized (C := Try.checked) own started (by kernel_rfl) Try.func3
    (ChangeSpec.witness6 (enc := enc) (C := Try.checked) false ⟨#[], #[.slice none 0 0], []⟩ 8 (by kernel_rfl) (by kernel_rfl) (by kernel_rfl) (by kernel_rfl)) ?_
  intro W base args ds gs before hval0 hW _ _ _
  have hval : ∀ (j : Nat) t v, Try.f3.params[j]? = some t → args[j]? = some v → Value.okWide Try.prog W .any base t v := hval0
  have hW' := hW
  obtain ⟨p, q, hA0, hV, rfl, hfz, hnd⟩ := hW
  have hA : DataW.TrodAll enc Try.prog W 0 (fun _ => true) true Try.f3.params.toList args.toList ds p := hA0
  rw [Try.params3] at hA hval
  obtain ⟨v0, vs0, d0, ds0, p0, q0, hargs, rfl, rfl, h0, r0⟩ := trodAll_cons hA
  obtain ⟨rfl, rfl, rfl⟩ := trodAll_nil r0
  obtain rfl : args = #[v0] := by cases args; simp_all
  obtain ⟨rfl, rfl⟩ := trodVars_none hV
  obtain ⟨A0, n0, c0, rfl⟩ := okWide_slice Try.underlying22 (hval 0 22 v0 rfl rfl)
  clear hA0 hval0
  simp only [List.append_nil, List.nil_append] at hW'
  have hlt : ∀ x ∈ p0, x.block < W.heap.size := fun x hx => by simpa using hW'.lt x hx
  refine (walk A0 n0 c0 W (view_acts h0)).mono fun e W' ⟨he, hl⟩ => ?_
  subst he
  have hg := hl.grown
  have hbel : Below W.heap.size W W' := by obtain ⟨bs, nn, rfl⟩ := hl; exact ⟨rfl, rfl, rfl, by rw [World.far_size]; omega, fun k hk => World.far_block W bs nn k hk⟩
  have hx : ∀ sp : Nat → Bool, (∀ p ∈ p0, sp p.block = true) → DataW.TrodAll enc Try.prog W' 0 sp true [22] [.slice A0 n0 c0] [d0] (p0) := fun sp hsp => by simpa using (trodAll_cons_mk (WideElems.Trod_stays (by kernel_rfl) (by kernel_rfl) (of_decide_eq_true (by kernel_rfl)) h0 (fun x hx => hbel.same (hlt x (by simp [hx]))) (fun x hx => hsp x (by simp [hx]))) trodAll_mk0)
  exact ⟨_, rfl, post_of_same (pa := p0) (pv := []) hW' (fun _ _ _ => (trodAll_cons_mk (shut_bool Try.underlying4 _) trodAll_mk0)) (fun sp hsp => hx sp hsp) (fun _ _ => rfl) (by simp)
    (hg.frame _) hg.2.1 (ok_one (by kernel_rfl) rfl (okWide_bool_mk Try.underlying4 _))⟩

theorem over : Rows.globalActsRow.holds Try.pinned (OpenSpec.ofChange Rows.globalActsSpec) :=
  OpenClaim.holds_of_wide 3 Try.f3 rfl rfl rfl rfl rfl rfl rfl ⟨rfl, rfl, rfl, rfl, rfl⟩ rfl rfl rfl rfl rfl (by kernel_rfl) Try.func3 (by kernel_rfl)
    (of_decide_eq_true (by kernel_rfl)) (by unfold Func.isWrapper; first | (rw [if_pos (by decide +kernel)]; kernel_rfl) | (rw [if_neg (by decide +kernel)]; exact ⟨rfl, rfl⟩))
    (fun os started H enc _ => lifted os started H enc)


theorem proved : Rows.GlobalActsSaid := over
end Go.Proofs.Ytlbjnlialhpfhaa.globalActs
namespace Go.Proofs.Ytlbjnlialhpfhaa
theorem globalActs_holds : Rows.GlobalActsSaid := globalActs.proved
#print axioms globalActs_holds
end Go.Proofs.Ytlbjnlialhpfhaa
