/- 'TraceActs' of package peloruslaw11 returns true at every list of answers and every list of acts: a host under any calls answers as the document's host, call by call, and has heard the same; lists stay. No condition. -/
import Derived.Test.YtlckiipkndipiaaUX
import Derived.LoopTactic
import Derived.OpenShut
import Derived.Carry
import Derived.Deep.Slices
import Derived.Deep.SlicePairs
import Derived.Deep.RegionHeld3
import Derived.RegionCalls
import Derived.ChangeMaps5
import Derived.Lib.SmallJoins
import Derived.SizedLaws
set_option linter.unusedVariables false
set_option linter.unusedSimpArgs false
set_option maxRecDepth 100000
set_option maxHeartbeats 8000000
namespace Go.Proofs.Ytlckiipkndipiaa.traceActs
open Go.ChangeShapes Go.WideShapes Go.ChangeAt Go.RowKit
/-- both hosts among the blocks laid since w0; what was there has label 99 -/
def Tw (w0 w : World) (lab : Nat → Nat) (p pr : Nat) (s : Hs) : Prop := Later w0 w ∧ HoS lab w w0.heap.size p s ∧ DhS lab w w0.heap.size pr s ∧ ∀ k, k < w0.heap.size → lab k = 99
theorem Tw.chg {w0 w w' : World} {lab lab' : Nat → Nat} {p pr : Nat} {s : Hs} {S : Nat → Prop} (h : Tw w0 w lab p pr s) (hc : Chg lab S w w' lab') (hL : Later w0 w') (hs : ∀ k, k < 15 ∨ k = 99 → ¬ S k) : Tw w0 w' lab' p pr s :=
  ⟨hL, h.2.1.chg hc (fun k hk => hs k (by omega)), h.2.2.1.chg hc (fun k _ hk => hs k (Or.inl hk)), fun k hk => by rw [(hc.2 k (by have := h.1.size; omega) (by rw [h.2.2.2 k hk]; exact hs 99 (Or.inr rfl))).1]; exact h.2.2.2 k hk⟩
theorem Tw.later {w0 w w' : World} {lab : Nat → Nat} {p pr : Nat} {s : Hs} (h : Tw w0 w lab p pr s) (hl : Later w w') : Tw w0 w' lab p pr s := h.chg (S := fun _ => False) (Chg.of_later hl) (h.1.trans hl) (fun _ _ x => x)
theorem lq_old {w0 w : World} {lab : Nat → Nat} {R : Option Addr} {m : Nat} {r : Nat → Int} (hL : Later w0 w) (hlab : ∀ k, k < w0.heap.size → lab k = 99) (h : Lst w0 R m r) : Lq lab w R m r := by
  rcases h with h | ⟨b, o, rfl, h⟩
  · exact Or.inl h
  · by_cases h0 : m = 0
    · exact Or.inl h0
    · exact Or.inr ⟨b, o, rfl, by rw [hlab b (cell_lt (h 0 (by omega)))]; decide, fun j hj => hL.cell_of (h j hj)⟩
/-- an act: F; Params, Results; Args -/
def actV (x : Int) (P R X : Value) (i : Nat) : Value := if i = 0 then .int .i64 x else if i = 1 then P else if i = 2 then R else X
theorem act_row (w : World) (x : Int) (P R X : Value) : (w.alloc (.cells #[.int .i64 x, P, R, X] 38)).rowIs w.heap.size 38 4 (actV x P R X) := by
  refine World.rowIs_alloc w #[.int .i64 x, P, R, X] _ _ ?_
  intro i hi
  match i, hi with
  | 0, _ => rfl
  | 1, _ => rfl
  | 2, _ => rfl
  | 3, _ => rfl
def actAt (W : World) (bb oo i : Nat) : Prop := ∃ (x : Int) (P : Option Addr) (mp cp : Nat) (R : Option Addr) (mr cr : Nat) (X : Option Addr) (cx : Nat) (l : Vl) (r : Nat → Int),
  (W.cell? ⟨bb, oo + i * 4, none⟩ = some (.int .i64 x) ∧ W.cell? ⟨bb, oo + i * 4 + 1, none⟩ = some (.slice P mp cp) ∧ W.cell? ⟨bb, oo + i * 4 + 2, none⟩ = some (.slice R mr cr) ∧ W.cell? ⟨bb, oo + i * 4 + 3, none⟩ = some (.slice X l.1 cx)) ∧ l.1 * 16 ≤ 140737488351232 ∧ Vst W X l.1 l.2.1 l.2.2 ∧ Lst W R mr r
theorem core (A0 : Option Addr) (n cap0 : Nat) (f : Nat → Vl) (hn : Hid (n * 24 ≤ 140737488351232)) (bb oo na capa : Nat) (B0 : Option Addr) (w : World) (hAs : Hid (Anv w A0 n f)) (hActs : Hid (na = 0 ∨ B0 = some ⟨bb, oo, none⟩ ∧ ∀ i, i < na → actAt w bb oo i)) :
    Calls Try.prog 3 #[.slice A0 n cap0, .slice B0 na capa] w fun e w' => e = .returned (.bool true) ∧ Later w w' := by
  have hnb : n ≤ 5864062014634 := by have := hn.out; omega
  go_enter Try.func3, Try.ntmps3
  go_wp2_with fail
  go_loopw [5, 6] (fun v i wr => ∃ (j : Nat) (lab : Nat → Nat), j ≤ n ∧ i = .int .i64 (j : Nat) ∧ Later w wr ∧ (∀ k, k < w.heap.size → lab k = 99) ∧ Len lab wr w.heap.size v j f 0) (fun v i _ => n - (intOf i).toNat)
  case atStart => exact ⟨0, fun _ => 99, Nat.zero_le _, rfl, Lz _, fun _ _ => rfl, len_none _ _ _ _⟩
  case round =>
    obtain ⟨j, lab, hj, rfl, hL, hlab, hLen⟩ := hrel
    obtain ⟨Av, cv, rfl⟩ := hLen.form
    by_cases hlt : j < n
    · have hl1 : (j : Int) < (n : Int) := by omega
      obtain ⟨ba, oa, rfl, hc⟩ := hAs.out.resolve_left (by omega)
      obtain ⟨S, cs, k1, k2, k3⟩ := hc j hlt
      have a0 := hL.cell_of k1
      have la := cell_lt a0
      go_wp2_with fail
      refine (lend_lnt (lab := lab) (100 + j) hL S cs (f j) k2 (k3.later hL)).mono ?_
      rintro e w2 ⟨g, cg, rfl, l2, hg, lab2, C2, hl⟩
      obtain ⟨g3, d3, w3, lab3, r3, L3, C3, Ln3⟩ := len_more (hL.trans l2) (hLen.chg 0 C2 (Nat.le_refl _) ⟨fun x => x, fun _ _ x => x⟩) hl (by have := hn.out; omega)
      have hlab3 : ∀ k, k < w.heap.size → lab3 k = 99 := fun k hk => by
        have x2 : lab2 k = 99 := ((C2.2 k (by have := hL.size; omega) (fun x => x)).1).trans (hlab k hk)
        exact ((C3.2 k (by have := (hL.trans l2).size; omega) (by rw [x2]; decide)).1).trans x2
      replace r3 : Hid _ := r3
      replace hlab3 : Hid _ := hlab3
      replace L3 : Hid (Later w w3) := L3
      replace Ln3 : Hid (Len lab3 w3 w.heap.size (.slice (some ⟨g3, 0, none⟩) (j + 1) d3) (j + 1) f 0) := Ln3
      clear C2 C3 hl hLen hL hlab hc k1 k2 k3 a0 la l2
      go_wp2_with (at_builtin; refine wpList_app rfl _ _ 22 rfl _ _ _ rfl rfl r3.out ?_)
      go_roundw
      case rel => exact ⟨j + 1, lab3, by omega, by go_num, L3.out, hlab3.out, Ln3.out⟩
      case measure => simp [intOf]; omega
    · have hje : j = n := by omega
      subst hje
      have hanv : Hid (Anv wr Av j f) := hLen.anv
      replace hlab : Hid _ := hlab
      go_wp2_with fail
      refine (hnew_any lab w wr hL Av j cv f hn.out hanv.out).mono ?_
      rintro e w1 ⟨p, rfl, l1, h1⟩
      obtain ⟨lab1, C1, H1⟩ := h1 (fun _ => 0) (fun _ => nov)
      go_wp2_with fail
      refine (newhost_any lab1 w w1 (hL.trans l1) A0 j cap0 f hn.out (hAs.out.later (hL.trans l1))).mono ?_
      rintro e w2 ⟨pr, rfl, l2, h2⟩
      obtain ⟨lab2, C2, H2⟩ := h2 (fun _ => 0) (fun _ => nov)
      have T2 : Tw w w2 lab2 p pr (j, f, 0, (fun _ => 0), (fun _ => nov)) := ⟨(hL.trans l1).trans l2, H1.chg C2 (fun _ _ x => x), H2, fun k hk => by rw [(C2.2 k (by have := (hL.trans l1).size; omega) (fun x => x)).1, (C1.2 k (by have := hL.size; omega) (fun x => x)).1]; exact hlab.out k hk⟩
      have N2 : Len lab2 w2 w.heap.size (.slice Av j cv) j f 0 := (hLen.chg 0 C1 (Nat.le_refl _) ⟨fun x => x, fun _ _ x => x⟩).chg 0 C2 (Nat.le_refl _) ⟨fun x => x, fun _ _ x => x⟩
      clear h1 h2 C1 C2 H1 H2 l1 l2 hlab hLen hL hanv
      go_wp2_with fail
      go_loopw [9] (fun i wr => ∃ (k : Nat) (lab : Nat → Nat), k ≤ j ∧ i = .int .i64 (k : Nat) ∧ Tw w wr lab p pr (j, f, 0, (fun _ => 0), (fun _ => nov)) ∧ Len lab wr w.heap.size (.slice Av j cv) j f k) (fun i _ => j - (intOf i).toNat)
      case atStart => exact ⟨0, lab2, Nat.zero_le _, rfl, T2, N2⟩
      case round =>
        clear T2 N2
        obtain ⟨k, lab, hk, rfl, T3, N3⟩ := hrel
        by_cases hlt : k < j
        · have hl1 : (k : Int) < (j : Int) := by omega
          obtain ⟨ba, oa, rfl, hc⟩ := hAs.out.resolve_left (by omega)
          obtain ⟨S, cs, k1, k2, k3⟩ := hc k hlt
          obtain ⟨gr, g, ci, rfl, q1, q2⟩ := N3.at_ k hlt
          have hln : Lnt lab (100 + k) wr w.heap.size g ci (f k) := q2.resolve_left (by omega)
          have a0 := T3.1.cell_of k1
          have la := cell_lt a0
          have lq := cell_lt q1
          have hkp : Hid (∀ W, Later wr W → Calls Try.prog 9 #[.slice (some ⟨g, 0, none⟩) (f k).1 ci, .slice S (f k).1 cs] W fun e w' => e = .returned (.bool true) ∧ Later W w') := fun W hl => kept_lnt (hln.chg (S := fun _ => False) (Chg.of_later hl) (fun x => x)) S cs (k3.later (T3.1.trans hl))
          have hsp : Hid (∀ W, Later wr W → Calls Try.prog 10 #[.slice (some ⟨g, 0, none⟩) (f k).1 ci] W fun e w' => e = .returned (.tuple #[]) ∧ Later w w' ∧ Chg lab (· = 100 + k) W w' lab) := fun W hl => spoil_rv (T3.1.trans hl) (Or.inr ⟨g, ((hln.chg (S := fun _ => False) (Chg.of_later hl) (fun x => x)).rv)⟩) k2
          replace T3 : Hid (Tw w wr lab p pr (j, f, 0, (fun _ => 0), (fun _ => nov))) := T3
          replace N3 : Hid (Len lab wr w.heap.size (.slice (some ⟨gr, 0, none⟩) j cv) j f k) := N3
          clear hc k1 k2 k3 hln q2
          go_wp2_with fail
          refine wp_region_quiet_far (by kernel_rfl) (by kernel_rfl) ?_
          repeat (go_big_quiet_step ((go_at_call 9; exact Calls.far_of (hkp.out _ (by repeat first | exact Lz _ | apply La | apply Lv | apply Ld | apply Ln)))))
          refine wpQuiet_nil ?_
          rintro _ ⟨⟨bs, d⟩, rfl⟩
          go_wp2_with fail
          refine (hsp.out _ (Lv (Lz _))).mono ?_
          rintro e w5 ⟨rfl, L5, C5⟩
          have C6 : Chg lab (· = 100 + k) wr w5 lab := (Chg.of_later (Lv (Lz _))).trans C5
          have T6 : Hid (Tw w w5 lab p pr (j, f, 0, (fun _ => 0), (fun _ => nov))) := T3.out.chg C6 L5 (fun i hi => by omega)
          have N6 : Hid (Len lab w5 w.heap.size (.slice (some ⟨gr, 0, none⟩) j cv) j f (k + 1)) := N3.out.chg (k + 1) C6 (by omega) ⟨by omega, fun i hi => by omega⟩
          clear C5 C6 L5 T3 N3 hkp hsp a0 la q1 lq
          go_wp2
          go_roundw
          case rel => exact ⟨k + 1, lab, by omega, by go_num, T6.out, N6.out⟩
          case measure => simp [intOf]; omega
        · have hke : k = j := by omega
          subst hke
          clear N3
          generalize hs0 : ((k, f, 0, (fun _ => 0), (fun _ => nov)) : Hs) = s0 at *
          have hs1 : s0.2.2.1 = 0 := by rw [← hs0]
          clear hs0
          have T3' : Hid (Tw w wr lab p pr s0) := T3
          clear T3
          go_wp2_with fail
          go_loopw [10] (fun i wr => ∃ (j : Nat) (lab : Nat → Nat) (s : Hs), j ≤ 100 ∧ i = .int .i64 (j : Nat) ∧ s.2.2.1 ≤ j ∧ Tw w wr lab p pr s) (fun i _ => 100 - (intOf i).toNat)
          case atStart => exact ⟨0, lab, s0, Nat.zero_le _, rfl, by omega, T3'.out⟩
          case round =>
            clear T3' hs1
            obtain ⟨j, lab, s, hj, rfl, hsm, T3⟩ := hrel
            by_cases hlt : j < na ∧ j < 100
            · have hl1 : (j : Int) < (na : Int) := by omega
              have hl2 : (j : Int) < 100 := by omega
              obtain ⟨hB0, hact⟩ := hActs.out.resolve_left (by omega)
              subst hB0
              obtain ⟨x, P, mp, cp, R, mr, cr, X, cx, l, r, ⟨a0, a1, a2, a3⟩, hlb, hX, hR⟩ := hact j hlt.1
              replace a0 := T3.1.cell_of a0
              replace a1 := T3.1.cell_of a1
              replace a2 := T3.1.cell_of a2
              replace a3 := T3.1.cell_of a3
              have lb := cell_lt a0
              replace hX : Hid (Vst w X l.1 l.2.1 l.2.2) := hX
              replace hR : Hid (Lst w R mr r) := hR
              replace hact : Hid _ := hact
              go_wp2_with fail
              have RA := act_row wr x (.slice P mp cp) (.slice R mr cr) (.slice X l.1 cx)
              have LA : Later wr (wr.alloc (.cells #[.int .i64 x, .slice P mp cp, .slice R mr cr, .slice X l.1 cx] 38)) := La (Lz wr)
              generalize wr.alloc (.cells #[.int .i64 x, .slice P mp cp, .slice R mr cr, .slice X l.1 cx] 38) = w3 at *
              obtain ⟨lab3, C3, hz3⟩ := Chg.fresh (lab := lab) (S := fun _ => False) LA 99
              have T4 : Tw w w3 lab3 p pr s := T3.chg C3 (T3.1.trans LA) (fun _ _ x => x)
              have SA : Str lab3 99 w3 w.heap.size wr.heap.size 38 4 (actV x (.slice P mp cp) (.slice R mr cr) (.slice X l.1 cx)) := ⟨RA, T3.1.size, hz3 _ (Nat.le_refl _)⟩
              clear RA LA C3 hz3 T3 a0 a1 a2 a3 lb
              refine (lend_lnt (lab := lab3) 97 T4.1 X cx l hlb (hX.out.later T4.1)).mono ?_
              rintro e w4 ⟨g4, c4, rfl, l4, hg4, lab4, C4, N4⟩
              replace T4 := T4.chg C4 (T4.1.trans l4) (fun _ _ x => x)
              replace SA := SA.chg C4 (fun x => x)
              have b0 : w4.cell? ⟨wr.heap.size, 0, none⟩ = some (.int .i64 x) := SA.1.cell (i := 0) (by decide)
              have b1 : w4.cell? ⟨wr.heap.size, 1, none⟩ = some (.slice P mp cp) := SA.1.cell (i := 1) (by decide)
              have b2 : w4.cell? ⟨wr.heap.size, 2, none⟩ = some (.slice R mr cr) := SA.1.cell (i := 2) (by decide)
              clear C4 l4
              go_wp2_with fail
              refine (hcall_any lab4 w w4 p s x P R _ mp cp mr cr c4 l r T4.1 T4.2.1 (by omega) hlb N4.rv.1.vst (lq_old T4.1 T4.2.2.2 hR.out)).mono ?_
              rintro e w5 ⟨A5, c5, rfl, L5, lab5, C5, H5, hVb, Q5⟩
              have D5 : DhS lab5 w5 w.heap.size pr s := T4.2.2.1.chg C5 (fun k h1 _ h2 => by omega)
              have O5 : ∀ k, k < w.heap.size → lab5 k = 99 := fun k hk => by rw [(C5.2 k (by have := T4.1.size; omega) (by rw [T4.2.2.2 k hk]; decide)).1]; exact T4.2.2.2 k hk
              replace N4 := N4.chg C5 (by decide)
              replace SA := SA.chg C5 (by decide)
              have hz4 := T4.1.size
              clear b0 b1 b2 T4 C5
              have b0 : w5.cell? ⟨wr.heap.size, 0, none⟩ = some (.int .i64 x) := SA.1.cell (i := 0) (by decide)
              have b1 : w5.cell? ⟨wr.heap.size, 1, none⟩ = some (.slice P mp cp) := SA.1.cell (i := 1) (by decide)
              have b2 : w5.cell? ⟨wr.heap.size, 2, none⟩ = some (.slice R mr cr) := SA.1.cell (i := 2) (by decide)
              have b3 : w5.cell? ⟨wr.heap.size, 3, none⟩ = some (.slice X l.1 cx) := SA.1.cell (i := 3) (by decide)
              go_wp2_with fail
              refine (rcall_any lab5 w w5 pr s x P R X mp cp mr cr cx l r L5 D5 (by omega) hlb (hX.out.later L5) (lq_old L5 O5 hR.out)).mono ?_
              rintro e w6 ⟨A6, c6, rfl, L6, V6, _, lab6, C6, _, D6⟩
              have T6 : Tw w w6 lab6 p pr (cS s x l) := ⟨L6, H5.chg C6 (fun k h1 h2 => by unfold hid at h2; omega), D6, fun k hk => by rw [(C6.2 k (by have := L5.size; omega) (by rw [O5 k hk]; unfold hid; omega)).1]; exact O5 k hk⟩
              replace N4 := N4.chg C6 (by unfold hid; omega)
              replace SA := SA.chg C6 (by unfold hid; omega)
              have Q6 : (cV s x mr r).1 = 0 ∨ ∃ g, Rv w6 A5 (cV s x mr r) g ∧ lab6 g = 98 ∧ w.heap.size ≤ g := by
                rcases Q5 with Q5 | ⟨g, q1, q2, q3⟩
                · exact Or.inl Q5
                · have := q1.chg C6 (by rw [q2]; unfold hid; omega)
                  exact Or.inr ⟨g, this.1, by rw [this.2]; exact q2, by omega⟩
              have hc1 : (cS s x l).2.2.1 ≤ j + 1 := by
                unfold cS
                split
                · omega
                · show s.2.2.1 + 1 ≤ j + 1
                  omega
              generalize cE s x mr r = E at *
              generalize cV s x mr r = Vv at *
              generalize cS s x l = s1 at *
              clear b0 b1 b2 b3 C6 D5 O5 H5 D6 Q5 hz4 L5
              have V5 : Vst w6 A5 Vv.1 Vv.2.1 Vv.2.2 := by
                rcases Q6 with Q6 | ⟨g, q1, _⟩
                · exact Or.inl Q6
                · exact q1.vst
              have hsv : Hid (∀ W, Later w6 W → Calls Try.prog 13 #[.slice A5 Vv.1 c5, .slice A6 Vv.1 c6] W fun e w' => e = .returned (.bool true) ∧ Later W w') := fun W hl => samev_any _ _ Vv.1 _ _ Vv.2.1 Vv.2.2 (by omega) W (V5.later hl) (V6.later hl)
              have hlf : Hid (∀ W, Later w6 W → Calls Try.prog 15 #[.pointer (some ⟨p, 0, none⟩)] W fun e w' => e = .returned (.int .i64 (s1.1 : Int)) ∧ Later W w') := fun W hl => hleft_any lab6 W _ p s1 (T6.later hl).2.1
              have hkp : Hid (∀ W, Later w6 W → Calls Try.prog 9 #[.slice (some ⟨g4, 0, none⟩) l.1 c4, .slice X l.1 cx] W fun e w' => e = .returned (.bool true) ∧ Later W w') := fun W hl => kept_lnt (N4.chg (S := fun _ => False) (Chg.of_later hl) (fun x => x)) X cx (hX.out.later (L6.trans hl))
              obtain ⟨_, A1, c1, A2, c2, M1, M2, s0, _⟩ := T6.2.2.1
              have k0 : w6.cell? ⟨pr, 0, none⟩ = some (.slice A1 s1.1 c1) := s0.1.cell (i := 0) (by decide)
              have b3 : w6.cell? ⟨wr.heap.size, 3, none⟩ = some (.slice X l.1 cx) := SA.1.cell (i := 3) (by decide)
              have lk0 := cell_lt k0
              have lb3 := cell_lt b3
              replace T6 : Hid (Tw w w6 lab6 p pr s1) := T6
              replace N4 : Hid (Lnt lab6 97 w6 w.heap.size g4 c4 l) := N4
              replace Q6 : Hid (Vv.1 = 0 ∨ ∃ g, Rv w6 A5 Vv g ∧ lab6 g = 98 ∧ w.heap.size ≤ g) := Q6
              clear SA V5 V6 s0 hX hR L6
              go_wp2_with fail
              refine wp_region_quiet_far (by kernel_rfl) (by kernel_rfl) ?_
              repeat (go_big_quiet_step (first | (go_at_call 13; exact Calls.far_of (hsv.out _ (by repeat first | exact Lz _ | apply La | apply Lv | apply Ld | apply Ln))) | (go_at_call 14; exact Calls.far_of_same (num_any _ _)) | (go_at_call 15; exact Calls.far_of (hlf.out _ (by repeat first | exact Lz _ | apply La | apply Lv | apply Ld | apply Ln))) | (go_at_call 9; exact Calls.far_of (hkp.out _ (by repeat first | exact Lz _ | apply La | apply Lv | apply Ld | apply Ln)))))
              refine wpQuiet_nil ?_
              rintro w7 ⟨⟨bs, d⟩, e7⟩
              have L7 : Later w6 w7 := ⟨bs, d, e7⟩
              clear e7 hsv hlf hkp k0 b3 lk0 lb3
              have T7 := T6.out.later L7
              have N7 := N4.out.chg (S := fun _ => False) (Chg.of_later L7) (fun x => x)
              have Q7 : Vv.1 = 0 ∨ ∃ g, Rv w7 A5 Vv g ∧ lab6 g = 98 ∧ w.heap.size ≤ g := by
                rcases Q6.out with Q6 | ⟨g, q1, q2, q3⟩
                · exact Or.inl Q6
                · exact Or.inr ⟨g, (q1.chg (lab := lab6) (S := fun _ => False) (Chg.of_later L7) (fun x => x)).1, q2, q3⟩
              clear T6 N4 Q6 L7
              go_wp2_with fail
              refine (spoil_rv (tag := 97) T7.1 (Or.inr ⟨g4, N7.rv⟩) hlb).mono ?_
              rintro e w8 ⟨rfl, L8, C8⟩
              have T8 := T7.chg C8 L8 (fun k hk => by omega)
              have Q8 : Vv.1 = 0 ∨ ∃ g, Rv w8 A5 Vv g ∧ lab6 g = 98 ∧ w.heap.size ≤ g := by
                rcases Q7 with Q7 | ⟨g, q1, q2, q3⟩
                · exact Or.inl Q7
                · exact Or.inr ⟨g, (q1.chg C8 (by rw [q2]; decide)).1, q2, q3⟩
              clear T7 N7 Q7 C8 L8
              go_wp2_with fail
              refine (spoil_rv (tag := 98) T8.1 Q8 hVb).mono ?_
              rintro e w9 ⟨rfl, L9, C9⟩
              have T9 := T8.chg C9 L9 (fun k hk => by omega)
              clear T8 Q8 C9 L9
              go_wp2_with fail
              refine (htrace_any lab6 w9 _ p s1 T9.2.1 (by omega)).mono ?_
              rintro e w10 ⟨At, ct, rfl, l10, lab10, C10, R10⟩
              have T10 := T9.chg C10 (T9.1.trans l10) (fun _ _ x => x)
              obtain ⟨Ah, ch, hh0, hhv⟩ := T10.2.2.1.heard
              have hsh : Hid (∀ W, Later w10 W → Calls Try.prog 17 #[.slice At s1.2.2.1 ct, .slice Ah s1.2.2.1 ch] W fun e w' => e = .returned (.bool true) ∧ Later W w') := fun W hl => sameheard_any _ _ s1.2.2.1 _ _ s1.2.2.2.1 s1.2.2.2.2 (by omega) W (R10.hv.later hl) (hhv.later hl)
              have hB10 : Hid (w.heap.size ≤ w9.heap.size) := T9.1.size
              replace T10 : Hid (Tw w w10 lab10 p pr s1) := T10
              replace R10 : Hid (Trc lab10 w10 w9.heap.size At s1.2.2.1 s1.2.2.2.1 s1.2.2.2.2 0) := R10
              clear T9 C10 l10 hhv
              go_wp2_with fail
              refine (hsh.out _ (Lz _)).mono ?_
              rintro e w11 ⟨rfl, L11⟩
              have T11 : Hid (Tw w w11 lab10 p pr s1) := T10.out.later L11
              have R11 : Hid (Trc lab10 w11 w9.heap.size At s1.2.2.1 s1.2.2.2.1 s1.2.2.2.2 0) := R10.out.chg (S := fun _ => False) 0 (Chg.of_later L11) (Nat.le_refl _) ⟨fun x => x, fun _ _ x => x⟩
              clear T10 R10 hsh hh0 L11
              go_wp2_with fail
              go_loopw [18] (fun i wr => ∃ k : Nat, k ≤ s1.2.2.1 ∧ i = .int .i64 (k : Nat) ∧ Tw w wr lab10 p pr s1 ∧ Trc lab10 wr w9.heap.size At s1.2.2.1 s1.2.2.2.1 s1.2.2.2.2 k) (fun i _ => s1.2.2.1 - (intOf i).toNat)
              case atStart => exact ⟨0, Nat.zero_le _, rfl, T11.out, R11.out⟩
              case round =>
                obtain ⟨k, hk, rfl, T12, R12⟩ := hrel
                clear T11 R11
                by_cases hkl : k < s1.2.2.1
                · have hl3 : (k : Int) < (s1.2.2.1 : Int) := by omega
                  obtain ⟨gt, rfl, hgt, hgB, hrow⟩ := id (R12.resolve_left (by omega))
                  obtain ⟨t0, t1, St, ct2, t2, t3⟩ := hrow k hkl
                  have lt := cell_lt t2
                  have hsp : Hid (Calls Try.prog 10 #[.slice St (s1.2.2.2.2 k).1 ct2] wr fun e w' => e = .returned (.tuple #[]) ∧ Later w w' ∧ Chg lab10 (· = 1000 + k) wr w' lab10) := spoil_rv T12.1 (by
                    rcases t3 with t3 | t3 | ⟨gi, q1, q2, q3⟩
                    · omega
                    · exact Or.inl t3
                    · exact Or.inr ⟨gi, q1, q2, Nat.le_trans hB10.out q3⟩) t1
                  replace T12 : Hid (Tw w wr lab10 p pr s1) := T12
                  replace R12 : Hid (Trc lab10 wr w9.heap.size (some ⟨gt, 0, none⟩) s1.2.2.1 s1.2.2.2.1 s1.2.2.2.2 k) := R12
                  clear hrow t3 t0
                  go_wp2_with fail
                  refine hsp.out.mono ?_
                  rintro e w13 ⟨rfl, L13, C13⟩
                  have T13 : Hid (Tw w w13 lab10 p pr s1) := T12.out.chg C13 L13 (fun i hi => by omega)
                  have R13 : Hid (Trc lab10 w13 w9.heap.size (some ⟨gt, 0, none⟩) s1.2.2.1 s1.2.2.2.1 s1.2.2.2.2 (k + 1)) := R12.out.chg (k + 1) C13 (by omega) ⟨by omega, fun i hi => by omega⟩
                  clear C13 L13 T12 R12 hsp t2 lt
                  go_wp2
                  go_roundw
                  case rel => exact ⟨k + 1, by omega, by go_num, T13.out, R13.out⟩
                  case measure => simp [intOf]; omega
                · replace T12 : Hid (Tw w wr lab10 p pr s1) := T12
                  have hl3 : ¬ (k : Int) < (s1.2.2.1 : Int) := by omega
                  clear R12
                  go_wp2
                  go_roundw
                  case rel => exact ⟨j + 1, lab10, s1, by omega, by go_num, hc1, T12.out⟩
                  case measure => simp [intOf]; omega
            · rcases (by omega : ¬ (j : Int) < (na : Int) ∨ ((j : Int) < (na : Int) ∧ ¬ (j : Int) < 100)) with hl1 | ⟨hl1, hl2⟩
              all_goals
                obtain ⟨Ah, ch, hh0, hhv⟩ := T3.2.2.1.heard
                have lh := cell_lt hh0
                have htr : Hid (∀ W, Later wr W → Calls Try.prog 16 #[.pointer (some ⟨p, 0, none⟩)] W fun e w' => ∃ A cap, e = .returned (.slice A s.2.2.1 cap) ∧ Hid (Later W w') ∧ Hid (Hv w' A s.2.2.1 s.2.2.2.1 s.2.2.2.2)) := fun W hl => (htrace_any lab W _ p s (T3.later hl).2.1 (by omega)).mono (fun e w' h => by obtain ⟨A, cap, e1, e2, lab', _, e3⟩ := h; exact ⟨A, cap, e1, e2, e3.hv⟩)
                replace hhv : Hid (Hv wr Ah s.2.2.1 s.2.2.2.1 s.2.2.2.2) := hhv
                replace T3 : Hid (Tw w wr lab p pr s) := T3
                go_wp2_with fail
                go_region_held3 (fun w' => w'.cell? ⟨pr, 1, none⟩ = some (.slice Ah s.2.2.1 ch)) (first | assumption | go_keep) (first | (go_at_call 16; refine (htr.out _ (by repeat first | exact Lz _ | apply La | apply Lv | apply Ld | apply Ln)).mono ?_; rintro e w8 ⟨A8, k8, rfl, L8, V8⟩; have c8 := ((by repeat first | exact Lz _ | apply Ld : Later wr wr.drew).trans (later_of L8)).cell_of hh0) | (go_at_call 17; refine (sameheard_any _ _ s.2.2.1 _ _ s.2.2.2.1 s.2.2.2.2 (by omega) _ V8 (hhv.out.later ((Ld (Lz _)).trans (later_of L8)))).mono ?_; rintro e w9 ⟨rfl, L9⟩; have c9 := L9.cell_of c8; replace L9 : Hid (Later w8 w9) := L9) | (go_at_call 18; refine (awake_any _).mono ?_; rintro e w10 ⟨rfl, L10⟩; have c10 := L10.cell_of c9; replace L10 : Hid (Later w9 w10) := L10))
                have hX : Hid (Later w w10) := T3.out.1.trans ((Ld (Lz _)).trans ((later_of L8).trans (L9.out.trans L10.out)))
                clear L8 L9 L10 c8 c9 c10 V8 htr hhv hh0
                go_wp2
                go_ret
                exact ⟨rfl, hX.out⟩
theorem weightsAll_mem {H : Type} {P : Program} {e : TypeId} : ∀ {l : List (DataW H)} {d : DataW H}, d ∈ l → ∀ n ∈ d.weights P e, n ∈ DataW.weightsAll P e l
  | d' :: r, d, hd, n, hn => by
    simp only [DataW.weightsAll, List.mem_append]
    rcases List.mem_cons.1 hd with rfl | h
    · exact Or.inl hn
    · exact Or.inr (weightsAll_mem h n hn)
/-- a list of ints as it is handed in -/
theorem view_ints {H : Type} {enc : TypeId × Value → H} {W : World} {fuel : Nat} {u : Value} {y : DataW H × List MemPlace} (h : DataW.trod enc Try.prog W 0 (fun _ => true) true fuel 34 [u] = some y) :
    ∃ S m c f, u = .slice S m c ∧ Lst W S m f := by
  have ci : Try.prog.cellsOf 3 = 1 := by kernel_rfl
  rcases Go.Deep.open_slice1 Try.underlying34 ci h with ⟨hcs, _⟩ | ⟨a, len, cap, m, k, V, D, Pl, hcs, _, hl, hm, hmm, hx, hel⟩
  · simp only [List.cons.injEq, and_true] at hcs
    exact ⟨none, 0, 0, fun _ => 0, hcs, Or.inl rfl⟩
  · simp only [List.cons.injEq, and_true] at hcs
    simp only [if_true] at hmm
    by_cases h0 : len = 0
    · exact ⟨_, _, _, fun _ => 0, hcs, Or.inl h0⟩
    · obtain ⟨b, off, spot⟩ := a
      have hspot : spot = none := by
        have h1 := (hel 0 (by omega)).1
        simpa [Addr.add] using World.cell?_spot h1
      subst hspot
      have each : ∀ i, i < len → ∃ z : Int, W.cell? ⟨b, off + i, none⟩ = some (.int .i64 z) := by
        intro i hi
        obtain ⟨h1, h2⟩ := hel i (by omega)
        obtain ⟨z, e0, _, _⟩ := DataW.trod_int Try.underlying3 h2
        simp only [List.cons.injEq, and_true] at e0
        rw [add_of, e0] at h1
        exact ⟨z, h1⟩
      obtain ⟨f, hf⟩ := Go.Deep.choose_lt each
      exact ⟨_, _, _, f, hcs, Or.inr ⟨b, off, rfl, hf⟩⟩
/-- a list of values as it is handed in -/
theorem view_vals {H : Type} {enc : TypeId × Value → H} {W : World} {fuel : Nat} {u : Value} {y : DataW H × List MemPlace} (h : DataW.trod enc Try.prog W 0 (fun _ => true) true fuel 24 [u] = some y) :
    ∃ S c, ∃ l : Vl, u = .slice S l.1 c ∧ Vst W S l.1 l.2.1 l.2.2 ∧ (l.1 = 0 ∨ ∃ el sp, y.1 = .slice el sp ∧ el.length = l.1) := by
  have ci : Try.prog.cellsOf 3 = 1 := by kernel_rfl
  rcases Go.Deep.open_slice_pairs Try.underlying24 Try.underlying56 (by kernel_rfl) rfl rfl ci ci h with ⟨hcs, _⟩ | ⟨a, len, cap, m, k, V0, V1, D0, D1, P0, P1, hcs, _, hl, hm, hmm, hx, hel⟩
  · simp only [List.cons.injEq, and_true] at hcs
    exact ⟨none, 0, nov, hcs, Or.inl rfl, Or.inl rfl⟩
  · simp only [List.cons.injEq, and_true] at hcs
    simp only [if_true] at hmm
    by_cases h0 : len = 0
    · subst h0
      exact ⟨_, _, nov, hcs, Or.inl rfl, Or.inl rfl⟩
    · obtain ⟨b, off, spot⟩ := a
      have hspot : spot = none := by simpa [Addr.add] using World.cell?_spot (hel 0 (by omega)).1
      subst hspot
      have each : ∀ i, i < len → ∃ z : Int × Int, W.cell? ⟨b, off + i * 2, none⟩ = some (.int .i64 z.1) ∧ W.cell? ⟨b, off + i * 2 + 1, none⟩ = some (.int .i64 z.2) := by
        intro i hi
        obtain ⟨e0, e1, t0, t1⟩ := hel i (by omega)
        obtain ⟨x0, f0, _, _⟩ := DataW.trod_int Try.underlying3 t0
        obtain ⟨x1, f1, _, _⟩ := DataW.trod_int Try.underlying3 t1
        simp only [List.cons.injEq, and_true] at f0 f1
        rw [add_of, f0] at e0
        rw [add_of, f1, ← Nat.add_assoc] at e1
        exact ⟨(x0, x1), e0, e1⟩
      obtain ⟨z, hz⟩ := Go.Deep.choose_lt each
      exact ⟨_, _, (len, (fun i => (z i).1), (fun i => (z i).2)), hcs, Or.inr ⟨b, off, rfl, hz⟩, Or.inr ⟨_, _, by rw [hx], by simp⟩⟩
theorem view_ans {H : Type} {enc : TypeId × Value → H} {W : World} {A : Option Addr} {n cap : Nat} {d : DataW H} {ps : List MemPlace} (h : DataW.Trod enc Try.prog W 0 (fun _ => true) true 22 (.slice A n cap) d ps) (hw : ∀ x ∈ d.weights Try.prog 22, x ≤ reachBytes) :
    ∃ f, n * 24 ≤ 140737488351232 ∧ Anv W A n f := by
  obtain ⟨fuel, hf⟩ := h
  have ce : Try.prog.cellsOf 27 = 1 := by kernel_rfl
  have cs : Try.prog.cellsOf 24 = 1 := by kernel_rfl
  have hby : Try.prog.bytesOf 27 = 24 := by kernel_rfl
  have hbv : Try.prog.bytesOf 56 = 16 := by kernel_rfl
  rcases Go.Deep.open_slice Try.underlying22 hf with ⟨hcs, hx⟩ | ⟨a, len', cap', m, k, D, Pl, hcs, _, hl, hm, hmm, hx, hel⟩
  · simp [Value.cells] at hcs
    obtain ⟨_, rfl, _⟩ := hcs
    exact ⟨fun _ => nov, by decide, Or.inl rfl⟩
  · simp [Value.cells] at hcs
    obtain ⟨rfl, rfl, rfl⟩ := hcs
    simp only [if_true] at hmm
    have hdd := congrArg Prod.fst hx
    simp only at hdd
    by_cases h0 : n = 0
    · exact ⟨fun _ => nov, by omega, Or.inl h0⟩
    · rw [ce] at hel
      obtain ⟨b, off, spot⟩ := a
      have hspot : spot = none := by
        obtain ⟨cs', h1, _⟩ := hel 0 (by omega)
        obtain ⟨_, hlen, hcell⟩ := World.cells?_some h1
        have h2 := hcell 0 (by decide)
        have h3 : 0 < cs'.length := by omega
        rw [List.getElem?_eq_getElem h3] at h2
        simpa [Addr.add] using World.cell?_spot h2
      subst hspot
      have hown : n * 24 ≤ 140737488351232 := by
        have hall := hw ((((List.range n).map D).length + ((List.range (m - n)).map fun j => D (n + j)).length) * 24) (by
          rw [hdd]
          simp only [DataW.weights, Try.underlying22, List.mem_cons, hby]
          exact Or.inl trivial)
        unfold reachBytes at hall
        simp at hall
        omega
      have each : ∀ i, i < n → ∃ l : Vl, ∃ S c, W.cell? ⟨b, off + i, none⟩ = some (.slice S l.1 c) ∧ l.1 * 16 ≤ 140737488351232 ∧ Vst W S l.1 l.2.1 l.2.2 := by
        intro i hi
        obtain ⟨cs', h1, h2⟩ := hel i (by omega)
        obtain ⟨_, hlen, hcell⟩ := World.cells?_some h1
        obtain ⟨xs, k', hk, hxy, _, hxl, hfl⟩ := DataW.trod_struct Try.underlying27 h2
        match xs, hxl, cs', hlen with
        | [y0], _, [u0], _ =>
          have g0 := hfl 0 _ rfl
          simp [cs] at g0
          obtain ⟨S, c, l, e1, hS, hsz⟩ := view_vals g0
          subst e1
          have c0 := hcell 0 (by decide)
          rw [Go.Deep.add_add, add_of] at c0
          refine ⟨l, S, c, by simpa using c0, ?_, hS⟩
          rcases hsz with h0 | ⟨el, sp, hy, hlen2⟩
          · omega
          · have hD : D i = .agg [y0.1] := by
              have := congrArg Prod.fst hxy
              simpa using this
            have hmem : (el.length + sp.length) * 16 ∈ (D i).weights Try.prog 27 := by
              rw [hD]
              simp only [DataW.weights, Try.underlying27]
              refine DataW.weights_mem_each (j := 0) (t := 24) (d := y0.1) (by rfl) rfl _ ?_
              rw [hy]
              simp [DataW.weights, Try.underlying24, hbv]
            have hall := hw ((el.length + sp.length) * 16) (by
              rw [hdd]
              simp only [DataW.weights, Try.underlying22, List.mem_cons, List.mem_append]
              exact Or.inr (Or.inl (weightsAll_mem (List.mem_map.2 ⟨i, List.mem_range.2 hi, rfl⟩) _ hmem)))
            unfold reachBytes at hall
            omega
      obtain ⟨f, hf'⟩ := Go.Deep.choose_lt each
      exact ⟨f, hown, Or.inr ⟨b, off, rfl, hf'⟩⟩
theorem view_acts {H : Type} {enc : TypeId × Value → H} {W : World} {A : Option Addr} {n cap : Nat} {d : DataW H} {ps : List MemPlace} (h : DataW.Trod enc Try.prog W 0 (fun _ => true) true 23 (.slice A n cap) d ps) (hw : ∀ x ∈ d.weights Try.prog 23, x ≤ reachBytes) :
    ∃ bb oo, n = 0 ∨ A = some ⟨bb, oo, none⟩ ∧ ∀ i, i < n → actAt W bb oo i := by
  obtain ⟨fuel, hf⟩ := h
  have ce : Try.prog.cellsOf 38 = 4 := by kernel_rfl
  have ci : Try.prog.cellsOf 3 = 1 := by kernel_rfl
  have cf : Try.prog.cellsOf 36 = 2 := by kernel_rfl
  have cn : Try.prog.cellsOf 34 = 1 := by kernel_rfl
  have cs : Try.prog.cellsOf 24 = 1 := by kernel_rfl
  have hbv : Try.prog.bytesOf 56 = 16 := by kernel_rfl
  rcases Go.Deep.open_slice Try.underlying23 hf with ⟨hcs, hx⟩ | ⟨a, len', cap', m, k, D, Pl, hcs, _, hl, hm, hmm, hx, hel⟩
  · simp [Value.cells] at hcs
    exact ⟨0, 0, Or.inl hcs.2.1⟩
  · simp [Value.cells] at hcs
    obtain ⟨rfl, rfl, rfl⟩ := hcs
    simp only [if_true] at hmm
    have hdd := congrArg Prod.fst hx
    simp only at hdd
    by_cases h0 : n = 0
    · exact ⟨0, 0, Or.inl h0⟩
    · rw [ce] at hel
      obtain ⟨b, off, spot⟩ := a
      have hspot : spot = none := by
        obtain ⟨cs', h1, _⟩ := hel 0 (by omega)
        obtain ⟨_, hlen, hcell⟩ := World.cells?_some h1
        have h2 := hcell 0 (by decide)
        have h3 : 0 < cs'.length := by omega
        rw [List.getElem?_eq_getElem h3] at h2
        simpa [Addr.add] using World.cell?_spot h2
      subst hspot
      refine ⟨b, off, Or.inr ⟨rfl, fun i hi => ?_⟩⟩
      obtain ⟨cs', h1, h2⟩ := hel i (by omega)
      obtain ⟨_, hlen, hcell⟩ := World.cells?_some h1
      obtain ⟨xs, k', hk, hxy, _, hxl, hfl⟩ := DataW.trod_struct Try.underlying38 h2
      match xs, hxl, cs', hlen with
      | [y0, y1, y2], _, [u0, u1, u2, u3], _ =>
        have g0 := hfl 0 _ rfl
        have g1 := hfl 1 _ rfl
        have g2 := hfl 2 _ rfl
        simp [ci, cf, cs] at g0 g1 g2
        obtain ⟨x0, e0, _, _⟩ := DataW.trod_int Try.underlying3 g0
        obtain ⟨S, c, l, e3, hS, hsz⟩ := view_vals g2
        obtain ⟨xs2, k2, hk2, hxy2, _, hxl2, hfl2⟩ := DataW.trod_struct Try.underlying36 g1
        match xs2, hxl2 with
        | [z0, z1], _ =>
          have t0 := hfl2 0 _ rfl
          have t1 := hfl2 1 _ rfl
          simp [cn] at t0 t1
          obtain ⟨P, mp, cp, fp, e1, _⟩ := view_ints t0
          obtain ⟨R, mr, cr, r, e2, hR⟩ := view_ints t1
          simp at e0
          subst e0 e1 e2 e3
          have c0 := hcell 0 (by decide)
          have c1 := hcell 1 (by decide)
          have c2 := hcell 2 (by decide)
          have c3 := hcell 3 (by decide)
          rw [Go.Deep.add_add, add_of] at c0 c1 c2 c3
          refine ⟨x0, P, mp, cp, R, mr, cr, S, c, l, r, ⟨by simpa using c0, by simpa [Nat.add_assoc] using c1, by simpa [Nat.add_assoc] using c2, by simpa [Nat.add_assoc] using c3⟩, ?_, hS, hR⟩
          rcases hsz with h0 | ⟨el, sp, hy, hlen2⟩
          · omega
          · have hD : D i = .agg [y0.1, y1.1, y2.1] := by
              have := congrArg Prod.fst hxy
              simpa using this
            have hmem : (el.length + sp.length) * 16 ∈ (D i).weights Try.prog 38 := by
              rw [hD]
              simp only [DataW.weights, Try.underlying38]
              refine DataW.weights_mem_each (j := 2) (t := 24) (d := y2.1) (by rfl) rfl _ ?_
              rw [hy]
              simp [DataW.weights, Try.underlying24, hbv]
            have hall := hw ((el.length + sp.length) * 16) (by
              rw [hdd]
              simp only [DataW.weights, Try.underlying23, List.mem_cons, List.mem_append]
              exact Or.inr (Or.inl (weightsAll_mem (List.mem_map.2 ⟨i, List.mem_range.2 hi, rfl⟩) _ hmem)))
            unfold reachBytes at hall
            omega
theorem walk (A0 : Option Addr) (n cap0 : Nat) (B0 : Option Addr) (na capa : Nat) (w : World) (h0 : ∃ f, n * 24 ≤ 140737488351232 ∧ Anv w A0 n f) (h1 : ∃ bb oo, na = 0 ∨ B0 = some ⟨bb, oo, none⟩ ∧ ∀ i, i < na → actAt w bb oo i) :
    Calls Try.prog 3 #[.slice A0 n cap0, .slice B0 na capa] w fun e w' => e = .returned (.bool true) ∧ Later w w' := by
  obtain ⟨f, hn, hA⟩ := h0
  obtain ⟨bb, oo, hB⟩ := h1
  exact core A0 n cap0 f hn bb oo na capa B0 w hA hB

set_option maxRecDepth 100000 in
theorem lifted (os : Os) (started : os.Started) (H : Type) (enc : TypeId × Value → H) :
    ReturnsInHanded {} Try.checked os 3 .any (Rows.traceActsSpec.pre6 enc Try.prog Try.f3 Rows.traceActsRow.domain false) (Rows.traceActsSpec.post enc Try.prog Try.f3 false true false false) := by
  refine returnsInHanded_of_change_sized (C := Try.checked) own started (by kernel_rfl) Try.func3
    (ChangeSpec.witness6 (enc := enc) (C := Try.checked) false ⟨#[], #[.slice none 0 0, .slice none 0 0], []⟩ 8 (by kernel_rfl) (by kernel_rfl) (by kernel_rfl) (by kernel_rfl)) ?_
  intro W base args ds gs before hval0 hW _ hsz0 _
  have hval : ∀ (j : Nat) t v, Try.f3.params[j]? = some t → args[j]? = some v → Value.okWide Try.prog W .any base t v := hval0
  have hW' := hW
  obtain ⟨p, q, hA0, hV, rfl, hfz, hnd⟩ := hW
  have hA : DataW.TrodAll enc Try.prog W 0 (fun _ => true) true Try.f3.params.toList args.toList ds p := hA0
  rw [Try.params3] at hA hval
  obtain ⟨v0, vs0, d0, ds0, p0, q0, hargs, rfl, rfl, h0, r0⟩ := trodAll_cons hA
  obtain ⟨v1, vs1, d1, ds1, p1, q1, rfl, rfl, rfl, h1, r1⟩ := trodAll_cons r0
  obtain ⟨rfl, rfl, rfl⟩ := trodAll_nil r1
  obtain rfl : args = #[v0, v1] := by cases args; simp_all
  obtain ⟨rfl, rfl⟩ := trodVars_none hV
  obtain ⟨A0, n0, c0, rfl⟩ := okWide_slice Try.underlying22 (hval 0 22 v0 rfl rfl)
  have hw0 : ∀ x ∈ d0.weights Try.prog 22, x ≤ reachBytes := fun x hx => of_decide_eq_true (List.all_eq_true.1 hsz0 _ (DataW.weights_mem_each (j := 0) (t := 22) (d := d0) rfl rfl x hx))
  obtain ⟨A1, n1, c1, rfl⟩ := okWide_slice Try.underlying23 (hval 1 23 v1 rfl rfl)
  have hw1 : ∀ x ∈ d1.weights Try.prog 23, x ≤ reachBytes := fun x hx => of_decide_eq_true (List.all_eq_true.1 hsz0 _ (DataW.weights_mem_each (j := 1) (t := 23) (d := d1) rfl rfl x hx))
  clear hA0 hval0
  simp only [List.append_nil, List.nil_append] at hW'
  have hlt : ∀ x ∈ p0 ++ p1, x.block < W.heap.size := fun x hx => by simpa using hW'.lt x hx
  refine (walk A0 n0 c0 A1 n1 c1 W (view_ans h0 hw0) (view_acts h1 hw1)).mono fun e W' ⟨he, hl⟩ => ?_
  subst he
  have hg := hl.grown
  have hbel : Below W.heap.size W W' := by obtain ⟨bs, nn, rfl⟩ := hl; exact ⟨rfl, rfl, rfl, by rw [World.far_size]; omega, fun k hk => World.far_block W bs nn k hk⟩
  have hx : ∀ sp : Nat → Bool, (∀ p ∈ p0 ++ p1, sp p.block = true) → DataW.TrodAll enc Try.prog W' 0 sp true [22, 23] [.slice A0 n0 c0, .slice A1 n1 c1] [d0, d1] (p0 ++ p1) := fun sp hsp => by simpa using (trodAll_cons_mk (WideElems.Trod_stays (by kernel_rfl) (by kernel_rfl) (of_decide_eq_true (by kernel_rfl)) h0 (fun x hx => hbel.same (hlt x (by simp [hx]))) (fun x hx => hsp x (by simp [hx]))) (trodAll_cons_mk (WideElems.Trod_stays (by kernel_rfl) (by kernel_rfl) (of_decide_eq_true (by kernel_rfl)) h1 (fun x hx => hbel.same (hlt x (by simp [hx]))) (fun x hx => hsp x (by simp [hx]))) trodAll_mk0))
  exact ⟨_, rfl, post_of_same (pa := p0 ++ p1) (pv := []) hW' (fun _ _ _ => (trodAll_cons_mk (shut_bool Try.underlying4 _) trodAll_mk0)) (fun sp hsp => hx sp hsp) (fun _ _ => rfl) (by simp)
    (hg.frame _) hg.2.1 (ok_one (by kernel_rfl) rfl (okWide_bool_mk Try.underlying4 _))⟩

theorem over : Rows.traceActsRow.holds Try.pinned (OpenSpec.ofChange Rows.traceActsSpec) :=
  OpenClaim.holds_of_wide 3 Try.f3 rfl rfl rfl rfl rfl rfl rfl ⟨rfl, rfl, rfl, rfl, rfl⟩ rfl rfl rfl rfl rfl (by kernel_rfl) Try.func3 (by kernel_rfl)
    (of_decide_eq_true (by kernel_rfl)) (by unfold Func.isWrapper; first | (rw [if_pos (by decide +kernel)]; kernel_rfl) | (rw [if_neg (by decide +kernel)]; exact ⟨rfl, rfl⟩))
    (fun os started H enc _ => lifted os started H enc)


theorem proved : Rows.TraceActsSaid := over
end Go.Proofs.Ytlckiipkndipiaa.traceActs
namespace Go.Proofs.Ytlckiipkndipiaa
theorem traceActs_holds : Rows.TraceActsSaid := traceActs.proved
#print axioms traceActs_holds
end Go.Proofs.Ytlckiipkndipiaa
