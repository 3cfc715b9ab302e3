/- Over this seat's translation: Left, take (package trace). -/
import Derived.Test.YtlckiipkndipiaaUVC
set_option linter.unusedVariables false
set_option linter.unusedSimpArgs false
set_option maxRecDepth 100000
set_option maxHeartbeats 4000000
namespace Go.Proofs.Ytlckiipkndipiaa
open Go.RowKit
theorem hleft_any (lab : Nat → Nat) (w : World) (B p : Nat) (s : Hs) (h : HoS lab w B p s) :
    Calls Try.prog 15 #[.pointer (some ⟨p, 0, none⟩)] w fun e w' => e = .returned (.int .i64 (s.1 : Int)) ∧ Later w w' := by
  obtain ⟨g1, A2, c2, N, pl, L2, F1, G, hN, hb, s0, _⟩ := h
  have q0 : w.cell? ⟨p, 0, none⟩ = some (.slice (some ⟨g1, 0, none⟩) N N) := s0.1.cell (i := 0) (by decide)
  have q1 : w.cell? ⟨p, 1, none⟩ = some (.int .i64 (pl : Nat)) := s0.1.cell (i := 1) (by decide)
  have lp := cell_lt q0
  have e1 : (N : Int) - (pl : Int) = (s.1 : Int) := by omega
  have b1 : -9223372036854775808 ≤ (s.1 : Int) := by omega
  have b2 : (s.1 : Int) ≤ 9223372036854775807 := by omega
  generalize (s.1 : Int) = z at *
  clear s0 hN
  go_enter Try.func15, Try.ntmps15
  go_wp2
  go_quiet (fail)
  go_wp2
  go_ret
  exact ⟨rfl, by repeat first | exact Lz _ | apply La | apply Lv | apply Ld | apply Ln⟩
theorem hr3_1 {lab : Nat → Nat} {tag : Nat} {w : World} {B p : Nat} {T : TypeId} {a b c v : Value} (h : Str lab tag w B p T 3 (fun j => if j = 1 then v else hr3 a b c j)) : Str lab tag w B p T 3 (hr3 a v c) := by
  refine ⟨h.1.congr fun i hi => ?_, h.2⟩
  match i, hi with
  | 0, _ => rfl
  | 1, _ => rfl
  | 2, _ => rfl
theorem hr3_2 {lab : Nat → Nat} {tag : Nat} {w : World} {B p : Nat} {T : TypeId} {a b c v : Value} (h : Str lab tag w B p T 3 (fun j => if j = 2 then v else hr3 a b c j)) : Str lab tag w B p T 3 (hr3 a b v) := by
  refine ⟨h.1.congr fun i hi => ?_, h.2⟩
  match i, hi with
  | 0, _ => rfl
  | 1, _ => rfl
  | 2, _ => rfl
/-- the next answer taken: its place set to nil, the place moved on, its block given away (label 98) -/
theorem host_taken {lab : Nat → Nat} {w0 W : World} {p k m : Nat} {f : Nat → Vl} {c : Nat → Int} {a : Nat → Vl} {g1 : Nat} {A2 : Option Addr} {c2 N pl : Nat} {L2 : List Value} {F1 : Nat → Value} {G : Nat → Nat} (hL : Later w0 W) (h : HoP lab W w0.heap.size p (k + 1, f, m, c, a) g1 A2 c2 N pl L2 F1 G) (A : Option Addr) (cap : Nat) (hA : F1 pl = .slice A (f 0).1 cap) :
    Later w0 ((W.setCell ⟨g1, pl, none⟩ (.slice none 0 0)).setCell ⟨p, 1, none⟩ (.int .i64 ((pl + 1 : Nat) : Int))) ∧ ∃ lab', Chg lab (· < 10) W ((W.setCell ⟨g1, pl, none⟩ (.slice none 0 0)).setCell ⟨p, 1, none⟩ (.int .i64 ((pl + 1 : Nat) : Int))) lab' ∧ HoS lab' ((W.setCell ⟨g1, pl, none⟩ (.slice none 0 0)).setCell ⟨p, 1, none⟩ (.int .i64 ((pl + 1 : Nat) : Int))) w0.heap.size p (k, (fun i => f (i + 1)), m, c, a) ∧ (f 0).1 * 16 ≤ 140737488351232 ∧ ((f 0).1 = 0 ∨ ∃ g, Rv ((W.setCell ⟨g1, pl, none⟩ (.slice none 0 0)).setCell ⟨p, 1, none⟩ (.int .i64 ((pl + 1 : Nat) : Int))) A (f 0) g ∧ lab' g = 98 ∧ w0.heap.size ≤ g) := by
  obtain ⟨hN, hb, s0, s1, f2, o, hd⟩ := h
  change N = pl + (k + 1) at hN
  obtain ⟨A', cap', eA, h0, h1⟩ := o.1 0 (Nat.succ_pos k)
  rw [Nat.add_zero, hA] at eA
  obtain ⟨rfl, _, rfl⟩ := Value.slice.inj eA
  obtain ⟨u1, C1⟩ := s1.set pl (.slice none 0 0)
  have L1 := s1.ltr hL pl (.slice none 0 0)
  have t0 := s0.chg C1 (by decide)
  obtain ⟨u0, C2⟩ := t0.set 1 (.int .i64 ((pl + 1 : Nat) : Int))
  have L2' := t0.ltr L1 1 (.int .i64 ((pl + 1 : Nat) : Int))
  generalize (W.setCell ⟨g1, pl, none⟩ (.slice none 0 0)).setCell ⟨p, 1, none⟩ (.int .i64 ((pl + 1 : Nat) : Int)) = W2 at *
  have C12 : Chg lab (· < 2) W W2 lab := (C1.wide (by omega)).trans (C2.wide (by omega))
  have C3 : Chg lab (· = 2) W2 W2 (fun k => if (f 0).1 ≠ 0 ∧ k = G 0 then 98 else lab k) := ⟨Nat.le_refl _, fun j hj hs => ⟨if_neg (fun hh => by
    obtain ⟨_, h3, _⟩ := h1.resolve_left hh.1
    exact hs (by rw [hh.2]; exact h3)), rfl⟩⟩
  refine ⟨L2', _, (C12.wide (by omega)).trans (C3.wide (by omega)), ⟨g1, A2, c2, N, pl + 1, L2, _, fun i => G (i + 1), by show N = pl + 1 + k; omega, hb, (hr3_1 u0).chg C3 (by decide), (u1.chg C2 (by decide)).chg C3 (by decide), (f2.chg C12 (by decide)).chg C3 (by decide), ⟨fun i hi => ?_, fun i j hi hj hij => ?_⟩, (hd.chg C12 (by decide)).chg C3 (by decide)⟩, h0, ?_⟩
  · obtain ⟨B, d, e, h3, h4⟩ := o.1 (i + 1) (Nat.succ_lt_succ hi)
    refine ⟨B, d, ?_, h3, ?_⟩
    · show (if pl + 1 + i = pl then _ else F1 (pl + 1 + i)) = _
      rw [if_neg (by omega), ← e]
      congr 1
      omega
    · rcases h4 with h4 | ⟨h5, h6, h7⟩
      · exact Or.inl h4
      · by_cases hz : (f (i + 1)).1 = 0
        · exact Or.inl hz
        · refine Or.inr ⟨(h5.chg C12 (by rw [h6]; decide)).1, ?_, h7⟩
          show (if (f 0).1 ≠ 0 ∧ G (i + 1) = G 0 then 98 else lab (G (i + 1))) = 2
          rw [if_neg (fun hh => o.2 (i + 1) 0 (Nat.succ_lt_succ hi) (Nat.succ_pos k) (by omega) hz hh.1 hh.2)]
          exact h6
  · exact o.2 (i + 1) (j + 1) (Nat.succ_lt_succ hi) (Nat.succ_lt_succ hj) (by omega)
  · by_cases hz : (f 0).1 = 0
    · exact Or.inl hz
    · obtain ⟨h5, h6, h7⟩ := h1.resolve_left hz
      exact Or.inr ⟨G 0, (h5.chg C12 (by rw [h6]; decide)).1, if_pos ⟨hz, rfl⟩, h7⟩
theorem take_any {lab : Nat → Nat} {w0 w : World} {p k m : Nat} {f : Nat → Vl} {c : Nat → Int} {a : Nat → Vl} (hL : Later w0 w) (h : HoS lab w w0.heap.size p (k + 1, f, m, c, a)) :
    Calls Try.prog 22 #[.pointer (some ⟨p, 0, none⟩)] w fun e w' => ∃ A cap, e = .returned (.slice A (f 0).1 cap) ∧ Later w0 w' ∧ ∃ lab', Chg lab (· < 10) w w' lab' ∧ HoS lab' w' w0.heap.size p (k, (fun i => f (i + 1)), m, c, a) ∧ (f 0).1 * 16 ≤ 140737488351232 ∧ ((f 0).1 = 0 ∨ ∃ g, Rv w' A (f 0) g ∧ lab' g = 98 ∧ w0.heap.size ≤ g) := by
  obtain ⟨g1, A2, c2, N, pl, L2, F1, G, h⟩ := h
  obtain ⟨A, cap, hA, hz⟩ := h.2.2.2.2.2.1.1 0 (Nat.succ_pos k)
  clear hz
  change F1 (pl + 0) = .slice A (f 0).1 cap at hA
  rw [Nat.add_zero] at hA
  have C0 : Chg lab (fun _ => False) w w.drew.drew lab := Chg.of_later (Ld (Ld (Lz _)))
  have hfin := host_taken (Ld (Ld hL) : Later w0 w.drew.drew) (h.chg C0 (fun _ _ x => x)) A cap hA
  have hN := h.1
  change N = pl + (k + 1) at hN
  have hb := h.2.1
  have q0 : w.cell? ⟨p, 0, none⟩ = some (.slice (some ⟨g1, 0, none⟩) N N) := h.2.2.1.1.cell (i := 0) (by decide)
  have q1 : w.cell? ⟨p, 1, none⟩ = some (.int .i64 (pl : Nat)) := h.2.2.1.1.cell (i := 1) (by decide)
  have k0 : w.cell? ⟨g1, pl, none⟩ = some (.slice A (f 0).1 cap) := by rw [← hA]; exact h.2.2.2.1.1.cell (i := pl) (by omega)
  have z0 := h.2.2.2.1.1.frozen pl
  have lp := cell_lt q0
  have lg := cell_lt k0
  have s1 := h.2.2.2.1.chg C0 (fun x => x)
  obtain ⟨u1, C1⟩ := s1.set pl (.slice none 0 0)
  have t0 := (h.2.2.1.chg C0 (fun x => x)).chg C1 (by decide)
  have q2 : (w.drew.drew.setCell ⟨g1, pl, none⟩ (.slice none 0 0)).cell? ⟨p, 1, none⟩ = some (.int .i64 (pl : Nat)) := t0.1.cell (i := 1) (by decide)
  have z2 := t0.1.frozen 1
  have lp2 := cell_lt q2
  have e1 : ((pl + 1 : Nat) : Int) = (pl : Int) + 1 := by omega
  rw [e1] at hfin
  have e2 : w.drew.drew.setCell ⟨g1, pl, none⟩ (.slice none 0 0) = (w.setCell ⟨g1, pl, none⟩ (.slice none 0 0)).drew.drew := rfl
  rw [e2] at hfin q2 z2 lp2
  replace hfin : Hid _ := hfin
  have hl1 : (pl : Int) < (N : Int) := by omega
  have b1 : -9223372036854775808 ≤ (pl : Int) + 1 := by omega
  have b2 : (pl : Int) + 1 ≤ 9223372036854775807 := by omega
  clear u1 C1 s1 t0 h e1 e2
  go_enter Try.func22, Try.ntmps22
  go_wp2
  go_region
  all_goals
    go_wp2
    go_region
    all_goals
      clear q0 q1 k0 z0 lp lg hN hb hA hl1
      generalize (w.setCell ⟨g1, pl, none⟩ (.slice none 0 0)).drew.drew = W1 at *
      go_wp2
      go_ret
      obtain ⟨h1, lab', h2, h3⟩ := hfin.out
      exact ⟨A, cap, rfl, h1, lab', (C0.wide (fun _ x => x.elim)).trans h2, h3⟩
end Go.Proofs.Ytlckiipkndipiaa
