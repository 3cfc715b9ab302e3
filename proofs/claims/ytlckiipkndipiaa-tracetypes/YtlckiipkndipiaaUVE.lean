/- Over this seat's translation: Call (package trace). -/
import Derived.Test.YtlckiipkndipiaaUVD
set_option linter.unusedVariables false
set_option linter.unusedSimpArgs false
set_option maxRecDepth 100000
set_option maxHeartbeats 4000000
namespace Go.Proofs.Ytlckiipkndipiaa
open Go.RowKit
theorem vin_cl {lab : Nat → Nat} {tag : Nat} {w W : World} {B : Nat} {A : Option Addr} {cap : Nat} {l : Vl} (h : Cl w W A l) (hb : l.1 * 16 ≤ 140737488351232) (hB : B ≤ w.heap.size) (hz : ∀ k, w.heap.size ≤ k → lab k = tag) : Vin lab tag W B (.slice A l.1 cap) l := by
  refine ⟨A, cap, rfl, hb, ?_⟩
  rcases h with h | ⟨g, h1, h2⟩
  · exact Or.inl h
  · rcases h1.vst with h3 | ⟨g', o, h3, h4⟩
    · exact Or.inl h3
    · have e := h1.1
      rw [h3] at e
      cases e
      exact Or.inr ⟨g, 0, h3, hz g h2, by omega, h4⟩
/-- one call more written down -/
theorem heard_put {lab : Nat → Nat} {w0 W W1 : World} {p : Nat} {s : Hs} {g1 : Nat} {A2 : Option Addr} {c2 N pl : Nat} {L2 : List Value} {F1 : Nat → Value} {G : Nat → Nat} (hL : Later w0 W) (h : HoP lab W w0.heap.size p s g1 A2 c2 N pl L2 F1 G) (l1 : Later W W1) (x : Int) (l : Vl) (A : Option Addr) (cap : Nat) (hc : Cl W W1 A l) (hb : l.1 * 16 ≤ 140737488351232) (hm : s.2.2.1 < 1000000) :
    ∃ g2 d2 w2 lab', Hid ((Builtin.append_ #[46, 46] 46 #[.slice A2 s.2.2.1 c2, .slice (some ⟨W1.heap.size, 0, none⟩) 1 1]).run Try.prog (W1.alloc (.cells #[.int .i64 x, .slice A l.1 cap] 52)) = .ok (.slice (some ⟨g2, 0, none⟩) (s.2.2.1 + 1) d2) w2) ∧ w2.cell? ⟨p, 2, none⟩ = some (.slice A2 s.2.2.1 c2) ∧ w2.frozen? ⟨p, 2, none⟩ = false ∧ p < w2.heap.size ∧
      Hid (Later w0 (w2.setCell ⟨p, 2, none⟩ (.slice (some ⟨g2, 0, none⟩) (s.2.2.1 + 1) d2)) ∧ Chg lab (· < 10) W (w2.setCell ⟨p, 2, none⟩ (.slice (some ⟨g2, 0, none⟩) (s.2.2.1 + 1) d2)) lab' ∧ HoS lab' (w2.setCell ⟨p, 2, none⟩ (.slice (some ⟨g2, 0, none⟩) (s.2.2.1 + 1) d2)) w0.heap.size p (s.1, s.2.1, s.2.2.1 + 1, ups s.2.2.2.1 s.2.2.1 x, ups s.2.2.2.2 s.2.2.1 l)) := by
  obtain ⟨ia, hi1, hi2, hi3, hi4⟩ := hrd_parts
  obtain ⟨hN, hNb, s0, s1, f2, o, hd⟩ := h
  obtain ⟨lab1, C1, hz⟩ := Chg.fresh (lab := lab) (S := fun _ => False) l1 4
  have hv : Vin lab1 4 W1 w0.heap.size (.slice A l.1 cap) l := vin_cl hc hb hL.size hz
  have s01 := s0.chg C1 (fun x => x)
  have F2 := f2.chg C1 (fun x => x)
  obtain ⟨g2, d2, w2, lab2, r2, G2, l2, C2⟩ := fld_more (P := Try.prog) (hL.trans l1) 46 46 52 ia (.agg #[.int .i64 0, .slice none 0 0]) 2 32 Try.underlying46 hi1 hi2 hi3 hi4 rfl (by decide) F2 [.int .i64 x, .slice A l.1 cap] rfl (one_hd _ _ _ _) (by unfold maxLen; omega) (by omega)
  have t0 := s01.chg C2 (by decide)
  obtain ⟨u0, C3⟩ := t0.set 2 (.slice (some ⟨g2, 0, none⟩) (s.2.2.1 + 1) d2)
  have q2 : w2.cell? ⟨p, 2, none⟩ = some (.slice A2 s.2.2.1 c2) := t0.1.cell (i := 2) (by decide)
  refine ⟨g2, d2, w2, lab2, r2, q2, t0.1.frozen 2, cell_lt q2, t0.ltr l2 2 _, ((C1.wide (fun _ x => x.elim)).trans (C2.wide (by omega))).trans (C3.wide (by omega)), ?_⟩
  refine ⟨g1, _, _, N, pl, L2 ++ [.int .i64 x, .slice A l.1 cap], F1, G, hN, hNb, hr3_2 u0, ((s1.chg C1 (fun x => x)).chg C2 (by decide)).chg C3 (by decide), G2.chg C3 (by decide), ((o.chg C1 (fun x => x)).chg C2 (by decide)).chg C3 (by decide), ?_⟩
  exact (((hd.chg C1 (fun x => x)).chg C2 (by decide)).more (by have := f2.1.1; omega) (hv.chg C2 (by decide))).chg C3 (by decide)
theorem hcall_form (w : World) (p : Nat) (x : Int) (hx : x < 0) (P R X : Option Addr) (mp cp mr cr nx cx : Nat) :
    Calls Try.prog 11 #[.pointer (some ⟨p, 0, none⟩), .int .i64 x, .agg #[.slice P mp cp, .slice R mr cr], .slice X nx cx] w fun e w' => e = .returned (.tuple #[.slice none 0 0, .int .i64 1100]) ∧ Later w w' := by
  go_enter Try.func11, Try.ntmps11
  go_wp2
  go_ret2
  exact ⟨rfl, (by repeat first | exact Lz _ | apply La | apply Lv | apply Ld | apply Ln)⟩
theorem hcall_missing (lab : Nat → Nat) (w0 w : World) (p : Nat) (s : Hs) (x : Int) (hx : ¬ x < 0) (P R X : Option Addr) (mp cp mr cr cx : Nat) (l : Vl) (r : Nat → Int) (hL : Hid (Later w0 w)) (h : Hid (HoS lab w w0.heap.size p s)) (hm : s.2.2.1 < 1000000) (hb : l.1 * 16 ≤ 140737488351232) (hX : Hid (Vst w X l.1 l.2.1 l.2.2)) (hR : Hid (Lq lab w R mr r)) (hn : s.1 = 0) :
    Calls Try.prog 11 #[.pointer (some ⟨p, 0, none⟩), .int .i64 x, .agg #[.slice P mp cp, .slice R mr cr], .slice X l.1 cx] w fun e w' => e = .returned (.tuple #[.slice none 0 0, .int .i64 1101]) ∧ Later w0 w' ∧ ∃ lab', Chg lab (· < 10) w w' lab' ∧ HoS lab' w' w0.heap.size p (s.1, s.2.1, s.2.2.1 + 1, ups s.2.2.2.1 s.2.2.1 x, ups s.2.2.2.2 s.2.2.1 l) := by
  go_enter Try.func11, Try.ntmps11
  go_wp2_with fail
  obtain ⟨W, hW⟩ : ∃ W : World, W = w.alloc (.cells #[.slice P mp cp, .slice R mr cr] 36) := ⟨_, rfl⟩
  rw [← hW]
  have LW : Later w W := by rw [hW]; exact La (Lz _)
  have v1 : W.cell? ⟨w.heap.size, 1, none⟩ = some (.slice R mr cr) := by rw [hW]; simp [go_sem]
  clear hW
  obtain ⟨lab0, C0, hz⟩ := Chg.fresh (lab := lab) (S := fun _ => False) (Ld LW : Later w W.drew) 99
  have z0 := hz w.heap.size (Nat.le_refl _)
  have R0 : Hid (Lq lab0 W.drew R mr r) := hR.out.chg C0 (fun k hk => hk.elim)
  obtain ⟨g1, A2, c2, N, pl, L2, F1, G, h0⟩ := h.out.chg C0 (fun _ _ x => x)
  have hcp : Hid (∀ W', Later W.drew W' → Calls Try.prog 21 #[.agg #[.int .i64 x, .slice X l.1 cx]] W' fun e w' => ∃ A' cap, e = .returned (.agg #[.int .i64 x, .slice A' l.1 cap]) ∧ Hid (Cl W' w' A' l) ∧ Hid (Later W' w')) := fun W' hl => copied_any x X cx l W' hb ((hX.out.later (Ld LW)).later hl)
  have q0 : W.cell? ⟨p, 2, none⟩ = some (.slice A2 s.2.2.1 c2) := h0.2.2.1.1.cell (i := 2) (by decide)
  have lp := cell_lt q0
  have hp : Hid (∀ (W1 : World) (A : Option Addr) (cap : Nat), Later W.drew W1 → Cl W.drew W1 A l → ∃ g2 d2 w2 lab', Hid ((Builtin.append_ #[46, 46] 46 #[.slice A2 s.2.2.1 c2, .slice (some ⟨W1.heap.size, 0, none⟩) 1 1]).run Try.prog (W1.alloc (.cells #[.int .i64 x, .slice A l.1 cap] 52)) = .ok (.slice (some ⟨g2, 0, none⟩) (s.2.2.1 + 1) d2) w2) ∧ w2.cell? ⟨p, 2, none⟩ = some (.slice A2 s.2.2.1 c2) ∧ w2.frozen? ⟨p, 2, none⟩ = false ∧ p < w2.heap.size ∧
      Hid (Later w0 (w2.setCell ⟨p, 2, none⟩ (.slice (some ⟨g2, 0, none⟩) (s.2.2.1 + 1) d2)) ∧ Chg lab0 (· < 10) W.drew (w2.setCell ⟨p, 2, none⟩ (.slice (some ⟨g2, 0, none⟩) (s.2.2.1 + 1) d2)) lab' ∧ HoS lab' (w2.setCell ⟨p, 2, none⟩ (.slice (some ⟨g2, 0, none⟩) (s.2.2.1 + 1) d2)) w0.heap.size p (s.1, s.2.1, s.2.2.1 + 1, ups s.2.2.2.1 s.2.2.1 x, ups s.2.2.2.2 s.2.2.1 l))) := fun W1 A cap hl hc => heard_put (hL.out.trans (Ld LW)) h0 hl x l A cap hc hb hm
  replace C0 : Hid (Chg lab (fun _ => False) w W.drew lab0) := C0
  replace z0 : Hid (lab0 w.heap.size = 99) := z0
  clear hz LW h0 hL h hX hR
  go_region_law (first | (refine step_app (by rfl) _ _ 46 (by rfl) _ _ _ (by rfl) (by rfl) r2.out ?_) | (go_simp; go_at_call 21; refine (hcp.out _ (Lz _)).mono ?_; rintro e w1 ⟨A', cap', rfl, hc, hl⟩; have q1 := (later_of hl).cell_of (w := W.drew) q0; have lp1 := cell_lt q1; obtain ⟨g2, d2, w2, lab2, r2, q2, fz, lp2, hf⟩ := hp.out w1 A' cap' hl.out hc.out))
  all_goals
    obtain ⟨L3, C3, D3⟩ := hf.out
    have v3 := C3.cell (by rw [z0.out]; decide) (w := W.drew) v1
    have z3 : lab2 w.heap.size = 99 := C3.lab_to (w := W.drew) z0.out (by decide) v1
    have R3 := R0.out.chg C3 (fun k hk => by omega)
    have C03 : Chg lab (· < 10) w _ lab2 := (C0.out.wide (fun _ x => x.elim)).trans C3
    clear q0 r2 q1 lp1 q2 fz lp2 lp v1 hf C3 hc hl hcp hp R0 C0 z0
    generalize w2.setCell ⟨p, 2, none⟩ (.slice (some ⟨g2, 0, none⟩) (s.2.2.1 + 1) d2) = W3 at *
    have hlf : Hid (∀ W', Later W3 W' → Calls Try.prog 15 #[.pointer (some ⟨p, 0, none⟩)] W' fun e w' => e = .returned (.int .i64 (s.1 : Int)) ∧ Later W' w') := fun W' hl => hleft_any lab2 W' _ p (s.1, s.2.1, s.2.2.1 + 1, ups s.2.2.2.1 s.2.2.1 x, ups s.2.2.2.2 s.2.2.1 l) (D3.chg (S := fun _ => False) (Chg.of_later hl) (fun _ _ x => x))
    rw [hn] at hlf
    replace C03 : Hid (Chg lab (· < 10) w W3 lab2) := C03
    replace L3 : Hid (Later w0 W3) := L3
    replace D3 : Hid (HoS lab2 W3 w0.heap.size p (s.1, s.2.1, s.2.2.1 + 1, ups s.2.2.2.1 s.2.2.1 x, ups s.2.2.2.2 s.2.2.1 l)) := D3
    clear R3 hn
    go_wp2_with (go_at_call 15; refine (hlf.out _ (Lz _)).mono ?_; rintro e w4 ⟨rfl, l4⟩; replace l4 : Hid (Later W3 w4) := l4)
    go_ret2
    exact ⟨rfl, L3.out.trans l4.out, lab2, C03.out.trans (Chg.of_later l4.out), D3.out.chg (S := fun _ => False) (Chg.of_later l4.out) (fun _ _ x => x)⟩
theorem hcall_type (lab : Nat → Nat) (w0 w : World) (p : Nat) (s : Hs) (x : Int) (hx : ¬ x < 0) (P R X : Option Addr) (mp cp mr cr cx : Nat) (l : Vl) (r : Nat → Int) (hL : Hid (Later w0 w)) (h : Hid (HoS lab w w0.heap.size p s)) (hm : s.2.2.1 < 1000000) (hb : l.1 * 16 ≤ 140737488351232) (hX : Hid (Vst w X l.1 l.2.1 l.2.2)) (hR : Hid (Lq lab w R mr r)) (k : Nat) (hk : s.1 = k + 1) (hfit : Hid (fit mr (s.2.1 0).1 r (s.2.1 0).2.1 (s.2.1 0).2.2 = false)) :
    Calls Try.prog 11 #[.pointer (some ⟨p, 0, none⟩), .int .i64 x, .agg #[.slice P mp cp, .slice R mr cr], .slice X l.1 cx] w fun e w' => e = .returned (.tuple #[.slice none 0 0, .int .i64 1102]) ∧ Later w0 w' ∧ ∃ lab', Chg lab (· < 10) w w' lab' ∧ HoS lab' w' w0.heap.size p (s.1 - 1, (fun i => s.2.1 (i + 1)), s.2.2.1 + 1, ups s.2.2.2.1 s.2.2.1 x, ups s.2.2.2.2 s.2.2.1 l) := by
  rw [show s.1 - 1 = k by omega]
  go_enter Try.func11, Try.ntmps11
  go_wp2_with fail
  obtain ⟨W, hW⟩ : ∃ W : World, W = w.alloc (.cells #[.slice P mp cp, .slice R mr cr] 36) := ⟨_, rfl⟩
  rw [← hW]
  have LW : Later w W := by rw [hW]; exact La (Lz _)
  have v1 : W.cell? ⟨w.heap.size, 1, none⟩ = some (.slice R mr cr) := by rw [hW]; simp [go_sem]
  clear hW
  obtain ⟨lab0, C0, hz⟩ := Chg.fresh (lab := lab) (S := fun _ => False) (Ld LW : Later w W.drew) 99
  have z0 := hz w.heap.size (Nat.le_refl _)
  have R0 : Hid (Lq lab0 W.drew R mr r) := hR.out.chg C0 (fun k hk => hk.elim)
  obtain ⟨g1, A2, c2, N, pl, L2, F1, G, h0⟩ := h.out.chg C0 (fun _ _ x => x)
  have hcp : Hid (∀ W', Later W.drew W' → Calls Try.prog 21 #[.agg #[.int .i64 x, .slice X l.1 cx]] W' fun e w' => ∃ A' cap, e = .returned (.agg #[.int .i64 x, .slice A' l.1 cap]) ∧ Hid (Cl W' w' A' l) ∧ Hid (Later W' w')) := fun W' hl => copied_any x X cx l W' hb ((hX.out.later (Ld LW)).later hl)
  have q0 : W.cell? ⟨p, 2, none⟩ = some (.slice A2 s.2.2.1 c2) := h0.2.2.1.1.cell (i := 2) (by decide)
  have lp := cell_lt q0
  have hp : Hid (∀ (W1 : World) (A : Option Addr) (cap : Nat), Later W.drew W1 → Cl W.drew W1 A l → ∃ g2 d2 w2 lab', Hid ((Builtin.append_ #[46, 46] 46 #[.slice A2 s.2.2.1 c2, .slice (some ⟨W1.heap.size, 0, none⟩) 1 1]).run Try.prog (W1.alloc (.cells #[.int .i64 x, .slice A l.1 cap] 52)) = .ok (.slice (some ⟨g2, 0, none⟩) (s.2.2.1 + 1) d2) w2) ∧ w2.cell? ⟨p, 2, none⟩ = some (.slice A2 s.2.2.1 c2) ∧ w2.frozen? ⟨p, 2, none⟩ = false ∧ p < w2.heap.size ∧
      Hid (Later w0 (w2.setCell ⟨p, 2, none⟩ (.slice (some ⟨g2, 0, none⟩) (s.2.2.1 + 1) d2)) ∧ Chg lab0 (· < 10) W.drew (w2.setCell ⟨p, 2, none⟩ (.slice (some ⟨g2, 0, none⟩) (s.2.2.1 + 1) d2)) lab' ∧ HoS lab' (w2.setCell ⟨p, 2, none⟩ (.slice (some ⟨g2, 0, none⟩) (s.2.2.1 + 1) d2)) w0.heap.size p (s.1, s.2.1, s.2.2.1 + 1, ups s.2.2.2.1 s.2.2.1 x, ups s.2.2.2.2 s.2.2.1 l))) := fun W1 A cap hl hc => heard_put (hL.out.trans (Ld LW)) h0 hl x l A cap hc hb hm
  replace C0 : Hid (Chg lab (fun _ => False) w W.drew lab0) := C0
  replace z0 : Hid (lab0 w.heap.size = 99) := z0
  clear hz LW h0 hL h hX hR
  go_region_law (first | (refine step_app (by rfl) _ _ 46 (by rfl) _ _ _ (by rfl) (by rfl) r2.out ?_) | (go_simp; go_at_call 21; refine (hcp.out _ (Lz _)).mono ?_; rintro e w1 ⟨A', cap', rfl, hc, hl⟩; have q1 := (later_of hl).cell_of (w := W.drew) q0; have lp1 := cell_lt q1; obtain ⟨g2, d2, w2, lab2, r2, q2, fz, lp2, hf⟩ := hp.out w1 A' cap' hl.out hc.out))
  all_goals
    obtain ⟨L3, C3, D3⟩ := hf.out
    have v3 := C3.cell (by rw [z0.out]; decide) (w := W.drew) v1
    have z3 : lab2 w.heap.size = 99 := C3.lab_to (w := W.drew) z0.out (by decide) v1
    have R3 := R0.out.chg C3 (fun k hk => by omega)
    have C03 : Chg lab (· < 10) w _ lab2 := (C0.out.wide (fun _ x => x.elim)).trans C3
    clear q0 r2 q1 lp1 q2 fz lp2 lp v1 hf C3 hc hl hcp hp R0 C0 z0
    generalize w2.setCell ⟨p, 2, none⟩ (.slice (some ⟨g2, 0, none⟩) (s.2.2.1 + 1) d2) = W3 at *
    have hlf : Hid (∀ W', Later W3 W' → Calls Try.prog 15 #[.pointer (some ⟨p, 0, none⟩)] W' fun e w' => e = .returned (.int .i64 (s.1 : Int)) ∧ Later W' w') := fun W' hl => hleft_any lab2 W' _ p (s.1, s.2.1, s.2.2.1 + 1, ups s.2.2.2.1 s.2.2.1 x, ups s.2.2.2.2 s.2.2.1 l) (D3.chg (S := fun _ => False) (Chg.of_later hl) (fun _ _ x => x))
    rw [hk] at D3 hlf
    have hs1 : ((k : Int) + 1 == 0) = false := by simp; omega
    go_wp2_with fail
    refine (hlf.out _ (Lz _)).mono ?_
    rintro e w4 ⟨rfl, l4⟩
    replace L3 := L3.trans l4
    replace C03 := C03.trans (Chg.of_later l4)
    replace D3 := D3.chg (S := fun _ => False) (Chg.of_later l4) (fun _ _ x => x)
    replace R3 := R3.chg (S := fun _ => False) (Chg.of_later l4) (fun _ x => x.elim)
    replace v3 := l4.cell_of v3
    clear hlf l4
    go_wp2_with fail
    refine (take_any L3 D3).mono ?_
    rintro e w5 ⟨A5, c5, rfl, L5, lab5, C5, D5, hb5, Q5⟩
    have v5 := C5.cell (by rw [z3]; decide) v3
    have R5 := (R3.chg C5 (fun k hk => by omega)).lst
    have C05 := C03.trans C5
    have V5 : Vst w5 A5 (s.2.1 0).1 (s.2.1 0).2.1 (s.2.1 0).2.2 := by
      rcases Q5 with Q | ⟨g, Q, _⟩
      · exact Or.inl Q
      · exact Q.vst
    have hfi : Hid (∀ W', Later w5 W' → Calls Try.prog 23 #[.slice A5 (s.2.1 0).1 c5, .slice R mr cr] W' fun e w' => e = .returned (.bool false) ∧ Later W' w') := fun W' hl => fits_any R A5 mr (s.2.1 0).1 cr c5 (by omega) r (s.2.1 0).2.1 (s.2.1 0).2.2 W' (R5.later hl) (V5.later hl) false hfit
    replace C05 : Hid (Chg lab (· < 10) w w5 lab5) := C05
    replace L5 : Hid (Later w0 w5) := L5
    replace D5 : Hid (HoS lab5 w5 w0.heap.size p (k, (fun i => s.2.1 (i + 1)), s.2.2.1 + 1, ups s.2.2.2.1 s.2.2.1 x, ups s.2.2.2.2 s.2.2.1 l)) := D5
    replace Q5 : Hid ((s.2.1 0).1 = 0 ∨ ∃ g, Rv w5 A5 (s.2.1 0) g ∧ lab5 g = 98 ∧ w0.heap.size ≤ g) := Q5
    clear C5 R3 v3 z3 C03 L3 D3 R5 V5
    have lv := cell_lt v5
    go_wp2_with (go_at_call 23; refine (hfi.out _ (Lz _)).mono ?_; rintro e w6 ⟨rfl, l6⟩; replace l6 : Hid (Later w5 w6) := l6)
    go_ret2
    exact ⟨rfl, L5.out.trans l6.out, lab5, C05.out.trans (Chg.of_later l6.out), D5.out.chg (S := fun _ => False) (Chg.of_later l6.out) (fun _ _ x => x)⟩
theorem hcall_ok (lab : Nat → Nat) (w0 w : World) (p : Nat) (s : Hs) (x : Int) (hx : ¬ x < 0) (P R X : Option Addr) (mp cp mr cr cx : Nat) (l : Vl) (r : Nat → Int) (hL : Hid (Later w0 w)) (h : Hid (HoS lab w w0.heap.size p s)) (hm : s.2.2.1 < 1000000) (hb : l.1 * 16 ≤ 140737488351232) (hX : Hid (Vst w X l.1 l.2.1 l.2.2)) (hR : Hid (Lq lab w R mr r)) (k : Nat) (hk : s.1 = k + 1) (hfit : Hid (fit mr (s.2.1 0).1 r (s.2.1 0).2.1 (s.2.1 0).2.2 = true)) :
    Calls Try.prog 11 #[.pointer (some ⟨p, 0, none⟩), .int .i64 x, .agg #[.slice P mp cp, .slice R mr cr], .slice X l.1 cx] w fun e w' => ∃ A' cap', e = .returned (.tuple #[.slice A' (s.2.1 0).1 cap', .int .i64 0]) ∧ Later w0 w' ∧ ∃ lab', Chg lab (· < 10) w w' lab' ∧ HoS lab' w' w0.heap.size p (s.1 - 1, (fun i => s.2.1 (i + 1)), s.2.2.1 + 1, ups s.2.2.2.1 s.2.2.1 x, ups s.2.2.2.2 s.2.2.1 l) ∧ (s.2.1 0).1 * 16 ≤ 140737488351232 ∧ ((s.2.1 0).1 = 0 ∨ ∃ g, Rv w' A' (s.2.1 0) g ∧ lab' g = 98 ∧ w0.heap.size ≤ g) := by
  rw [show s.1 - 1 = k by omega]
  go_enter Try.func11, Try.ntmps11
  go_wp2_with fail
  obtain ⟨W, hW⟩ : ∃ W : World, W = w.alloc (.cells #[.slice P mp cp, .slice R mr cr] 36) := ⟨_, rfl⟩
  rw [← hW]
  have LW : Later w W := by rw [hW]; exact La (Lz _)
  have v1 : W.cell? ⟨w.heap.size, 1, none⟩ = some (.slice R mr cr) := by rw [hW]; simp [go_sem]
  clear hW
  obtain ⟨lab0, C0, hz⟩ := Chg.fresh (lab := lab) (S := fun _ => False) (Ld LW : Later w W.drew) 99
  have z0 := hz w.heap.size (Nat.le_refl _)
  have R0 : Hid (Lq lab0 W.drew R mr r) := hR.out.chg C0 (fun k hk => hk.elim)
  obtain ⟨g1, A2, c2, N, pl, L2, F1, G, h0⟩ := h.out.chg C0 (fun _ _ x => x)
  have hcp : Hid (∀ W', Later W.drew W' → Calls Try.prog 21 #[.agg #[.int .i64 x, .slice X l.1 cx]] W' fun e w' => ∃ A' cap, e = .returned (.agg #[.int .i64 x, .slice A' l.1 cap]) ∧ Hid (Cl W' w' A' l) ∧ Hid (Later W' w')) := fun W' hl => copied_any x X cx l W' hb ((hX.out.later (Ld LW)).later hl)
  have q0 : W.cell? ⟨p, 2, none⟩ = some (.slice A2 s.2.2.1 c2) := h0.2.2.1.1.cell (i := 2) (by decide)
  have lp := cell_lt q0
  have hp : Hid (∀ (W1 : World) (A : Option Addr) (cap : Nat), Later W.drew W1 → Cl W.drew W1 A l → ∃ g2 d2 w2 lab', Hid ((Builtin.append_ #[46, 46] 46 #[.slice A2 s.2.2.1 c2, .slice (some ⟨W1.heap.size, 0, none⟩) 1 1]).run Try.prog (W1.alloc (.cells #[.int .i64 x, .slice A l.1 cap] 52)) = .ok (.slice (some ⟨g2, 0, none⟩) (s.2.2.1 + 1) d2) w2) ∧ w2.cell? ⟨p, 2, none⟩ = some (.slice A2 s.2.2.1 c2) ∧ w2.frozen? ⟨p, 2, none⟩ = false ∧ p < w2.heap.size ∧
      Hid (Later w0 (w2.setCell ⟨p, 2, none⟩ (.slice (some ⟨g2, 0, none⟩) (s.2.2.1 + 1) d2)) ∧ Chg lab0 (· < 10) W.drew (w2.setCell ⟨p, 2, none⟩ (.slice (some ⟨g2, 0, none⟩) (s.2.2.1 + 1) d2)) lab' ∧ HoS lab' (w2.setCell ⟨p, 2, none⟩ (.slice (some ⟨g2, 0, none⟩) (s.2.2.1 + 1) d2)) w0.heap.size p (s.1, s.2.1, s.2.2.1 + 1, ups s.2.2.2.1 s.2.2.1 x, ups s.2.2.2.2 s.2.2.1 l))) := fun W1 A cap hl hc => heard_put (hL.out.trans (Ld LW)) h0 hl x l A cap hc hb hm
  replace C0 : Hid (Chg lab (fun _ => False) w W.drew lab0) := C0
  replace z0 : Hid (lab0 w.heap.size = 99) := z0
  clear hz LW h0 hL h hX hR
  go_region_law (first | (refine step_app (by rfl) _ _ 46 (by rfl) _ _ _ (by rfl) (by rfl) r2.out ?_) | (go_simp; go_at_call 21; refine (hcp.out _ (Lz _)).mono ?_; rintro e w1 ⟨A', cap', rfl, hc, hl⟩; have q1 := (later_of hl).cell_of (w := W.drew) q0; have lp1 := cell_lt q1; obtain ⟨g2, d2, w2, lab2, r2, q2, fz, lp2, hf⟩ := hp.out w1 A' cap' hl.out hc.out))
  all_goals
    obtain ⟨L3, C3, D3⟩ := hf.out
    have v3 := C3.cell (by rw [z0.out]; decide) (w := W.drew) v1
    have z3 : lab2 w.heap.size = 99 := C3.lab_to (w := W.drew) z0.out (by decide) v1
    have R3 := R0.out.chg C3 (fun k hk => by omega)
    have C03 : Chg lab (· < 10) w _ lab2 := (C0.out.wide (fun _ x => x.elim)).trans C3
    clear q0 r2 q1 lp1 q2 fz lp2 lp v1 hf C3 hc hl hcp hp R0 C0 z0
    generalize w2.setCell ⟨p, 2, none⟩ (.slice (some ⟨g2, 0, none⟩) (s.2.2.1 + 1) d2) = W3 at *
    have hlf : Hid (∀ W', Later W3 W' → Calls Try.prog 15 #[.pointer (some ⟨p, 0, none⟩)] W' fun e w' => e = .returned (.int .i64 (s.1 : Int)) ∧ Later W' w') := fun W' hl => hleft_any lab2 W' _ p (s.1, s.2.1, s.2.2.1 + 1, ups s.2.2.2.1 s.2.2.1 x, ups s.2.2.2.2 s.2.2.1 l) (D3.chg (S := fun _ => False) (Chg.of_later hl) (fun _ _ x => x))
    rw [hk] at D3 hlf
    have hs1 : ((k : Int) + 1 == 0) = false := by simp; omega
    go_wp2_with fail
    refine (hlf.out _ (Lz _)).mono ?_
    rintro e w4 ⟨rfl, l4⟩
    replace L3 := L3.trans l4
    replace C03 := C03.trans (Chg.of_later l4)
    replace D3 := D3.chg (S := fun _ => False) (Chg.of_later l4) (fun _ _ x => x)
    replace R3 := R3.chg (S := fun _ => False) (Chg.of_later l4) (fun _ x => x.elim)
    replace v3 := l4.cell_of v3
    clear hlf l4
    go_wp2_with fail
    refine (take_any L3 D3).mono ?_
    rintro e w5 ⟨A5, c5, rfl, L5, lab5, C5, D5, hb5, Q5⟩
    have v5 := C5.cell (by rw [z3]; decide) v3
    have R5 := (R3.chg C5 (fun k hk => by omega)).lst
    have C05 := C03.trans C5
    have V5 : Vst w5 A5 (s.2.1 0).1 (s.2.1 0).2.1 (s.2.1 0).2.2 := by
      rcases Q5 with Q | ⟨g, Q, _⟩
      · exact Or.inl Q
      · exact Q.vst
    have hfi : Hid (∀ W', Later w5 W' → Calls Try.prog 23 #[.slice A5 (s.2.1 0).1 c5, .slice R mr cr] W' fun e w' => e = .returned (.bool true) ∧ Later W' w') := fun W' hl => fits_any R A5 mr (s.2.1 0).1 cr c5 (by omega) r (s.2.1 0).2.1 (s.2.1 0).2.2 W' (R5.later hl) (V5.later hl) true hfit
    replace C05 : Hid (Chg lab (· < 10) w w5 lab5) := C05
    replace L5 : Hid (Later w0 w5) := L5
    replace D5 : Hid (HoS lab5 w5 w0.heap.size p (k, (fun i => s.2.1 (i + 1)), s.2.2.1 + 1, ups s.2.2.2.1 s.2.2.1 x, ups s.2.2.2.2 s.2.2.1 l)) := D5
    replace Q5 : Hid ((s.2.1 0).1 = 0 ∨ ∃ g, Rv w5 A5 (s.2.1 0) g ∧ lab5 g = 98 ∧ w0.heap.size ≤ g) := Q5
    clear C5 R3 v3 z3 C03 L3 D3 R5 V5
    have lv := cell_lt v5
    go_wp2_with (go_at_call 23; refine (hfi.out _ (Lz _)).mono ?_; rintro e w6 ⟨rfl, l6⟩; replace l6 : Hid (Later w5 w6) := l6)
    go_ret2
    refine ⟨A5, c5, rfl, L5.out.trans l6.out, lab5, C05.out.trans (Chg.of_later l6.out), D5.out.chg (S := fun _ => False) (Chg.of_later l6.out) (fun _ _ x => x), hb5, ?_⟩
    rcases Q5.out with Q | ⟨g, Q1, Q2, Q3⟩
    · exact Or.inl Q
    · exact Or.inr ⟨g, Q1.later l6.out, Q2, Q3⟩
theorem hcall_any (lab : Nat → Nat) (w0 w : World) (p : Nat) (s : Hs) (x : Int) (P R X : Option Addr) (mp cp mr cr cx : Nat) (l : Vl) (r : Nat → Int) (hL : Later w0 w) (h : HoS lab w w0.heap.size p s) (hm : s.2.2.1 < 1000000) (hb : l.1 * 16 ≤ 140737488351232) (hX : Vst w X l.1 l.2.1 l.2.2) (hR : Lq lab w R mr r) :
    Calls Try.prog 11 #[.pointer (some ⟨p, 0, none⟩), .int .i64 x, .agg #[.slice P mp cp, .slice R mr cr], .slice X l.1 cx] w fun e w' => ∃ A cap, e = .returned (.tuple #[.slice A (cV s x mr r).1 cap, .int .i64 (cE s x mr r)]) ∧ Later w0 w' ∧ ∃ lab', Chg lab (· < 10) w w' lab' ∧ HoS lab' w' w0.heap.size p (cS s x l) ∧ (cV s x mr r).1 * 16 ≤ 140737488351232 ∧ ((cV s x mr r).1 = 0 ∨ ∃ g, Rv w' A (cV s x mr r) g ∧ lab' g = 98 ∧ w0.heap.size ≤ g) := by
  by_cases hx : x < 0
  · have e1 : cE s x mr r = 1100 := if_pos hx
    have e2 : cV s x mr r = nov := by unfold cV; rw [e1]; rfl
    have e3 : cS s x l = s := if_pos hx
    rw [e1, e2, e3]
    refine (hcall_form w p x hx P R X mp cp mr cr l.1 cx).mono ?_
    rintro e w' ⟨rfl, hl⟩
    exact ⟨none, 0, rfl, hL.trans hl, lab, Chg.of_later hl, h.chg (S := fun _ => False) (Chg.of_later hl) (fun _ _ x => x), by decide, Or.inl rfl⟩
  · by_cases hn : s.1 = 0
    · have e1 : cE s x mr r = 1101 := by unfold cE; rw [if_neg hx, if_pos hn]
      have e2 : cV s x mr r = nov := by unfold cV; rw [e1]; rfl
      have e3 : cS s x l = (s.1, s.2.1, s.2.2.1 + 1, ups s.2.2.2.1 s.2.2.1 x, ups s.2.2.2.2 s.2.2.1 l) := by
        unfold cS
        rw [if_neg hx, if_pos hn, hn]
      rw [e1, e2, e3]
      refine (hcall_missing lab w0 w p s x hx P R X mp cp mr cr cx l r hL h hm hb hX hR hn).mono ?_
      rintro e w' ⟨rfl, h1, lab', h2, h3⟩
      exact ⟨none, 0, rfl, h1, lab', h2, h3, by decide, Or.inl rfl⟩
    · obtain ⟨k, hk⟩ : ∃ k, s.1 = k + 1 := ⟨s.1 - 1, by omega⟩
      have e3 : cS s x l = (s.1 - 1, (fun i => s.2.1 (i + 1)), s.2.2.1 + 1, ups s.2.2.2.1 s.2.2.1 x, ups s.2.2.2.2 s.2.2.1 l) := by
        unfold cS
        rw [if_neg hx, if_neg hn]
      cases hf : fit mr (s.2.1 0).1 r (s.2.1 0).2.1 (s.2.1 0).2.2
      · have e1 : cE s x mr r = 1102 := by unfold cE; rw [if_neg hx, if_neg hn]; exact if_neg (by rw [hf]; decide)
        have e2 : cV s x mr r = nov := by unfold cV; rw [e1]; rfl
        rw [e1, e2, e3]
        refine (hcall_type lab w0 w p s x hx P R X mp cp mr cr cx l r hL h hm hb hX hR k hk hf).mono ?_
        rintro e w' ⟨rfl, h1, lab', h2, h3⟩
        exact ⟨none, 0, rfl, h1, lab', h2, h3, by decide, Or.inl rfl⟩
      · have e1 : cE s x mr r = 0 := by unfold cE; rw [if_neg hx, if_neg hn]; exact if_pos hf
        have e2 : cV s x mr r = s.2.1 0 := by unfold cV; rw [e1]; rfl
        rw [e1, e2, e3]
        refine (hcall_ok lab w0 w p s x hx P R X mp cp mr cr cx l r hL h hm hb hX hR k hk hf).mono ?_
        rintro e w' ⟨A, cap, rfl, h1⟩
        exact ⟨A, cap, rfl, h1⟩
end Go.Proofs.Ytlckiipkndipiaa
