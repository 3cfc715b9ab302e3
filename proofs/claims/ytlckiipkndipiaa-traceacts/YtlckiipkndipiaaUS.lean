/- Over this seat's translation: what was heard held against each other (sameHeard of package peloruslaw11). -/
import Derived.Test.YtlckiipkndipiaaUR
set_option linter.unusedVariables false
set_option linter.unusedSimpArgs false
set_option maxRecDepth 100000
set_option maxHeartbeats 4000000
namespace Go.Proofs.Ytlckiipkndipiaa
open Go.RowKit
/-- a list of what was heard, from an address on -/
def Hv (w : World) (A : Option Addr) (m : Nat) (c : Nat → Int) (a : Nat → Vl) : Prop := m = 0 ∨ ∃ g o, A = some ⟨g, o, none⟩ ∧ ∀ i, i < m → w.cell? ⟨g, o + i * 2, none⟩ = some (.int .i64 (c i)) ∧ (a i).1 * 16 ≤ 140737488351232 ∧ ∃ S cs, w.cell? ⟨g, o + i * 2 + 1, none⟩ = some (.slice S (a i).1 cs) ∧ Vst w S (a i).1 (a i).2.1 (a i).2.2
theorem Hv.later {w w' : World} {A : Option Addr} {m : Nat} {c : Nat → Int} {a : Nat → Vl} (h : Hv w A m c a) (hl : Later w w') : Hv w' A m c a := by
  rcases h with h | ⟨g, o, hA, h⟩
  · exact Or.inl h
  · refine Or.inr ⟨g, o, hA, fun i hi => ?_⟩
    obtain ⟨h1, h2, S, cs, h3, h4⟩ := h i hi
    exact ⟨hl.cell_of h1, h2, S, cs, hl.cell_of h3, h4.later hl⟩
theorem Dh.heard {lab : Nat → Nat} {w : World} {B p n m : Nat} {f : Nat → Vl} {c : Nat → Int} {a : Nat → Vl} (h : Dh lab w B p n f m c a) : ∃ A cap, w.cell? ⟨p, 1, none⟩ = some (.slice A m cap) ∧ Hv w A m c a := by
  obtain ⟨h0, A1, c1, A2, c2, L1, L2, s0, f1, f2, f3, f4⟩ := h
  refine ⟨A2, c2, s0.1.cell (i := 1) (by decide), ?_⟩
  by_cases hm : m = 0
  · exact Or.inl hm
  · obtain ⟨g, rfl, _, _, _, _, _, hc⟩ := f2.at_ (by omega)
    refine Or.inr ⟨g, 0, rfl, fun i hi => ?_⟩
    obtain ⟨k0, u, k1, k2⟩ := f4 i hi
    obtain ⟨S, cs, rfl, k3, k4⟩ := k2.form
    exact ⟨by rw [Nat.zero_add]; exact hc _ _ k0, k3, S, cs, by rw [Nat.zero_add]; exact hc _ _ k1, k4⟩
theorem sameheard_any (A B : Option Addr) (m x y : Nat) (c : Nat → Int) (a : Nat → Vl) (hm : m ≤ 9223372036854775807) (w : World) (h1 : Hid (Hv w A m c a)) (h2 : Hid (Hv w B m c a)) :
    Calls Try.prog 17 #[.slice A m x, .slice B m y] w fun e w' => e = .returned (.bool true) ∧ Later w w' := by
  by_cases h0 : m = 0
  · subst h0
    go_enter Try.func17, Try.ntmps17
    go_wp2
    refine wp_loop_rounds 1 ?_
    rw [rounds_succ]
    go_wp2
    go_ret
    exact ⟨rfl, Lz _⟩
  · obtain ⟨g1, o1, rfl, k1⟩ := h1.out.resolve_left h0
    obtain ⟨g2, o2, rfl, k2⟩ := h2.out.resolve_left h0
    replace k1 : Hid _ := k1
    replace k2 : Hid _ := k2
    clear h1 h2
    go_enter Try.func17, Try.ntmps17
    go_wp2_with fail
    go_loopw [5] (fun i wr => ∃ j : Nat, j ≤ m ∧ i = .int .i64 (j : Nat) ∧ Later w wr) (fun i _ => m - (intOf i).toNat)
    case atStart => exact ⟨0, Nat.zero_le _, rfl, Lz _⟩
    case round =>
      obtain ⟨j, hj, rfl, hL⟩ := hrel
      by_cases hlt : j < m
      · obtain ⟨a0, a1, S1, s1, a2, a3⟩ := k1.out j hlt
        obtain ⟨b0, b1, S2, s2, b2, b3⟩ := k2.out j hlt
        replace a0 := hL.cell_of a0
        replace a2 := hL.cell_of a2
        replace b0 := hL.cell_of b0
        replace b2 := hL.cell_of b2
        have la := cell_lt a0
        have lb := cell_lt b0
        have hsv : Hid (∀ W, Later wr W → Calls Try.prog 13 #[.slice S1 (a j).1 s1, .slice S2 (a j).1 s2] W fun e w' => e = .returned (.bool true) ∧ Later W w') := fun W hl => samev_any _ _ (a j).1 _ _ (a j).2.1 (a j).2.2 (by omega) W ((a3.later hL).later hl) ((b3.later hL).later hl)
        have hl1 : (j : Int) < (m : Int) := by omega
        replace hL : Hid (Later w wr) := hL
        clear a1 a3 b1 b3
        go_wp2
        refine wp_region_quiet_far (by kernel_rfl) (by kernel_rfl) ?_
        repeat (go_big_quiet_step ((go_at_call 13; exact Calls.far_of (hsv.out _ (by repeat first | exact Lz _ | apply La | apply Lv | apply Ld | apply Ln)))))
        refine wpQuiet_nil ?_
        rintro _ ⟨⟨bs, d⟩, rfl⟩
        go_wp2
        go_roundw
        case rel => exact ⟨j + 1, by omega, by go_num, hL.out.trans (Lv (Lz _))⟩
        case measure => simp [intOf]; omega
      · have hje : j = m := by omega
        subst hje
        replace hL : Hid (Later w wr) := hL
        go_wp2
        go_ret
        exact ⟨rfl, hL.out⟩
end Go.Proofs.Ytlckiipkndipiaa
