/- Over this seat's translation: lists of values copied, lent, kept (package peloruslaw0); the document's Fit. -/
import Derived.Test.YtlckiipkndipiaaUC
set_option linter.unusedVariables false
set_option linter.unusedSimpArgs false
set_option maxRecDepth 100000
set_option maxHeartbeats 4000000
namespace Go.Proofs.Ytlckiipkndipiaa
open Go.RowKit
theorem own_vit0 (W : World) (b : Nat) (hb : b = W.heap.size) : (W.alloc (.cells #[] 56)).ownsRow W.heap.size 56 2 (.slice (some ⟨b, 0, none⟩) 0 0) 0 [] := by
  subst hb
  exact ⟨rfl, Or.inr ⟨W.heap.size, 0, #[], rfl, Nat.le_refl _, heap_alloc_new W _, Nat.le_refl _, Nat.zero_le _, rfl, rfl⟩⟩
theorem newv_at {w : World} {g o n : Nat} {t b : Nat → Int} (h : ∀ j, j < n → w.cell? ⟨g, o + j * 2, none⟩ = some (.int .i64 (t j)) ∧ w.cell? ⟨g, o + j * 2 + 1, none⟩ = some (.int .i64 (b j))) : ∀ j u, (vs t b n)[j]? = some u → w.cell? ((⟨g, o, none⟩ : Addr).add j) = some u := fun j u hu => by
  have hj : j < n * 2 := by have := (List.getElem?_eq_some_iff.1 hu).1; rwa [vs_len] at this
  rw [vs_get t b n j hj] at hu
  rw [add_of, ← hu]
  have h2 := h (j / 2) (by omega)
  by_cases hm : j % 2 = 0
  · rw [show vc t b j = t (j / 2) from if_pos hm, ← h2.1]
    congr 2
    omega
  · rw [show vc t b j = b (j / 2) from if_neg hm, ← h2.2]
    congr 2
    omega
/-- the builtin 'append' of a list of values to an empty literal -/
theorem app_vals (A : Option Addr) (n c : Nat) (t b : Nat → Int) (ty : TypeId) (w : World) (hr : n * 16 ≤ 140737488351232) (hV : Vst w A n t b) :
    ∃ g cap w', (Builtin.append_ #[24, 24] ty #[.slice (some ⟨w.heap.size, 0, none⟩) 0 0, .slice A n c]).run Try.prog (w.alloc (.cells #[] 56)) = .ok (.slice (some ⟨g, 0, none⟩) n cap) w' ∧ w'.ownsRow w.heap.size 56 2 (.slice (some ⟨g, 0, none⟩) n cap) n (vs t b n) ∧ Later w w' := by
  obtain ⟨i0, hi, hz0, hz1, hz2⟩ := val_parts
  by_cases h0 : n = 0
  · subst h0
    exact ⟨_, _, _, app_zero Try.underlying24 hi A c _ _ (heap_alloc_new w _), own_vit0 w _ rfl, La (Lz _)⟩
  · obtain ⟨g0, o, rfl, hc⟩ := hV.resolve_left h0
    obtain ⟨g, cap, w', h1, h2, h3⟩ := run_append_later (P := Try.prog) (La (Lz w)) 24 ty 56 i0 (.agg #[.int .i64 0, .int .i64 0]) 2 16 Try.underlying24 hi hz0 hz1 hz2 rfl (by decide) _ 0 [] (own_vit0 w _ rfl) ⟨g0, o, none⟩ n c (vs t b n) (vs_len t b n) (newv_at fun j hj => ⟨(La (Lz w)).cell_of (hc j hj).1, (La (Lz w)).cell_of (hc j hj).2⟩) (vs_one t b n) (by unfold maxLen; omega) (by omega) (by omega)
    rw [Nat.zero_add] at h1 h2
    exact ⟨g, cap, w', h1, h2, h3⟩
theorem owns_vst {w : World} {B g n cap : Nat} {t b : Nat → Int} (h : w.ownsRow B 56 2 (.slice (some ⟨g, 0, none⟩) n cap) n (vs t b n)) : Vst w (some ⟨g, 0, none⟩) n t b :=
  Or.inr ⟨g, 0, rfl, fun j hj => ⟨by rw [Nat.zero_add]; exact owns_cell h (vs_0 t b n j hj), by rw [Nat.zero_add]; exact owns_cell h (vs_1 t b n j hj)⟩⟩
theorem copyv_any (A : Option Addr) (n c : Nat) (t b : Nat → Int) (w : World) (hr : n * 16 ≤ 140737488351232) (hV : Hid (Vst w A n t b)) :
    Calls Try.prog 19 #[.slice A n c] w fun e w' => ∃ g cap, e = .returned (.slice (some ⟨g, 0, none⟩) n cap) ∧ Hid (w'.ownsRow w.heap.size 56 2 (.slice (some ⟨g, 0, none⟩) n cap) n (vs t b n)) ∧ Hid (Later w w') := by
  obtain ⟨g, cap, w2, h1, h2, h3⟩ := app_vals A n c t b 24 w hr hV
  replace h1 : Hid _ := h1
  replace h2 : Hid _ := h2
  replace h3 : Hid _ := h3
  go_enter Try.func19, Try.ntmps19
  go_wp2_with (at_builtin; refine wpList_app rfl _ _ 24 rfl _ _ _ rfl rfl h1.out ?_)
  go_ret
  exact ⟨g, cap, rfl, h2, h3⟩
def mk4 : List Value := [.int .i64 77777, .int .i64 0, .int .i64 77777, .int .i64 0]
theorem news4 {X : World} {b : Nat} (hb : b = X.heap.size) : ∀ (j : Nat) (u : Value), mk4[j]? = some u → (X.alloc (.cells #[.int .i64 77777, .int .i64 0, .int .i64 77777, .int .i64 0] 56)).cell? ((⟨b, 0, none⟩ : Addr).add j) = some u := by
  subst hb
  intro j u h
  rw [add_of, Nat.zero_add, cell_of_row _ _ _ _ _ _ (heap_alloc_new X _)]
  match j, h with
  | 0, h => simpa [mk4] using h
  | 1, h => simpa [mk4] using h
  | 2, h => simpa [mk4] using h
  | 3, h => simpa [mk4] using h
theorem one4 : ∀ u ∈ mk4, u.oneCell' = true := by
  intro u hu
  simp only [mk4, List.mem_cons, List.not_mem_nil, or_false] at hu
  rcases hu with rfl | rfl | rfl | rfl <;> rfl
/-- lent: the values, and two marks behind them -/
theorem lendv_any (A : Option Addr) (n c : Nat) (t b : Nat → Int) (w : World) (hr : n * 16 ≤ 140737488351232) (hV : Hid (Vst w A n t b)) :
    Calls Try.prog 6 #[.slice A n c] w fun e w' => ∃ g cap, e = .returned (.slice (some ⟨g, 0, none⟩) n cap) ∧ n + 2 ≤ cap ∧ Hid (w'.ownsRow w.heap.size 56 2 (.slice (some ⟨g, 0, none⟩) (n + 2) cap) (n + 2) (vs t b n ++ mk4)) ∧ Hid (Later w w') := by
  obtain ⟨i0, hi, hz0, hz1, hz2⟩ := val_parts
  go_enter Try.func6, Try.ntmps6
  go_wp2_with fail
  refine (copyv_any A n c t b _ hr (hV.out.later (by repeat first | exact Lz _ | apply La | apply Ld))).mono ?_
  rintro e w2 ⟨g, cap, rfl, hown, hL⟩
  go_wp2_with (at_builtin; refine wpList_append_later (La (later_of hL)) rfl _ _ 24 rfl 56 i0 (.agg #[.int .i64 0, .int .i64 0]) 2 16 Try.underlying24 hi hz0 hz1 hz2 rfl (by decide) _ n (vs t b n) rfl (hown.out.alloc _) _ 2 _ mk4 rfl rfl (news4 (by simp)) one4 (by unfold maxLen; omega) (by omega) (by decide) ?_; intro g2 cap2 w3 hown3 hL3; have hc2 := owns_cap hown3; replace hown3 : Hid (w3.ownsRow w.heap.size 56 2 (.slice (some ⟨g2, 0, none⟩) (n + 2) cap2) (n + 2) (vs t b n ++ mk4)) := hown3)
  go_ret
  exact ⟨g2, cap2, rfl, hc2, hown3, hL3⟩
theorem keptv_any (g cap n c : Nat) (t b : Nat → Int) (A : Option Addr) (hn : n * 16 ≤ 140737488351232) (hc2 : n + 2 ≤ cap) (w : World) (h1 : Hid (∀ j u, (vs t b n ++ mk4)[j]? = some u → w.cell? ⟨g, j, none⟩ = some u)) (h2 : Hid (Vst w A n t b)) :
    Calls Try.prog 9 #[.slice (some ⟨g, 0, none⟩) n cap, .slice A n c] w fun e w' => e = .returned (.bool true) ∧ Later w w' := by
  have hs : Hid (∀ w', Later w w' → Calls Try.prog 13 #[.slice (some ⟨g, 0, none⟩) n cap, .slice A n c] w' fun e w2 => e = .returned (.bool true) ∧ Later w' w2) := fun w' hl => samev_any _ A n cap c t b (by omega) w' (Or.inr ⟨g, 0, rfl, fun j hj => ⟨hl.cell_of (by rw [Nat.zero_add]; exact h1.out _ _ (by rw [List.getElem?_append_left (by rw [vs_len]; omega)]; exact vs_0 t b n j hj)), hl.cell_of (by rw [Nat.zero_add]; exact h1.out _ _ (by rw [List.getElem?_append_left (by rw [vs_len]; omega)]; exact vs_1 t b n j hj))⟩⟩) (h2.out.later hl)
  have q0 := h1.out (n * 2) (.int .i64 77777) (by rw [List.getElem?_append_right (by rw [vs_len]; omega), vs_len]; simp [mk4])
  have q1 := h1.out (n * 2 + 1) (.int .i64 0) (by rw [List.getElem?_append_right (by rw [vs_len]; omega), vs_len, Nat.add_sub_cancel_left]; rfl)
  have q2 := h1.out (n * 2 + 2) (.int .i64 77777) (by rw [List.getElem?_append_right (by rw [vs_len]; omega), vs_len, Nat.add_sub_cancel_left]; rfl)
  have q3 := h1.out (n * 2 + 3) (.int .i64 0) (by rw [List.getElem?_append_right (by rw [vs_len]; omega), vs_len, Nat.add_sub_cancel_left]; rfl)
  have lg := cell_lt q0
  clear h1 h2
  rw [show n * 2 + 2 = (n + 1) * 2 by omega] at q2
  rw [show n * 2 + 3 = (n + 1) * 2 + 1 by omega] at q3
  go_enter Try.func9, Try.ntmps9
  go_wp2_with fail
  refine (hs.out _ (Lz _)).mono ?_
  rintro e w2 ⟨rfl, bs, m, rfl⟩
  go_wp2
  go_ret
  exact ⟨rfl, Lv (Lz _)⟩
end Go.Proofs.Ytlckiipkndipiaa
