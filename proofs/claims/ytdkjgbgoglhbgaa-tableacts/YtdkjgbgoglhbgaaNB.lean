/- Over this seat's translation: lists of ints copied, lent, kept, spoiled, held against each other (package peloruslaw0). -/
import Derived.Test.YtdkjgbgoglhbgaaRows
import Derived.WalkKit
import Derived.ProofKit
import Derived.Deep.QuietTactic
import Derived.BigQuiet
import Derived.LoopN
import Derived.LoopTactic
import Derived.Test.YtdkjgbgoglhbgaaNA
set_option linter.unusedVariables false
set_option linter.unusedSimpArgs false
set_option maxRecDepth 100000
set_option maxHeartbeats 4000000
namespace Go.Proofs.Ytdkjgbgoglhbgaa
open Go.RowKit

theorem num_any (n : Int) (w : World) :
    Calls Try.prog 8 #[.int .i64 n] w fun e w' => e = .returned (.int .i64 n) ∧ w' = w := by
  go_enter Try.func8, Try.ntmps8
  go_wp2
  go_ret
  exact ⟨rfl, rfl⟩
/-- ints as cells -/
def xs (f : Nat → Int) (n : Nat) : List Value := (List.range n).map fun j => Value.int .i64 (f j)
theorem xs_len (f : Nat → Int) (n : Nat) : (xs f n).length = n := by simp [xs]
theorem xs_get (f : Nat → Int) (n j : Nat) (h : j < n) : (xs f n)[j]? = some (.int .i64 (f j)) := by simp [xs, h]
theorem xs_lt {f : Nat → Int} {n j : Nat} {u : Value} (h : (xs f n)[j]? = some u) : j < n := by have := (List.getElem?_eq_some_iff.1 h).1; rwa [xs_len] at this
theorem xs_one (f : Nat → Int) (n : Nat) : ∀ u ∈ xs f n, u.oneCell' = true := by
  intro u hu
  simp only [xs, List.mem_map] at hu
  obtain ⟨j, _, rfl⟩ := hu
  rfl
theorem xs_succ (f : Nat → Int) (n : Nat) : xs f n ++ [.int .i64 (f n)] = xs f (n + 1) := by simp [xs, List.range_succ]
theorem xs_congr {f g : Nat → Int} {n : Nat} (h : ∀ i, i < n → f i = g i) : xs f n = xs g n := by
  unfold xs
  apply List.map_congr_left
  intro i hi
  rw [h i (List.mem_range.1 hi)]
/-- a list's cells: n ints from an address on -/
def Lst (w : World) (A : Option Addr) (n : Nat) (f : Nat → Int) : Prop := n = 0 ∨ ∃ b o, A = some ⟨b, o, none⟩ ∧ ∀ j, j < n → w.cell? ⟨b, o + j, none⟩ = some (.int .i64 (f j))
theorem Lst.later {w w' : World} {A : Option Addr} {n : Nat} {f : Nat → Int} (h : Lst w A n f) (hl : Later w w') : Lst w' A n f := by
  rcases h with h | ⟨b, o, hA, h⟩
  · exact Or.inl h
  · exact Or.inr ⟨b, o, hA, fun j hj => hl.cell_of (h j hj)⟩
theorem info_int : (Try.prog.info? 3).map (fun i => (i.zero, i.size, i.bytes)) = some (some (.int .i64 0), 1, 8) := by kernel_rfl
theorem int_parts : ∃ i, Try.prog.info? 3 = some i ∧ i.zero = some (.int .i64 0) ∧ i.size = 1 ∧ i.bytes = 8 := by
  have h := info_int
  cases hh : Try.prog.info? 3 with
  | none => rw [hh] at h; cases h
  | some i =>
    rw [hh] at h
    simp only [Option.map_some, Option.some.injEq, Prod.mk.injEq] at h
    exact ⟨i, rfl, h⟩
theorem add_of (b o j : Nat) : (⟨b, o, none⟩ : Addr).add j = ⟨b, o + j, none⟩ := by unfold Addr.add; split <;> simp_all
theorem own_lit0 (W : World) (b : Nat) (hb : b = W.heap.size) : (W.alloc (.cells #[] 3)).ownsRow W.heap.size 3 1 (.slice (some ⟨b, 0, none⟩) 0 0) 0 [] := by
  subst hb
  exact ⟨rfl, Or.inr ⟨W.heap.size, 0, #[], rfl, Nat.le_refl _, heap_alloc_new W _, Nat.le_refl _, Nat.zero_le _, rfl, rfl⟩⟩
theorem news_at {w : World} {b o n : Nat} {f : Nat → Int} (h : ∀ j, j < n → w.cell? ⟨b, o + j, none⟩ = some (.int .i64 (f j))) : ∀ j u, (xs f n)[j]? = some u → w.cell? ((⟨b, o, none⟩ : Addr).add j) = some u := fun j u hu => by
  have hj := xs_lt hu
  rw [xs_get f n j hj] at hu
  rw [add_of, h j hj]
  exact hu
/-- the builtin 'append' of a list to an empty literal -/
theorem app_list (A : Option Addr) (n c : Nat) (f : Nat → Int) (ty : TypeId) (w : World) (hr : n * 8 ≤ 140737488351232) (hV : Lst w A n f) :
    ∃ g cap w', (Builtin.append_ #[34, 34] ty #[.slice (some ⟨w.heap.size, 0, none⟩) 0 0, .slice A n c]).run Try.prog (w.alloc (.cells #[] 3)) = .ok (.slice (some ⟨g, 0, none⟩) n cap) w' ∧ w'.ownsRow w.heap.size 3 1 (.slice (some ⟨g, 0, none⟩) n cap) n (xs f n) ∧ Later w w' := by
  obtain ⟨i0, hi, hz0, hz1, hz2⟩ := int_parts
  by_cases h0 : n = 0
  · subst h0
    exact ⟨_, _, _, app_zero Try.underlying34 hi A c _ _ (heap_alloc_new w _), own_lit0 w _ rfl, La (Lz _)⟩
  · obtain ⟨b, o, rfl, hc⟩ := hV.resolve_left h0
    obtain ⟨g, cap, w', h1, h2, h3⟩ := run_append_later (P := Try.prog) (La (Lz w)) 34 ty 3 i0 (.int .i64 0) 1 8 Try.underlying34 hi hz0 hz1 hz2 rfl (by decide) _ 0 [] (own_lit0 w _ rfl) ⟨b, o, none⟩ n c (xs f n) (by rw [xs_len]; omega) (news_at fun j hj => (La (Lz w)).cell_of (hc j hj)) (xs_one f n) (by unfold maxLen; omega) (by omega) (by omega)
    rw [Nat.zero_add] at h1 h2
    exact ⟨g, cap, w', h1, h2, h3⟩
theorem copy_any (A : Option Addr) (n c : Nat) (f : Nat → Int) (w : World) (hr : n * 8 ≤ 140737488351232) (hV : Hid (Lst w A n f)) :
    Calls Try.prog 21 #[.slice A n c] w fun e w' => ∃ g cap, e = .returned (.slice (some ⟨g, 0, none⟩) n cap) ∧ Hid (w'.ownsRow w.heap.size 3 1 (.slice (some ⟨g, 0, none⟩) n cap) n (xs f n)) ∧ Hid (Later w w') := by
  obtain ⟨g, cap, w2, h1, h2, h3⟩ := app_list A n c f 34 w hr hV
  replace h1 : Hid _ := h1
  replace h2 : Hid _ := h2
  replace h3 : Hid _ := h3
  go_enter Try.func21, Try.ntmps21
  go_wp2_with (at_builtin; refine wpList_app rfl _ _ 34 rfl _ _ _ rfl rfl h1.out ?_)
  go_ret
  exact ⟨g, cap, rfl, h2, h3⟩
def marks : List Value := [.int .i64 (-7777), .int .i64 (-8888)]
theorem marks_at {X : World} {b : Nat} (hb : b = X.heap.size) : ∀ (j : Nat) (u : Value), marks[j]? = some u → (X.alloc (.cells #[.int .i64 (-7777), .int .i64 (-8888)] 3)).cell? ((⟨b, 0, none⟩ : Addr).add j) = some u := by
  subst hb
  intro j u h
  rw [add_of, Nat.zero_add, cell_of_row _ _ _ _ _ _ (heap_alloc_new X _)]
  match j, h with
  | 0, h => simpa [marks] using h
  | 1, h => simpa [marks] using h
theorem marks_one : ∀ u ∈ marks, u.oneCell' = true := by
  intro u hu
  simp only [marks, List.mem_cons, List.not_mem_nil, or_false] at hu
  rcases hu with rfl | rfl <;> rfl
/-- lent: the ints, and two marks behind them -/
theorem lend_any (A : Option Addr) (n c : Nat) (f : Nat → Int) (w : World) (hr : n * 8 ≤ 140737488351232) (hV : Hid (Lst w A n f)) :
    Calls Try.prog 10 #[.slice A n c] w fun e w' => ∃ g cap, e = .returned (.slice (some ⟨g, 0, none⟩) n cap) ∧ n + 2 ≤ cap ∧ Hid (w'.ownsRow w.heap.size 3 1 (.slice (some ⟨g, 0, none⟩) (n + 2) cap) (n + 2) (xs f n ++ marks)) ∧ Hid (Later w w') := by
  obtain ⟨i0, hi, hz0, hz1, hz2⟩ := int_parts
  go_enter Try.func10, Try.ntmps10
  go_wp2_with fail
  refine (copy_any A n c f _ hr (hV.out.later (by repeat first | exact Lz _ | apply La | apply Ld))).mono ?_
  rintro e w2 ⟨g, cap, rfl, hown, hL⟩
  go_wp2_with (at_builtin; refine wpList_append_later (La (later_of hL)) rfl _ _ 34 rfl 3 i0 (.int .i64 0) 1 8 Try.underlying34 hi hz0 hz1 hz2 rfl (by decide) _ n (xs f n) rfl (hown.out.alloc _) _ 2 _ marks rfl rfl (marks_at (by simp)) marks_one (by unfold maxLen; omega) (by omega) (by decide) ?_; intro g2 cap2 w3 hown3 hL3; have hc2 := owns_cap hown3; replace hown3 : Hid (w3.ownsRow w.heap.size 3 1 (.slice (some ⟨g2, 0, none⟩) (n + 2) cap2) (n + 2) (xs f n ++ marks)) := hown3)
  go_ret
  exact ⟨g2, cap2, rfl, hc2, hown3, hL3⟩
/-- two lists of the same ints -/
theorem same_any (A B : Option Addr) (n c d : Nat) (f : Nat → Int) (hn : n ≤ 9223372036854775807) (w : World) (h1 : Hid (Lst w A n f)) (h2 : Hid (Lst w B n f)) :
    Calls Try.prog 18 #[.slice A n c, .slice B n d] w fun e w' => e = .returned (.bool true) ∧ Later w w' := by
  by_cases h0 : n = 0
  · subst h0
    go_enter Try.func18, Try.ntmps18
    go_wp2_with fail
    refine wp_loop_rounds 1 ?_
    rw [rounds_succ]
    go_wp2
    go_ret
    exact ⟨rfl, Lz _⟩
  · obtain ⟨b, o, rfl, g1⟩ := h1.out.resolve_left h0
    obtain ⟨b2, o2, rfl, g2⟩ := h2.out.resolve_left h0
    replace g1 : Hid _ := g1
    replace g2 : Hid _ := g2
    clear h1 h2
    go_enter Try.func18, Try.ntmps18
    go_wp2_with fail
    go_loopw [5] (fun i wr => ∃ j d : Nat, j ≤ n ∧ i = .int .i64 (j : Nat) ∧ wr = w.drewN d) (fun i _ => n - (intOf i).toNat)
    case atStart => exact ⟨0, 0, Nat.zero_le _, rfl, by simp [World.drewN]⟩
    case round =>
      obtain ⟨j, d, hj, rfl, rfl⟩ := hrel
      by_cases hlt : j < n
      · have a0 := g1.out j hlt
        have b0 := g2.out j hlt
        have hl1 : (j : Int) < (n : Int) := by omega
        go_wp2
        go_quiet (fail)
        go_wp2
        go_roundw
        case rel => exact ⟨j + 1, _, by omega, by go_num, rfl⟩
        case measure => simp [intOf]; omega
      · have hje : j = n := by omega
        subst hje
        go_wp2
        go_ret
        exact ⟨rfl, Ln (Lz _)⟩
theorem kept_any (g cap n c : Nat) (f : Nat → Int) (A : Option Addr) (hn : n * 8 ≤ 140737488351232) (hc2 : n + 2 ≤ cap) (w : World) (h1 : Hid (∀ j u, (xs f n ++ marks)[j]? = some u → w.cell? ⟨g, j, none⟩ = some u)) (h2 : Hid (Lst w A n f)) :
    Calls Try.prog 15 #[.slice (some ⟨g, 0, none⟩) n cap, .slice A n c] w fun e w' => e = .returned (.bool true) ∧ Later w w' := by
  have hs : Hid (∀ w', Later w w' → Calls Try.prog 18 #[.slice (some ⟨g, 0, none⟩) n cap, .slice A n c] w' fun e w2 => e = .returned (.bool true) ∧ Later w' w2) := fun w' hl => same_any _ A n cap c f (by omega) w' (Or.inr ⟨g, 0, rfl, fun j hj => hl.cell_of (by rw [Nat.zero_add]; exact h1.out j _ (by rw [List.getElem?_append_left (by rw [xs_len]; exact hj)]; exact xs_get f n j hj))⟩) (h2.out.later hl)
  have q0 := h1.out n (.int .i64 (-7777)) (by rw [List.getElem?_append_right (by rw [xs_len]; omega), xs_len]; simp [marks])
  have q1 := h1.out (n + 1) (.int .i64 (-8888)) (by rw [List.getElem?_append_right (by rw [xs_len]; omega), xs_len, Nat.add_sub_cancel_left]; rfl)
  have lg := cell_lt q0
  clear h1 h2
  go_enter Try.func15, Try.ntmps15
  go_wp2_with fail
  refine (hs.out _ (Lz _)).mono ?_
  rintro e w2 ⟨rfl, bs, m, rfl⟩
  go_wp2
  go_ret
  exact ⟨rfl, Lv (Lz _)⟩
/-- one's own row written over -/
theorem spoil_any (g cap n m : Nat) (t : TypeId) (F : Nat → Value) (f : Nat → Int) (hn : n ≤ 9223372036854775807) (hm : n ≤ m) (w : World) (hr : Hid (w.rowIs g t m F)) (hF : Hid (∀ i, i < n → F i = .int .i64 (f i))) :
    Calls Try.prog 16 #[.slice (some ⟨g, 0, none⟩) n cap] w fun e w' => e = .returned (.tuple #[]) ∧ Turned g w w' := by
  go_enter Try.func16, Try.ntmps16
  go_wp2_with fail
  go_loopw [2] (fun i wr => ∃ (j : Nat) (G : Nat → Value), j ≤ n ∧ i = .int .i64 (j : Nat) ∧ Turned g w wr ∧ wr.rowIs g t m G ∧ (∀ i, j ≤ i → G i = F i)) (fun i _ => n - (intOf i).toNat)
  case atStart => exact ⟨0, F, Nat.zero_le _, rfl, Turned.refl hr.out, hr.out, fun i _ => rfl⟩
  case round =>
    obtain ⟨j, G, hj, rfl, ht, hR, hG⟩ := hrel
    replace ht : Hid (Turned g w wr) := ht
    replace hR : Hid (wr.rowIs g t m G) := hR
    replace hG : Hid (∀ i, j ≤ i → G i = F i) := hG
    by_cases hlt : j < n
    · have hc := hR.out.cell (i := j) (by omega)
      rw [hG.out j (Nat.le_refl _), hF.out j hlt] at hc
      have hfr := hR.out.frozen j
      have hl1 : (j : Int) < (n : Int) := by omega
      go_wp2
      go_roundw
      case rel => exact ⟨j + 1, _, by omega, by go_num, ht.out.set hr.out _ _, hR.out.set j _, fun i hi => by show (if i = j then _ else G i) = F i; rw [if_neg (by omega)]; exact hG.out i (by omega)⟩
      case measure => simp [intOf]; omega
    · have hje : j = n := by omega
      subst hje
      go_wp2
      go_end0
      exact ⟨rfl, ht.out⟩
end Go.Proofs.Ytdkjgbgoglhbgaa
