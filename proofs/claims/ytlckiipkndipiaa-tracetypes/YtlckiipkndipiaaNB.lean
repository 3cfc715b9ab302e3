/- Over this seat's translation: lists of ints copied, lent, kept, spoiled, held against each other (package peloruslaw0). -/
import Derived.Test.YtlckiipkndipiaaRows
import Derived.WalkKit
import Derived.ProofKit
import Derived.Deep.QuietTactic
import Derived.BigQuiet
import Derived.LoopN
import Derived.LoopTactic
import Derived.Test.YtlckiipkndipiaaNA
set_option linter.unusedVariables false
set_option linter.unusedSimpArgs false
set_option maxRecDepth 100000
set_option maxHeartbeats 4000000
namespace Go.Proofs.Ytlckiipkndipiaa
open Go.RowKit

theorem num_any (n : Int) (w : World) :
    Calls Try.prog 14 #[.int .i64 n] w fun e w' => e = .returned (.int .i64 n) ∧ w' = w := by
  go_enter Try.func14, Try.ntmps14
  go_wp2
  go_ret
  exact ⟨rfl, rfl⟩
/-- ints as cells -/
def xs (f : Nat → Int) (n : Nat) : List Value := (List.range n).map fun j => Value.int .i64 (f j)
theorem xs_len (f : Nat → Int) (n : Nat) : (xs f n).length = n := by simp [xs]
theorem xs_get (f : Nat → Int) (n j : Nat) (h : j < n) : (xs f n)[j]? = some (.int .i64 (f j)) := by simp [xs, h]
theorem xs_lt {f : Nat → Int} {n j : Nat} {u : Value} (h : (xs f n)[j]? = some u) : j < n := by have := (List.getElem?_eq_some_iff.1 h).1; rwa [xs_len] at this
theorem xs_one (f : Nat → Int) (n : Nat) : ∀ u ∈ xs f n, u.oneCell' = true := by
  intro u hu
  simp only [xs, List.mem_map] at hu
  obtain ⟨j, _, rfl⟩ := hu
  rfl
theorem xs_succ (f : Nat → Int) (n : Nat) : xs f n ++ [.int .i64 (f n)] = xs f (n + 1) := by simp [xs, List.range_succ]
theorem xs_congr {f g : Nat → Int} {n : Nat} (h : ∀ i, i < n → f i = g i) : xs f n = xs g n := by
  unfold xs
  apply List.map_congr_left
  intro i hi
  rw [h i (List.mem_range.1 hi)]
/-- a list's cells: n ints from an address on -/
def Lst (w : World) (A : Option Addr) (n : Nat) (f : Nat → Int) : Prop := n = 0 ∨ ∃ b o, A = some ⟨b, o, none⟩ ∧ ∀ j, j < n → w.cell? ⟨b, o + j, none⟩ = some (.int .i64 (f j))
theorem Lst.later {w w' : World} {A : Option Addr} {n : Nat} {f : Nat → Int} (h : Lst w A n f) (hl : Later w w') : Lst w' A n f := by
  rcases h with h | ⟨b, o, hA, h⟩
  · exact Or.inl h
  · exact Or.inr ⟨b, o, hA, fun j hj => hl.cell_of (h j hj)⟩
theorem info_int : (Try.prog.info? 3).map (fun i => (i.zero, i.size, i.bytes)) = some (some (.int .i64 0), 1, 8) := by kernel_rfl
theorem int_parts : ∃ i, Try.prog.info? 3 = some i ∧ i.zero = some (.int .i64 0) ∧ i.size = 1 ∧ i.bytes = 8 := by
  have h := info_int
  cases hh : Try.prog.info? 3 with
  | none => rw [hh] at h; cases h
  | some i =>
    rw [hh] at h
    simp only [Option.map_some, Option.some.injEq, Prod.mk.injEq] at h
    exact ⟨i, rfl, h⟩
theorem add_of (b o j : Nat) : (⟨b, o, none⟩ : Addr).add j = ⟨b, o + j, none⟩ := by unfold Addr.add; split <;> simp_all
theorem own_lit0 (W : World) (b : Nat) (hb : b = W.heap.size) : (W.alloc (.cells #[] 3)).ownsRow W.heap.size 3 1 (.slice (some ⟨b, 0, none⟩) 0 0) 0 [] := by
  subst hb
  exact ⟨rfl, Or.inr ⟨W.heap.size, 0, #[], rfl, Nat.le_refl _, heap_alloc_new W _, Nat.le_refl _, Nat.zero_le _, rfl, rfl⟩⟩
theorem news_at {w : World} {b o n : Nat} {f : Nat → Int} (h : ∀ j, j < n → w.cell? ⟨b, o + j, none⟩ = some (.int .i64 (f j))) : ∀ j u, (xs f n)[j]? = some u → w.cell? ((⟨b, o, none⟩ : Addr).add j) = some u := fun j u hu => by
  have hj := xs_lt hu
  rw [xs_get f n j hj] at hu
  rw [add_of, h j hj]
  exact hu
/-- the builtin 'append' of a list to an empty literal -/
theorem app_list (A : Option Addr) (n c : Nat) (f : Nat → Int) (ty : TypeId) (w : World) (hr : n * 8 ≤ 140737488351232) (hV : Lst w A n f) :
    ∃ g cap w', (Builtin.append_ #[34, 34] ty #[.slice (some ⟨w.heap.size, 0, none⟩) 0 0, .slice A n c]).run Try.prog (w.alloc (.cells #[] 3)) = .ok (.slice (some ⟨g, 0, none⟩) n cap) w' ∧ w'.ownsRow w.heap.size 3 1 (.slice (some ⟨g, 0, none⟩) n cap) n (xs f n) ∧ Later w w' := by
  obtain ⟨i0, hi, hz0, hz1, hz2⟩ := int_parts
  by_cases h0 : n = 0
  · subst h0
    exact ⟨_, _, _, app_zero Try.underlying34 hi A c _ _ (heap_alloc_new w _), own_lit0 w _ rfl, La (Lz _)⟩
  · obtain ⟨b, o, rfl, hc⟩ := hV.resolve_left h0
    obtain ⟨g, cap, w', h1, h2, h3⟩ := run_append_later (P := Try.prog) (La (Lz w)) 34 ty 3 i0 (.int .i64 0) 1 8 Try.underlying34 hi hz0 hz1 hz2 rfl (by decide) _ 0 [] (own_lit0 w _ rfl) ⟨b, o, none⟩ n c (xs f n) (by rw [xs_len]; omega) (news_at fun j hj => (La (Lz w)).cell_of (hc j hj)) (xs_one f n) (by unfold maxLen; omega) (by omega) (by omega)
    rw [Nat.zero_add] at h1 h2
    exact ⟨g, cap, w', h1, h2, h3⟩
def marks : List Value := [.int .i64 (-7777), .int .i64 (-8888)]
theorem marks_at {X : World} {b : Nat} (hb : b = X.heap.size) : ∀ (j : Nat) (u : Value), marks[j]? = some u → (X.alloc (.cells #[.int .i64 (-7777), .int .i64 (-8888)] 3)).cell? ((⟨b, 0, none⟩ : Addr).add j) = some u := by
  subst hb
  intro j u h
  rw [add_of, Nat.zero_add, cell_of_row _ _ _ _ _ _ (heap_alloc_new X _)]
  match j, h with
  | 0, h => simpa [marks] using h
  | 1, h => simpa [marks] using h
theorem marks_one : ∀ u ∈ marks, u.oneCell' = true := by
  intro u hu
  simp only [marks, List.mem_cons, List.not_mem_nil, or_false] at hu
  rcases hu with rfl | rfl <;> rfl
end Go.Proofs.Ytlckiipkndipiaa
