/- package instr: may an instruction be? (mayBe), its labels. -/
import Derived.Test.YtngciahmoenkiacXT
set_option linter.unusedVariables false
set_option linter.unusedSimpArgs false
set_option maxRecDepth 100000
set_option maxHeartbeats 8000000
namespace Go.Proofs.Ytngciahmoenkiac.gi
open Go.RowKit
/-- are all labels words? -/
def wds (ls : List Int) : Bool := ls.all wrd
theorem wds_yes {ls : List Int} (h : wds ls = true) (j : Nat) (hj : j < ls.length) : wrd (ls.getD j 0) = true := by
  unfold wds at h
  rw [List.all_eq_true] at h
  rw [List.getD_eq_getElem?_getD, List.getElem?_eq_getElem hj, Option.getD_some]
  exact h _ (List.getElem_mem hj)
theorem wds_no : ∀ {ls : List Int}, wds ls = false → ∃ i, i < ls.length ∧ wrd (ls.getD i 0) = false ∧ ∀ j, j < i → wrd (ls.getD j 0) = true
  | [], h => by cases h
  | x :: t, h => by
    cases hx : wrd x with
    | false => exact ⟨0, by simp, by simpa using hx, fun j hj => by omega⟩
    | true =>
      have ht : wds t = false := by simpa [wds, hx] using h
      obtain ⟨i, h1, h2, h3⟩ := wds_no ht
      refine ⟨i + 1, by simpa using h1, by simpa using h2, fun j hj => ?_⟩
      cases j with
      | zero => simpa using hx
      | succ j => simpa using h3 j (by omega)
theorem lab1_any (x : Int) (r : Bool) (hr : wrd x = !r) (w : World) :
    Calls Try.prog 79 #[.int .i64 x] w fun e w' => e = .returned (.bool r) ∧ w' = w := by
  have h3 : Hid (∀ w : World, Calls Try.prog 73 #[.int .i64 x] w fun e w' => e = .returned (.bool (!r)) ∧ w' = w) := fun w => by have := wrd_any x w; rwa [hr] at this
  clear hr
  cases r
  all_goals
    simp only [Bool.not_true, Bool.not_false] at h3
    go_enter Try.func79, Try.ntmps79
    go_wp2_with (go_at_call 73; refine (h3.out _).mono ?_; rintro e w1 ⟨rfl, rfl⟩)
    go_ret
    exact ⟨rfl, rfl⟩
theorem index_no (S : Option Addr) (m c : Nat) (h : Nat → Int) (hm : m ≤ 9223372036854775807) (w : World) (hS : Hid (Lst w S m h)) (hn : Hid (∀ j, j < m → wrd (h j) = true)) :
    Calls Try.prog 85 #[.slice S m c, .func (Fn.func 79) #[] #[]] w fun e w' => e = .returned (.int .i64 (-1)) ∧ w' = w := by
  by_cases h0 : m = 0
  · subst h0
    go_enter Try.func85, Try.ntmps85
    go_wp2
    refine wp_loop_rounds 1 ?_
    rw [rounds_succ]
    go_wp2
    go_ret
    exact ⟨rfl, rfl⟩
  · obtain ⟨b, o, rfl, g1⟩ := hS.out.resolve_left h0
    replace g1 : Hid _ := g1
    clear hS
    go_enter Try.func85, Try.ntmps85
    go_wp2
    go_loopw [8] (fun i wr => ∃ j : Nat, j ≤ m ∧ i = .int .i64 (j : Nat) ∧ wr = w) (fun i _ => m - (intOf i).toNat)
    case atStart => exact ⟨0, Nat.zero_le _, rfl, rfl⟩
    case round =>
      obtain ⟨j, hj, rfl, rfl⟩ := hrel
      by_cases hlt : j < m
      · have a0 := g1.out j hlt
        have hl1 : (j : Int) < (m : Int) := by omega
        have hp : Hid (wrd (h j) = !false) := hn.out j hlt
        go_wp2_with (go_at_call 79; refine (lab1_any _ false hp.out _).mono ?_; rintro e w1 ⟨rfl, rfl⟩)
        go_roundw
        case rel => exact ⟨j + 1, by omega, by go_num, trivial⟩
        case measure => simp [intOf]; omega
      · have hje : j = m := by omega
        subst hje
        go_wp2
        go_ret
        exact ⟨rfl, rfl⟩
theorem index_yes (S : Option Addr) (m c : Nat) (h : Nat → Int) (hm : m ≤ 9223372036854775807) (w : World) (hS : Hid (Lst w S m h)) (i0 : Nat) (hi1 : i0 < m) (hi2 : Hid (wrd (h i0) = false)) (hi3 : Hid (∀ j, j < i0 → wrd (h j) = true)) :
    Calls Try.prog 85 #[.slice S m c, .func (Fn.func 79) #[] #[]] w fun e w' => ∃ i : Nat, e = .returned (.int .i64 (i : Int)) ∧ w' = w := by
  obtain ⟨b, o, rfl, g1⟩ := hS.out.resolve_left (by omega)
  replace g1 : Hid _ := g1
  clear hS
  go_enter Try.func85, Try.ntmps85
  go_wp2
  go_loopw [8] (fun i wr => ∃ j : Nat, j ≤ i0 ∧ i = .int .i64 (j : Nat) ∧ wr = w) (fun i _ => m - (intOf i).toNat)
  case atStart => exact ⟨0, Nat.zero_le _, rfl, rfl⟩
  case round =>
    obtain ⟨j, hj, rfl, rfl⟩ := hrel
    have a0 := g1.out j (by omega)
    have hl1 : (j : Int) < (m : Int) := by omega
    by_cases hlt : j < i0
    · have hp : Hid (wrd (h j) = !false) := hi3.out j hlt
      go_wp2_with (go_at_call 79; refine (lab1_any _ false hp.out _).mono ?_; rintro e w1 ⟨rfl, rfl⟩)
      go_roundw
      case rel => exact ⟨j + 1, by omega, by go_num, trivial⟩
      case measure => simp [intOf]; omega
    · have hje : j = i0 := by omega
      subst hje
      have hp : Hid (wrd (h j) = !true) := hi2.out
      go_wp2_with (go_at_call 79; refine (lab1_any _ true hp.out _).mono ?_; rintro e w1 ⟨rfl, rfl⟩)
      go_ret
      exact ⟨_, rfl, rfl⟩
theorem has_any (S : Option Addr) (ls : List Int) (c : Nat) (hm : ls.length ≤ 9223372036854775807) (w : World) (hS : Hid (Lst w S ls.length (fun j => ls.getD j 0))) (r : Bool) (hr : Hid (wds ls = !r)) :
    Calls Try.prog 78 #[.slice S ls.length c, .func (Fn.func 79) #[] #[]] w fun e w' => e = .returned (.bool r) ∧ w' = w := by
  cases r
  · have hi : Hid (Calls Try.prog 85 #[.slice S ls.length c, .func (Fn.func 79) #[] #[]] w fun e w' => e = .returned (.int .i64 (-1)) ∧ w' = w) := index_no S _ c _ hm w hS (fun j hj => wds_yes hr.out j hj)
    clear hS hr
    generalize ls.length = m at *
    go_enter Try.func78, Try.ntmps78
    go_wp2_with (go_at_call 85; refine hi.out.mono ?_; rintro e w1 ⟨rfl, rfl⟩)
    go_ret
    exact ⟨rfl, rfl⟩
  · obtain ⟨i0, h1, h2, h3⟩ := wds_no hr.out
    have hi : Hid (Calls Try.prog 85 #[.slice S ls.length c, .func (Fn.func 79) #[] #[]] w fun e w' => ∃ i : Nat, e = .returned (.int .i64 (i : Int)) ∧ w' = w) := index_yes S _ c _ hm w hS i0 h1 h2 h3
    clear hS hr h1 h2 h3
    generalize ls.length = m at *
    go_enter Try.func78, Try.ntmps78
    go_wp2_with (go_at_call 85; refine hi.out.mono ?_; rintro e w1 ⟨i, rfl, rfl⟩)
    go_ret
    exact ⟨rfl, rfl⟩
/-- may an OpBrTable have these labels? -/
def mlb (ls : List Int) : Bool := decide (1 ≤ ls.length) && (decide (ls.length ≤ 1024) && wds ls)
theorem mlb_any (S : Option Addr) (ls : List Int) (c : Nat) (w : World) (hS : Lst w S ls.length (fun j => ls.getD j 0)) :
    Calls Try.prog 74 #[.slice S ls.length c] w fun e w' => e = .returned (.bool (mlb ls)) ∧ w' = w := by
  unfold mlb
  by_cases h1 : 1 ≤ ls.length
  case neg =>
    rw [decide_eq_false h1, Bool.false_and]
    clear hS
    obtain h0 : ls.length = 0 := by omega
    rw [h0]
    clear h0 h1
    go_enter Try.func74, Try.ntmps74
    go_wp2
    go_ret
    exact ⟨rfl, rfl⟩
  rw [decide_eq_true h1, Bool.true_and]
  by_cases h2 : ls.length ≤ 1024
  case neg =>
    rw [decide_eq_false h2, Bool.false_and]
    clear hS
    generalize ls.length = m at *
    have k1 : ¬ (m : Int) ≤ 0 := by omega
    have k2 : ¬ (m : Int) ≤ 1024 := by omega
    go_enter Try.func74, Try.ntmps74
    go_wp2
    go_ret
    exact ⟨rfl, rfl⟩
  rw [decide_eq_true h2, Bool.true_and]
  have hc : Hid (Calls Try.prog 78 #[.slice S ls.length c, .func (Fn.func 79) #[] #[]] w fun e w' => e = .returned (.bool (!wds ls)) ∧ w' = w) := has_any S ls c (by omega) w hS _ (by simp [Hid])
  generalize wds ls = r at *
  clear hS
  generalize ls.length = m at *
  have k1 : 0 < (m : Int) := by omega
  have k2 : (m : Int) ≤ 1024 := by omega
  clear h1 h2
  cases r
  all_goals
    simp only [Bool.not_true, Bool.not_false] at hc
    go_enter Try.func74, Try.ntmps74
    go_wp2_with (go_at_call 78; refine hc.out.mono ?_; rintro e w1 ⟨rfl, rfl⟩)
    go_ret
    exact ⟨rfl, rfl⟩
end Go.Proofs.Ytngciahmoenkiac.gi
