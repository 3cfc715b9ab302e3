/- Over this seat's translation: package access: what each load and store has to do with. -/
import Derived.Test.YtbbjbgbpjhhcoaaDoorRows
import Derived.WalkKit
import Derived.ProofKit
import Derived.Deep.QuietTactic
import Derived.Test.YtbbjbgbpjhhcoaaDoorMA
import Derived.BigQuiet
set_option linter.unusedVariables false
set_option linter.unusedSimpArgs false
set_option maxRecDepth 100000
set_option maxHeartbeats 4000000
namespace Go.Proofs.YtbbjbgbpjhhcoaaDoor
open Go.RowKit
/-- size, type, sign, from i32.load on -/
def acTab : List (Nat × Nat × Bool) := [(4, 127, false), (8, 126, false), (4, 125, false), (8, 124, false), (1, 127, true), (1, 127, false), (2, 127, true), (2, 127, false), (1, 126, true), (1, 126, false), (2, 126, true), (2, 126, false), (4, 126, true), (4, 126, false), (4, 127, false), (8, 126, false), (4, 125, false), (8, 124, false), (1, 127, false), (2, 127, false), (1, 126, false), (2, 126, false), (4, 126, false)]
def acAt (k : Nat) : Nat × Nat × Bool := acTab.getD k (0, 0, false)
def Acc (w : World) : Prop := ∀ k, k < 23 → w.cell? ⟨0, 3 * k, none⟩ = some (.int .i64 (acAt k).1) ∧ w.cell? ⟨0, 3 * k + 1, none⟩ = some (.int .i64 (acAt k).2.1) ∧ w.cell? ⟨0, 3 * k + 2, none⟩ = some (.bool (acAt k).2.2)
theorem Acc.later {w w' : World} (h : Acc w) (hl : Later w w') : Acc w' := fun k hk => ⟨hl.cell_of (h k hk).1, hl.cell_of (h k hk).2.1, hl.cell_of (h k hk).2.2⟩
theorem isload_any (op : Int) (w : World) : Calls Tryd.prog 33 #[.int .i64 op] w fun e w' => e = .returned (.bool (decide (40 ≤ op ∧ op < 54))) ∧ w' = w := by
  by_cases h1 : 40 ≤ op
  · by_cases h2 : op < 54
    · have h3 : ¬ op < 40 := by omega
      have h4 : ¬ 54 ≤ op := by omega
      go_enter Tryd.func33, Tryd.ntmps33
      go_wp2
      go_ret
      exact ⟨by first | (simp; done) | (simp; omega), rfl⟩
    · have h3 : ¬ op < 40 := by omega
      have h4 : 54 ≤ op := by omega
      go_enter Tryd.func33, Tryd.ntmps33
      go_wp2
      go_ret
      exact ⟨by first | (simp; done) | (simp; omega), rfl⟩
  · have h3 : op < 40 := by omega
    go_enter Tryd.func33, Tryd.ntmps33
    go_wp2
    go_ret
    exact ⟨by first | (simp; done) | (simp; omega), rfl⟩
theorem isstore_any (op : Int) (w : World) : Calls Tryd.prog 26 #[.int .i64 op] w fun e w' => e = .returned (.bool (decide (54 ≤ op ∧ op ≤ 62))) ∧ w' = w := by
  by_cases h1 : 54 ≤ op
  · by_cases h2 : op ≤ 62
    · have h3 : ¬ op < 54 := by omega
      have h4 : ¬ 62 < op := by omega
      go_enter Tryd.func26, Tryd.ntmps26
      go_wp2
      go_ret
      exact ⟨by first | (simp; done) | (simp; omega), rfl⟩
    · have h3 : ¬ op < 54 := by omega
      have h4 : 62 < op := by omega
      go_enter Tryd.func26, Tryd.ntmps26
      go_wp2
      go_ret
      exact ⟨by first | (simp; done) | (simp; omega), rfl⟩
  · have h3 : op < 54 := by omega
    go_enter Tryd.func26, Tryd.ntmps26
    go_wp2
    go_ret
    exact ⟨by first | (simp; done) | (simp; omega), rfl⟩
theorem isload_is (op : Int) (r : Bool) (h : decide (40 ≤ op ∧ op < 54) = r) (w : World) : Calls Tryd.prog 33 #[.int .i64 op] w fun e w' => e = .returned (.bool r) ∧ w' = w := by subst h; exact isload_any op w
theorem isstore_is (op : Int) (r : Bool) (h : decide (54 ≤ op ∧ op ≤ 62) = r) (w : World) : Calls Tryd.prog 26 #[.int .i64 op] w fun e w' => e = .returned (.bool r) ∧ w' = w := by subst h; exact isstore_any op w
theorem aof_any (k : Nat) (hk : k < 23) (w : World) (hT : Hid (Acc w)) :
    Calls Tryd.prog 28 #[.int .i64 ((40 + k : Nat) : Int)] w fun e w' => e = .returned (.agg #[.int .i64 (acAt k).1, .int .i64 (acAt k).2.1, .bool (acAt k).2.2]) ∧ Later w w' := by
  obtain ⟨t0, t1, t2⟩ := hT.out k hk
  have lG := cell_lt t0
  clear hT
  generalize acAt k = L at *
  obtain ⟨sz, ty, s⟩ := L
  simp only at *
  rcases (by omega : k = 0 ∨ k = 1 ∨ k = 2 ∨ k = 3 ∨ k = 4 ∨ k = 5 ∨ k = 6 ∨ k = 7 ∨ k = 8 ∨ k = 9 ∨ k = 10 ∨ k = 11 ∨ k = 12 ∨ k = 13 ∨ k = 14 ∨ k = 15 ∨ k = 16 ∨ k = 17 ∨ k = 18 ∨ k = 19 ∨ k = 20 ∨ k = 21 ∨ k = 22) with rfl | rfl | rfl | rfl | rfl | rfl | rfl | rfl | rfl | rfl | rfl | rfl | rfl | rfl | rfl | rfl | rfl | rfl | rfl | rfl | rfl | rfl | rfl
  all_goals
    clear hk
    simp only [Nat.reduceMul, Nat.reduceAdd] at t0 t1 t2
    go_enter Tryd.func28, Tryd.ntmps28
    go_wp2_with (first | (go_at_call 33; refine (isload_is _ true (by decide) _).mono ?_; rintro e w' ⟨rfl, rfl⟩) | (go_at_call 33; refine (isload_is _ false (by decide) _).mono ?_; rintro e w' ⟨rfl, rfl⟩) | (go_at_call 26; refine (isstore_is _ true (by decide) _).mono ?_; rintro e w' ⟨rfl, rfl⟩))
    exact bodyPost_ret (v := .agg #[.int .i64 (sz : Nat), .int .i64 (ty : Nat), .bool s]) (by simp [results, Tryd.results28, go_sem]) rfl ⟨rfl, La (Lz _)⟩
theorem aof_none (op : Int) (h : op < 40 ∨ 62 < op) (w : World) :
    Calls Tryd.prog 28 #[.int .i64 op] w fun e w' => e = .returned (.agg #[.int .i64 0, .int .i64 0, .bool false]) ∧ Later w w' := by
  have h1 : Hid (decide (40 ≤ op ∧ op < 54) = false) := by show _ = _; simp; omega
  have h2 : Hid (decide (54 ≤ op ∧ op ≤ 62) = false) := by show _ = _; simp; omega
  go_enter Tryd.func28, Tryd.ntmps28
  go_wp2_with (first | (go_at_call 33; refine (isload_is _ _ h1.out _).mono ?_; rintro e w' ⟨rfl, rfl⟩) | (go_at_call 26; refine (isstore_is _ _ h2.out _).mono ?_; rintro e w' ⟨rfl, rfl⟩))
  exact bodyPost_ret (v := .agg #[.int .i64 0, .int .i64 0, .bool false]) (by simp [results, Tryd.results28, go_sem]) rfl ⟨rfl, La (Lz _)⟩
end Go.Proofs.YtbbjbgbpjhhcoaaDoor
