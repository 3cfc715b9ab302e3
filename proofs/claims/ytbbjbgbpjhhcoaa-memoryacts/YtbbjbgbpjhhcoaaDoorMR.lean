/- Over this seat's translation: the document's memory (package pelorusref8), small contracts. -/
import Derived.Test.YtbbjbgbpjhhcoaaDoorME
import Derived.Test.YtbbjbgbpjhhcoaaDoorMG
import Derived.Test.YtbbjbgbpjhhcoaaDoorMK
set_option linter.unusedVariables false
set_option linter.unusedSimpArgs false
set_option maxRecDepth 100000
set_option maxHeartbeats 4000000
namespace Go.Proofs.YtbbjbgbpjhhcoaaDoor
open Go.RowKit Go.BY
theorem rlow_any (x : Int) (w : World) :
    Calls Tryd.prog 36 #[.int .i64 x] w fun e w' => e = .returned (.int .i64 (x % 4294967296)) ∧ w' = w := by
  have h := BM.and32 x
  go_enter Tryd.func36, Tryd.ntmps36
  go_wp2
  go_ret
  exact ⟨rfl, rfl⟩
theorem word_is (x : Int) (r : Bool) (hr : decide (0 ≤ x ∧ x ≤ 4294967295) = r) (w : World) :
    Calls Tryd.prog 31 #[.int .i64 x] w fun e w' => e = .returned (.bool r) ∧ w' = w := by
  cases r
  · have h := of_decide_eq_false hr
    rcases (by omega : ¬ 0 ≤ x ∨ (0 ≤ x ∧ ¬ x ≤ 4294967295)) with h1 | ⟨h1, h2⟩
    all_goals
      clear hr h
      try have h3 : decide (x ≤ 4294967295) = false := decide_eq_false h2
      go_enter Tryd.func31, Tryd.ntmps31
      go_wp2
      go_ret
      exact ⟨rfl, rfl⟩
  · have h := of_decide_eq_true hr
    obtain ⟨h1, h2⟩ := h
    clear hr
    go_enter Tryd.func31, Tryd.ntmps31
    go_wp2
    go_ret
    exact ⟨rfl, rfl⟩
/-- how many bytes operation 40 + r has -/
def szR (r : Nat) : Nat := if r < 14 then (ldAt r).1 else stAt (r - 14)
theorem szR_facts (r : Nat) (hr : r < 23) : 1 ≤ szR r ∧ szR r ≤ 8 := by revert r; decide
theorem place_in (T : TypeId) (p b n : Nat) (most : Int) (f : Nat → Nat) (r a o : Nat) (hr : r < 23) (op : Int) (hop : op = ((40 + r : Nat) : Int)) (h1 : a < 4294967296) (h2 : o < 4294967296) (w : World) (hm : Hid (Mem T w p b n most f)) (R : Int) (hR : R = if a + o + szR r ≤ n then ((a + o : Nat) : Int) else -1) :
    Calls Tryd.prog 32 #[.pointer (some ⟨p, 0, none⟩), .int .i64 op, .int .i64 (a : Nat), .int .i64 (o : Nat)] w fun e w' => e = .returned (.int .i64 R) ∧ Later w w' := by
  have hn := hm.out.2.2.2.2
  have hs := szR_facts r hr
  have hsz : Hid (∀ w', Calls Tryd.prog 24 #[.int .i64 op] w' fun e w2 => e = .returned (.int .i64 (szR r : Nat)) ∧ Later w' w2) := fun w' => sz_any r hr op _ hop rfl w'
  generalize szR r = sz at *
  have hc := hm.out.c0
  have hpl := hm.out.lt.1
  clear hop hm
  by_cases h : a + o + sz ≤ n
  all_goals
    first | rw [if_pos h] at hR | rw [if_neg h] at hR
    subst hR
    try have ht : decide ((n : Int) < IntKind.i64.wrap ((a : Int) + (o : Int) + (sz : Int))) = false := by rw [IntKind.wrap_i64]; simp; omega
    try have ht : decide ((n : Int) < IntKind.i64.wrap ((a : Int) + (o : Int) + (sz : Int))) = true := by rw [IntKind.wrap_i64]; simp; omega
    go_enter Tryd.func32, Tryd.ntmps32
    go_wp2_with fail
    refine wp_region_quiet_far (by kernel_rfl) (by kernel_rfl) ?_
    repeat (quiet_step (first | (go_at_call 24; exact Calls.far_of (hsz.out _))))
    refine wpQuiet_nil ?_
    rintro _ ⟨⟨bs, m⟩, rfl⟩
    go_wp2
    go_ret
    exact ⟨by first | rfl | simp, (by repeat first | exact Lz _ | apply La | apply Lv | apply Ld)⟩
end Go.Proofs.YtbbjbgbpjhhcoaaDoor
