/- Over this seat's translation: New, Put, Get, All of package table. -/
import Derived.Test.YtdkjgbgoglhbgaaNE
import Derived.Lib.SliceRun
set_option linter.unusedVariables false
set_option linter.unusedSimpArgs false
set_option maxRecDepth 100000
set_option maxHeartbeats 4000000
namespace Go.Proofs.Ytdkjgbgoglhbgaa
open Go.RowKit
/-- a table of places, all null -/
theorem tab_new (T : TypeId) (W w : World) (g q : Nat) (hg : W.heap.size ≤ g) (hq : q ≤ 1024) (h : Rp w g q q) :
    Tab T (w.alloc (.cells #[.slice (some ⟨g, 0, none⟩) q q] T)) W.heap.size w.heap.size (some ⟨g, 0, none⟩) q q (fun _ => -1) := by
  have hl := World.rowIs.lt h
  have h2 := World.rowIs_alloc w #[.slice (some ⟨g, 0, none⟩) q q] T (fun _ => .slice (some ⟨g, 0, none⟩) q q) (by
    intro i hi
    match i, hi with
    | 0, _ => rfl)
  refine ⟨by simpa using h2, by omega, hq, ⟨by rw [xs_len, Nat.mul_one], Or.inr ⟨g, q, _, rfl, hg, rowIs_list (World.rowIs.alloc h _), Nat.le_refl _, by unfold maxLen; omega, by simp, ?_⟩⟩, ?_⟩
  · rw [Nat.mul_one]
    apply List.ext_getElem?
    intro i
    rw [List.getElem?_take]
    by_cases hi : i < q
    · rw [if_pos hi, xs_get _ _ _ hi]
      simp [hi]
    · rw [if_neg hi, List.getElem?_eq_none (by rw [xs_len]; omega)]
  · show some g ≠ some w.heap.size
    intro e
    cases e
    omega
theorem new_ok (q : Nat) (m : Int) (h : Fine (q : Int) m) (w : World) :
    Calls Try.prog 6 #[.agg #[.int .i64 (q : Int), .int .i64 m]] w fun e w' => ∃ p g, e = .returned (.tuple #[.pointer (some ⟨p, 0, none⟩), .int .i64 0]) ∧ Later w w' ∧ Tab 55 w' w.heap.size p (some ⟨g, 0, none⟩) q q (fun _ => -1) := by
  have hq : q ≤ 1024 := by have := h.2.1; omega
  have hsz : Hid (∀ w', Calls Try.prog 19 #[.agg #[.int .i64 (q : Int), .int .i64 m]] w' fun e w2 => e = .returned (.bool true) ∧ Later w' w2) := fun w' => size_ok _ _ h w'
  have hrp : Hid (∀ (b : Nat) (w' : World), w'.cell? ⟨b, 0, none⟩ = some (.int .i64 (-1)) → Calls Try.prog 20 #[.slice (some ⟨b, 0, none⟩) 1 1, .int .i64 (q : Int)] w' fun e w2 => ∃ g, e = .returned (.slice (some ⟨g, 0, none⟩) q q) ∧ Hid (w'.heap.size ≤ g ∧ Later w' w2 ∧ Rp w2 g q q)) := fun b w' hb => by
    by_cases h0 : q = 0
    · subst h0
      exact (rep_zero b w').mono fun e w2 hh => ⟨_, hh.1, Nat.le_refl _, hh.2⟩
    · exact (rep_some b q w' (by omega) hq hb).mono fun e w2 hh => ⟨_, hh.1, Nat.le_refl _, hh.2⟩
  clear h
  go_enter Try.func6, Try.ntmps6
  go_wp2_with (go_at_call 19; refine (hsz.out _).mono ?_; rintro e w1 ⟨rfl, bs, n, rfl⟩)
  refine (hrp.out _ _ (by simp [go_sem])).mono ?_
  rintro e w2 ⟨g, rfl, hh⟩
  have hL : Hid (Later w w2) := Later.trans (by repeat first | exact Lz _ | apply La | apply Lv | apply Ld) hh.out.2.1
  have hT : Hid (Tab 55 (w2.alloc (.cells #[.slice (some ⟨g, 0, none⟩) q q] 55)) w.heap.size w2.heap.size (some ⟨g, 0, none⟩) q q (fun _ => -1)) := tab_new _ w w2 g q (by have := hh.out.1; simp [World.far_size] at this; omega) hq hh.out.2.2
  clear hh
  go_wp2
  go_ret2
  exact ⟨_, _, rfl, La hL.out, hT.out⟩
/-- one of the ints is below nought -/
def neg (f : Nat → Int) : Nat → Bool
  | 0 => false
  | m + 1 => neg f m || decide (f m < 0)
theorem neg_no {f : Nat → Int} : ∀ {m : Nat}, neg f m = false → ∀ j, j < m → 0 ≤ f j
  | 0, _, j, hj => by omega
  | m + 1, h, j, hj => by
    simp only [neg, Bool.or_eq_false_iff, decide_eq_false_iff_not] at h
    by_cases hjm : j = m
    · subst hjm; omega
    · exact neg_no h.1 j (by omega)
theorem neg_yes {f : Nat → Int} : ∀ {m : Nat}, neg f m = true → ∃ i, i < m ∧ f i < 0 ∧ ∀ j, j < i → 0 ≤ f j
  | 0, h => by cases h
  | m + 1, h => by
    simp only [neg, Bool.or_eq_true, decide_eq_true_eq] at h
    by_cases hm : neg f m = true
    · obtain ⟨i, hi, h2⟩ := neg_yes hm
      exact ⟨i, by omega, h2⟩
    · exact ⟨m, by omega, h.resolve_left hm, fun j hj => neg_no (by simpa using hm) j hj⟩
theorem low_is (x : Int) (r : Bool) (hr : decide (x < 0) = r) (w : World) :
    Calls Try.prog 23 #[.int .i64 x] w fun e w' => e = .returned (.bool r) ∧ w' = w := by
  subst hr
  go_enter Try.func23, Try.ntmps23
  go_wp2
  go_ret
  exact ⟨rfl, rfl⟩
theorem index_no (S : Option Addr) (m c : Nat) (h : Nat → Int) (hm : m ≤ 9223372036854775807) (w : World) (hS : Hid (Lst w S m h)) (hn : Hid (neg h m = false)) :
    Calls Try.prog 26 #[.slice S m c, .func (Fn.func 23) #[] #[]] w fun e w' => e = .returned (.int .i64 (-1)) ∧ w' = w := by
  by_cases h0 : m = 0
  · subst h0
    go_enter Try.func26, Try.ntmps26
    go_wp2
    refine wp_loop_rounds 1 ?_
    rw [rounds_succ]
    go_wp2
    go_ret
    exact ⟨rfl, rfl⟩
  · obtain ⟨b, o, rfl, g1⟩ := hS.out.resolve_left h0
    replace g1 : Hid _ := g1
    clear hS
    go_enter Try.func26, Try.ntmps26
    go_wp2
    go_loopw [8] (fun i wr => ∃ j : Nat, j ≤ m ∧ i = .int .i64 (j : Nat) ∧ wr = w) (fun i _ => m - (intOf i).toNat)
    case atStart => exact ⟨0, Nat.zero_le _, rfl, rfl⟩
    case round =>
      obtain ⟨j, hj, rfl, rfl⟩ := hrel
      by_cases hlt : j < m
      · have a0 := g1.out j hlt
        have hl1 : (j : Int) < (m : Int) := by omega
        have hp : Hid (decide (h j < 0) = false) := decide_eq_false (by have := neg_no hn.out j hlt; omega)
        go_wp2_with (go_at_call 23; refine (low_is _ false hp.out _).mono ?_; rintro e w1 ⟨rfl, rfl⟩)
        go_roundw
        case rel => exact ⟨j + 1, by omega, by go_num, trivial⟩
        case measure => simp [intOf]; omega
      · have hje : j = m := by omega
        subst hje
        go_wp2
        go_ret
        exact ⟨rfl, rfl⟩
theorem index_yes (S : Option Addr) (m c : Nat) (h : Nat → Int) (hm : m ≤ 9223372036854775807) (w : World) (hS : Hid (Lst w S m h)) (hn : Hid (neg h m = true)) :
    Calls Try.prog 26 #[.slice S m c, .func (Fn.func 23) #[] #[]] w fun e w' => ∃ i : Nat, e = .returned (.int .i64 (i : Int)) ∧ w' = w := by
  obtain ⟨i0, hi1, hi2, hi3⟩ := neg_yes hn.out
  obtain ⟨b, o, rfl, g1⟩ := hS.out.resolve_left (by omega)
  replace g1 : Hid _ := g1
  replace hi2 : Hid _ := hi2
  replace hi3 : Hid _ := hi3
  clear hS
  go_enter Try.func26, Try.ntmps26
  go_wp2
  go_loopw [8] (fun i wr => ∃ j : Nat, j ≤ i0 ∧ i = .int .i64 (j : Nat) ∧ wr = w) (fun i _ => m - (intOf i).toNat)
  case atStart => exact ⟨0, Nat.zero_le _, rfl, rfl⟩
  case round =>
    obtain ⟨j, hj, rfl, rfl⟩ := hrel
    have a0 := g1.out j (by omega)
    have hl1 : (j : Int) < (m : Int) := by omega
    by_cases hlt : j < i0
    · have hp : Hid (decide (h j < 0) = false) := decide_eq_false (by have := hi3.out j hlt; omega)
      go_wp2_with (go_at_call 23; refine (low_is _ false hp.out _).mono ?_; rintro e w1 ⟨rfl, rfl⟩)
      go_roundw
      case rel => exact ⟨j + 1, by omega, by go_num, trivial⟩
      case measure => simp [intOf]; omega
    · have hje : j = i0 := by omega
      subst hje
      have hp : Hid (decide (h j < 0) = true) := decide_eq_true hi2.out
      go_wp2_with (go_at_call 23; refine (low_is _ true hp.out _).mono ?_; rintro e w1 ⟨rfl, rfl⟩)
      go_ret
      exact ⟨_, rfl, rfl⟩
theorem has_any (S : Option Addr) (m c : Nat) (h : Nat → Int) (hm : m ≤ 9223372036854775807) (w : World) (hS : Hid (Lst w S m h)) (r : Bool) (hr : Hid (neg h m = r)) :
    Calls Try.prog 22 #[.slice S m c, .func (Fn.func 23) #[] #[]] w fun e w' => e = .returned (.bool r) ∧ w' = w := by
  cases r
  · go_enter Try.func22, Try.ntmps22
    go_wp2_with (go_at_call 26; refine (index_no S m c h hm _ hS hr).mono ?_; rintro e w1 ⟨rfl, rfl⟩)
    go_ret
    exact ⟨rfl, rfl⟩
  · go_enter Try.func22, Try.ntmps22
    go_wp2_with (go_at_call 26; refine (index_yes S m c h hm _ hS hr).mono ?_; rintro e w1 ⟨i, rfl, rfl⟩)
    go_ret
    exact ⟨rfl, rfl⟩
theorem put_neg (p : Nat) (at_ : Int) (S : Option Addr) (m c : Nat) (h : Nat → Int) (hm : m ≤ 9223372036854775807) (w : World) (hS : Hid (Lst w S m h)) (hr : Hid (neg h m = true)) :
    Calls Try.prog 11 #[.pointer (some ⟨p, 0, none⟩), .int .i64 at_, .slice S m c] w fun e w' => e = .returned (.int .i64 900) ∧ w' = w := by
  go_enter Try.func11, Try.ntmps11
  go_wp2_with (go_at_call 22; refine (has_any S m c h hm _ hS _ hr).mono ?_; rintro e w1 ⟨rfl, rfl⟩)
  go_ret
  exact ⟨rfl, rfl⟩
theorem put_out (T : TypeId) (B p : Nat) (A : Option Addr) (n cap : Nat) (f : Nat → Int) (at_ : Int) (S : Option Addr) (m c : Nat) (h : Nat → Int) (hm : m ≤ 9223372036854775807) (w : World) (hT : Hid (Tab T w B p A n cap f)) (hS : Hid (Lst w S m h)) (hr : Hid (neg h m = false)) (hb : -9223372036854775808 ≤ at_ ∧ at_ ≤ 9223372036854775807) (ho : at_ < 0 ∨ (n : Int) - at_ < m) :
    Calls Try.prog 11 #[.pointer (some ⟨p, 0, none⟩), .int .i64 at_, .slice S m c] w fun e w' => e = .returned (.int .i64 901) ∧ w' = w := by
  have hc := hT.out.c0
  have hn := hT.out.2.2.1
  by_cases h1 : at_ < 0
  · go_enter Try.func11, Try.ntmps11
    go_wp2_with (go_at_call 22; refine (has_any S m c h hm _ hS _ hr).mono ?_; rintro e w1 ⟨rfl, rfl⟩)
    go_ret
    exact ⟨rfl, rfl⟩
  · have h2 : (n : Int) - at_ < m := by omega
    clear ho
    go_enter Try.func11, Try.ntmps11
    go_wp2_with (go_at_call 22; refine (has_any S m c h hm _ hS _ hr).mono ?_; rintro e w1 ⟨rfl, rfl⟩)
    go_ret
    exact ⟨rfl, rfl⟩
theorem put_ok (T : TypeId) (B p : Nat) (A : Option Addr) (n cap : Nat) (f : Nat → Int) (a : Nat) (S : Option Addr) (m c : Nat) (h : Nat → Int) (w : World) (hT : Hid (Tab T w B p A n cap f)) (hS : Hid (Lst w S m h)) (hr : Hid (neg h m = false)) (hfit : a + m ≤ n) :
    Calls Try.prog 11 #[.pointer (some ⟨p, 0, none⟩), .int .i64 (a : Int), .slice S m c] w fun e w' => e = .returned (.int .i64 0) ∧ (∃ k, Of p A k ∧ Turned k w w') ∧ Tab T w' B p A n cap (lay f a m h) := by
  have hc := hT.out.c0
  have hn := hT.out.2.2.1
  have hm : m ≤ 9223372036854775807 := by omega
  have hs1 := slice_from A n cap a (by omega)
  obtain ⟨w2, hcp, hk, ht⟩ := put_into hT.out a m c S h hfit hS.out
  replace hk : Hid _ := hk
  replace ht : Hid _ := ht
  generalize (if cap = a then A else A.map (·.add a)) = D at *
  go_enter Try.func11, Try.ntmps11
  go_wp2_with (go_at_call 22; refine (has_any S m c h hm _ hS _ hr).mono ?_; rintro e w1 ⟨rfl, h1⟩; obtain rfl : w = w1 := h1.symm)
  go_ret
  exact ⟨rfl, hk.out, ht.out⟩
theorem get_out (T : TypeId) (B p : Nat) (A : Option Addr) (n cap : Nat) (f : Nat → Int) (at_ : Int) (w : World) (hT : Hid (Tab T w B p A n cap f)) (ho : at_ < 0 ∨ (n : Int) ≤ at_) :
    Calls Try.prog 13 #[.pointer (some ⟨p, 0, none⟩), .int .i64 at_] w fun e w' => e = .returned (.tuple #[.int .i64 0, .int .i64 901]) ∧ w' = w := by
  have hc := hT.out.c0
  by_cases h1 : at_ < 0
  · go_enter Try.func13, Try.ntmps13
    go_wp2
    go_ret2
    exact ⟨rfl, rfl⟩
  · have h2 : (n : Int) ≤ at_ := by omega
    clear ho
    go_enter Try.func13, Try.ntmps13
    go_wp2
    go_ret2
    exact ⟨rfl, rfl⟩
theorem get_in (T : TypeId) (B p : Nat) (A : Option Addr) (n cap : Nat) (f : Nat → Int) (a : Nat) (w : World) (hT : Hid (Tab T w B p A n cap f)) (ho : a < n) :
    Calls Try.prog 13 #[.pointer (some ⟨p, 0, none⟩), .int .i64 (a : Int)] w fun e w' => e = .returned (if f a = -1 then .tuple #[.int .i64 0, .int .i64 902] else .tuple #[.int .i64 (f a), .int .i64 0]) ∧ w' = w := by
  have hc := hT.out.c0
  obtain ⟨g, rfl, h3⟩ := hT.out.at_ a ho
  have hl1 : (a : Int) < (n : Int) := by omega
  by_cases h1 : f a = -1
  · rw [if_pos h1]
    rw [h1] at h3
    go_enter Try.func13, Try.ntmps13
    go_wp2
    go_ret2
    exact ⟨rfl, rfl⟩
  · rw [if_neg h1]
    have h2 : (f a == -1) = false := beq_eq_false_iff_ne.2 h1
    go_enter Try.func13, Try.ntmps13
    go_wp2
    go_ret2
    exact ⟨rfl, rfl⟩
theorem all_any (T : TypeId) (B p g n cap : Nat) (f : Nat → Int) (w : World) (hT : Hid (Tab T w B p (some ⟨g, 0, none⟩) n cap f)) :
    Calls Try.prog 17 #[.pointer (some ⟨p, 0, none⟩)] w fun e w' => ∃ g2 cap2, e = .returned (.slice (some ⟨g2, 0, none⟩) n cap2) ∧ Hid (w'.ownsRow w.heap.size 3 1 (.slice (some ⟨g2, 0, none⟩) n cap2) n (xs f n)) ∧ Hid (Later w w') := by
  have hc := hT.out.c0
  have hcl : Hid (Calls Try.prog 24 #[.slice (some ⟨g, 0, none⟩) n cap] w fun e w' => ∃ g2 cap2, e = .returned (.slice (some ⟨g2, 0, none⟩) n cap2) ∧ Hid (w'.ownsRow w.heap.size 3 1 (.slice (some ⟨g2, 0, none⟩) n cap2) n (xs f n)) ∧ Hid (Later w w')) := by
    show Calls _ _ _ _ _
    obtain ⟨g2, cap2, w2, h1, h2, h3⟩ := app_list (some ⟨g, 0, none⟩) n cap f 34 w (by have := hT.out.2.2.1; omega) hT.out.lst
    replace h1 : Hid _ := h1
    replace h2 : Hid _ := h2
    replace h3 : Hid _ := h3
    have q34 : ∀ (w : World) (a : Option Addr) (n c n' c' : Nat), (binOp .eql 34 (.slice a n c) (.slice none n' c')).run Try.prog w = .ok (.bool a.isNone) w := fun w a n c n' c' => Lib.run_eql_slice_nil w _ _ a n c n' c' Try.underlying34
    go_enter Try.func24, Try.ntmps24
    go_wp2_with (at_builtin; refine wpList_app rfl _ _ 34 rfl _ _ _ rfl rfl h1.out ?_)
    go_ret
    exact ⟨g2, cap2, rfl, h2, h3⟩
  go_enter Try.func17, Try.ntmps17
  go_wp2_with (go_at_call 24; refine (hcl.out).mono ?_; rintro e w1 ⟨g2, cap2, rfl, h2, h3⟩)
  go_ret
  exact ⟨g2, cap2, rfl, h2, h3⟩
end Go.Proofs.Ytdkjgbgoglhbgaa
