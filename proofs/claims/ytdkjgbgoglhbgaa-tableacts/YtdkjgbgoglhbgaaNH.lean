/- Over this seat's translation: the document's table (package pelorusref8). -/
import Derived.Test.YtdkjgbgoglhbgaaNG
set_option linter.unusedVariables false
set_option linter.unusedSimpArgs false
set_option maxRecDepth 100000
set_option maxHeartbeats 4000000
namespace Go.Proofs.Ytdkjgbgoglhbgaa
open Go.RowKit
theorem rnew_bad (a m : Int) (hs : ¬ Fine a m) (w : World) :
    Calls Try.prog 7 #[.agg #[.int .i64 a, .int .i64 m]] w fun e w' => e = .returned (.tuple #[.pointer none, .int .i64 900]) ∧ Later w w' := by
  unfold Fine at hs
  have h3 : a < 0 ∨ (¬ a < 0 ∧ 1024 < a) ∨ (¬ a < 0 ∧ ¬ 1024 < a ∧ ¬ m = -1 ∧ m < a) ∨ (¬ a < 0 ∧ ¬ 1024 < a ∧ ¬ m = -1 ∧ ¬ m < a ∧ 4294967295 < m) := by omega
  clear hs
  rcases h3 with h | ⟨h1, h⟩ | ⟨h1, h2, h4, h⟩ | ⟨h1, h2, h4, h, h5⟩
  all_goals try have h6 : (m != -1) = true := bne_iff_ne.2 h4
  all_goals try replace h4 : (m == -1) = false := beq_eq_false_iff_ne.2 h4
  all_goals
    go_enter Try.func7, Try.ntmps7
    go_wp2
    go_ret2
    exact ⟨rfl, (by repeat first | exact Lz _ | apply La | apply Lv | apply Ld)⟩
theorem minus_at {X : World} {b : Nat} (hb : b = X.heap.size) : ∀ (j : Nat) (u : Value), [Value.int .i64 (-1)][j]? = some u → (X.alloc (.cells #[.int .i64 (-1)] 3)).cell? ((⟨b, 0, none⟩ : Addr).add j) = some u := by
  subst hb
  intro j u h
  rw [add_of, Nat.zero_add, cell_of_row _ _ _ _ _ _ (heap_alloc_new X _)]
  match j, h with
  | 0, h => simpa using h
theorem minus_one : ∀ u ∈ [Value.int .i64 (-1)], u.oneCell' = true := by
  intro u hu
  simp only [List.mem_cons, List.not_mem_nil, or_false] at hu
  subst hu
  rfl
/-- one place more, appended to a table's list and stored -/
theorem tab_more {T : TypeId} (hT : T ≠ 3) {W w : World} {p : Nat} {A : Option Addr} {n cap : Nat} (ht : Tab T w W.heap.size p A n cap (fun _ => -1)) (hL : Later W w) (hn : n < 1024) :
    ∃ g cap' w', (Builtin.append_ #[34, 34] 34 #[.slice A n cap, .slice (some ⟨w.heap.size, 0, none⟩) 1 1]).run Try.prog (w.alloc (.cells #[.int .i64 (-1)] 3)) = .ok (.slice (some ⟨g, 0, none⟩) (n + 1) cap') w' ∧ w'.cell? ⟨p, 0, none⟩ = some (.slice A n cap) ∧ w'.frozen? ⟨p, 0, none⟩ = false ∧
      Hid (Later W (w'.setCell ⟨p, 0, none⟩ (.slice (some ⟨g, 0, none⟩) (n + 1) cap')) ∧ Tab T (w'.setCell ⟨p, 0, none⟩ (.slice (some ⟨g, 0, none⟩) (n + 1) cap')) W.heap.size p (some ⟨g, 0, none⟩) (n + 1) cap' (fun _ => -1)) := by
  obtain ⟨i0, hi, hz0, hz1, hz2⟩ := int_parts
  have hL' : Later W (w.alloc (.cells #[.int .i64 (-1)] 3)) := La hL
  have hp := ht.lt
  obtain ⟨v', w1, hr, ho, hg, hnn⟩ := run_append_own (P := Try.prog) (w.alloc (.cells #[.int .i64 (-1)] 3)) W.heap.size 34 34 3 i0 (.int .i64 0) 1 8 Try.underlying34 hi hz0 hz1 hz2 rfl (by decide) _ n _ (ht.2.2.2.1.alloc _) ⟨w.heap.size, 0, none⟩ 1 1 [.int .i64 (-1)] rfl (minus_at rfl) minus_one (by unfold maxLen; omega) (by omega) hL'.size
  obtain ⟨g, cap', w', hr2, ho2, hL2⟩ := run_append_later (P := Try.prog) hL' 34 34 3 i0 (.int .i64 0) 1 8 Try.underlying34 hi hz0 hz1 hz2 rfl (by decide) _ n _ (ht.2.2.2.1.alloc _) ⟨w.heap.size, 0, none⟩ 1 1 [.int .i64 (-1)] rfl (minus_at rfl) minus_one (by unfold maxLen; omega) (by omega) (by decide)
  rw [hr2] at hr
  injection hr with e1 e2
  subst e1 e2
  have hrow : w'.rowIs p T 1 (fun _ => .slice A n cap) := (World.rowIs.alloc ht.1 _).of_block (hg.block p (by simp; omega) (Ne.symm ht.2.2.2.2))
  have hgp : g ≠ p := by
    intro e
    subst e
    rcases ho2.2 with ⟨e, _⟩ | ⟨g', c', cur, e, _, h3, _⟩
    · cases e
    · cases e
      obtain ⟨c, hc, _⟩ := hrow
      rw [hc] at h3
      injection h3 with h4
      injection h4 with _ h5 _
      exact hT h5
  have htn : Turned p w' (w'.setCell ⟨p, 0, none⟩ (.slice (some ⟨g, 0, none⟩) (n + 1) cap')) := (Turned.refl hrow).set hrow _ _
  refine ⟨g, cap', w', hr2, hrow.cell (i := 0) (by decide), hrow.frozen 0, hL2.turned hrow ht.2.1 htn, ?_, ht.2.1, hn, ?_, ?_⟩
  · refine (hrow.set 0 _).congr fun i hi => ?_
    rw [if_pos (by omega)]
  · refine owns_turn ?_ (fun e => hgp (by simpa [Value.ownBlock] using e)) htn
    rw [← xs_succ]
    exact ho2
  · show some g ≠ some p
    intro e
    exact hgp (Option.some.inj e)
theorem tab_none (T : TypeId) (W w : World) (hL : Later W w) : Tab T (w.alloc (.cells #[.slice none 0 0] T)) W.heap.size w.heap.size none 0 0 (fun _ => -1) := by
  have h2 := World.rowIs_alloc w #[.slice none 0 0] T (fun _ => .slice none 0 0) (by
    intro i hi
    match i, hi with
    | 0, _ => rfl)
  refine ⟨by simpa using h2, hL.size, by decide, World.ownsRow_nil _ _ _ _, ?_⟩
  show none ≠ some _
  intro e
  cases e
theorem ref_ne : 48 ≠ 3 := by decide
theorem rnew_ok (q : Nat) (m : Int) (h : Fine (q : Int) m) (w : World) :
    Calls Try.prog 7 #[.agg #[.int .i64 (q : Int), .int .i64 m]] w fun e w' => ∃ p A cap, e = .returned (.tuple #[.pointer (some ⟨p, 0, none⟩), .int .i64 0]) ∧ Later w w' ∧ Tab 48 w' w.heap.size p A q cap (fun _ => -1) := by
  have hq : q ≤ 1024 := by have := h.2.1; omega
  have k1 : ¬ (q : Int) < 0 := by omega
  have k2 : ¬ 1024 < (q : Int) := by omega
  have hm := h.2.2
  clear h
  rcases hm with rfl | ⟨k3, k4⟩
  · go_enter Try.func7, Try.ntmps7
    go_wp2_with fail
    obtain ⟨W1, hW1⟩ : ∃ W1 : World, W1 = w.alloc (.cells #[.int .i64 (q : Int), .int .i64 (-1)] 23) := ⟨_, rfl⟩
    rw [← hW1]
    have hz : W1.heap.size = w.heap.size + 1 := by rw [hW1]; simp
    have hL1 : Hid (Later w W1) := by rw [hW1]; exact La (Lz _)
    have hc1 : Hid (W1.cell? ⟨w.heap.size, 0, none⟩ = some (.int .i64 (q : Int))) := by
      show _ = _
      rw [hW1]; simp [go_sem]
    have hT1 := tab_none 48 W1 W1 (Lz _)
    rw [← hz]
    clear hW1
    replace hz : Hid (W1.heap.size = w.heap.size + 1) := hz
    go_loopw [5] (fun i wr => ∃ (j : Nat) (A : Option Addr) (cap : Nat), j ≤ q ∧ i = .int .i64 (j : Nat) ∧ Later W1 wr ∧ Tab 48 wr W1.heap.size W1.heap.size A j cap (fun _ => -1)) (fun i _ => q - (intOf i).toNat)
    case atStart => exact ⟨0, none, 0, Nat.zero_le _, rfl, La (Lz _), hT1⟩
    case round =>
      obtain ⟨j, A, cap, hj, rfl, hL, hT⟩ := hrel
      have hc2 := hL.cell_of hc1.out
      by_cases hlt : j < q
      · have hl1 : (j : Int) < (q : Int) := by omega
        have hc3 := hT.c0
        have hlw := hT.lt
        obtain ⟨g, cap', w2, hr, h2, h3, h4⟩ := tab_more ref_ne hT hL (by omega)
        replace hr : Hid _ := hr
        clear hT1 hT hL
        go_wp2_with (at_builtin; refine wpList_app rfl _ _ 34 rfl _ _ _ rfl rfl hr.out ?_)
        go_roundw
        case rel => exact ⟨j + 1, _, _, by omega, by go_num, h4.out.1, h4.out.2⟩
        case measure => simp [intOf]; omega
      · have hje : j = q := by omega
        subst hje
        have hx : Hid (Later w wr ∧ Tab 48 wr w.heap.size W1.heap.size A j cap (fun _ => -1)) := ⟨hL1.out.trans hL, tab_base hT hL1.out.size⟩
        clear hT1 hT hL
        go_wp2
        go_ret2
        exact ⟨_, _, _, rfl, hx.out.1, hx.out.2⟩
  · have k5 : (m == -1) = false := by simp; omega
    have k8 : (m != -1) = true := by simp; omega
    have k6 : ¬ m < (q : Int) := by omega
    have k7 : ¬ 4294967295 < m := by omega
    go_enter Try.func7, Try.ntmps7
    go_wp2_with fail
    obtain ⟨W1, hW1⟩ : ∃ W1 : World, W1 = w.alloc (.cells #[.int .i64 (q : Int), .int .i64 m] 23) := ⟨_, rfl⟩
    rw [← hW1]
    have hz : W1.heap.size = w.heap.size + 1 := by rw [hW1]; simp
    have hL1 : Hid (Later w W1) := by rw [hW1]; exact La (Lz _)
    have hc1 : Hid (W1.cell? ⟨w.heap.size, 0, none⟩ = some (.int .i64 (q : Int))) := by
      show _ = _
      rw [hW1]; simp [go_sem]
    have hT1 := tab_none 48 W1 W1 (Lz _)
    rw [← hz]
    clear hW1
    replace hz : Hid (W1.heap.size = w.heap.size + 1) := hz
    go_loopw [5] (fun i wr => ∃ (j : Nat) (A : Option Addr) (cap : Nat), j ≤ q ∧ i = .int .i64 (j : Nat) ∧ Later W1 wr ∧ Tab 48 wr W1.heap.size W1.heap.size A j cap (fun _ => -1)) (fun i _ => q - (intOf i).toNat)
    case atStart => exact ⟨0, none, 0, Nat.zero_le _, rfl, La (Lz _), hT1⟩
    case round =>
      obtain ⟨j, A, cap, hj, rfl, hL, hT⟩ := hrel
      have hc2 := hL.cell_of hc1.out
      by_cases hlt : j < q
      · have hl1 : (j : Int) < (q : Int) := by omega
        have hc3 := hT.c0
        have hlw := hT.lt
        obtain ⟨g, cap', w2, hr, h2, h3, h4⟩ := tab_more ref_ne hT hL (by omega)
        replace hr : Hid _ := hr
        clear hT1 hT hL
        go_wp2_with (at_builtin; refine wpList_app rfl _ _ 34 rfl _ _ _ rfl rfl hr.out ?_)
        go_roundw
        case rel => exact ⟨j + 1, _, _, by omega, by go_num, h4.out.1, h4.out.2⟩
        case measure => simp [intOf]; omega
      · have hje : j = q := by omega
        subst hje
        have hx : Hid (Later w wr ∧ Tab 48 wr w.heap.size W1.heap.size A j cap (fun _ => -1)) := ⟨hL1.out.trans hL, tab_base hT hL1.out.size⟩
        clear hT1 hT hL
        go_wp2
        go_ret2
        exact ⟨_, _, _, rfl, hx.out.1, hx.out.2⟩
theorem rput_neg (p : Nat) (at_ : Int) (S : Option Addr) (m c : Nat) (h : Nat → Int) (hm : m ≤ 9223372036854775807) (w : World) (hS : Hid (Lst w S m h)) (hr : Hid (neg h m = true)) :
    Calls Try.prog 12 #[.pointer (some ⟨p, 0, none⟩), .int .i64 at_, .slice S m c] w fun e w' => e = .returned (.int .i64 900) ∧ w' = w := by
  obtain ⟨i0, hi1, hi2, hi3⟩ := neg_yes hr.out
  obtain ⟨b, o, rfl, g1⟩ := hS.out.resolve_left (by omega)
  replace g1 : Hid _ := g1
  replace hi3 : Hid _ := hi3
  clear hS
  go_enter Try.func12, Try.ntmps12
  go_wp2
  go_loopw [7] (fun i wr => ∃ j : Nat, j ≤ i0 ∧ i = .int .i64 (j : Nat) ∧ wr = w) (fun i _ => m - (intOf i).toNat)
  case atStart => exact ⟨0, Nat.zero_le _, rfl, rfl⟩
  case round =>
    obtain ⟨j, hj, rfl, rfl⟩ := hrel
    have a0 := g1.out j (by omega)
    have hl1 : (j : Int) < (m : Int) := by omega
    by_cases hlt : j < i0
    · have hp : ¬ h j < 0 := by have := hi3.out j hlt; omega
      clear hi2
      go_wp2
      go_roundw
      case rel => exact ⟨j + 1, by omega, by go_num, trivial⟩
      case measure => simp [intOf]; omega
    · have hje : j = i0 := by omega
      subst hje
      go_wp2
      go_ret
      exact ⟨rfl, rfl⟩
theorem rput_out (T : TypeId) (B p : Nat) (A : Option Addr) (n cap : Nat) (f : Nat → Int) (at_ : Int) (S : Option Addr) (m c : Nat) (h : Nat → Int) (hm : m ≤ 9223372036854775807) (w : World) (hT : Hid (Tab T w B p A n cap f)) (hS : Hid (Lst w S m h)) (hr : Hid (neg h m = false)) (hb : -9223372036854775808 ≤ at_ ∧ at_ ≤ 9223372036854775807) (ho : at_ < 0 ∨ (n : Int) - at_ < m) :
    Calls Try.prog 12 #[.pointer (some ⟨p, 0, none⟩), .int .i64 at_, .slice S m c] w fun e w' => e = .returned (.int .i64 901) ∧ w' = w := by
  have hc := hT.out.c0
  have hn := hT.out.2.2.1
  replace ho : at_ < 0 ∨ (¬ at_ < 0 ∧ (n : Int) - at_ < m) := by omega
  rcases ho with h1 | ⟨h1, h2⟩
  all_goals
    go_enter Try.func12, Try.ntmps12
    go_wp2
    go_loopw [7] (fun i wr => ∃ j : Nat, j ≤ m ∧ i = .int .i64 (j : Nat) ∧ wr = w) (fun i _ => m - (intOf i).toNat)
    case atStart => exact ⟨0, Nat.zero_le _, rfl, rfl⟩
    case round =>
      obtain ⟨j, hj, rfl, rfl⟩ := hrel
      by_cases hlt : j < m
      · have hl1 : (j : Int) < (m : Int) := by omega
        have hp : ¬ h j < 0 := by have := neg_no hr.out j hlt; omega
        obtain ⟨b, o, rfl, g1⟩ := hS.out.resolve_left (by omega)
        have a0 := g1 j hlt
        clear g1
        go_wp2
        go_roundw
        case rel => exact ⟨j + 1, by omega, by go_num, trivial⟩
        case measure => simp [intOf]; omega
      · have hje : j = m := by omega
        subst hje
        go_wp2
        go_ret
        exact ⟨rfl, rfl⟩
theorem rput_ok (T : TypeId) (B p : Nat) (A : Option Addr) (n cap : Nat) (f : Nat → Int) (a : Nat) (S : Option Addr) (m c : Nat) (h : Nat → Int) (w : World) (hT : Hid (Tab T w B p A n cap f)) (hS : Hid (Lst w S m h)) (hr : Hid (neg h m = false)) (hfit : a + m ≤ n) :
    Calls Try.prog 12 #[.pointer (some ⟨p, 0, none⟩), .int .i64 (a : Int), .slice S m c] w fun e w' => e = .returned (.int .i64 0) ∧ (∃ k, Of p A k ∧ Turned k w w') ∧ Tab T w' B p A n cap (lay f a m h) := by
  have hc := hT.out.c0
  have hn := hT.out.2.2.1
  have hs1 := slice_from A n cap a (by omega)
  obtain ⟨w2, hcp, hk, ht⟩ := put_into hT.out a m c S h hfit hS.out
  replace hk : Hid _ := hk
  replace ht : Hid _ := ht
  generalize (if cap = a then A else A.map (·.add a)) = D at *
  go_enter Try.func12, Try.ntmps12
  go_wp2
  go_loopw [7] (fun i wr => ∃ j : Nat, j ≤ m ∧ i = .int .i64 (j : Nat) ∧ wr = w) (fun i _ => m - (intOf i).toNat)
  case atStart => exact ⟨0, Nat.zero_le _, rfl, rfl⟩
  case round =>
    obtain ⟨j, hj, rfl, hwr⟩ := hrel
    obtain rfl : w = wr := hwr.symm
    by_cases hlt : j < m
    · have hl1 : (j : Int) < (m : Int) := by omega
      have hp : ¬ h j < 0 := by have := neg_no hr.out j hlt; omega
      obtain ⟨b, o, rfl, g1⟩ := hS.out.resolve_left (by omega)
      have a0 := g1 j hlt
      clear g1
      go_wp2
      go_roundw
      case rel => exact ⟨j + 1, by omega, by go_num, trivial⟩
      case measure => simp [intOf]; omega
    · have hje : j = m := by omega
      subst hje
      go_wp2
      go_ret
      exact ⟨rfl, hk.out, ht.out⟩
theorem rget_out (T : TypeId) (B p : Nat) (A : Option Addr) (n cap : Nat) (f : Nat → Int) (at_ : Int) (w : World) (hT : Hid (Tab T w B p A n cap f)) (ho : at_ < 0 ∨ (n : Int) ≤ at_) :
    Calls Try.prog 14 #[.pointer (some ⟨p, 0, none⟩), .int .i64 at_] w fun e w' => e = .returned (.tuple #[.int .i64 0, .int .i64 901]) ∧ w' = w := by
  have hc := hT.out.c0
  by_cases h1 : at_ < 0
  · go_enter Try.func14, Try.ntmps14
    go_wp2
    go_ret2
    exact ⟨rfl, rfl⟩
  · have h2 : (n : Int) ≤ at_ := by omega
    clear ho
    go_enter Try.func14, Try.ntmps14
    go_wp2
    go_ret2
    exact ⟨rfl, rfl⟩
theorem rget_in (T : TypeId) (B p : Nat) (A : Option Addr) (n cap : Nat) (f : Nat → Int) (a : Nat) (w : World) (hT : Hid (Tab T w B p A n cap f)) (ho : a < n) (hf : 0 ≤ f a ∨ f a = -1) :
    Calls Try.prog 14 #[.pointer (some ⟨p, 0, none⟩), .int .i64 (a : Int)] w fun e w' => e = .returned (if f a = -1 then .tuple #[.int .i64 0, .int .i64 902] else .tuple #[.int .i64 (f a), .int .i64 0]) ∧ w' = w := by
  have hc := hT.out.c0
  obtain ⟨g, rfl, h3⟩ := hT.out.at_ a ho
  have hl1 : (a : Int) < (n : Int) := by omega
  by_cases h1 : f a = -1
  · rw [if_pos h1]
    rw [h1] at h3
    clear hf
    go_enter Try.func14, Try.ntmps14
    go_wp2
    go_ret2
    exact ⟨rfl, rfl⟩
  · rw [if_neg h1]
    have h2 : ¬ f a < 0 := by omega
    clear hf
    go_enter Try.func14, Try.ntmps14
    go_wp2
    go_ret2
    exact ⟨rfl, rfl⟩
end Go.Proofs.Ytdkjgbgoglhbgaa
