/- Over this seat's translation: Store of the document's memory. -/
import Derived.Test.YtbbjbgbpjhhcoaaDoorMR
set_option linter.unusedVariables false
set_option linter.unusedSimpArgs false
set_option maxRecDepth 100000
set_option maxHeartbeats 8000000
namespace Go.Proofs.YtbbjbgbpjhhcoaaDoor
open Go.RowKit Go.BY
theorem byt_and (x : Int) (j : Nat) (hj : j < 8) : bits .and .i64 (x / 2 ^ (8 * j)) 255 = ((byt (ux x) j : Nat) : Int) := by
  rw [show (255 : Int) = ((2 ^ 8 : Nat) - 1 : Int) by decide, BM.and_mask _ 8 (by decide)]
  unfold byt ux
  rcases (by omega : j = 0 ∨ j = 1 ∨ j = 2 ∨ j = 3 ∨ j = 4 ∨ j = 5 ∨ j = 6 ∨ j = 7) with rfl | rfl | rfl | rfl | rfl | rfl | rfl | rfl <;> simp only [Nat.reducePow, Nat.reduceMul, Int.reducePow] <;> omega
theorem rwrote {T : TypeId} {w : World} {p b n a k x : Nat} {most : Int} {f : Nat → Nat} (h : Mem T w p b n most (put f a k x)) :
    Mem T (w.setCell ⟨b, a + k, none⟩ (.int .u8 ((byt x k : Nat) : Int))) p b n most (put f a (k + 1) x) := by
  refine ⟨h.1, h.2.1.setOther h.1 _, (h.2.2.1.set (a + k) _).congr fun i hi => ?_, fun i => ?_, h.2.2.2.2⟩
  · rw [← put_succ]
    show (if i = a + k then _ else _) = Value.int IntKind.u8 ((if i = a + k then byt x k else put f a k x i : Nat) : Int)
    by_cases hi : i = a + k
    · rw [if_pos hi, if_pos hi]
    · rw [if_neg hi, if_neg hi]
  · rw [← put_succ]
    show (if i = a + k then byt x k else put f a k x i) < 256
    split
    · exact byt_lt _ _
    · exact h.2.2.2.1 i
theorem rstore_op (p : Nat) (op at_ off x : Int) (h : op < 54 ∨ 62 < op) (w : World) :
    Calls Tryd.prog 14 #[.pointer (some ⟨p, 0, none⟩), .int .i64 op, .int .i64 at_, .int .i64 off, .int .i64 x] w fun e w' => e = .returned (.int .i64 800) ∧ Later w w' := by
  rcases h with h | h
  · go_enter Tryd.func14, Tryd.ntmps14
    go_wp2
    go_ret
    exact ⟨rfl, Lz _⟩
  · have h' : ¬ op < 54 := by omega
    go_enter Tryd.func14, Tryd.ntmps14
    go_wp2
    go_ret
    exact ⟨rfl, Lz _⟩
theorem rstore_addr (p : Nat) (op at_ off x : Int) (h : 54 ≤ op ∧ op ≤ 62) (r1 r2 : Bool) (h1 : decide (0 ≤ at_ ∧ at_ ≤ 4294967295) = r1) (h2 : decide (0 ≤ off ∧ off ≤ 4294967295) = r2) (hr : (r1 && r2) = false) (w : World) :
    Calls Tryd.prog 14 #[.pointer (some ⟨p, 0, none⟩), .int .i64 op, .int .i64 at_, .int .i64 off, .int .i64 x] w fun e w' => e = .returned (.int .i64 800) ∧ Later w w' := by
  have k1 : ¬ op < 54 := by omega
  have k2 : ¬ 62 < op := by omega
  replace h1 : Hid (decide (0 ≤ at_ ∧ at_ ≤ 4294967295) = r1) := h1
  replace h2 : Hid (decide (0 ≤ off ∧ off ≤ 4294967295) = r2) := h2
  cases r1 <;> cases r2 <;> simp at hr
  all_goals
    go_enter Tryd.func14, Tryd.ntmps14
    go_wp2_with (first | (go_at_call_of 31 at_; refine (word_is _ _ h1.out _).mono ?_; rintro e w' ⟨rfl, rfl⟩) | (go_at_call_of 31 off; refine (word_is _ _ h2.out _).mono ?_; rintro e w' ⟨rfl, rfl⟩))
    go_ret
    exact ⟨rfl, Lz _⟩
theorem szS (k : Nat) : szR (14 + k) = stAt k := by unfold szR; rw [if_neg (by omega), Nat.add_sub_cancel_left]
theorem rstore_out (T : TypeId) (p b n k a o : Nat) (x : Int) (most : Int) (f : Nat → Nat) (hk : k < 9) (h1 : a < 4294967296) (h2 : o < 4294967296) (w : World) (hm : Hid (Mem T w p b n most f)) (hfit : ¬ a + o + stAt k ≤ n) :
    Calls Tryd.prog 14 #[.pointer (some ⟨p, 0, none⟩), .int .i64 ((54 + k : Nat) : Int), .int .i64 (a : Nat), .int .i64 (o : Nat), .int .i64 x] w fun e w' => e = .returned (.int .i64 801) ∧ Later w w' := by
  have e1 : Hid (decide ((0 : Int) ≤ (a : Int) ∧ (a : Int) ≤ 4294967295) = true) := decide_eq_true (by omega)
  have e2 : Hid (decide ((0 : Int) ≤ (o : Int) ∧ (o : Int) ≤ 4294967295) = true) := decide_eq_true (by omega)
  have hpl : Hid (Calls Tryd.prog 32 #[.pointer (some ⟨p, 0, none⟩), .int .i64 (54 + (k : Int)), .int .i64 (a : Nat), .int .i64 (o : Nat)] w fun e w' => e = .returned (.int .i64 (-1)) ∧ Later w w') :=
    place_in T p b n most f (14 + k) a o (by omega) _ (by omega) h1 h2 w hm (-1) (by rw [szS, if_neg hfit])
  have k1 : ¬ 54 + (k : Int) < 54 := by omega
  have k2 : ¬ 62 < 54 + (k : Int) := by omega
  clear hm
  go_enter Tryd.func14, Tryd.ntmps14
  go_wp2_with (first | (go_at_call 31; refine (word_is _ true (by first | exact e1.out | exact e2.out) _).mono ?_; rintro e w' ⟨rfl, rfl⟩) | (go_at_call 32; refine hpl.out.mono ?_; rintro e w1 ⟨rfl, bs, m, rfl⟩))
  go_ret
  exact ⟨rfl, Lv (Lz _)⟩
theorem rstore_in (T : TypeId) (p b n k a o : Nat) (x : Int) (most : Int) (f : Nat → Nat) (hk : k < 9) (h1 : a < 4294967296) (h2 : o < 4294967296) (w : World) (hm : Hid (Mem T w p b n most f)) (hfit : a + o + stAt k ≤ n) :
    Calls Tryd.prog 14 #[.pointer (some ⟨p, 0, none⟩), .int .i64 ((54 + k : Nat) : Int), .int .i64 (a : Nat), .int .i64 (o : Nat), .int .i64 x] w fun e w' => e = .returned (.int .i64 0) ∧ Turned b w w' ∧ Mem T w' p b n most (put f (a + o) (stAt k) (ux x)) := by
  have e1 : Hid (decide ((0 : Int) ≤ (a : Int) ∧ (a : Int) ≤ 4294967295) = true) := decide_eq_true (by omega)
  have e2 : Hid (decide ((0 : Int) ≤ (o : Int) ∧ (o : Int) ≤ 4294967295) = true) := decide_eq_true (by omega)
  have hpl : Hid (Calls Tryd.prog 32 #[.pointer (some ⟨p, 0, none⟩), .int .i64 (54 + (k : Int)), .int .i64 (a : Nat), .int .i64 (o : Nat)] w fun e w' => e = .returned (.int .i64 ((a : Int) + (o : Int))) ∧ Later w w') :=
    place_in T p b n most f (14 + k) a o (by omega) _ (by omega) h1 h2 w hm _ (by rw [szS, if_pos hfit]; omega)
  have hsz : Hid (∀ w', Calls Tryd.prog 24 #[.int .i64 (54 + (k : Int))] w' fun e w2 => e = .returned (.int .i64 (stAt k : Nat)) ∧ Later w' w2) := fun w' => sz_any (14 + k) (by omega) _ _ (by omega) (by rw [if_neg (by omega), Nat.add_sub_cancel_left]) w'
  have k1 : ¬ 54 + (k : Int) < 54 := by omega
  have k2 : ¬ 62 < 54 + (k : Int) := by omega
  have k0 : ¬ (a : Int) + (o : Int) < 0 := by omega
  have hn := hm.out.2.2.2.2
  obtain ⟨f1, f2⟩ := st_facts k hk
  generalize stAt k = sz at *
  go_enter Tryd.func14, Tryd.ntmps14
  go_wp2_with (go_at_call 31; refine (word_is _ true (by first | exact e1.out | exact e2.out) _).mono ?_; rintro e w' ⟨rfl, rfl⟩)
  refine hpl.out.mono ?_
  rintro e w1 ⟨rfl, hl1⟩
  clear hpl
  have hm1 := hm.out.later hl1
  have ht1 := Turned.of_later hm.out.2.2.1 hl1
  replace hl1 : Hid True := trivial
  have hrow := hm.out.2.2.1
  replace hrow : Hid _ := hrow
  replace hm1 : Hid (Mem T w1 p b n most f) := hm1
  replace ht1 : Hid (Turned b _ w1) := ht1
  go_wp2
  go_loopw [12] (fun i wr => ∃ j : Nat, j ≤ sz ∧ i = .int .i64 (j : Nat) ∧ Turned b w' wr ∧ Mem T wr p b n most (put f (a + o) j (ux x))) (fun i _ => sz - (intOf i).toNat)
  case atStart => exact ⟨0, Nat.zero_le _, rfl, ht1.out, by rw [put_zero]; exact hm1.out⟩
  case round =>
    obtain ⟨j, hj, rfl, ht, hmr⟩ := hrel
    replace ht : Hid (Turned b w' wr) := ht
    replace hmr : Hid (Mem T wr p b n most (put f (a + o) j (ux x))) := hmr
    clear hm1 ht1 hm
    by_cases hlt : j < sz
    · go_wp2_with fail
      refine (hsz.out _).mono ?_
      rintro e w2 ⟨rfl, hl2⟩
      have hm2 := hmr.out.later hl2
      have ht2 := ht.out.later hl2
      replace hl2 : Hid True := trivial
      have hc := hm2.c0
      have hcb := hm2.by_ (a + o + j) (by omega)
      have hfr := hm2.2.2.1.frozen (a + o + j)
      have hob := byt_and x j (by omega)
      have hbl := byt_lt (ux x) j
      replace hm2 : Hid (Mem T w2 p b n most (put f (a + o) j (ux x))) := hm2
      replace ht2 : Hid (Turned b w' w2) := ht2
      clear ht hmr
      go_wp2
      go_region
      go_wp2
      go_roundw
      case rel => exact ⟨j + 1, by omega, by go_num, (ht2.out.set hrow.out _ _).later (Ld (Lz _)), (rwrote hm2.out).later (Ld (Lz _))⟩
      case measure => simp [intOf]; omega
    · obtain rfl : j = sz := by omega
      go_wp2_with fail
      refine (hsz.out _).mono ?_
      rintro e w2 ⟨rfl, hl2⟩
      have hm2 : Hid (Mem T w2 p b n most (put f (a + o) j (ux x))) := hmr.out.later hl2
      have ht2 : Hid (Turned b w' w2) := ht.out.later hl2
      replace hl2 : Hid True := trivial
      go_wp2
      go_ret
      exact ⟨rfl, ht2.out, hm2.out⟩
end Go.Proofs.YtbbjbgbpjhhcoaaDoor
