/- A memory among a call's own blocks, call by call. -/
import Derived.Test.YtbbjbgbpjhhcoaaDoorMD
import Derived.Test.YtbbjbgbpjhhcoaaDoorME
import Derived.Test.YtbbjbgbpjhhcoaaDoorMG
set_option linter.unusedVariables false
set_option linter.unusedSimpArgs false
set_option maxRecDepth 100000
set_option maxHeartbeats 4000000
namespace Go.Proofs.YtbbjbgbpjhhcoaaDoor
open Go.RowKit Go.BY
/-- of the blocks laid since w0 one is a memory of q pages and its bytes f -/
def St (w0 w : World) (p q : Nat) (top : Int) (f : Nat → Nat) : Prop :=
  ∃ b, Later w0 w ∧ Tabs w0 ∧ w0.heap.size ≤ p ∧ w0.heap.size ≤ b ∧ Mem 59 w p b (q * 65536) top f ∧ q ≤ top ∧ top ≤ 16
theorem St.ltr {w0 w : World} {p q : Nat} {top : Int} {f : Nat → Nat} (h : St w0 w p q top f) : Later w0 w := by obtain ⟨b, h1, _⟩ := h; exact h1
theorem St.later {w0 w w' : World} {p q : Nat} {top : Int} {f : Nat → Nat} (h : St w0 w p q top f) (hl : Later w w') : St w0 w' p q top f := by
  obtain ⟨b, h1, h2, h3, h4, h5, h6⟩ := h
  exact ⟨b, h1.trans hl, h2, h3, h4, h5.later hl, h6⟩
theorem St.turn {w0 w w' : World} {p q q' b b' : Nat} {top : Int} {f g : Nat → Nat} (h : St w0 w p q top f) (hm : Mem 59 w p b (q * 65536) top f) (hb : w0.heap.size ≤ b) {k : Nat} (hk : k = p ∨ k = b) (ht : Turned k w w') (hm' : Mem 59 w' p b' (q' * 65536) top g) (hb' : w0.heap.size ≤ b') (hq : q' ≤ top) : St w0 w' p q' top g := by
  obtain ⟨_, h1, h2, h3, _, _, h6, h7⟩ := h
  refine ⟨b', ?_, h2, h3, hb', hm', hq, h7⟩
  rcases hk with rfl | rfl
  · exact h1.turned hm.2.1 h3 ht
  · exact h1.turned hm.2.2.1 hb ht
theorem st_new (w0 w : World) (hT : Tabs w0) (hl : Later w0 w) (q : Nat) (m c top : Int) (h : (q : Int) ≤ c ∧ c ≤ 16) (hm : (m = -1 ∧ top = c) ∨ ((q : Int) ≤ m ∧ m ≤ 65536 ∧ top = min c m)) :
    Calls Tryd.prog 9 #[.agg #[.int .i64 (q : Int), .int .i64 m], .int .i64 c] w fun e w' => ∃ p, e = .returned (.tuple #[.pointer (some ⟨p, 0, none⟩), .int .i64 0]) ∧ St w0 w' p q top (fun _ => 0) := by
  refine (new_ok q m c top h hm w).mono ?_
  rintro e w' ⟨p, b, rfl, h1, h2, h3, h4⟩
  have := hl.size
  exact ⟨p, rfl, b, hl.trans h1, hT, by omega, by omega, h4, by omega, by omega⟩
theorem St.tabs {w0 w : World} {p q : Nat} {top : Int} {f : Nat → Nat} (h : St w0 w p q top f) : Tabs w := by
  obtain ⟨b, h1, h2, _⟩ := h
  exact h2.later h1
theorem st_load_in {w0 w : World} {p q : Nat} {top : Int} {f : Nat → Nat} (h : St w0 w p q top f) (k a o : Nat) (hk : k < 14) (h1 : a < 4294967296) (h2 : o < 4294967296) (hfit : a + o + (ldAt k).1 ≤ q * 65536) :
    Calls Tryd.prog 15 #[.pointer (some ⟨p, 0, none⟩), .int .i64 ((40 + k : Nat) : Int), .int .i64 (a : Nat), .int .i64 (o : Nat)] w fun e w' => e = .returned (.tuple #[.int .i64 (lv (ldAt k).1 (ldAt k).2.1 (ldAt k).2.2 (wd f (a + o) (ldAt k).1)), .int .i64 0]) ∧ St w0 w' p q top f := by
  obtain ⟨b, _, _, _, _, h5, _⟩ := id h
  exact (load_in _ p b _ k a o top f hk h1 h2 w h.tabs h5 hfit).mono fun e w' hh => ⟨hh.1, h.later hh.2⟩
theorem st_load_v {w0 w : World} {p q : Nat} {top : Int} {f : Nat → Nat} (h : St w0 w p q top f) (k a o : Nat) (op ai oi R : Int) (hop : op = ((40 + k : Nat) : Int)) (ha : ai = (a : Int)) (ho : oi = (o : Int)) (hk : k < 14) (h1 : a < 4294967296) (h2 : o < 4294967296) (hfit : a + o + (ldAt k).1 ≤ q * 65536)
    (hR : lv (ldAt k).1 (ldAt k).2.1 (ldAt k).2.2 (wd f (a + o) (ldAt k).1) = R) :
    Calls Tryd.prog 15 #[.pointer (some ⟨p, 0, none⟩), .int .i64 op, .int .i64 ai, .int .i64 oi] w fun e w' => e = .returned (.tuple #[.int .i64 R, .int .i64 0]) ∧ St w0 w' p q top f := by
  subst hop ha ho hR
  exact st_load_in h k a o hk h1 h2 hfit
theorem st_load_x {w0 w : World} {p q : Nat} {top : Int} {f : Nat → Nat} (h : St w0 w p q top f) (k a o : Nat) (op ai oi : Int) (hop : op = ((40 + k : Nat) : Int)) (ha : ai = (a : Int)) (ho : oi = (o : Int)) (hk : k < 14) (h1 : a < 4294967296) (h2 : o < 4294967296) (hfit : ¬ a + o + (ldAt k).1 ≤ q * 65536) :
    Calls Tryd.prog 15 #[.pointer (some ⟨p, 0, none⟩), .int .i64 op, .int .i64 ai, .int .i64 oi] w fun e w' => e = .returned (.tuple #[.int .i64 0, .int .i64 801]) ∧ St w0 w' p q top f := by
  subst hop ha ho
  obtain ⟨b, _, _, _, _, h5, _⟩ := id h
  exact (load_out _ p b _ k a o top f hk h1 h2 w h.tabs h5 hfit).mono fun e w' hh => ⟨hh.1, h.later hh.2⟩
theorem st_load_out {w0 w : World} {p q : Nat} {top : Int} {f : Nat → Nat} (h : St w0 w p q top f) (k a o : Nat) (hk : k < 14) (h1 : a < 4294967296) (h2 : o < 4294967296) (hfit : ¬ a + o + (ldAt k).1 ≤ q * 65536) :
    Calls Tryd.prog 15 #[.pointer (some ⟨p, 0, none⟩), .int .i64 ((40 + k : Nat) : Int), .int .i64 (a : Nat), .int .i64 (o : Nat)] w fun e w' => e = .returned (.tuple #[.int .i64 0, .int .i64 801]) ∧ St w0 w' p q top f := by
  obtain ⟨b, _, _, _, _, h5, _⟩ := id h
  exact (load_out _ p b _ k a o top f hk h1 h2 w h.tabs h5 hfit).mono fun e w' hh => ⟨hh.1, h.later hh.2⟩
theorem st_store_in {w0 w : World} {p q : Nat} {top : Int} {f : Nat → Nat} (h : St w0 w p q top f) (k a o : Nat) (x : Int) (hk : k < 9) (h1 : a < 4294967296) (h2 : o < 4294967296) (hfit : a + o + stAt k ≤ q * 65536) :
    Calls Tryd.prog 13 #[.pointer (some ⟨p, 0, none⟩), .int .i64 ((54 + k : Nat) : Int), .int .i64 (a : Nat), .int .i64 (o : Nat), .int .i64 x] w fun e w' => e = .returned (.int .i64 0) ∧ St w0 w' p q top (put f (a + o) (stAt k) (ux x)) := by
  obtain ⟨b, _, _, _, h4, h5, h6, _⟩ := id h
  exact (store_in _ p b _ k a o x top f hk h1 h2 w h.tabs h5 hfit).mono fun e w' hh => by
    obtain ⟨h9, wa, la, ht, hM⟩ := hh
    exact ⟨h9, (h.later la).turn (h5.later la) h4 (Or.inr rfl) ht hM h4 h6⟩
theorem st_store_out {w0 w : World} {p q : Nat} {top : Int} {f : Nat → Nat} (h : St w0 w p q top f) (k a o : Nat) (x : Int) (hk : k < 9) (h1 : a < 4294967296) (h2 : o < 4294967296) (hfit : ¬ a + o + stAt k ≤ q * 65536) :
    Calls Tryd.prog 13 #[.pointer (some ⟨p, 0, none⟩), .int .i64 ((54 + k : Nat) : Int), .int .i64 (a : Nat), .int .i64 (o : Nat), .int .i64 x] w fun e w' => e = .returned (.int .i64 801) ∧ St w0 w' p q top f := by
  obtain ⟨b, _, _, _, h4, h5, h6, _⟩ := id h
  exact (store_out _ p b _ k a o x top f hk h1 h2 w h.tabs h5 hfit).mono fun e w' hh => ⟨hh.1, h.later hh.2⟩
theorem st_pages {w0 w : World} {p q : Nat} {top : Int} {f : Nat → Nat} (h : St w0 w p q top f) :
    Calls Tryd.prog 21 #[.pointer (some ⟨p, 0, none⟩)] w fun e w' => e = .returned (.int .i64 (q : Int)) ∧ w' = w := by
  obtain ⟨b, _, _, _, h4, h5, h6, _⟩ := h
  exact pages_any _ p b q top f w h5
theorem st_all {w0 w : World} {p q : Nat} {top : Int} {f : Nat → Nat} (h : St w0 w p q top f) :
    Calls Tryd.prog 23 #[.pointer (some ⟨p, 0, none⟩)] w fun e w' => ∃ s : ByteArray, e = .returned (.string s) ∧ w' = w ∧ s.size = q * 65536 ∧ Hid (s = strOf f (q * 65536)) := by
  obtain ⟨b, _, _, _, h4, h5, h6, _⟩ := h
  exact (all_any _ p b _ top f w h5).mono fun e w' hh => ⟨_, hh.1, hh.2, strOf_size _ _, rfl⟩
theorem mem_congr {T : TypeId} {w : World} {p b n : Nat} {most : Int} {f g : Nat → Nat} (h : Mem T w p b n most f) (hg : ∀ i, g i < 256) (e : ∀ i, i < n → f i = g i) : Mem T w p b n most g :=
  ⟨h.1, h.2.1, h.2.2.1.congr fun i hi => by rw [e i hi], hg, h.2.2.2.2⟩
/-- a growth's bytes -/
def gr (f : Nat → Nat) (n : Nat) : Nat → Nat := fun i => if i < n then f i else 0
theorem st_grow_no {w0 w : World} {p q : Nat} {top : Int} {f : Nat → Nat} (h : St w0 w p q top f) (x : Int) (hx : top - q < x % 4294967296) :
    Calls Tryd.prog 17 #[.pointer (some ⟨p, 0, none⟩), .int .i64 x] w fun e w' => e = .returned (.int .i64 4294967295) ∧ w' = w := by
  obtain ⟨b, _, _, _, h4, h5, h6, h7⟩ := h
  exact grow_no _ p b q top f x w h5 (by omega) hx
theorem st_grow_yes {w0 w : World} {p q : Nat} {top : Int} {f : Nat → Nat} (h : St w0 w p q top f) (m : Nat) (x : Int) (hx : x % 4294967296 = (m : Int)) (hq : (q + m : Int) ≤ top) :
    Calls Tryd.prog 17 #[.pointer (some ⟨p, 0, none⟩), .int .i64 x] w fun e w' => e = .returned (.int .i64 q) ∧ St w0 w' p (q + m) top (gr f (q * 65536)) := by
  obtain ⟨b, h1, h2, h3, h4, h5, h6, h7⟩ := id h
  by_cases hm : m = 0
  · subst hm
    refine (grow_none _ p b q top f x w h5 (by omega) h6 hx).mono ?_
    rintro e w' ⟨rfl, rfl⟩
    exact ⟨rfl, b, h1, h2, h3, h4, mem_congr h5 (fun i => by unfold gr; split <;> first | exact h5.2.2.2.1 i | decide) (fun i hi => by unfold gr; rw [if_pos (by simpa using hi)]), h6, h7⟩
  · refine (grow_yes _ p b q m top f x w h5 (by omega) hx (by omega) hq).mono ?_
    rintro e w' ⟨rfl, ht, hm'⟩
    have := h1.size
    exact ⟨rfl, h.turn h5 h4 (Or.inl rfl) ht hm' (by omega) (by omega)⟩
theorem st_put_ok {w0 w : World} {p q : Nat} {top : Int} {f : Nat → Nat} (h : St w0 w p q top f) (a : Nat) (s : ByteArray) (ha : a + s.size ≤ q * 65536) :
    Calls Tryd.prog 19 #[.pointer (some ⟨p, 0, none⟩), .int .i64 (a : Nat), .string s] w fun e w' => e = .returned (.int .i64 0) ∧ St w0 w' p q top (lay f a s) := by
  obtain ⟨b, _, _, _, h4, h5, h6, _⟩ := id h
  exact (put_ok _ p b _ a top f s w h5 ha).mono fun e w' hh => ⟨hh.1, h.turn h5 h4 (Or.inr rfl) hh.2.1 hh.2.2 h4 h6⟩
theorem st_put_bad {w0 w : World} {p q : Nat} {top : Int} {f : Nat → Nat} (h : St w0 w p q top f) (at_ : Int) (s : ByteArray) (ha : -9223372036854775808 ≤ at_ ∧ at_ ≤ 9223372036854775807) (hb : at_ < 0 ∨ ((q * 65536 : Nat) : Int) - at_ < s.size) (hs : s.size ≤ 9223372036854775807) :
    Calls Tryd.prog 19 #[.pointer (some ⟨p, 0, none⟩), .int .i64 at_, .string s] w fun e w' => e = .returned (.int .i64 801) ∧ w' = w := by
  obtain ⟨b, _, _, _, h4, h5, h6, _⟩ := h
  exact put_bad _ p b _ top f at_ s w h5 ha hb hs
theorem wake_word : lv 4 false false (wd (put (fun _ => 0) 12 4 (ux (-2))) 12 4) = 4294967294 ∧ lv 1 true false (wd (put (fun _ => 0) 12 4 (ux (-2))) 12 1) = 4294967294 := by decide +kernel
theorem awake_any (w0 w : World) (hT : Hid (Tabs w0)) (hl : Hid (Later w0 w)) :
    Calls Tryd.prog 12 #[] w fun e w' => e = .returned (.bool true) ∧ Later w0 w' := by
  go_enter Tryd.func12, Tryd.ntmps12
  go_wp2_with fail
  refine (st_new w0 _ hT.out hl.out 1 (-1) 2 2 (by decide) (Or.inl ⟨rfl, rfl⟩)).mono ?_
  rintro e w1 ⟨p, rfl, S1⟩
  go_wp2_with (go_at_call 11; refine (num_any _ _).mono ?_; rintro e w' ⟨rfl, rfl⟩)
  refine (st_store_in S1 0 8 4 (-2) (by decide) (by decide) (by decide) (by decide)).mono ?_
  rintro e w2 ⟨rfl, S2⟩
  go_wp2_with fail
  refine (st_load_in S2 0 12 0 (by decide) (by decide) (by decide) (by decide)).mono ?_
  rintro e w3 ⟨rfl, S3⟩
  have e1 : lv (ldAt 0).1 (ldAt 0).2.1 (ldAt 0).2.2 (wd (put (fun _ => 0) (8 + 4) (stAt 0) (ux (-2))) (12 + 0) (ldAt 0).1) = 4294967294 := wake_word.1
  rw [e1]
  clear e1
  go_wp2_with fail
  refine (st_load_in S3 4 12 0 (by decide) (by decide) (by decide) (by decide)).mono ?_
  rintro e w4 ⟨rfl, S4⟩
  have e1 : lv (ldAt 4).1 (ldAt 4).2.1 (ldAt 4).2.2 (wd (put (fun _ => 0) (8 + 4) (stAt 0) (ux (-2))) (12 + 0) (ldAt 4).1) = 4294967294 := wake_word.2
  rw [e1]
  clear e1 S1 S2 S3
  go_wp2_with fail
  refine (st_load_out S4 0 65533 0 (by decide) (by decide) (by decide) (by decide)).mono ?_
  rintro e w5 ⟨rfl, S5⟩
  clear S4
  generalize put (fun _ => 0) (8 + 4) (stAt 0) (ux (-2)) = F at S5
  go_wp2_with fail
  refine (st_grow_yes S5 1 1 (by decide) (by decide)).mono ?_
  rintro e w6 ⟨rfl, S6⟩
  clear S5
  go_wp2_with fail
  refine (st_grow_no S6 1 (by decide)).mono ?_
  rintro e w7 ⟨rfl, rfl⟩
  go_wp2_with fail
  refine (new_bad 3 (-1) 2 (by decide) _).mono ?_
  rintro e w8 ⟨rfl, h8⟩
  have S8 := S6.later ((by repeat first | exact Lz _ | apply La | apply Ld : Later _ _).trans h8)
  replace h8 : Hid True := trivial
  clear S6
  go_wp2_with (first | (go_at_call 11; refine (num_any _ _).mono ?_; rintro e w' ⟨rfl, rfl⟩) | (go_at_call 21; refine (st_pages S8).mono ?_; rintro e w' ⟨rfl, rfl⟩) | (go_at_call 23; refine (st_all S8).mono ?_; rintro e w' ⟨s, rfl, rfl, hs, hS⟩))
  go_ret
  exact ⟨rfl, S8.ltr⟩
end Go.Proofs.YtbbjbgbpjhhcoaaDoor
