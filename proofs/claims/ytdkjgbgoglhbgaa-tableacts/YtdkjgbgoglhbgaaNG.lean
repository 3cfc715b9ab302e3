/- A table among a call's own blocks, call by call. -/
import Derived.Test.YtdkjgbgoglhbgaaNF
set_option linter.unusedVariables false
set_option linter.unusedSimpArgs false
set_option maxRecDepth 100000
set_option maxHeartbeats 4000000
namespace Go.Proofs.Ytdkjgbgoglhbgaa
open Go.RowKit
theorem own : ownKnob Try.prog.godebug = none := by kernel_rfl
/-- what a Put answers, what it leaves; what a Get answers -/
def ptE (n : Nat) (at_ : Int) (m : Nat) (h : Nat → Int) : Int := if neg h m then 900 else if at_ < 0 ∨ (n : Int) - at_ < m then 901 else 0
def ptF (n : Nat) (f : Nat → Int) (at_ : Int) (m : Nat) (h : Nat → Int) : Nat → Int := if neg h m then f else if at_ < 0 ∨ (n : Int) - at_ < m then f else lay f at_.toNat m h
def gtR (n : Nat) (f : Nat → Int) (at_ : Int) : Int × Int := if at_ < 0 ∨ (n : Int) ≤ at_ then (0, 901) else if f at_.toNat = -1 then (0, 902) else (f at_.toNat, 0)
/-- of the blocks laid since w0 two are a table of n places, its functions f -/
def St (w0 w : World) (p n : Nat) (f : Nat → Int) : Prop := ∃ g cap, Later w0 w ∧ Tab 55 w w0.heap.size p (some ⟨g, 0, none⟩) n cap f
namespace St
variable {w0 w w' : World} {p n : Nat} {f : Nat → Int}
theorem ltr (h : St w0 w p n f) : Later w0 w := by obtain ⟨g, cap, h1, _⟩ := h; exact h1
theorem later (h : St w0 w p n f) (hl : Later w w') : St w0 w' p n f := by
  obtain ⟨g, cap, h1, h2⟩ := h
  exact ⟨g, cap, h1.trans hl, h2.later hl⟩
end St
theorem tab_base {T : TypeId} {w : World} {B B' p : Nat} {A : Option Addr} {n cap : Nat} {f : Nat → Int} (h : Tab T w B p A n cap f) (hB : B' ≤ B) : Tab T w B' p A n cap f := by
  refine ⟨h.1, Nat.le_trans hB h.2.1, h.2.2.1, ⟨h.2.2.2.1.1, ?_⟩, h.2.2.2.2⟩
  rcases h.2.2.2.1.2 with h2 | ⟨g, c, cur, h2, h3, h4⟩
  · exact Or.inl h2
  · exact Or.inr ⟨g, c, cur, h2, Nat.le_trans hB h3, h4⟩
theorem st_new (w0 w : World) (hl : Later w0 w) (q : Nat) (m : Int) (h : Fine (q : Int) m) :
    Calls Try.prog 6 #[.agg #[.int .i64 (q : Int), .int .i64 m]] w fun e w' => ∃ p, e = .returned (.tuple #[.pointer (some ⟨p, 0, none⟩), .int .i64 0]) ∧ St w0 w' p q (fun _ => -1) := by
  refine (new_ok q m h w).mono ?_
  rintro e w' ⟨p, g, rfl, h1, h2⟩
  exact ⟨p, rfl, g, q, hl.trans h1, tab_base h2 hl.size⟩
theorem st_put {w0 w : World} {p n : Nat} {f : Nat → Int} (hs : St w0 w p n f) (at_ : Int) (S : Option Addr) (m c : Nat) (h : Nat → Int) (hm : m ≤ 9223372036854775807) (hb : -9223372036854775808 ≤ at_ ∧ at_ ≤ 9223372036854775807) (hS : Lst w S m h) (E : Int) (f' : Nat → Int) (hE : ptE n at_ m h = E) (hf : ptF n f at_ m h = f') :
    Calls Try.prog 11 #[.pointer (some ⟨p, 0, none⟩), .int .i64 at_, .slice S m c] w fun e w' => e = .returned (.int .i64 E) ∧ St w0 w' p n f' := by
  obtain ⟨g, cap, h1, h2⟩ := id hs
  unfold ptE at hE
  unfold ptF at hf
  by_cases hn : neg h m = true
  · rw [if_pos hn] at hE hf
    subst hE hf
    refine (put_neg p at_ S m c h hm w hS hn).mono ?_
    rintro e w' ⟨rfl, rfl⟩
    exact ⟨rfl, hs⟩
  · rw [if_neg hn] at hE hf
    have hn' : neg h m = false := by simpa using hn
    by_cases ho : at_ < 0 ∨ (n : Int) - at_ < m
    · rw [if_pos ho] at hE hf
      subst hE hf
      refine (put_out _ _ p _ n cap f at_ S m c h hm w h2 hS hn' hb ho).mono ?_
      rintro e w' ⟨rfl, rfl⟩
      exact ⟨rfl, hs⟩
    · rw [if_neg ho] at hE hf
      subst hE hf
      obtain ⟨a, rfl⟩ := Int.eq_ofNat_of_zero_le (show 0 ≤ at_ by omega)
      refine (put_ok _ _ p _ n cap f a S m c h w h2 hS hn' (by omega)).mono ?_
      rintro e w' ⟨rfl, ⟨k, hk, ht⟩, h3⟩
      exact ⟨rfl, g, cap, h2.from_ h1 (Nat.le_refl _) hk ht, h3⟩
theorem st_get {w0 w : World} {p n : Nat} {f : Nat → Int} (hs : St w0 w p n f) (at_ V E : Int) (hR : gtR n f at_ = (V, E)) :
    Calls Try.prog 13 #[.pointer (some ⟨p, 0, none⟩), .int .i64 at_] w fun e w' => e = .returned (.tuple #[.int .i64 V, .int .i64 E]) ∧ w' = w := by
  obtain ⟨g, cap, h1, h2⟩ := id hs
  unfold gtR at hR
  by_cases ho : at_ < 0 ∨ (n : Int) ≤ at_
  · rw [if_pos ho] at hR
    cases hR
    exact get_out _ _ p _ n cap f at_ w h2 ho
  · rw [if_neg ho] at hR
    obtain ⟨a, rfl⟩ := Int.eq_ofNat_of_zero_le (show 0 ≤ at_ by omega)
    have hg := get_in _ _ p _ n cap f a w h2 (by omega)
    simp only [Int.toNat_natCast] at hR
    by_cases h3 : f a = -1
    · rw [if_pos h3] at hR hg
      cases hR
      exact hg
    · rw [if_neg h3] at hR hg
      cases hR
      exact hg
theorem st_all {w0 w : World} {p n : Nat} {f : Nat → Int} (hs : St w0 w p n f) :
    Calls Try.prog 17 #[.pointer (some ⟨p, 0, none⟩)] w fun e w' => ∃ g2 cap2, e = .returned (.slice (some ⟨g2, 0, none⟩) n cap2) ∧ Hid (w'.ownsRow w.heap.size 3 1 (.slice (some ⟨g2, 0, none⟩) n cap2) n (xs f n)) ∧ Hid (Later w w') := by
  obtain ⟨g, cap, h1, h2⟩ := hs
  exact all_any _ _ p g n cap f w h2
theorem owns_lst {w : World} {B g n cap : Nat} {f : Nat → Int} (h : w.ownsRow B 3 1 (.slice (some ⟨g, 0, none⟩) n cap) n (xs f n)) : Lst w (some ⟨g, 0, none⟩) n f :=
  Or.inr ⟨g, 0, rfl, fun j hj => by rw [Nat.zero_add]; exact owns_cell h (xs_get f n j hj)⟩
/-- list literals -/
def two (a b : Int) : Nat → Int := fun i => if i = 0 then a else b
def three (a b c : Int) : Nat → Int := fun i => if i = 0 then a else if i = 1 then b else c
theorem lit2 (W : World) (a b : Int) (g : Nat) (hg : g = W.heap.size) : Lst (W.alloc (.cells #[.int .i64 a, .int .i64 b] 3)) (some ⟨g, 0, none⟩) 2 (two a b) := by
  subst hg
  refine Or.inr ⟨_, 0, rfl, fun j hj => ?_⟩
  rw [Nat.zero_add, cell_of_row _ _ _ _ _ _ (heap_alloc_new W _)]
  match j, hj with
  | 0, _ => rfl
  | 1, _ => rfl
theorem lit3 (W : World) (a b c : Int) (g : Nat) (hg : g = W.heap.size) : Lst (W.alloc (.cells #[.int .i64 a, .int .i64 b, .int .i64 c] 3)) (some ⟨g, 0, none⟩) 3 (three a b c) := by
  subst hg
  refine Or.inr ⟨_, 0, rfl, fun j hj => ?_⟩
  rw [Nat.zero_add, cell_of_row _ _ _ _ _ _ (heap_alloc_new W _)]
  match j, hj with
  | 0, _ => rfl
  | 1, _ => rfl
  | 2, _ => rfl
theorem lst_congr {w : World} {A : Option Addr} {n : Nat} {f h : Nat → Int} (hl : Lst w A n f) (e : ∀ i, i < n → f i = h i) : Lst w A n h := by
  rcases hl with h0 | ⟨b, o, hA, hc⟩
  · exact Or.inl h0
  · exact Or.inr ⟨b, o, hA, fun j hj => by rw [← e j hj]; exact hc j hj⟩
/-- the table of 'awake' -/
def wk : Nat → Int := lay (fun _ => -1) 1 2 (two 7 8)
theorem wk_is (i : Nat) (hi : i < 3) : wk i = three (-1) 7 8 i := by
  match i, hi with
  | 0, _ => rfl
  | 1, _ => rfl
  | 2, _ => rfl
theorem awake_any (w0 w : World) (hl : Hid (Later w0 w)) :
    Calls Try.prog 9 #[] w fun e w' => e = .returned (.bool true) ∧ Later w0 w' := by
  go_enter Try.func9, Try.ntmps9
  go_wp2_with fail
  refine (st_new w0 _ hl.out 3 (-1) ⟨by decide, by decide, Or.inl rfl⟩).mono ?_
  rintro e w1 ⟨p, rfl, S1⟩
  go_wp2_with (go_at_call 8; refine (num_any _ _).mono ?_; rintro e w' ⟨rfl, rfl⟩)
  refine (st_put (S1.later (La (Lz _))) 1 _ 2 _ (two 7 8) (by decide) (by decide) (lit2 _ 7 8 _ rfl) 0 wk (by decide +kernel) rfl).mono ?_
  rintro e w2 ⟨rfl, S2⟩
  clear S1
  go_wp2_with fail
  refine (st_get S2 2 8 0 (by decide +kernel)).mono ?_
  rintro e w3 ⟨rfl, rfl⟩
  go_wp2_with fail
  refine (st_get S2 0 0 902 (by decide +kernel)).mono ?_
  rintro e w4 ⟨rfl, rfl⟩
  go_wp2_with fail
  refine (st_get S2 3 0 901 (by decide +kernel)).mono ?_
  rintro e w5 ⟨rfl, rfl⟩
  go_wp2_with fail
  refine (st_put (S2.later (La (Lz _))) 2 _ 2 _ (two 1 2) (by decide) (by decide) (lit2 _ 1 2 _ rfl) 901 wk (by decide +kernel) (by unfold ptF; rw [if_neg (by decide +kernel), if_pos (by decide +kernel)])).mono ?_
  rintro e w6 ⟨rfl, S6⟩
  clear S2
  go_wp2_with (go_at_call 8; refine (num_any _ _).mono ?_; rintro e w' ⟨rfl, rfl⟩)
  refine (st_all S6).mono ?_
  rintro e w7 ⟨g2, cap2, rfl, h7, L7⟩
  have S7 := S6.later (later_of L7)
  have o7 := owns_lst h7.out
  replace o7 : Hid (Lst w7 (some ⟨g2, 0, none⟩) 3 (three (-1) 7 8)) := lst_congr o7 wk_is
  clear h7 L7 S6
  go_wp2_with fail
  refine (same_any _ _ 3 _ _ (three (-1) 7 8) (by decide) _ (o7.out.later (La (Lz _))) (lit3 _ _ _ _ _ rfl)).mono ?_
  rintro e w8 ⟨rfl, bs, n, rfl⟩
  go_wp2
  go_ret
  exact ⟨rfl, S7.ltr.trans (by repeat first | exact Lz _ | apply La | apply Lv | apply Ld)⟩
end Go.Proofs.Ytdkjgbgoglhbgaa
