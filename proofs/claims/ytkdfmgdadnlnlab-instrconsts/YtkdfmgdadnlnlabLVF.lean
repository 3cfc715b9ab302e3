/- Over this seat's translation: package leb: GetSigned, whole. -/
import Derived.Test.YtkdfmgdadnlnlabLVE
set_option linter.unusedVariables false
set_option linter.unusedSimpArgs false
set_option maxRecDepth 100000
set_option maxHeartbeats 4000000
namespace Go.Proofs.Ytkdfmgdadnlnlab
open Go.RowKit
theorem gets_ok7 (s : ByteArray) (at_ bits_ L b p X sv : Int) (hb : 0 ≤ b ∧ b < 128) (hap : -9223372036854775808 ≤ at_ + p ∧ at_ + p ≤ 9223372036854775807)
    (hp : Hid (∀ w : World, Calls Try.prog 55 #[.string s, .int .i64 at_, .int .i64 bits_] w fun e w' => e = .returned (.tuple #[nbr L b p, .int .i64 0]) ∧ Later w w'))
    (hr : Hid (∀ w : World, Calls Try.prog 56 #[.int .i64 p, .int .i64 bits_] w fun e w' => e = .returned (.int .i64 7) ∧ w' = w))
    (hx : Hid (∀ w : World, Calls Try.prog 57 #[nbr L b p] w fun e w' => e = .returned (.int .i64 X) ∧ Later w w'))
    (hsv : IntKind.i8.wrap (b * 2) / 2 = sv) (hsr : -64 ≤ sv ∧ sv ≤ 63) (ht : ((sv / 64) != 0) = false ∨ (((sv / 64) != 0) = true ∧ ((sv / 64) != -1) = false))
    (w : World) :
    Calls Try.prog 54 #[.string s, .int .i64 at_, .int .i64 bits_] w fun e w' => e = .returned (.tuple #[.int .i64 X, .int .i64 (at_ + p), .int .i64 0]) ∧ Later w w' := by
  unfold nbr at hp hx
  rcases ht with t1 | ⟨t1, t2⟩
  · go_enter Try.func54, Try.ntmps54
    go_wp2_with (first | (go_at_call 55; refine (hp.out _).mono ?_; rintro e w2 ⟨rfl, h3⟩) | (go_at_call 56; refine (hr.out _).mono ?_; rintro e w3 ⟨rfl, hw⟩; obtain rfl : _ = w3 := hw.symm))
    obtain ⟨W, hW⟩ : ∃ W : World, W = w2.alloc (.cells #[.int .u64 L, .int .u8 b, .int .i64 p] 84) := ⟨_, rfl⟩
    rw [← hW]
    have LW : Hid (Later w W) := by rw [hW]; exact La h3
    have v0 : W.cell? ⟨w2.heap.size, 0, none⟩ = some (.int .u64 L) := by rw [hW]; simp [go_sem]
    have v1 : W.cell? ⟨w2.heap.size, 1, none⟩ = some (.int .u8 b) := by rw [hW]; simp [go_sem]
    have v2 : W.cell? ⟨w2.heap.size, 2, none⟩ = some (.int .i64 p) := by rw [hW]; simp [go_sem]
    have hlt := cell_lt v0
    clear hW h3
    generalize w2.heap.size = g at *
    go_region_law (go_simp; go_at_call 57; refine (hx.out _).mono ?_; rintro e w4 ⟨rfl, h5⟩; replace h5 : Hid (Later _ w4) := h5; have z2 := (later_of h5).cell_of (w := W.drew) v2; have hlt4 := cell_lt z2)
    all_goals
      go_wp2_with fail
      go_ret3
      exact ⟨rfl, (by repeat first | exact LW.out | exact Later.trans (Ld LW.out) h5.out | apply La | apply Lv | apply Ld | apply Ln)⟩
  · go_enter Try.func54, Try.ntmps54
    go_wp2_with (first | (go_at_call 55; refine (hp.out _).mono ?_; rintro e w2 ⟨rfl, h3⟩) | (go_at_call 56; refine (hr.out _).mono ?_; rintro e w3 ⟨rfl, hw⟩; obtain rfl : _ = w3 := hw.symm))
    obtain ⟨W, hW⟩ : ∃ W : World, W = w2.alloc (.cells #[.int .u64 L, .int .u8 b, .int .i64 p] 84) := ⟨_, rfl⟩
    rw [← hW]
    have LW : Hid (Later w W) := by rw [hW]; exact La h3
    have v0 : W.cell? ⟨w2.heap.size, 0, none⟩ = some (.int .u64 L) := by rw [hW]; simp [go_sem]
    have v1 : W.cell? ⟨w2.heap.size, 1, none⟩ = some (.int .u8 b) := by rw [hW]; simp [go_sem]
    have v2 : W.cell? ⟨w2.heap.size, 2, none⟩ = some (.int .i64 p) := by rw [hW]; simp [go_sem]
    have hlt := cell_lt v0
    clear hW h3
    generalize w2.heap.size = g at *
    go_region_law (go_simp; go_at_call 57; refine (hx.out _).mono ?_; rintro e w4 ⟨rfl, h5⟩; replace h5 : Hid (Later _ w4) := h5; have z2 := (later_of h5).cell_of (w := W.drew) v2; have hlt4 := cell_lt z2)
    all_goals
      go_wp2_with fail
      go_ret3
      exact ⟨rfl, (by repeat first | exact LW.out | exact Later.trans (Ld LW.out) h5.out | apply La | apply Lv | apply Ld | apply Ln)⟩
theorem gets_form7 (s : ByteArray) (at_ bits_ L b p X sv : Int) (hb : 0 ≤ b ∧ b < 128) (hap : -9223372036854775808 ≤ at_ + p ∧ at_ + p ≤ 9223372036854775807)
    (hp : Hid (∀ w : World, Calls Try.prog 55 #[.string s, .int .i64 at_, .int .i64 bits_] w fun e w' => e = .returned (.tuple #[nbr L b p, .int .i64 0]) ∧ Later w w'))
    (hr : Hid (∀ w : World, Calls Try.prog 56 #[.int .i64 p, .int .i64 bits_] w fun e w' => e = .returned (.int .i64 7) ∧ w' = w))
    (hx : Hid (∀ w : World, Calls Try.prog 57 #[nbr L b p] w fun e w' => e = .returned (.int .i64 X) ∧ Later w w'))
    (hsv : IntKind.i8.wrap (b * 2) / 2 = sv) (hsr : -64 ≤ sv ∧ sv ≤ 63) (t1 : ((sv / 64) != 0) = true) (t2 : ((sv / 64) != -1) = true)
    (w : World) :
    Calls Try.prog 54 #[.string s, .int .i64 at_, .int .i64 bits_] w fun e w' => e = .returned (.tuple #[.int .i64 0, .int .i64 0, .int .i64 1200]) ∧ Later w w' := by
  unfold nbr at hp hx
  go_enter Try.func54, Try.ntmps54
  go_wp2_with (first | (go_at_call 55; refine (hp.out _).mono ?_; rintro e w2 ⟨rfl, h3⟩) | (go_at_call 56; refine (hr.out _).mono ?_; rintro e w3 ⟨rfl, hw⟩; obtain rfl : _ = w3 := hw.symm))
  go_ret3
  exact ⟨rfl, (by repeat first | exact h3 | apply La | apply Lv | apply Ld | apply Ln)⟩
theorem gets_ok4 (s : ByteArray) (at_ bits_ L b p X sv : Int) (hb : 0 ≤ b ∧ b < 128) (hap : -9223372036854775808 ≤ at_ + p ∧ at_ + p ≤ 9223372036854775807)
    (hp : Hid (∀ w : World, Calls Try.prog 55 #[.string s, .int .i64 at_, .int .i64 bits_] w fun e w' => e = .returned (.tuple #[nbr L b p, .int .i64 0]) ∧ Later w w'))
    (hr : Hid (∀ w : World, Calls Try.prog 56 #[.int .i64 p, .int .i64 bits_] w fun e w' => e = .returned (.int .i64 4) ∧ w' = w))
    (hx : Hid (∀ w : World, Calls Try.prog 57 #[nbr L b p] w fun e w' => e = .returned (.int .i64 X) ∧ Later w w'))
    (hsv : IntKind.i8.wrap (b * 2) / 2 = sv) (hsr : -64 ≤ sv ∧ sv ≤ 63) (ht : ((sv / 8) != 0) = false ∨ (((sv / 8) != 0) = true ∧ ((sv / 8) != -1) = false))
    (w : World) :
    Calls Try.prog 54 #[.string s, .int .i64 at_, .int .i64 bits_] w fun e w' => e = .returned (.tuple #[.int .i64 X, .int .i64 (at_ + p), .int .i64 0]) ∧ Later w w' := by
  unfold nbr at hp hx
  rcases ht with t1 | ⟨t1, t2⟩
  · go_enter Try.func54, Try.ntmps54
    go_wp2_with (first | (go_at_call 55; refine (hp.out _).mono ?_; rintro e w2 ⟨rfl, h3⟩) | (go_at_call 56; refine (hr.out _).mono ?_; rintro e w3 ⟨rfl, hw⟩; obtain rfl : _ = w3 := hw.symm))
    obtain ⟨W, hW⟩ : ∃ W : World, W = w2.alloc (.cells #[.int .u64 L, .int .u8 b, .int .i64 p] 84) := ⟨_, rfl⟩
    rw [← hW]
    have LW : Hid (Later w W) := by rw [hW]; exact La h3
    have v0 : W.cell? ⟨w2.heap.size, 0, none⟩ = some (.int .u64 L) := by rw [hW]; simp [go_sem]
    have v1 : W.cell? ⟨w2.heap.size, 1, none⟩ = some (.int .u8 b) := by rw [hW]; simp [go_sem]
    have v2 : W.cell? ⟨w2.heap.size, 2, none⟩ = some (.int .i64 p) := by rw [hW]; simp [go_sem]
    have hlt := cell_lt v0
    clear hW h3
    generalize w2.heap.size = g at *
    go_region_law (go_simp; go_at_call 57; refine (hx.out _).mono ?_; rintro e w4 ⟨rfl, h5⟩; replace h5 : Hid (Later _ w4) := h5; have z2 := (later_of h5).cell_of (w := W.drew) v2; have hlt4 := cell_lt z2)
    all_goals
      go_wp2_with fail
      go_ret3
      exact ⟨rfl, (by repeat first | exact LW.out | exact Later.trans (Ld LW.out) h5.out | apply La | apply Lv | apply Ld | apply Ln)⟩
  · go_enter Try.func54, Try.ntmps54
    go_wp2_with (first | (go_at_call 55; refine (hp.out _).mono ?_; rintro e w2 ⟨rfl, h3⟩) | (go_at_call 56; refine (hr.out _).mono ?_; rintro e w3 ⟨rfl, hw⟩; obtain rfl : _ = w3 := hw.symm))
    obtain ⟨W, hW⟩ : ∃ W : World, W = w2.alloc (.cells #[.int .u64 L, .int .u8 b, .int .i64 p] 84) := ⟨_, rfl⟩
    rw [← hW]
    have LW : Hid (Later w W) := by rw [hW]; exact La h3
    have v0 : W.cell? ⟨w2.heap.size, 0, none⟩ = some (.int .u64 L) := by rw [hW]; simp [go_sem]
    have v1 : W.cell? ⟨w2.heap.size, 1, none⟩ = some (.int .u8 b) := by rw [hW]; simp [go_sem]
    have v2 : W.cell? ⟨w2.heap.size, 2, none⟩ = some (.int .i64 p) := by rw [hW]; simp [go_sem]
    have hlt := cell_lt v0
    clear hW h3
    generalize w2.heap.size = g at *
    go_region_law (go_simp; go_at_call 57; refine (hx.out _).mono ?_; rintro e w4 ⟨rfl, h5⟩; replace h5 : Hid (Later _ w4) := h5; have z2 := (later_of h5).cell_of (w := W.drew) v2; have hlt4 := cell_lt z2)
    all_goals
      go_wp2_with fail
      go_ret3
      exact ⟨rfl, (by repeat first | exact LW.out | exact Later.trans (Ld LW.out) h5.out | apply La | apply Lv | apply Ld | apply Ln)⟩
theorem gets_form4 (s : ByteArray) (at_ bits_ L b p X sv : Int) (hb : 0 ≤ b ∧ b < 128) (hap : -9223372036854775808 ≤ at_ + p ∧ at_ + p ≤ 9223372036854775807)
    (hp : Hid (∀ w : World, Calls Try.prog 55 #[.string s, .int .i64 at_, .int .i64 bits_] w fun e w' => e = .returned (.tuple #[nbr L b p, .int .i64 0]) ∧ Later w w'))
    (hr : Hid (∀ w : World, Calls Try.prog 56 #[.int .i64 p, .int .i64 bits_] w fun e w' => e = .returned (.int .i64 4) ∧ w' = w))
    (hx : Hid (∀ w : World, Calls Try.prog 57 #[nbr L b p] w fun e w' => e = .returned (.int .i64 X) ∧ Later w w'))
    (hsv : IntKind.i8.wrap (b * 2) / 2 = sv) (hsr : -64 ≤ sv ∧ sv ≤ 63) (t1 : ((sv / 8) != 0) = true) (t2 : ((sv / 8) != -1) = true)
    (w : World) :
    Calls Try.prog 54 #[.string s, .int .i64 at_, .int .i64 bits_] w fun e w' => e = .returned (.tuple #[.int .i64 0, .int .i64 0, .int .i64 1200]) ∧ Later w w' := by
  unfold nbr at hp hx
  go_enter Try.func54, Try.ntmps54
  go_wp2_with (first | (go_at_call 55; refine (hp.out _).mono ?_; rintro e w2 ⟨rfl, h3⟩) | (go_at_call 56; refine (hr.out _).mono ?_; rintro e w3 ⟨rfl, hw⟩; obtain rfl : _ = w3 := hw.symm))
  go_ret3
  exact ⟨rfl, (by repeat first | exact h3 | apply La | apply Lv | apply Ld | apply Ln)⟩
theorem gets_ok1 (s : ByteArray) (at_ bits_ L b p X sv : Int) (hb : 0 ≤ b ∧ b < 128) (hap : -9223372036854775808 ≤ at_ + p ∧ at_ + p ≤ 9223372036854775807)
    (hp : Hid (∀ w : World, Calls Try.prog 55 #[.string s, .int .i64 at_, .int .i64 bits_] w fun e w' => e = .returned (.tuple #[nbr L b p, .int .i64 0]) ∧ Later w w'))
    (hr : Hid (∀ w : World, Calls Try.prog 56 #[.int .i64 p, .int .i64 bits_] w fun e w' => e = .returned (.int .i64 1) ∧ w' = w))
    (hx : Hid (∀ w : World, Calls Try.prog 57 #[nbr L b p] w fun e w' => e = .returned (.int .i64 X) ∧ Later w w'))
    (hsv : IntKind.i8.wrap (b * 2) / 2 = sv) (hsr : -64 ≤ sv ∧ sv ≤ 63) (ht : ((sv) != 0) = false ∨ (((sv) != 0) = true ∧ ((sv) != -1) = false))
    (w : World) :
    Calls Try.prog 54 #[.string s, .int .i64 at_, .int .i64 bits_] w fun e w' => e = .returned (.tuple #[.int .i64 X, .int .i64 (at_ + p), .int .i64 0]) ∧ Later w w' := by
  unfold nbr at hp hx
  rcases ht with t1 | ⟨t1, t2⟩
  · go_enter Try.func54, Try.ntmps54
    go_wp2_with (first | (go_at_call 55; refine (hp.out _).mono ?_; rintro e w2 ⟨rfl, h3⟩) | (go_at_call 56; refine (hr.out _).mono ?_; rintro e w3 ⟨rfl, hw⟩; obtain rfl : _ = w3 := hw.symm))
    obtain ⟨W, hW⟩ : ∃ W : World, W = w2.alloc (.cells #[.int .u64 L, .int .u8 b, .int .i64 p] 84) := ⟨_, rfl⟩
    rw [← hW]
    have LW : Hid (Later w W) := by rw [hW]; exact La h3
    have v0 : W.cell? ⟨w2.heap.size, 0, none⟩ = some (.int .u64 L) := by rw [hW]; simp [go_sem]
    have v1 : W.cell? ⟨w2.heap.size, 1, none⟩ = some (.int .u8 b) := by rw [hW]; simp [go_sem]
    have v2 : W.cell? ⟨w2.heap.size, 2, none⟩ = some (.int .i64 p) := by rw [hW]; simp [go_sem]
    have hlt := cell_lt v0
    clear hW h3
    generalize w2.heap.size = g at *
    go_region_law (go_simp; go_at_call 57; refine (hx.out _).mono ?_; rintro e w4 ⟨rfl, h5⟩; replace h5 : Hid (Later _ w4) := h5; have z2 := (later_of h5).cell_of (w := W.drew) v2; have hlt4 := cell_lt z2)
    all_goals
      go_wp2_with fail
      go_ret3
      exact ⟨rfl, (by repeat first | exact LW.out | exact Later.trans (Ld LW.out) h5.out | apply La | apply Lv | apply Ld | apply Ln)⟩
  · go_enter Try.func54, Try.ntmps54
    go_wp2_with (first | (go_at_call 55; refine (hp.out _).mono ?_; rintro e w2 ⟨rfl, h3⟩) | (go_at_call 56; refine (hr.out _).mono ?_; rintro e w3 ⟨rfl, hw⟩; obtain rfl : _ = w3 := hw.symm))
    obtain ⟨W, hW⟩ : ∃ W : World, W = w2.alloc (.cells #[.int .u64 L, .int .u8 b, .int .i64 p] 84) := ⟨_, rfl⟩
    rw [← hW]
    have LW : Hid (Later w W) := by rw [hW]; exact La h3
    have v0 : W.cell? ⟨w2.heap.size, 0, none⟩ = some (.int .u64 L) := by rw [hW]; simp [go_sem]
    have v1 : W.cell? ⟨w2.heap.size, 1, none⟩ = some (.int .u8 b) := by rw [hW]; simp [go_sem]
    have v2 : W.cell? ⟨w2.heap.size, 2, none⟩ = some (.int .i64 p) := by rw [hW]; simp [go_sem]
    have hlt := cell_lt v0
    clear hW h3
    generalize w2.heap.size = g at *
    go_region_law (go_simp; go_at_call 57; refine (hx.out _).mono ?_; rintro e w4 ⟨rfl, h5⟩; replace h5 : Hid (Later _ w4) := h5; have z2 := (later_of h5).cell_of (w := W.drew) v2; have hlt4 := cell_lt z2)
    all_goals
      go_wp2_with fail
      go_ret3
      exact ⟨rfl, (by repeat first | exact LW.out | exact Later.trans (Ld LW.out) h5.out | apply La | apply Lv | apply Ld | apply Ln)⟩
theorem gets_form1 (s : ByteArray) (at_ bits_ L b p X sv : Int) (hb : 0 ≤ b ∧ b < 128) (hap : -9223372036854775808 ≤ at_ + p ∧ at_ + p ≤ 9223372036854775807)
    (hp : Hid (∀ w : World, Calls Try.prog 55 #[.string s, .int .i64 at_, .int .i64 bits_] w fun e w' => e = .returned (.tuple #[nbr L b p, .int .i64 0]) ∧ Later w w'))
    (hr : Hid (∀ w : World, Calls Try.prog 56 #[.int .i64 p, .int .i64 bits_] w fun e w' => e = .returned (.int .i64 1) ∧ w' = w))
    (hx : Hid (∀ w : World, Calls Try.prog 57 #[nbr L b p] w fun e w' => e = .returned (.int .i64 X) ∧ Later w w'))
    (hsv : IntKind.i8.wrap (b * 2) / 2 = sv) (hsr : -64 ≤ sv ∧ sv ≤ 63) (t1 : ((sv) != 0) = true) (t2 : ((sv) != -1) = true)
    (w : World) :
    Calls Try.prog 54 #[.string s, .int .i64 at_, .int .i64 bits_] w fun e w' => e = .returned (.tuple #[.int .i64 0, .int .i64 0, .int .i64 1200]) ∧ Later w w' := by
  unfold nbr at hp hx
  go_enter Try.func54, Try.ntmps54
  go_wp2_with (first | (go_at_call 55; refine (hp.out _).mono ?_; rintro e w2 ⟨rfl, h3⟩) | (go_at_call 56; refine (hr.out _).mono ?_; rintro e w3 ⟨rfl, hw⟩; obtain rfl : _ = w3 := hw.symm))
  go_ret3
  exact ⟨rfl, (by repeat first | exact h3 | apply La | apply Lv | apply Ld | apply Ln)⟩
/-- a part's bits below its last as a number with its sign -/
theorem sv_of (b : Int) (hb : 0 ≤ b ∧ b < 128) : IntKind.i8.wrap (b * 2) / 2 = if b < 64 then b else b - 128 := by
  have h : ∀ n : Nat, n < 128 → IntKind.i8.wrap ((n : Int) * 2) / 2 = if (n : Int) < 64 then (n : Int) else (n : Int) - 128 := by decide +kernel
  have := h b.toNat (by omega)
  rwa [Int.toNat_of_nonneg hb.1] at this
theorem sx_1 (l c : Int) (hl : 0 ≤ l ∧ l < 1) (hc : 0 ≤ c ∧ c < 128) : wrap64 (IntKind.u64.wrap ((l + c * 1) % 18446744073709551616 * 144115188075855872)) / 144115188075855872 = wrap64 (l + c * 1 + (if c < 64 then 0 else -1) * 128) := by
  rw [IntKind.wrap_u64]
  unfold wrap64
  split <;> omega
theorem sx_2 (l c : Int) (hl : 0 ≤ l ∧ l < 128) (hc : 0 ≤ c ∧ c < 128) : wrap64 (IntKind.u64.wrap ((l + c * 128) % 18446744073709551616 * 1125899906842624)) / 1125899906842624 = wrap64 (l + c * 128 + (if c < 64 then 0 else -1) * 16384) := by
  rw [IntKind.wrap_u64]
  unfold wrap64
  split <;> omega
theorem sx_3 (l c : Int) (hl : 0 ≤ l ∧ l < 16384) (hc : 0 ≤ c ∧ c < 128) : wrap64 (IntKind.u64.wrap ((l + c * 16384) % 18446744073709551616 * 8796093022208)) / 8796093022208 = wrap64 (l + c * 16384 + (if c < 64 then 0 else -1) * 2097152) := by
  rw [IntKind.wrap_u64]
  unfold wrap64
  split <;> omega
theorem sx_4 (l c : Int) (hl : 0 ≤ l ∧ l < 2097152) (hc : 0 ≤ c ∧ c < 128) : wrap64 (IntKind.u64.wrap ((l + c * 2097152) % 18446744073709551616 * 68719476736)) / 68719476736 = wrap64 (l + c * 2097152 + (if c < 64 then 0 else -1) * 268435456) := by
  rw [IntKind.wrap_u64]
  unfold wrap64
  split <;> omega
theorem sx_5 (l c : Int) (hl : 0 ≤ l ∧ l < 268435456) (hc : 0 ≤ c ∧ c < 128) : wrap64 (IntKind.u64.wrap ((l + c * 268435456) % 18446744073709551616 * 536870912)) / 536870912 = wrap64 (l + c * 268435456 + (if c < 64 then 0 else -1) * 34359738368) := by
  rw [IntKind.wrap_u64]
  unfold wrap64
  split <;> omega
theorem sx_6 (l c : Int) (hl : 0 ≤ l ∧ l < 34359738368) (hc : 0 ≤ c ∧ c < 128) : wrap64 (IntKind.u64.wrap ((l + c * 34359738368) % 18446744073709551616 * 4194304)) / 4194304 = wrap64 (l + c * 34359738368 + (if c < 64 then 0 else -1) * 4398046511104) := by
  rw [IntKind.wrap_u64]
  unfold wrap64
  split <;> omega
theorem sx_7 (l c : Int) (hl : 0 ≤ l ∧ l < 4398046511104) (hc : 0 ≤ c ∧ c < 128) : wrap64 (IntKind.u64.wrap ((l + c * 4398046511104) % 18446744073709551616 * 32768)) / 32768 = wrap64 (l + c * 4398046511104 + (if c < 64 then 0 else -1) * 562949953421312) := by
  rw [IntKind.wrap_u64]
  unfold wrap64
  split <;> omega
theorem sx_8 (l c : Int) (hl : 0 ≤ l ∧ l < 562949953421312) (hc : 0 ≤ c ∧ c < 128) : wrap64 (IntKind.u64.wrap ((l + c * 562949953421312) % 18446744073709551616 * 256)) / 256 = wrap64 (l + c * 562949953421312 + (if c < 64 then 0 else -1) * 72057594037927936) := by
  rw [IntKind.wrap_u64]
  unfold wrap64
  split <;> omega
theorem sx_9 (l c : Int) (hl : 0 ≤ l ∧ l < 72057594037927936) (hc : 0 ≤ c ∧ c < 128) : wrap64 (IntKind.u64.wrap ((l + c * 72057594037927936) % 18446744073709551616 * 2)) / 2 = wrap64 (l + c * 72057594037927936 + (if c < 64 then 0 else -1) * 9223372036854775808) := by
  rw [IntKind.wrap_u64]
  unfold wrap64
  split <;> omega
theorem sx_10 (l c : Int) (hl : 0 ≤ l ∧ l < 9223372036854775808) (hc : 0 ≤ c ∧ c < 128) : wrap64 (IntKind.u64.wrap ((l + c * 9223372036854775808) % 18446744073709551616 * 1)) / 1 = wrap64 (l + c * 9223372036854775808 + (if c < 64 then 0 else -1) * 1180591620717411303424) := by
  rw [IntKind.wrap_u64]
  unfold wrap64
  split <;> omega
theorem s3_1 (l c : Int) (hl : 0 ≤ l ∧ l < 1) (hc : 0 ≤ c ∧ c < 128) : wrap64 (l + c * 1 + (if c < 64 then 0 else -1) * 128) = sg3 (wrap64 (l + c * 1 + (if c < 64 then 0 else -1) * 128)) := by
  unfold sg3 wrap64
  split <;> split <;> omega
theorem s3_2 (l c : Int) (hl : 0 ≤ l ∧ l < 128) (hc : 0 ≤ c ∧ c < 128) : wrap64 (l + c * 128 + (if c < 64 then 0 else -1) * 16384) = sg3 (wrap64 (l + c * 128 + (if c < 64 then 0 else -1) * 16384)) := by
  unfold sg3 wrap64
  split <;> split <;> omega
theorem s3_3 (l c : Int) (hl : 0 ≤ l ∧ l < 16384) (hc : 0 ≤ c ∧ c < 128) : wrap64 (l + c * 16384 + (if c < 64 then 0 else -1) * 2097152) = sg3 (wrap64 (l + c * 16384 + (if c < 64 then 0 else -1) * 2097152)) := by
  unfold sg3 wrap64
  split <;> split <;> omega
theorem s3_4 (l c : Int) (hl : 0 ≤ l ∧ l < 2097152) (hc : 0 ≤ c ∧ c < 128) : wrap64 (l + c * 2097152 + (if c < 64 then 0 else -1) * 268435456) = sg3 (wrap64 (l + c * 2097152 + (if c < 64 then 0 else -1) * 268435456)) := by
  unfold sg3 wrap64
  split <;> split <;> omega
theorem s3_5 (l c : Int) (hl : 0 ≤ l ∧ l < 268435456) (hc : 0 ≤ c ∧ c < 128) (h8 : c / 8 = 0 ∨ c / 8 = 15) : wrap64 (l + c * 268435456 + (if c < 64 then 0 else -1) * 34359738368) = sg3 (wrap64 (l + c * 268435456 + (if c < 64 then 0 else -1) * 34359738368)) := by
  unfold sg3 wrap64
  split <;> split <;> omega
end Go.Proofs.Ytkdfmgdadnlnlab
