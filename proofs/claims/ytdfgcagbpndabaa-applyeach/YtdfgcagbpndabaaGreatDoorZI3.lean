/- Contracts of package i32n over this seat's translation: what Un and Bin make of every number. -/
import Derived.Test.YtdfgcagbpndabaaGreatDoorZL
import Derived.Test.YtdfgcagbpndabaaGreatDoorZI
set_option linter.unusedVariables false
set_option maxHeartbeats 4000000
namespace Go.Proofs.YtdfgcagbpndabaaGreatDoor.I3
open Go.RowKit
theorem flag_any (b : Bool) (w : World) :
    Calls Tryz.prog 88 #[.bool b] w fun e w' => e = .returned (.int .i64 (BM.flagI b)) ∧ w' = w := by
  cases b
  all_goals
    go_enter Tryz.func88, Tryz.ntmps88
    go_wp2
    go_ret
    exact ⟨rfl, rfl⟩
theorem sgn_any (x : Int) (w : World) :
    Calls Tryz.prog 47 #[.int .i64 x] w fun e w' => e = .returned (.int .i64 (BM.sg x)) ∧ w' = w := sign_any x w
theorem compare_any (op x y : Int) (h : 70 ≤ op ∧ op ≤ 79) (w : World) :
    Calls Tryz.prog 99 #[.int .i64 op, .int .i64 x, .int .i64 y] w fun e w' => e = .returned (.bool (BM.cmp32 op x y)) ∧ w' = w := by
  have hc : op = 70 ∨ op = 71 ∨ op = 72 ∨ op = 73 ∨ op = 74 ∨ op = 75 ∨ op = 76 ∨ op = 77 ∨ op = 78 ∨ op = 79 := by omega
  clear h
  rcases hc with rfl | rfl | rfl | rfl | rfl | rfl | rfl | rfl | rfl | rfl
  all_goals
    go_enter Tryz.func99, Tryz.ntmps99
    go_wp2_with (go_at_call 47; refine (sgn_any _ _).mono ?_; rintro e w' ⟨rfl, rfl⟩)
    go_ret
    exact ⟨rfl, rfl⟩
theorem combine_add (x y : Int) (w : World) :
    Calls Tryz.prog 102 #[.int .i64 106, .int .i64 x, .int .i64 y] w fun e w' => e = .returned (.int .i64 ((x + y) % 4294967296)) ∧ w' = w := by
  have H : Hid (∀ z : Int, wrap64 z % 4294967296 = z % 4294967296) := BM.wrap_mod32
  go_enter Tryz.func102, Tryz.ntmps102
  go_wp2_with (go_at_call 45; refine (low_any _ _).mono ?_; rintro e w' ⟨rfl, rfl⟩)
  go_ret
  exact ⟨ret_int (H.out _), rfl⟩
theorem combine_sub (x y : Int) (w : World) :
    Calls Tryz.prog 102 #[.int .i64 107, .int .i64 x, .int .i64 y] w fun e w' => e = .returned (.int .i64 ((x - y) % 4294967296)) ∧ w' = w := by
  have H : Hid (∀ z : Int, wrap64 z % 4294967296 = z % 4294967296) := BM.wrap_mod32
  go_enter Tryz.func102, Tryz.ntmps102
  go_wp2_with (go_at_call 45; refine (low_any _ _).mono ?_; rintro e w' ⟨rfl, rfl⟩)
  go_ret
  exact ⟨ret_int (H.out _), rfl⟩
theorem combine_mul (x y : Int) (w : World) :
    Calls Tryz.prog 102 #[.int .i64 108, .int .i64 x, .int .i64 y] w fun e w' => e = .returned (.int .i64 (x * y % 4294967296)) ∧ w' = w := by
  have H : Hid (∀ z : Int, wrap64 z % 4294967296 = z % 4294967296) := BM.wrap_mod32
  go_enter Tryz.func102, Tryz.ntmps102
  go_wp2_with (go_at_call 45; refine (low_any _ _).mono ?_; rintro e w' ⟨rfl, rfl⟩)
  go_ret
  exact ⟨ret_int (H.out _), rfl⟩
theorem combine_and (x y : Int) (w : World) :
    Calls Tryz.prog 102 #[.int .i64 113, .int .i64 x, .int .i64 y] w fun e w' => e = .returned (.int .i64 (bits .and .i64 x y)) ∧ w' = w := by
  go_enter Tryz.func102, Tryz.ntmps102
  go_wp2
  go_ret
  exact ⟨rfl, rfl⟩
theorem combine_or (x y : Int) (w : World) :
    Calls Tryz.prog 102 #[.int .i64 114, .int .i64 x, .int .i64 y] w fun e w' => e = .returned (.int .i64 (bits .or .i64 x y)) ∧ w' = w := by
  go_enter Tryz.func102, Tryz.ntmps102
  go_wp2
  go_ret
  exact ⟨rfl, rfl⟩
theorem combine_xor (x y : Int) (w : World) :
    Calls Tryz.prog 102 #[.int .i64 115, .int .i64 x, .int .i64 y] w fun e w' => e = .returned (.int .i64 (bits .xor .i64 x y)) ∧ w' = w := by
  go_enter Tryz.func102, Tryz.ntmps102
  go_wp2
  go_ret
  exact ⟨rfl, rfl⟩
theorem divs_zero (op s : Int) (w : World) :
    Calls Tryz.prog 100 #[.int .i64 op, .int .i64 s, .int .i64 0] w fun e w' => e = .returned (.tuple #[.int .i64 0, .int .i64 201]) ∧ w' = w := by
  go_enter Tryz.func100, Tryz.ntmps100
  go_wp2
  go_ret2
  exact ⟨rfl, rfl⟩
theorem divs_over (w : World) :
    Calls Tryz.prog 100 #[.int .i64 109, .int .i64 (-2147483648), .int .i64 (-1)] w fun e w' => e = .returned (.tuple #[.int .i64 0, .int .i64 202]) ∧ w' = w := by
  go_enter Tryz.func100, Tryz.ntmps100
  go_wp2
  go_ret2
  exact ⟨rfl, rfl⟩
theorem divs_rem (s t : Int) (ht : ¬ t = 0) (w : World) :
    Calls Tryz.prog 100 #[.int .i64 111, .int .i64 s, .int .i64 t] w fun e w' => e = .returned (.tuple #[.int .i64 (s.tmod t % 4294967296), .int .i64 0]) ∧ w' = w := by
  go_enter Tryz.func100, Tryz.ntmps100
  go_wp2_with (go_at_call 45; refine (low_any _ _).mono ?_; rintro e w' ⟨rfl, rfl⟩)
  go_ret2
  exact ⟨rfl, rfl⟩
theorem ret_two {a b c : Int} (h : a = b) : (Ending.returned (.tuple #[.int .i64 a, .int .i64 c]) : Ending) = .returned (.tuple #[.int .i64 b, .int .i64 c]) := by rw [h]
theorem divs_quo (s t : Int) (ht : ¬ t = 0) (h : ¬ s = -2147483648 ∨ ¬ t = -1) (w : World) :
    Calls Tryz.prog 100 #[.int .i64 109, .int .i64 s, .int .i64 t] w fun e w' => e = .returned (.tuple #[.int .i64 (s.tdiv t % 4294967296), .int .i64 0]) ∧ w' = w := by
  have H : Hid (∀ z : Int, wrap64 z % 4294967296 = z % 4294967296) := BM.wrap_mod32
  by_cases hs : s = -2147483648
  · have h2 : ¬ t = -1 := by rcases h with h | h; exact absurd hs h; exact h
    subst hs
    clear h
    have H2 : Hid (-Int.tdiv 2147483648 t = (-2147483648 : Int).tdiv t) := (Int.neg_tdiv 2147483648 t).symm
    go_enter Tryz.func100, Tryz.ntmps100
    go_wp2_with (go_at_call 45; refine (low_any _ _).mono ?_; rintro e w' ⟨rfl, rfl⟩)
    go_ret2
    exact ⟨ret_two (by first | exact H.out _ | rw [H.out, H2.out] | rfl), rfl⟩
  · clear h
    go_enter Tryz.func100, Tryz.ntmps100
    go_wp2_with (go_at_call 45; refine (low_any _ _).mono ?_; rintro e w' ⟨rfl, rfl⟩)
    go_ret2
    exact ⟨ret_two (by first | exact H.out _ | rw [H.out] | rfl), rfl⟩
theorem divu_zero (op s : Int) (w : World) :
    Calls Tryz.prog 101 #[.int .i64 op, .int .i64 s, .int .i64 0] w fun e w' => e = .returned (.tuple #[.int .i64 0, .int .i64 201]) ∧ w' = w := by
  go_enter Tryz.func101, Tryz.ntmps101
  go_wp2
  go_ret2
  exact ⟨rfl, rfl⟩
theorem divu_rem (s t : Int) (hs : 0 ≤ s ∧ s < 4294967296) (ht : 1 ≤ t ∧ t < 4294967296) (w : World) :
    Calls Tryz.prog 101 #[.int .i64 112, .int .i64 s, .int .i64 t] w fun e w' => e = .returned (.tuple #[.int .i64 (s % t), .int .i64 0]) ∧ w' = w := by
  go_enter Tryz.func101, Tryz.ntmps101
  go_wp2
  go_ret2
  exact ⟨rfl, rfl⟩
theorem divu_quo (s t : Int) (hs : 0 ≤ s ∧ s < 4294967296) (ht : 1 ≤ t ∧ t < 4294967296) (w : World) :
    Calls Tryz.prog 101 #[.int .i64 110, .int .i64 s, .int .i64 t] w fun e w' => e = .returned (.tuple #[.int .i64 (s / t), .int .i64 0]) ∧ w' = w := by
  go_enter Tryz.func101, Tryz.ntmps101
  go_wp2
  go_ret2
  exact ⟨rfl, rfl⟩
theorem shift_shl (x b : Int) (hx : 0 ≤ x ∧ x < 4294967296) (hb : 0 ≤ b ∧ b < 4294967296) (w : World) :
    Calls Tryz.prog 103 #[.int .i64 116, .int .i64 x, .int .i64 b] w fun e w' => e = .returned (.tuple #[.int .i64 (x * 2 ^ (b % 32).toNat % 4294967296), .int .i64 0]) ∧ w' = w := by
  have H : Hid (∀ z : Int, wrap64 z % 4294967296 = z % 4294967296) := BM.wrap_mod32
  go_enter Tryz.func103, Tryz.ntmps103
  go_wp2_with (go_at_call 45; refine (low_any _ _).mono ?_; rintro e w' ⟨rfl, rfl⟩)
  go_ret2
  exact ⟨ret_two (by first | exact H.out _ | rfl), rfl⟩
theorem shift_sar (x b : Int) (hx : 0 ≤ x ∧ x < 4294967296) (hb : 0 ≤ b ∧ b < 4294967296) (w : World) :
    Calls Tryz.prog 103 #[.int .i64 117, .int .i64 x, .int .i64 b] w fun e w' => e = .returned (.tuple #[.int .i64 (BM.sg x / 2 ^ (b % 32).toNat % 4294967296), .int .i64 0]) ∧ w' = w := by
  have H : Hid (∀ z : Int, wrap64 z % 4294967296 = z % 4294967296) := BM.wrap_mod32
  go_enter Tryz.func103, Tryz.ntmps103
  go_wp2_with (first | (go_at_call 47; refine (sgn_any _ _).mono ?_; rintro e w' ⟨rfl, rfl⟩) | (go_at_call 45; refine (low_any _ _).mono ?_; rintro e w' ⟨rfl, rfl⟩))
  go_ret2
  exact ⟨ret_two (by first | exact H.out _ | rfl), rfl⟩
theorem shift_shr (x b : Int) (hx : 0 ≤ x ∧ x < 4294967296) (hb : 0 ≤ b ∧ b < 4294967296) (w : World) :
    Calls Tryz.prog 103 #[.int .i64 118, .int .i64 x, .int .i64 b] w fun e w' => e = .returned (.tuple #[.int .i64 (x / 2 ^ (b % 32).toNat), .int .i64 0]) ∧ w' = w := by
  go_enter Tryz.func103, Tryz.ntmps103
  go_wp2
  go_ret2
  exact ⟨rfl, rfl⟩
theorem shift_rotl (x b : Int) (hx : 0 ≤ x ∧ x < 4294967296) (hb : 0 ≤ b ∧ b < 4294967296) (w : World) :
    Calls Tryz.prog 103 #[.int .i64 119, .int .i64 x, .int .i64 b] w fun e w' => e = .returned (.tuple #[.int .i64 (BM.rotl 32 x.toNat (b % 32).toNat), .int .i64 0]) ∧ w' = w := by
  have e1 : Hid ((x % 4294967296).toNat = x.toNat) := by show _ = _; omega
  have e2 : Hid ((b % 32 % 32).toNat = (b % 32).toNat) := by show _ = _; omega
  go_enter Tryz.func103, Tryz.ntmps103
  go_wp2_with (go_at_call 147; refine (rot_32 x (b % 32) _).mono ?_; rintro e w' ⟨rfl, rfl⟩; rw [e1.out, e2.out])
  go_ret2
  exact ⟨rfl, rfl⟩
theorem shift_rotr (x b : Int) (hx : 0 ≤ x ∧ x < 4294967296) (hb : 0 ≤ b ∧ b < 4294967296) (w : World) :
    Calls Tryz.prog 103 #[.int .i64 120, .int .i64 x, .int .i64 b] w fun e w' => e = .returned (.tuple #[.int .i64 (BM.rotl 32 x.toNat ((-b) % 32).toNat), .int .i64 0]) ∧ w' = w := by
  have e1 : Hid ((x % 4294967296).toNat = x.toNat) := by show _ = _; omega
  have e2 : Hid ((-(b % 32) % 32).toNat = ((-b) % 32).toNat) := by show _ = _; omega
  go_enter Tryz.func103, Tryz.ntmps103
  go_wp2_with (go_at_call 147; refine (rot_32 x (-(b % 32)) _).mono ?_; rintro e w' ⟨rfl, rfl⟩; rw [e1.out, e2.out])
  go_ret2
  exact ⟨rfl, rfl⟩
theorem low_in (x : Int) : 0 ≤ x % 4294967296 ∧ x % 4294967296 < 4294967296 := by omega
theorem bin_cmp (op a b : Int) (h : 70 ≤ op ∧ op ≤ 79) (w : World) :
    Calls Tryz.prog 61 #[.int .i64 op, .int .i64 a, .int .i64 b] w fun e w' => e = .returned (.tuple #[.int .i64 (BM.bin32 op a b).1, .int .i64 (BM.bin32 op a b).2]) ∧ w' = w := by
  rw [BM.b_cmp op a b h]
  have h1 := h.1
  have h2 := h.2
  go_enter Tryz.func61, Tryz.ntmps61
  go_wp2_with (first | (go_at_call 45; refine (low_any _ _).mono ?_; rintro e w' ⟨rfl, rfl⟩) | (go_at_call 99; refine (compare_any _ _ _ h _).mono ?_; rintro e w' ⟨rfl, rfl⟩) | (go_at_call 88; refine (flag_any _ _).mono ?_; rintro e w' ⟨rfl, rfl⟩))
  go_ret2
  exact ⟨rfl, rfl⟩
theorem bin_add (a b : Int) (w : World) :
    Calls Tryz.prog 61 #[.int .i64 106, .int .i64 a, .int .i64 b] w fun e w' => e = .returned (.tuple #[.int .i64 (BM.bin32 106 a b).1, .int .i64 (BM.bin32 106 a b).2]) ∧ w' = w := by
  rw [BM.b_add]
  go_enter Tryz.func61, Tryz.ntmps61
  go_wp2_with (first | (go_at_call 45; refine (low_any _ _).mono ?_; rintro e w' ⟨rfl, rfl⟩) | (go_at_call 102; refine (combine_add _ _ _).mono ?_; rintro e w' ⟨rfl, rfl⟩))
  go_ret2
  exact ⟨rfl, rfl⟩
theorem bin_sub (a b : Int) (w : World) :
    Calls Tryz.prog 61 #[.int .i64 107, .int .i64 a, .int .i64 b] w fun e w' => e = .returned (.tuple #[.int .i64 (BM.bin32 107 a b).1, .int .i64 (BM.bin32 107 a b).2]) ∧ w' = w := by
  rw [BM.b_sub]
  go_enter Tryz.func61, Tryz.ntmps61
  go_wp2_with (first | (go_at_call 45; refine (low_any _ _).mono ?_; rintro e w' ⟨rfl, rfl⟩) | (go_at_call 102; refine (combine_sub _ _ _).mono ?_; rintro e w' ⟨rfl, rfl⟩))
  go_ret2
  exact ⟨rfl, rfl⟩
theorem bin_mul (a b : Int) (w : World) :
    Calls Tryz.prog 61 #[.int .i64 108, .int .i64 a, .int .i64 b] w fun e w' => e = .returned (.tuple #[.int .i64 (BM.bin32 108 a b).1, .int .i64 (BM.bin32 108 a b).2]) ∧ w' = w := by
  go_enter Tryz.func61, Tryz.ntmps61
  go_wp2_with (first | (go_at_call 45; refine (low_any _ _).mono ?_; rintro e w' ⟨rfl, rfl⟩) | (go_at_call 102; refine (combine_mul _ _ _).mono ?_; rintro e w' ⟨rfl, rfl⟩))
  go_ret2
  exact ⟨rfl, rfl⟩
theorem bin_and (a b : Int) (w : World) :
    Calls Tryz.prog 61 #[.int .i64 113, .int .i64 a, .int .i64 b] w fun e w' => e = .returned (.tuple #[.int .i64 (BM.bin32 113 a b).1, .int .i64 (BM.bin32 113 a b).2]) ∧ w' = w := by
  have H := low_in a
  have H' := low_in b
  have E : Hid (∀ x y : Int, 0 ≤ x ∧ x < 4294967296 → 0 ≤ y ∧ y < 4294967296 → bits .and .i64 x y = ((x.toNat &&& y.toNat : Nat) : Int)) := fun x y h h' => BM.and_low x y h.1 h.2 h'.1 h'.2
  go_enter Tryz.func61, Tryz.ntmps61
  go_wp2_with (first | (go_at_call 45; refine (low_any _ _).mono ?_; rintro e w' ⟨rfl, rfl⟩) | (go_at_call 102; refine (combine_and _ _ _).mono ?_; rintro e w' ⟨rfl, rfl⟩; rw [E.out _ _ H H']))
  go_ret2
  exact ⟨rfl, rfl⟩
theorem bin_or (a b : Int) (w : World) :
    Calls Tryz.prog 61 #[.int .i64 114, .int .i64 a, .int .i64 b] w fun e w' => e = .returned (.tuple #[.int .i64 (BM.bin32 114 a b).1, .int .i64 (BM.bin32 114 a b).2]) ∧ w' = w := by
  have H := low_in a
  have H' := low_in b
  have E : Hid (∀ x y : Int, 0 ≤ x ∧ x < 4294967296 → 0 ≤ y ∧ y < 4294967296 → bits .or .i64 x y = ((x.toNat ||| y.toNat : Nat) : Int)) := fun x y h h' => BM.or_low x y h.1 h.2 h'.1 h'.2
  go_enter Tryz.func61, Tryz.ntmps61
  go_wp2_with (first | (go_at_call 45; refine (low_any _ _).mono ?_; rintro e w' ⟨rfl, rfl⟩) | (go_at_call 102; refine (combine_or _ _ _).mono ?_; rintro e w' ⟨rfl, rfl⟩; rw [E.out _ _ H H']))
  go_ret2
  exact ⟨rfl, rfl⟩
theorem bin_xor (a b : Int) (w : World) :
    Calls Tryz.prog 61 #[.int .i64 115, .int .i64 a, .int .i64 b] w fun e w' => e = .returned (.tuple #[.int .i64 (BM.bin32 115 a b).1, .int .i64 (BM.bin32 115 a b).2]) ∧ w' = w := by
  have H := low_in a
  have H' := low_in b
  have E : Hid (∀ x y : Int, 0 ≤ x ∧ x < 4294967296 → 0 ≤ y ∧ y < 4294967296 → bits .xor .i64 x y = ((x.toNat ^^^ y.toNat : Nat) : Int)) := fun x y h h' => BM.xor_low x y h.1 h.2 h'.1 h'.2
  go_enter Tryz.func61, Tryz.ntmps61
  go_wp2_with (first | (go_at_call 45; refine (low_any _ _).mono ?_; rintro e w' ⟨rfl, rfl⟩) | (go_at_call 102; refine (combine_xor _ _ _).mono ?_; rintro e w' ⟨rfl, rfl⟩; rw [E.out _ _ H H']))
  go_ret2
  exact ⟨rfl, rfl⟩
theorem bin_shl (a b : Int) (w : World) :
    Calls Tryz.prog 61 #[.int .i64 116, .int .i64 a, .int .i64 b] w fun e w' => e = .returned (.tuple #[.int .i64 (BM.bin32 116 a b).1, .int .i64 (BM.bin32 116 a b).2]) ∧ w' = w := by
  have H := low_in a
  have H' := low_in b
  have E1 : Hid (b % 4294967296 % 32 = b % 32) := by show _ = _; omega
  have E2 : Hid (-(b % 4294967296) % 32 = -b % 32) := by show _ = _; omega
  go_enter Tryz.func61, Tryz.ntmps61
  go_wp2_with (first | (go_at_call 45; refine (low_any _ _).mono ?_; rintro e w' ⟨rfl, rfl⟩) | (go_at_call 103; refine (shift_shl _ _ H H' _).mono ?_; rintro e w' ⟨rfl, rfl⟩; first | rw [E1.out] | rw [E2.out]))
  go_ret2
  exact ⟨ret_two rfl, rfl⟩
theorem bin_sar (a b : Int) (w : World) :
    Calls Tryz.prog 61 #[.int .i64 117, .int .i64 a, .int .i64 b] w fun e w' => e = .returned (.tuple #[.int .i64 (BM.bin32 117 a b).1, .int .i64 (BM.bin32 117 a b).2]) ∧ w' = w := by
  have H := low_in a
  have H' := low_in b
  have E1 : Hid (b % 4294967296 % 32 = b % 32) := by show _ = _; omega
  have E2 : Hid (-(b % 4294967296) % 32 = -b % 32) := by show _ = _; omega
  go_enter Tryz.func61, Tryz.ntmps61
  go_wp2_with (first | (go_at_call 45; refine (low_any _ _).mono ?_; rintro e w' ⟨rfl, rfl⟩) | (go_at_call 103; refine (shift_sar _ _ H H' _).mono ?_; rintro e w' ⟨rfl, rfl⟩; rw [E1.out, BM.sg_low]))
  go_ret2
  exact ⟨ret_two rfl, rfl⟩
theorem bin_shr (a b : Int) (w : World) :
    Calls Tryz.prog 61 #[.int .i64 118, .int .i64 a, .int .i64 b] w fun e w' => e = .returned (.tuple #[.int .i64 (BM.bin32 118 a b).1, .int .i64 (BM.bin32 118 a b).2]) ∧ w' = w := by
  have H := low_in a
  have H' := low_in b
  have E1 : Hid (b % 4294967296 % 32 = b % 32) := by show _ = _; omega
  have E2 : Hid (-(b % 4294967296) % 32 = -b % 32) := by show _ = _; omega
  go_enter Tryz.func61, Tryz.ntmps61
  go_wp2_with (first | (go_at_call 45; refine (low_any _ _).mono ?_; rintro e w' ⟨rfl, rfl⟩) | (go_at_call 103; refine (shift_shr _ _ H H' _).mono ?_; rintro e w' ⟨rfl, rfl⟩; first | rw [E1.out] | rw [E2.out]))
  go_ret2
  exact ⟨ret_two rfl, rfl⟩
theorem bin_rotl (a b : Int) (w : World) :
    Calls Tryz.prog 61 #[.int .i64 119, .int .i64 a, .int .i64 b] w fun e w' => e = .returned (.tuple #[.int .i64 (BM.bin32 119 a b).1, .int .i64 (BM.bin32 119 a b).2]) ∧ w' = w := by
  have H := low_in a
  have H' := low_in b
  have E1 : Hid (b % 4294967296 % 32 = b % 32) := by show _ = _; omega
  have E2 : Hid (-(b % 4294967296) % 32 = -b % 32) := by show _ = _; omega
  go_enter Tryz.func61, Tryz.ntmps61
  go_wp2_with (first | (go_at_call 45; refine (low_any _ _).mono ?_; rintro e w' ⟨rfl, rfl⟩) | (go_at_call 103; refine (shift_rotl _ _ H H' _).mono ?_; rintro e w' ⟨rfl, rfl⟩; first | rw [E1.out] | rw [E2.out]))
  go_ret2
  exact ⟨ret_two rfl, rfl⟩
theorem bin_rotr (a b : Int) (w : World) :
    Calls Tryz.prog 61 #[.int .i64 120, .int .i64 a, .int .i64 b] w fun e w' => e = .returned (.tuple #[.int .i64 (BM.bin32 120 a b).1, .int .i64 (BM.bin32 120 a b).2]) ∧ w' = w := by
  have H := low_in a
  have H' := low_in b
  have E1 : Hid (b % 4294967296 % 32 = b % 32) := by show _ = _; omega
  have E2 : Hid (-(b % 4294967296) % 32 = -b % 32) := by show _ = _; omega
  go_enter Tryz.func61, Tryz.ntmps61
  go_wp2_with (first | (go_at_call 45; refine (low_any _ _).mono ?_; rintro e w' ⟨rfl, rfl⟩) | (go_at_call 103; refine (shift_rotr _ _ H H' _).mono ?_; rintro e w' ⟨rfl, rfl⟩; first | rw [E1.out] | rw [E2.out]))
  go_ret2
  exact ⟨ret_two rfl, rfl⟩
theorem bin_divs0 (op a b : Int) (hop : op = 109 ∨ op = 111) (h : b % 4294967296 = 0) (w : World) :
    Calls Tryz.prog 61 #[.int .i64 op, .int .i64 a, .int .i64 b] w fun e w' => e = .returned (.tuple #[.int .i64 0, .int .i64 201]) ∧ w' = w := by
  have H : Hid (BM.sg b = 0) := (BM.sg_zero b).2 h
  have h' : Hid (b % 4294967296 = 0) := h
  clear h
  rcases hop with rfl | rfl
  all_goals
    go_enter Tryz.func61, Tryz.ntmps61
    go_wp2_with (first | (go_at_call 45; refine (low_any _ _).mono ?_; rintro e w' ⟨rfl, rfl⟩) | (go_at_call 47; refine (sgn_any _ _).mono ?_; rintro e w' ⟨rfl, rfl⟩; rw [BM.sg_low]) | (go_at_call 100; rw [H.out]; refine (divs_zero _ _ _).mono ?_; rintro e w' ⟨rfl, rfl⟩))
    go_ret2
    exact ⟨rfl, rfl⟩
theorem bin_divu0 (op a b : Int) (hop : op = 110 ∨ op = 112) (h : b % 4294967296 = 0) (w : World) :
    Calls Tryz.prog 61 #[.int .i64 op, .int .i64 a, .int .i64 b] w fun e w' => e = .returned (.tuple #[.int .i64 0, .int .i64 201]) ∧ w' = w := by
  have h' : Hid (b % 4294967296 = 0) := h
  clear h
  rcases hop with rfl | rfl
  all_goals
    go_enter Tryz.func61, Tryz.ntmps61
    go_wp2_with (first | (go_at_call 45; refine (low_any _ _).mono ?_; rintro e w' ⟨rfl, rfl⟩) | (go_at_call 101; rw [h'.out]; refine (divu_zero _ _ _).mono ?_; rintro e w' ⟨rfl, rfl⟩))
    go_ret2
    exact ⟨rfl, rfl⟩
theorem bin_over (a b : Int) (h1 : BM.sg a = -2147483648) (h2 : BM.sg b = -1) (w : World) :
    Calls Tryz.prog 61 #[.int .i64 109, .int .i64 a, .int .i64 b] w fun e w' => e = .returned (.tuple #[.int .i64 0, .int .i64 202]) ∧ w' = w := by
  have H1 : Hid (BM.sg a = -2147483648) := h1
  have H2 : Hid (BM.sg b = -1) := h2
  clear h1 h2
  go_enter Tryz.func61, Tryz.ntmps61
  go_wp2_with (first | (go_at_call 45; refine (low_any _ _).mono ?_; rintro e w' ⟨rfl, rfl⟩) | (go_at_call 47; refine (sgn_any _ _).mono ?_; rintro e w' ⟨rfl, rfl⟩; rw [BM.sg_low]) | (go_at_call 100; rw [H1.out, H2.out]; refine (divs_over _).mono ?_; rintro e w' ⟨rfl, rfl⟩))
  go_ret2
  exact ⟨rfl, rfl⟩
theorem bin_quos (a b : Int) (h1 : ¬ BM.sg b = 0) (h2 : ¬ BM.sg a = -2147483648 ∨ ¬ BM.sg b = -1) (w : World) :
    Calls Tryz.prog 61 #[.int .i64 109, .int .i64 a, .int .i64 b] w fun e w' => e = .returned (.tuple #[.int .i64 ((BM.sg a).tdiv (BM.sg b) % 4294967296), .int .i64 0]) ∧ w' = w := by
  have H1 : Hid (¬ BM.sg b = 0) := h1
  have H2 : Hid (¬ BM.sg a = -2147483648 ∨ ¬ BM.sg b = -1) := h2
  clear h1 h2
  go_enter Tryz.func61, Tryz.ntmps61
  go_wp2_with (first | (go_at_call 45; refine (low_any _ _).mono ?_; rintro e w' ⟨rfl, rfl⟩) | (go_at_call 47; refine (sgn_any _ _).mono ?_; rintro e w' ⟨rfl, rfl⟩; rw [BM.sg_low]) | (go_at_call 100; refine (divs_quo _ _ H1.out H2.out _).mono ?_; rintro e w' ⟨rfl, rfl⟩))
  go_ret2
  exact ⟨rfl, rfl⟩
theorem bin_rems (a b : Int) (h1 : ¬ BM.sg b = 0) (w : World) :
    Calls Tryz.prog 61 #[.int .i64 111, .int .i64 a, .int .i64 b] w fun e w' => e = .returned (.tuple #[.int .i64 ((BM.sg a).tmod (BM.sg b) % 4294967296), .int .i64 0]) ∧ w' = w := by
  have H1 : Hid (¬ BM.sg b = 0) := h1
  clear h1
  go_enter Tryz.func61, Tryz.ntmps61
  go_wp2_with (first | (go_at_call 45; refine (low_any _ _).mono ?_; rintro e w' ⟨rfl, rfl⟩) | (go_at_call 47; refine (sgn_any _ _).mono ?_; rintro e w' ⟨rfl, rfl⟩; rw [BM.sg_low]) | (go_at_call 100; refine (divs_rem _ _ H1.out _).mono ?_; rintro e w' ⟨rfl, rfl⟩))
  go_ret2
  exact ⟨rfl, rfl⟩
theorem bin_quou (a b : Int) (h1 : ¬ b % 4294967296 = 0) (w : World) :
    Calls Tryz.prog 61 #[.int .i64 110, .int .i64 a, .int .i64 b] w fun e w' => e = .returned (.tuple #[.int .i64 (a % 4294967296 / (b % 4294967296)), .int .i64 0]) ∧ w' = w := by
  have H := low_in a
  have H' : 1 ≤ b % 4294967296 ∧ b % 4294967296 < 4294967296 := by omega
  go_enter Tryz.func61, Tryz.ntmps61
  go_wp2_with (first | (go_at_call 45; refine (low_any _ _).mono ?_; rintro e w' ⟨rfl, rfl⟩) | (go_at_call 101; refine (divu_quo _ _ H H' _).mono ?_; rintro e w' ⟨rfl, rfl⟩))
  go_ret2
  exact ⟨rfl, rfl⟩
theorem bin_remu (a b : Int) (h1 : ¬ b % 4294967296 = 0) (w : World) :
    Calls Tryz.prog 61 #[.int .i64 112, .int .i64 a, .int .i64 b] w fun e w' => e = .returned (.tuple #[.int .i64 (a % 4294967296 % (b % 4294967296)), .int .i64 0]) ∧ w' = w := by
  have H := low_in a
  have H' : 1 ≤ b % 4294967296 ∧ b % 4294967296 < 4294967296 := by omega
  go_enter Tryz.func61, Tryz.ntmps61
  go_wp2_with (first | (go_at_call 45; refine (low_any _ _).mono ?_; rintro e w' ⟨rfl, rfl⟩) | (go_at_call 101; refine (divu_rem _ _ H H' _).mono ?_; rintro e w' ⟨rfl, rfl⟩))
  go_ret2
  exact ⟨rfl, rfl⟩
theorem bin_bad (op a b : Int) (h : op < 70 ∨ (79 < op ∧ op < 106) ∨ 120 < op) (w : World) :
    Calls Tryz.prog 61 #[.int .i64 op, .int .i64 a, .int .i64 b] w fun e w' => e = .returned (.tuple #[.int .i64 0, .int .i64 200]) ∧ w' = w := by
  have e1 : (op == 109) = false := by simp; omega
  have e2 : (op == 111) = false := by simp; omega
  have e3 : (op == 110) = false := by simp; omega
  have e4 : (op == 112) = false := by simp; omega
  rcases h with h | ⟨h, h'⟩ | h
  all_goals
    go_enter Tryz.func61, Tryz.ntmps61
    go_wp2_with (go_at_call 45; refine (low_any _ _).mono ?_; rintro e w' ⟨rfl, rfl⟩)
    go_ret2
    exact ⟨rfl, rfl⟩
theorem bin_any (op a b : Int) (w : World) :
    Calls Tryz.prog 61 #[.int .i64 op, .int .i64 a, .int .i64 b] w fun e w' => e = .returned (.tuple #[.int .i64 (BM.bin32 op a b).1, .int .i64 (BM.bin32 op a b).2]) ∧ w' = w := by
  by_cases hc : 70 ≤ op ∧ op ≤ 79
  · exact bin_cmp op a b hc w
  by_cases hi : 106 ≤ op ∧ op ≤ 120
  · have hs : op = 106 ∨ op = 107 ∨ op = 108 ∨ op = 109 ∨ op = 110 ∨ op = 111 ∨ op = 112 ∨ op = 113 ∨ op = 114 ∨ op = 115 ∨ op = 116 ∨ op = 117 ∨ op = 118 ∨ op = 119 ∨ op = 120 := by omega
    have hz := BM.sg_zero b
    rcases hs with rfl | rfl | rfl | rfl | rfl | rfl | rfl | rfl | rfl | rfl | rfl | rfl | rfl | rfl | rfl
    · exact bin_add a b w
    · exact bin_sub a b w
    · exact bin_mul a b w
    · by_cases h0 : b % 4294967296 = 0
      · rw [(BM.b_div0 a b h0).1]; exact bin_divs0 _ a b (Or.inl rfl) h0 w
      · by_cases ho : BM.sg a = -2147483648 ∧ BM.sg b = -1
        · rw [BM.b_over a b h0 ho]; exact bin_over a b ho.1 ho.2 w
        · rw [BM.b_divs a b h0 ho]; exact bin_quos a b (fun h => h0 (hz.1 h)) (by omega) w
    · by_cases h0 : b % 4294967296 = 0
      · rw [(BM.b_div0 a b h0).2.1]; exact bin_divu0 _ a b (Or.inl rfl) h0 w
      · rw [BM.b_divu a b h0]; exact bin_quou a b h0 w
    · by_cases h0 : b % 4294967296 = 0
      · rw [(BM.b_div0 a b h0).2.2.1]; exact bin_divs0 _ a b (Or.inr rfl) h0 w
      · rw [BM.b_rems a b h0]; exact bin_rems a b (fun h => h0 (hz.1 h)) w
    · by_cases h0 : b % 4294967296 = 0
      · rw [(BM.b_div0 a b h0).2.2.2]; exact bin_divu0 _ a b (Or.inr rfl) h0 w
      · rw [BM.b_remu a b h0]; exact bin_remu a b h0 w
    · exact bin_and a b w
    · exact bin_or a b w
    · exact bin_xor a b w
    · exact bin_shl a b w
    · exact bin_sar a b w
    · exact bin_shr a b w
    · exact bin_rotl a b w
    · exact bin_rotr a b w
  · rw [BM.b_bad op a b (by omega)]; exact bin_bad op a b (by omega) w
theorem un_eqz (a : Int) (w : World) :
    Calls Tryz.prog 57 #[.int .i64 69, .int .i64 a] w fun e w' => e = .returned (.tuple #[.int .i64 (BM.flagI (a % 4294967296 == 0)), .int .i64 0]) ∧ w' = w := by
  go_enter Tryz.func57, Tryz.ntmps57
  go_wp2_with (first | (go_at_call 45; refine (low_any _ _).mono ?_; rintro e w' ⟨rfl, rfl⟩) | (go_at_call 88; refine (flag_any _ _).mono ?_; rintro e w' ⟨rfl, rfl⟩))
  go_ret2
  exact ⟨rfl, rfl⟩
theorem un_clz (a : Int) (w : World) :
    Calls Tryz.prog 57 #[.int .i64 103, .int .i64 a] w fun e w' => e = .returned (.tuple #[.int .i64 (32 - (Lib.bitLen (a % 4294967296).toNat : Int)), .int .i64 0]) ∧ w' = w := by
  go_enter Tryz.func57, Tryz.ntmps57
  go_wp2_with (go_at_call 89; refine (clz_32 _ _).mono ?_; rintro e w' ⟨rfl, rfl⟩)
  go_ret2
  exact ⟨rfl, rfl⟩
theorem un_ctz (a : Int) (w : World) (hT : Tab 1 Lib.deBruijn32tab w) :
    Calls Tryz.prog 57 #[.int .i64 104, .int .i64 a] w fun e w' => e = .returned (.tuple #[.int .i64 (Lib.ctz 32 (a % 4294967296).toNat), .int .i64 0]) ∧ w' = w := by
  have C : Hid (Tab 1 Lib.deBruijn32tab w) := hT
  clear hT
  go_enter Tryz.func57, Tryz.ntmps57
  go_wp2_with (go_at_call 90; refine (ctz_32 _ _ C.out).mono ?_; rintro e w' ⟨rfl, rfl⟩)
  go_ret2
  exact ⟨rfl, rfl⟩
theorem un_pop (a : Int) (w : World) :
    Calls Tryz.prog 57 #[.int .i64 105, .int .i64 a] w fun e w' => e = .returned (.tuple #[.int .i64 (Lib.popAux 32 (a % 4294967296).toNat), .int .i64 0]) ∧ ∃ n, w' = w.drewN n := by
  go_enter Tryz.func57, Tryz.ntmps57
  go_wp2_with (go_at_call 91; refine (pop_32 _ _).mono ?_; rintro e w' ⟨rfl, n, rfl⟩)
  go_ret2
  exact ⟨rfl, _, rfl⟩
theorem un_bad (op a : Int) (h1 : (op == 69) = false) (h2 : (op == 103) = false) (h3 : (op == 104) = false) (h4 : (op == 105) = false) (w : World) :
    Calls Tryz.prog 57 #[.int .i64 op, .int .i64 a] w fun e w' => e = .returned (.tuple #[.int .i64 0, .int .i64 200]) ∧ w' = w := by
  go_enter Tryz.func57, Tryz.ntmps57
  go_wp2
  go_ret2
  exact ⟨rfl, rfl⟩
theorem un_any (op a : Int) (w : World) (hT : Tab 1 Lib.deBruijn32tab w) :
    Calls Tryz.prog 57 #[.int .i64 op, .int .i64 a] w fun e w' => e = .returned (.tuple #[.int .i64 (BM.un32 op a).1, .int .i64 (BM.un32 op a).2]) ∧ ∃ n, w' = w.drewN n := by
  by_cases h1 : op = 69
  · subst h1; exact (un_eqz a w).mono (fun e w' h => ⟨h.1, 0, h.2⟩)
  by_cases h2 : op = 103
  · subst h2; exact (un_clz a w).mono (fun e w' h => ⟨h.1, 0, h.2⟩)
  by_cases h3 : op = 104
  · subst h3; exact (un_ctz a w hT).mono (fun e w' h => ⟨h.1, 0, h.2⟩)
  by_cases h4 : op = 105
  · subst h4; exact un_pop a w
  · rw [BM.u_bad op a h1 h2 h3 h4]
    exact (un_bad op a (by simpa using h1) (by simpa using h2) (by simpa using h3) (by simpa using h4) w).mono (fun e w' h => ⟨h.1, 0, h.2⟩)
end Go.Proofs.YtdfgcagbpndabaaGreatDoor.I3
