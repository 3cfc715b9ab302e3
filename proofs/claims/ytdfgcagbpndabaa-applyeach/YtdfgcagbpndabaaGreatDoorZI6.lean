/- Contracts of package i64n over this seat's translation: what Un and Bin make of every number. -/
import Derived.Test.YtdfgcagbpndabaaGreatDoorZL
import Derived.Test.YtdfgcagbpndabaaGreatDoorZI
set_option linter.unusedVariables false
set_option maxHeartbeats 4000000
namespace Go.Proofs.YtdfgcagbpndabaaGreatDoor.I6
open Go.RowKit
theorem ret_two {a b c : Int} (h : a = b) : (Ending.returned (.tuple #[.int .i64 a, .int .i64 c]) : Ending) = .returned (.tuple #[.int .i64 b, .int .i64 c]) := by rw [h]
theorem ret_bool {a b : Bool} (h : a = b) : (Ending.returned (.bool a) : Ending) = .returned (.bool b) := by rw [h]
theorem flag_any (b : Bool) (w : World) :
    Calls Tryz.prog 92 #[.bool b] w fun e w' => e = .returned (.int .i64 (BM.flagI b)) ∧ w' = w := by
  cases b
  all_goals
    go_enter Tryz.func92, Tryz.ntmps92
    go_wp2
    go_ret
    exact ⟨rfl, rfl⟩
theorem not_below (x y : Int) : (!decide (IntKind.u64.wrap y < IntKind.u64.wrap x)) = decide (BM.uu x ≤ BM.uu y) := by
  show (!decide (BM.uu y < BM.uu x)) = _
  rw [Bool.eq_iff_iff]; simp
theorem compare_any (op x y : Int) (h : 81 ≤ op ∧ op ≤ 90) (w : World) :
    Calls Tryz.prog 104 #[.int .i64 op, .int .i64 x, .int .i64 y] w fun e w' => e = .returned (.bool (BM.cmp64 op x y)) ∧ w' = w := by
  have hc : op = 81 ∨ op = 82 ∨ op = 83 ∨ op = 84 ∨ op = 85 ∨ op = 86 ∨ op = 87 ∨ op = 88 ∨ op = 89 ∨ op = 90 := by omega
  have H : Hid (∀ x y : Int, (!decide (IntKind.u64.wrap y < IntKind.u64.wrap x)) = decide (BM.uu x ≤ BM.uu y)) := not_below
  clear h
  rcases hc with rfl | rfl | rfl | rfl | rfl | rfl | rfl | rfl | rfl | rfl
  all_goals
    go_enter Tryz.func104, Tryz.ntmps104
    go_wp2_with (go_at_call 148; refine (below_any _ _ _).mono ?_; rintro e w' ⟨rfl, rfl⟩)
    go_ret
    exact ⟨by first | rfl | exact ret_bool (H.out _ _), rfl⟩
theorem combine_add (x y : Int) (w : World) :
    Calls Tryz.prog 107 #[.int .i64 124, .int .i64 x, .int .i64 y] w fun e w' => e = .returned (.int .i64 (wrap64 (x + y))) ∧ w' = w := by
  go_enter Tryz.func107, Tryz.ntmps107
  go_wp2
  go_ret
  exact ⟨rfl, rfl⟩
theorem combine_sub (x y : Int) (w : World) :
    Calls Tryz.prog 107 #[.int .i64 125, .int .i64 x, .int .i64 y] w fun e w' => e = .returned (.int .i64 (wrap64 (x - y))) ∧ w' = w := by
  go_enter Tryz.func107, Tryz.ntmps107
  go_wp2
  go_ret
  exact ⟨rfl, rfl⟩
theorem combine_mul (x y : Int) (w : World) :
    Calls Tryz.prog 107 #[.int .i64 126, .int .i64 x, .int .i64 y] w fun e w' => e = .returned (.int .i64 (wrap64 (x * y))) ∧ w' = w := by
  go_enter Tryz.func107, Tryz.ntmps107
  go_wp2
  go_ret
  exact ⟨rfl, rfl⟩
theorem combine_and (x y : Int) (w : World) :
    Calls Tryz.prog 107 #[.int .i64 131, .int .i64 x, .int .i64 y] w fun e w' => e = .returned (.int .i64 (bits .and .i64 x y)) ∧ w' = w := by
  go_enter Tryz.func107, Tryz.ntmps107
  go_wp2
  go_ret
  exact ⟨rfl, rfl⟩
theorem combine_or (x y : Int) (w : World) :
    Calls Tryz.prog 107 #[.int .i64 132, .int .i64 x, .int .i64 y] w fun e w' => e = .returned (.int .i64 (bits .or .i64 x y)) ∧ w' = w := by
  go_enter Tryz.func107, Tryz.ntmps107
  go_wp2
  go_ret
  exact ⟨rfl, rfl⟩
theorem combine_xor (x y : Int) (w : World) :
    Calls Tryz.prog 107 #[.int .i64 133, .int .i64 x, .int .i64 y] w fun e w' => e = .returned (.int .i64 (bits .xor .i64 x y)) ∧ w' = w := by
  go_enter Tryz.func107, Tryz.ntmps107
  go_wp2
  go_ret
  exact ⟨rfl, rfl⟩
theorem divs_zero (op s : Int) (w : World) :
    Calls Tryz.prog 105 #[.int .i64 op, .int .i64 s, .int .i64 0] w fun e w' => e = .returned (.tuple #[.int .i64 0, .int .i64 301]) ∧ w' = w := by
  go_enter Tryz.func105, Tryz.ntmps105
  go_wp2
  go_ret2
  exact ⟨rfl, rfl⟩
theorem divs_over (w : World) :
    Calls Tryz.prog 105 #[.int .i64 127, .int .i64 (-9223372036854775808), .int .i64 (-1)] w fun e w' => e = .returned (.tuple #[.int .i64 0, .int .i64 302]) ∧ w' = w := by
  go_enter Tryz.func105, Tryz.ntmps105
  go_wp2
  go_ret2
  exact ⟨rfl, rfl⟩
theorem divs_rem (s t : Int) (ht : ¬ t = 0) (w : World) :
    Calls Tryz.prog 105 #[.int .i64 129, .int .i64 s, .int .i64 t] w fun e w' => e = .returned (.tuple #[.int .i64 (s.tmod t), .int .i64 0]) ∧ w' = w := by
  go_enter Tryz.func105, Tryz.ntmps105
  go_wp2
  go_ret2
  exact ⟨rfl, rfl⟩
theorem divs_quo (s t : Int) (ht : ¬ t = 0) (h : ¬ s = -9223372036854775808 ∨ ¬ t = -1) (w : World) :
    Calls Tryz.prog 105 #[.int .i64 127, .int .i64 s, .int .i64 t] w fun e w' => e = .returned (.tuple #[.int .i64 (wrap64 (s.tdiv t)), .int .i64 0]) ∧ w' = w := by
  by_cases hs : s = -9223372036854775808
  · have h2 : ¬ t = -1 := by rcases h with h | h; exact absurd hs h; exact h
    subst hs
    clear h
    have H2 : Hid (-Int.tdiv 9223372036854775808 t = (-9223372036854775808 : Int).tdiv t) := (Int.neg_tdiv 9223372036854775808 t).symm
    go_enter Tryz.func105, Tryz.ntmps105
    go_wp2
    go_ret2
    exact ⟨ret_two (by first | rfl | rw [H2.out]), rfl⟩
  · clear h
    go_enter Tryz.func105, Tryz.ntmps105
    go_wp2
    go_ret2
    exact ⟨ret_two rfl, rfl⟩
theorem divu_zero (op s : Int) (w : World) :
    Calls Tryz.prog 106 #[.int .i64 op, .int .i64 s, .int .i64 0] w fun e w' => e = .returned (.tuple #[.int .i64 0, .int .i64 301]) ∧ w' = w := by
  go_enter Tryz.func106, Tryz.ntmps106
  go_wp2
  go_ret2
  exact ⟨rfl, rfl⟩
theorem uquo_is (a b : Int) (hb : 1 ≤ BM.uu b) : uquo a b = wrap64 (BM.uu a / BM.uu b) := by
  have h := BM.uu_in a
  unfold uquo
  show wrap64 (IntKind.u64.wrap ((BM.uu a).tdiv (BM.uu b))) = _
  rw [Int.tdiv_eq_ediv_of_nonneg h.1, IntKind.wrap_u64]
  exact BM.wrap_congr _ _ (by generalize BM.uu a / BM.uu b = z; omega)
theorem divu_quo (s t : Int) (ht : (t == 0) = false) (hu : 1 ≤ IntKind.u64.wrap t) (w : World) :
    Calls Tryz.prog 106 #[.int .i64 128, .int .i64 s, .int .i64 t] w fun e w' => e = .returned (.tuple #[.int .i64 (uquo s t), .int .i64 0]) ∧ ∃ n, w' = w.drewN n := by
  have hs := (u64_pos s).1
  go_enter Tryz.func106, Tryz.ntmps106
  go_wp2_with (go_at_call 149; refine (div_some _ _ _ ht hs hu).mono ?_; rintro e w' ⟨rfl, n, rfl⟩)
  go_ret2
  exact ⟨rfl, _, rfl⟩
theorem divu_rem (s t : Int) (ht : (t == 0) = false) (hu : 1 ≤ IntKind.u64.wrap t) (w : World) :
    Calls Tryz.prog 106 #[.int .i64 130, .int .i64 s, .int .i64 t] w fun e w' => e = .returned (.tuple #[.int .i64 (urem s t), .int .i64 0]) ∧ ∃ n, w' = w.drewN n := by
  have hs := (u64_pos s).1
  go_enter Tryz.func106, Tryz.ntmps106
  go_wp2_with (go_at_call 149; refine (div_some _ _ _ ht hs hu).mono ?_; rintro e w' ⟨rfl, n, rfl⟩)
  go_ret2
  exact ⟨rfl, _, rfl⟩
theorem shift_shl (x b : Int) (w : World) :
    Calls Tryz.prog 108 #[.int .i64 134, .int .i64 x, .int .i64 b] w fun e w' => e = .returned (.tuple #[.int .i64 (wrap64 (x * 2 ^ (b % 64).toNat)), .int .i64 0]) ∧ w' = w := by
  have hb := BM.and63 b
  go_enter Tryz.func108, Tryz.ntmps108
  go_wp2
  go_ret2
  exact ⟨ret_two rfl, rfl⟩
theorem shift_sar (x b : Int) (w : World) :
    Calls Tryz.prog 108 #[.int .i64 135, .int .i64 x, .int .i64 b] w fun e w' => e = .returned (.tuple #[.int .i64 (x / 2 ^ (b % 64).toNat), .int .i64 0]) ∧ w' = w := by
  have hb := BM.and63 b
  go_enter Tryz.func108, Tryz.ntmps108
  go_wp2
  go_ret2
  exact ⟨ret_two rfl, rfl⟩
theorem shift_shr (x b : Int) (w : World) :
    Calls Tryz.prog 108 #[.int .i64 136, .int .i64 x, .int .i64 b] w fun e w' => e = .returned (.tuple #[.int .i64 (wrap64 (BM.uu x / 2 ^ (b % 64).toNat)), .int .i64 0]) ∧ w' = w := by
  have hb := BM.and63 b
  go_enter Tryz.func108, Tryz.ntmps108
  go_wp2
  go_ret2
  exact ⟨ret_two rfl, rfl⟩
theorem shift_rotl (x b : Int) (w : World) :
    Calls Tryz.prog 108 #[.int .i64 137, .int .i64 x, .int .i64 b] w fun e w' => e = .returned (.tuple #[.int .i64 (wrap64 (BM.rotl 64 (BM.uu x).toNat (b % 64).toNat : Nat)), .int .i64 0]) ∧ w' = w := by
  have hb := BM.and63 b
  have e2 : Hid ((b % 64 % 64).toNat = (b % 64).toNat) := by show _ = _; omega
  go_enter Tryz.func108, Tryz.ntmps108
  go_wp2_with (go_at_call 147; refine (rot_64 x (b % 64) _).mono ?_; rintro e w' ⟨rfl, rfl⟩; rw [e2.out])
  go_ret2
  exact ⟨rfl, rfl⟩
theorem shift_rotr (x b : Int) (w : World) :
    Calls Tryz.prog 108 #[.int .i64 138, .int .i64 x, .int .i64 b] w fun e w' => e = .returned (.tuple #[.int .i64 (wrap64 (BM.rotl 64 (BM.uu x).toNat ((-b) % 64).toNat : Nat)), .int .i64 0]) ∧ w' = w := by
  have hb := BM.and63 b
  have e2 : Hid ((-(b % 64) % 64).toNat = ((-b) % 64).toNat) := by show _ = _; omega
  go_enter Tryz.func108, Tryz.ntmps108
  go_wp2_with (go_at_call 147; refine (rot_64 x (-(b % 64)) _).mono ?_; rintro e w' ⟨rfl, rfl⟩; rw [e2.out])
  go_ret2
  exact ⟨rfl, rfl⟩
theorem bin_cmp (op a b : Int) (h : 81 ≤ op ∧ op ≤ 90) (w : World) :
    Calls Tryz.prog 62 #[.int .i64 op, .int .i64 a, .int .i64 b] w fun e w' => e = .returned (.tuple #[.int .i64 (BM.bin64 op a b).1, .int .i64 (BM.bin64 op a b).2]) ∧ w' = w := by
  rw [BM.c_cmp op a b h]
  have h1 := h.1
  have h2 := h.2
  go_enter Tryz.func62, Tryz.ntmps62
  go_wp2_with (first | (go_at_call 104; refine (compare_any _ _ _ h _).mono ?_; rintro e w' ⟨rfl, rfl⟩) | (go_at_call 92; refine (flag_any _ _).mono ?_; rintro e w' ⟨rfl, rfl⟩))
  go_ret2
  exact ⟨rfl, rfl⟩
theorem bin_add (a b : Int) (w : World) :
    Calls Tryz.prog 62 #[.int .i64 124, .int .i64 a, .int .i64 b] w fun e w' => e = .returned (.tuple #[.int .i64 (BM.bin64 124 a b).1, .int .i64 (BM.bin64 124 a b).2]) ∧ w' = w := by
  rw [BM.c_add]
  go_enter Tryz.func62, Tryz.ntmps62
  go_wp2_with (go_at_call 107; refine (combine_add _ _ _).mono ?_; rintro e w' ⟨rfl, rfl⟩)
  go_ret2
  exact ⟨rfl, rfl⟩
theorem bin_sub (a b : Int) (w : World) :
    Calls Tryz.prog 62 #[.int .i64 125, .int .i64 a, .int .i64 b] w fun e w' => e = .returned (.tuple #[.int .i64 (BM.bin64 125 a b).1, .int .i64 (BM.bin64 125 a b).2]) ∧ w' = w := by
  rw [BM.c_sub]
  go_enter Tryz.func62, Tryz.ntmps62
  go_wp2_with (go_at_call 107; refine (combine_sub _ _ _).mono ?_; rintro e w' ⟨rfl, rfl⟩)
  go_ret2
  exact ⟨rfl, rfl⟩
theorem bin_mul (a b : Int) (w : World) :
    Calls Tryz.prog 62 #[.int .i64 126, .int .i64 a, .int .i64 b] w fun e w' => e = .returned (.tuple #[.int .i64 (BM.bin64 126 a b).1, .int .i64 (BM.bin64 126 a b).2]) ∧ w' = w := by
  rw [BM.c_mul]
  go_enter Tryz.func62, Tryz.ntmps62
  go_wp2_with (go_at_call 107; refine (combine_mul _ _ _).mono ?_; rintro e w' ⟨rfl, rfl⟩)
  go_ret2
  exact ⟨rfl, rfl⟩
theorem bin_and (a b : Int) (w : World) :
    Calls Tryz.prog 62 #[.int .i64 131, .int .i64 a, .int .i64 b] w fun e w' => e = .returned (.tuple #[.int .i64 (BM.bin64 131 a b).1, .int .i64 (BM.bin64 131 a b).2]) ∧ w' = w := by
  rw [BM.c_and]
  go_enter Tryz.func62, Tryz.ntmps62
  go_wp2_with (go_at_call 107; refine (combine_and _ _ _).mono ?_; rintro e w' ⟨rfl, rfl⟩)
  go_ret2
  exact ⟨rfl, rfl⟩
theorem bin_or (a b : Int) (w : World) :
    Calls Tryz.prog 62 #[.int .i64 132, .int .i64 a, .int .i64 b] w fun e w' => e = .returned (.tuple #[.int .i64 (BM.bin64 132 a b).1, .int .i64 (BM.bin64 132 a b).2]) ∧ w' = w := by
  rw [BM.c_or]
  go_enter Tryz.func62, Tryz.ntmps62
  go_wp2_with (go_at_call 107; refine (combine_or _ _ _).mono ?_; rintro e w' ⟨rfl, rfl⟩)
  go_ret2
  exact ⟨rfl, rfl⟩
theorem bin_xor (a b : Int) (w : World) :
    Calls Tryz.prog 62 #[.int .i64 133, .int .i64 a, .int .i64 b] w fun e w' => e = .returned (.tuple #[.int .i64 (BM.bin64 133 a b).1, .int .i64 (BM.bin64 133 a b).2]) ∧ w' = w := by
  rw [BM.c_xor]
  go_enter Tryz.func62, Tryz.ntmps62
  go_wp2_with (go_at_call 107; refine (combine_xor _ _ _).mono ?_; rintro e w' ⟨rfl, rfl⟩)
  go_ret2
  exact ⟨rfl, rfl⟩
theorem bin_shl (a b : Int) (w : World) :
    Calls Tryz.prog 62 #[.int .i64 134, .int .i64 a, .int .i64 b] w fun e w' => e = .returned (.tuple #[.int .i64 (BM.bin64 134 a b).1, .int .i64 (BM.bin64 134 a b).2]) ∧ w' = w := by
  rw [BM.c_shl]
  go_enter Tryz.func62, Tryz.ntmps62
  go_wp2_with (go_at_call 108; refine (shift_shl _ _ _).mono ?_; rintro e w' ⟨rfl, rfl⟩)
  go_ret2
  exact ⟨rfl, rfl⟩
theorem bin_sar (a b : Int) (w : World) :
    Calls Tryz.prog 62 #[.int .i64 135, .int .i64 a, .int .i64 b] w fun e w' => e = .returned (.tuple #[.int .i64 (BM.bin64 135 a b).1, .int .i64 (BM.bin64 135 a b).2]) ∧ w' = w := by
  rw [BM.c_sar]
  go_enter Tryz.func62, Tryz.ntmps62
  go_wp2_with (go_at_call 108; refine (shift_sar _ _ _).mono ?_; rintro e w' ⟨rfl, rfl⟩)
  go_ret2
  exact ⟨rfl, rfl⟩
theorem bin_shr (a b : Int) (w : World) :
    Calls Tryz.prog 62 #[.int .i64 136, .int .i64 a, .int .i64 b] w fun e w' => e = .returned (.tuple #[.int .i64 (BM.bin64 136 a b).1, .int .i64 (BM.bin64 136 a b).2]) ∧ w' = w := by
  rw [BM.c_shr]
  go_enter Tryz.func62, Tryz.ntmps62
  go_wp2_with (go_at_call 108; refine (shift_shr _ _ _).mono ?_; rintro e w' ⟨rfl, rfl⟩)
  go_ret2
  exact ⟨rfl, rfl⟩
theorem bin_rotl (a b : Int) (w : World) :
    Calls Tryz.prog 62 #[.int .i64 137, .int .i64 a, .int .i64 b] w fun e w' => e = .returned (.tuple #[.int .i64 (BM.bin64 137 a b).1, .int .i64 (BM.bin64 137 a b).2]) ∧ w' = w := by
  rw [BM.c_rotl]
  go_enter Tryz.func62, Tryz.ntmps62
  go_wp2_with (go_at_call 108; refine (shift_rotl _ _ _).mono ?_; rintro e w' ⟨rfl, rfl⟩)
  go_ret2
  exact ⟨rfl, rfl⟩
theorem bin_rotr (a b : Int) (w : World) :
    Calls Tryz.prog 62 #[.int .i64 138, .int .i64 a, .int .i64 b] w fun e w' => e = .returned (.tuple #[.int .i64 (BM.bin64 138 a b).1, .int .i64 (BM.bin64 138 a b).2]) ∧ w' = w := by
  rw [BM.c_rotr]
  go_enter Tryz.func62, Tryz.ntmps62
  go_wp2_with (go_at_call 108; refine (shift_rotr _ _ _).mono ?_; rintro e w' ⟨rfl, rfl⟩)
  go_ret2
  exact ⟨rfl, rfl⟩
theorem bin_divs0 (op a : Int) (hop : op = 127 ∨ op = 129) (w : World) :
    Calls Tryz.prog 62 #[.int .i64 op, .int .i64 a, .int .i64 0] w fun e w' => e = .returned (.tuple #[.int .i64 0, .int .i64 301]) ∧ w' = w := by
  rcases hop with rfl | rfl
  all_goals
    go_enter Tryz.func62, Tryz.ntmps62
    go_wp2_with (go_at_call 105; refine (divs_zero _ _ _).mono ?_; rintro e w' ⟨rfl, rfl⟩)
    go_ret2
    exact ⟨rfl, rfl⟩
theorem bin_divu0 (op a : Int) (hop : op = 128 ∨ op = 130) (w : World) :
    Calls Tryz.prog 62 #[.int .i64 op, .int .i64 a, .int .i64 0] w fun e w' => e = .returned (.tuple #[.int .i64 0, .int .i64 301]) ∧ w' = w := by
  rcases hop with rfl | rfl
  all_goals
    go_enter Tryz.func62, Tryz.ntmps62
    go_wp2_with (go_at_call 106; refine (divu_zero _ _ _).mono ?_; rintro e w' ⟨rfl, rfl⟩)
    go_ret2
    exact ⟨rfl, rfl⟩
theorem bin_over (w : World) :
    Calls Tryz.prog 62 #[.int .i64 127, .int .i64 (-9223372036854775808), .int .i64 (-1)] w fun e w' => e = .returned (.tuple #[.int .i64 0, .int .i64 302]) ∧ w' = w := by
  go_enter Tryz.func62, Tryz.ntmps62
  go_wp2_with (go_at_call 105; refine (divs_over _).mono ?_; rintro e w' ⟨rfl, rfl⟩)
  go_ret2
  exact ⟨rfl, rfl⟩
theorem bin_quos (a b : Int) (h1 : ¬ b = 0) (h2 : ¬ a = -9223372036854775808 ∨ ¬ b = -1) (w : World) :
    Calls Tryz.prog 62 #[.int .i64 127, .int .i64 a, .int .i64 b] w fun e w' => e = .returned (.tuple #[.int .i64 (wrap64 (a.tdiv b)), .int .i64 0]) ∧ w' = w := by
  have H1 : Hid (¬ b = 0) := h1
  have H2 : Hid (¬ a = -9223372036854775808 ∨ ¬ b = -1) := h2
  clear h1 h2
  go_enter Tryz.func62, Tryz.ntmps62
  go_wp2_with (go_at_call 105; refine (divs_quo _ _ H1.out H2.out _).mono ?_; rintro e w' ⟨rfl, rfl⟩)
  go_ret2
  exact ⟨rfl, rfl⟩
theorem bin_rems (a b : Int) (h1 : ¬ b = 0) (w : World) :
    Calls Tryz.prog 62 #[.int .i64 129, .int .i64 a, .int .i64 b] w fun e w' => e = .returned (.tuple #[.int .i64 (a.tmod b), .int .i64 0]) ∧ w' = w := by
  have H1 : Hid (¬ b = 0) := h1
  clear h1
  go_enter Tryz.func62, Tryz.ntmps62
  go_wp2_with (go_at_call 105; refine (divs_rem _ _ H1.out _).mono ?_; rintro e w' ⟨rfl, rfl⟩)
  go_ret2
  exact ⟨rfl, rfl⟩
theorem bin_quou (a b : Int) (h1 : (b == 0) = false) (h2 : 1 ≤ IntKind.u64.wrap b) (w : World) :
    Calls Tryz.prog 62 #[.int .i64 128, .int .i64 a, .int .i64 b] w fun e w' => e = .returned (.tuple #[.int .i64 (uquo a b), .int .i64 0]) ∧ ∃ n, w' = w.drewN n := by
  have H1 : Hid ((b == 0) = false) := h1
  have H2 : Hid (1 ≤ IntKind.u64.wrap b) := h2
  clear h1 h2
  go_enter Tryz.func62, Tryz.ntmps62
  go_wp2_with (go_at_call 106; refine (divu_quo _ _ H1.out H2.out _).mono ?_; rintro e w' ⟨rfl, n, rfl⟩)
  go_ret2
  exact ⟨rfl, _, rfl⟩
theorem bin_remu (a b : Int) (h1 : (b == 0) = false) (h2 : 1 ≤ IntKind.u64.wrap b) (w : World) :
    Calls Tryz.prog 62 #[.int .i64 130, .int .i64 a, .int .i64 b] w fun e w' => e = .returned (.tuple #[.int .i64 (urem a b), .int .i64 0]) ∧ ∃ n, w' = w.drewN n := by
  have H1 : Hid ((b == 0) = false) := h1
  have H2 : Hid (1 ≤ IntKind.u64.wrap b) := h2
  clear h1 h2
  go_enter Tryz.func62, Tryz.ntmps62
  go_wp2_with (go_at_call 106; refine (divu_rem _ _ H1.out H2.out _).mono ?_; rintro e w' ⟨rfl, n, rfl⟩)
  go_ret2
  exact ⟨rfl, _, rfl⟩
theorem bin_bad (op a b : Int) (h : op < 81 ∨ (90 < op ∧ op < 124) ∨ 138 < op) (w : World) :
    Calls Tryz.prog 62 #[.int .i64 op, .int .i64 a, .int .i64 b] w fun e w' => e = .returned (.tuple #[.int .i64 0, .int .i64 300]) ∧ w' = w := by
  have e1 : (op == 127) = false := by simp; omega
  have e2 : (op == 129) = false := by simp; omega
  have e3 : (op == 128) = false := by simp; omega
  have e4 : (op == 130) = false := by simp; omega
  rcases h with h | ⟨h, h'⟩ | h
  all_goals
    go_enter Tryz.func62, Tryz.ntmps62
    go_wp2
    go_ret2
    exact ⟨rfl, rfl⟩
theorem bin_any (op a b : Int) (hop : ¬ op = 128 ∧ ¬ op = 130) (w : World) :
    Calls Tryz.prog 62 #[.int .i64 op, .int .i64 a, .int .i64 b] w fun e w' => e = .returned (.tuple #[.int .i64 (BM.bin64 op a b).1, .int .i64 (BM.bin64 op a b).2]) ∧ w' = w := by
  by_cases hc : 81 ≤ op ∧ op ≤ 90
  · exact bin_cmp op a b hc w
  by_cases hi : 124 ≤ op ∧ op ≤ 138
  · have hs : op = 124 ∨ op = 125 ∨ op = 126 ∨ op = 127 ∨ op = 129 ∨ op = 131 ∨ op = 132 ∨ op = 133 ∨ op = 134 ∨ op = 135 ∨ op = 136 ∨ op = 137 ∨ op = 138 := by omega
    clear hop hc hi
    rcases hs with rfl | rfl | rfl | rfl | rfl | rfl | rfl | rfl | rfl | rfl | rfl | rfl | rfl
    · exact bin_add a b w
    · exact bin_sub a b w
    · exact bin_mul a b w
    · by_cases h0 : b = 0
      · rw [(BM.c_div0 a b h0).1, h0]; exact bin_divs0 _ a (Or.inl rfl) w
      · by_cases ho : a = -9223372036854775808 ∧ b = -1
        · rw [BM.c_over a b h0 ho, ho.1, ho.2]; exact bin_over w
        · rw [BM.c_divs a b h0 ho]; exact bin_quos a b h0 (by omega) w
    · by_cases h0 : b = 0
      · rw [(BM.c_div0 a b h0).2.2.1, h0]; exact bin_divs0 _ a (Or.inr rfl) w
      · rw [BM.c_rems a b h0]; exact bin_rems a b h0 w
    · exact bin_and a b w
    · exact bin_or a b w
    · exact bin_xor a b w
    · exact bin_shl a b w
    · exact bin_sar a b w
    · exact bin_shr a b w
    · exact bin_rotl a b w
    · exact bin_rotr a b w
  · rw [BM.c_bad op a b (by omega)]; exact bin_bad op a b (by omega) w
theorem bin_all (op a b : Int) (hb : -9223372036854775808 ≤ b ∧ b ≤ 9223372036854775807) (w : World) :
    Calls Tryz.prog 62 #[.int .i64 op, .int .i64 a, .int .i64 b] w fun e w' => e = .returned (.tuple #[.int .i64 (BM.bin64 op a b).1, .int .i64 (BM.bin64 op a b).2]) ∧ ∃ n, w' = w.drewN n := by
  by_cases hop : ¬ op = 128 ∧ ¬ op = 130
  · exact (bin_any op a b hop w).mono (fun e w' h => ⟨h.1, 0, h.2⟩)
  have hs : op = 128 ∨ op = 130 := by omega
  clear hop
  by_cases h0 : b = 0
  · rcases hs with rfl | rfl
    · rw [(BM.c_div0 a b h0).2.1, h0]; exact (bin_divu0 _ a (Or.inl rfl) w).mono (fun e w' h => ⟨h.1, 0, h.2⟩)
    · rw [(BM.c_div0 a b h0).2.2.2, h0]; exact (bin_divu0 _ a (Or.inr rfl) w).mono (fun e w' h => ⟨h.1, 0, h.2⟩)
  · have hu : 1 ≤ BM.uu b := by rw [BM.uu_is]; omega
    have hz : (b == 0) = false := by simpa using h0
    rcases hs with rfl | rfl
    · rw [BM.c_divu a b h0, ← uquo_is a b hu]; exact bin_quou a b hz hu w
    · rw [BM.c_remu a b h0]; exact bin_remu a b hz hu w
theorem un_eqz (a : Int) (w : World) :
    Calls Tryz.prog 58 #[.int .i64 80, .int .i64 a] w fun e w' => e = .returned (.tuple #[.int .i64 (BM.flagI (a == 0)), .int .i64 0]) ∧ w' = w := by
  go_enter Tryz.func58, Tryz.ntmps58
  go_wp2_with (go_at_call 92; refine (flag_any _ _).mono ?_; rintro e w' ⟨rfl, rfl⟩)
  go_ret2
  exact ⟨rfl, rfl⟩
theorem un_clz (a : Int) (w : World) :
    Calls Tryz.prog 58 #[.int .i64 121, .int .i64 a] w fun e w' => e = .returned (.tuple #[.int .i64 (64 - (Lib.bitLen (BM.uu a).toNat : Int)), .int .i64 0]) ∧ w' = w := by
  go_enter Tryz.func58, Tryz.ntmps58
  go_wp2_with (go_at_call 89; refine (clz_64 _ _).mono ?_; rintro e w' ⟨rfl, rfl⟩)
  go_ret2
  exact ⟨rfl, rfl⟩
theorem un_ctz (a : Int) (w : World) (hT : Tab 2 Lib.deBruijn64tab w) :
    Calls Tryz.prog 58 #[.int .i64 122, .int .i64 a] w fun e w' => e = .returned (.tuple #[.int .i64 (Lib.ctz 64 (BM.uu a).toNat), .int .i64 0]) ∧ w' = w := by
  have C : Hid (Tab 2 Lib.deBruijn64tab w) := hT
  clear hT
  go_enter Tryz.func58, Tryz.ntmps58
  go_wp2_with (go_at_call 90; refine (ctz_64 _ _ C.out).mono ?_; rintro e w' ⟨rfl, rfl⟩)
  go_ret2
  exact ⟨rfl, rfl⟩
theorem un_pop (a : Int) (w : World) :
    Calls Tryz.prog 58 #[.int .i64 123, .int .i64 a] w fun e w' => e = .returned (.tuple #[.int .i64 (Lib.popAux 64 (BM.uu a).toNat), .int .i64 0]) ∧ w' = w := by
  go_enter Tryz.func58, Tryz.ntmps58
  go_wp2_with (go_at_call 91; refine (pop_64 _ _).mono ?_; rintro e w' ⟨rfl, rfl⟩)
  go_ret2
  exact ⟨rfl, rfl⟩
theorem un_bad (op a : Int) (h1 : (op == 80) = false) (h2 : (op == 121) = false) (h3 : (op == 122) = false) (h4 : (op == 123) = false) (w : World) :
    Calls Tryz.prog 58 #[.int .i64 op, .int .i64 a] w fun e w' => e = .returned (.tuple #[.int .i64 0, .int .i64 300]) ∧ w' = w := by
  go_enter Tryz.func58, Tryz.ntmps58
  go_wp2
  go_ret2
  exact ⟨rfl, rfl⟩
theorem un_any (op a : Int) (w : World) (hT : Tab 2 Lib.deBruijn64tab w) :
    Calls Tryz.prog 58 #[.int .i64 op, .int .i64 a] w fun e w' => e = .returned (.tuple #[.int .i64 (BM.un64 op a).1, .int .i64 (BM.un64 op a).2]) ∧ w' = w := by
  by_cases h1 : op = 80
  · subst h1; exact un_eqz a w
  by_cases h2 : op = 121
  · subst h2; exact un_clz a w
  by_cases h3 : op = 122
  · subst h3; exact un_ctz a w hT
  by_cases h4 : op = 123
  · subst h4; exact un_pop a w
  · rw [BM.v_bad op a h1 h2 h3 h4]
    exact un_bad op a (by simpa using h1) (by simpa using h2) (by simpa using h3) (by simpa using h4) w
end Go.Proofs.YtdfgcagbpndabaaGreatDoor.I6
