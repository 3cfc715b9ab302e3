/- Contracts of package bits (and of 'Num' and 'awake') over this seat's translation. -/
import Derived.Test.YtjolnfipacpjgaaDoorRows
import Derived.WalkKit
import Derived.ProofKit
import Derived.Deep.QuietTactic
import Derived.BigQuiet
import Derived.Test.YtjolnfipacpjgaaDoorLib
import Derived.Test.YtjolnfipacpjgaaDoorLibB
import Derived.Test.YtjolnfipacpjgaaDoorLibC
namespace Go.Proofs.YtjolnfipacpjgaaDoor
open Go.RowKit

theorem grown_drewN (w : World) (n : Nat) : Grown w (w.drewN n) := (Grown.refl w : Grown w w)

theorem num_any (n : Int) (w : World) :
    Calls Tryd.prog 13 #[.int .i64 n] w fun e w' => e = .returned (.int .i64 n) ∧ w' = w := by
  go_enter Tryd.func13, Tryd.ntmps13
  go_wp2
  go_ret
  exact ⟨rfl, rfl⟩
theorem below_any (a b : Int) (w : World) :
    Calls Tryd.prog 41 #[.int .i64 a, .int .i64 b] w fun e w' => e = .returned (.bool (decide (IntKind.u64.wrap a < IntKind.u64.wrap b))) ∧ w' = w := by
  go_enter Tryd.func41, Tryd.ntmps41
  go_wp2
  go_ret
  exact ⟨rfl, rfl⟩
theorem width_ok (n : Int) (w : World) (h : n = 32 ∨ n = 64) :
    Calls Tryd.prog 33 #[.int .i64 n] w fun e w' => e = .returned (.bool true) ∧ w' = w := by
  rcases h with rfl | rfl
  all_goals
    go_enter Tryd.func33, Tryd.ntmps33
    go_wp2
    go_ret
    exact ⟨rfl, rfl⟩
theorem width_bad (n : Int) (w : World) (h : (n == 32) = false) (h' : (n == 64) = false) :
    Calls Tryd.prog 33 #[.int .i64 n] w fun e w' => e = .returned (.bool false) ∧ w' = w := by
  go_enter Tryd.func33, Tryd.ntmps33
  go_wp2
  go_ret
  exact ⟨rfl, rfl⟩

theorem div_zero (a : Int) (w : World) :
    Calls Tryd.prog 42 #[.int .i64 a, .int .i64 0] w fun e w' => e = .returned (.tuple #[.int .i64 0, .int .i64 0, .int .i64 100]) ∧ w' = w := by
  go_enter Tryd.func42, Tryd.ntmps42
  go_wp2
  go_ret3
  exact ⟨rfl, rfl⟩
/-- The quotient and the rest without sign, as an int. -/
def uquo (a b : Int) : Int := wrap64 (IntKind.u64.wrap ((IntKind.u64.wrap a).tdiv (IntKind.u64.wrap b)))
def urem (a b : Int) : Int := wrap64 (IntKind.u64.wrap a % IntKind.u64.wrap b)
theorem div_some (a b : Int) (w : World) (hb : (b == 0) = false) (ha : 0 ≤ IntKind.u64.wrap a) (hu : 1 ≤ IntKind.u64.wrap b) :
    Calls Tryd.prog 42 #[.int .i64 a, .int .i64 b] w fun e w' => (e = .returned (.tuple #[.int .i64 (uquo a b), .int .i64 (urem a b), .int .i64 0])) ∧ ∃ n, w' = w.drewN n := by
  have hu0 : (IntKind.u64.wrap b == 0) = false := by simp; omega
  go_enter Tryd.func42, Tryd.ntmps42
  go_wp2
  go_quiet (fail)
  go_wp2
  go_ret3
  exact ⟨rfl, _, rfl⟩

theorem clz_32 (x : Int) (w : World) :
    Calls Tryd.prog 17 #[.int .i64 x, .int .i64 32] w fun e w' => e = .returned (.tuple #[.int .i64 (32 - (Lib.bitLen (x % 4294967296).toNat : Int)), .int .i64 0]) ∧ w' = w := by
  go_enter Tryd.func17, Tryd.ntmps17
  go_wp2_with (first | (go_at_call 33; refine (width_ok _ _ (Or.inl rfl)).mono ?_; rintro e w' ⟨rfl, rfl⟩) | (go_at_call 34; refine (lz32_any _ _ (by omega) (by omega)).mono ?_; rintro e w' ⟨rfl, rfl⟩))
  go_ret2
  exact ⟨rfl, rfl⟩
theorem u64_pos (x : Int) : 0 ≤ IntKind.u64.wrap x ∧ IntKind.u64.wrap x ≤ 18446744073709551615 := by rw [IntKind.wrap_u64]; omega
theorem clz_64 (x : Int) (w : World) :
    Calls Tryd.prog 17 #[.int .i64 x, .int .i64 64] w fun e w' => e = .returned (.tuple #[.int .i64 (64 - (Lib.bitLen (IntKind.u64.wrap x).toNat : Int)), .int .i64 0]) ∧ w' = w := by
  go_enter Tryd.func17, Tryd.ntmps17
  go_wp2_with (first | (go_at_call 33; refine (width_ok _ _ (Or.inr rfl)).mono ?_; rintro e w' ⟨rfl, rfl⟩) | (go_at_call 35; refine (lz64_any _ _ (u64_pos x).1 (u64_pos x).2).mono ?_; rintro e w' ⟨rfl, rfl⟩))
  go_ret2
  exact ⟨rfl, rfl⟩
theorem clz_bad (x n : Int) (w : World) (h : (n == 32) = false) (h' : (n == 64) = false) :
    Calls Tryd.prog 17 #[.int .i64 x, .int .i64 n] w fun e w' => e = .returned (.tuple #[.int .i64 0, .int .i64 100]) ∧ w' = w := by
  go_enter Tryd.func17, Tryd.ntmps17
  go_wp2_with (go_at_call 33; refine (width_bad _ _ h h').mono ?_; rintro e w' ⟨rfl, rfl⟩)
  go_ret2
  exact ⟨rfl, rfl⟩
theorem ctz_32 (x : Int) (w : World) (hT : Tab 0 Lib.deBruijn32tab w) :
    Calls Tryd.prog 18 #[.int .i64 x, .int .i64 32] w fun e w' => e = .returned (.tuple #[.int .i64 (Lib.ctz 32 (x % 4294967296).toNat), .int .i64 0]) ∧ w' = w := by
  have C : Hid (Tab 0 Lib.deBruijn32tab w) := hT
  clear hT
  go_enter Tryd.func18, Tryd.ntmps18
  go_wp2_with (first | (go_at_call 33; refine (width_ok _ _ (Or.inl rfl)).mono ?_; rintro e w' ⟨rfl, rfl⟩) | (go_at_call 36; refine (tz32_any _ _ (by omega) (by omega) C.out).mono ?_; rintro e w' ⟨rfl, rfl⟩))
  go_ret2
  exact ⟨rfl, rfl⟩
theorem ctz_64 (x : Int) (w : World) (hT : Tab 1 Lib.deBruijn64tab w) :
    Calls Tryd.prog 18 #[.int .i64 x, .int .i64 64] w fun e w' => e = .returned (.tuple #[.int .i64 (Lib.ctz 64 (IntKind.u64.wrap x).toNat), .int .i64 0]) ∧ w' = w := by
  have C : Hid (Tab 1 Lib.deBruijn64tab w) := hT
  clear hT
  go_enter Tryd.func18, Tryd.ntmps18
  go_wp2_with (first | (go_at_call 33; refine (width_ok _ _ (Or.inr rfl)).mono ?_; rintro e w' ⟨rfl, rfl⟩) | (go_at_call 37; refine (tz64_any _ _ (u64_pos x).1 (u64_pos x).2 C.out).mono ?_; rintro e w' ⟨rfl, rfl⟩))
  go_ret2
  exact ⟨rfl, rfl⟩
theorem ctz_bad (x n : Int) (w : World) (h : (n == 32) = false) (h' : (n == 64) = false) :
    Calls Tryd.prog 18 #[.int .i64 x, .int .i64 n] w fun e w' => e = .returned (.tuple #[.int .i64 0, .int .i64 100]) ∧ w' = w := by
  go_enter Tryd.func18, Tryd.ntmps18
  go_wp2_with (go_at_call 33; refine (width_bad _ _ h h').mono ?_; rintro e w' ⟨rfl, rfl⟩)
  go_ret2
  exact ⟨rfl, rfl⟩
theorem pop_32 (x : Int) (w : World) :
    Calls Tryd.prog 19 #[.int .i64 x, .int .i64 32] w fun e w' => e = .returned (.tuple #[.int .i64 (Lib.popAux 32 (x % 4294967296).toNat), .int .i64 0]) ∧ ∃ n, w' = w.drewN n := by
  go_enter Tryd.func19, Tryd.ntmps19
  go_wp2_with (first | (go_at_call 33; refine (width_ok _ _ (Or.inl rfl)).mono ?_; rintro e w' ⟨rfl, rfl⟩) | (go_at_call 38; refine (oc32_any _ _ (by omega) (by omega)).mono ?_; rintro e w' ⟨rfl, n, rfl⟩))
  go_ret2
  exact ⟨rfl, _, rfl⟩
theorem pop_64 (x : Int) (w : World) :
    Calls Tryd.prog 19 #[.int .i64 x, .int .i64 64] w fun e w' => e = .returned (.tuple #[.int .i64 (Lib.popAux 64 (IntKind.u64.wrap x).toNat), .int .i64 0]) ∧ w' = w := by
  go_enter Tryd.func19, Tryd.ntmps19
  go_wp2_with (first | (go_at_call 33; refine (width_ok _ _ (Or.inr rfl)).mono ?_; rintro e w' ⟨rfl, rfl⟩) | (go_at_call 39; refine (oc64_any _ _ (u64_pos x).1 (u64_pos x).2).mono ?_; rintro e w' ⟨rfl, rfl⟩))
  go_ret2
  exact ⟨rfl, rfl⟩
theorem pop_bad (x n : Int) (w : World) (h : (n == 32) = false) (h' : (n == 64) = false) :
    Calls Tryd.prog 19 #[.int .i64 x, .int .i64 n] w fun e w' => e = .returned (.tuple #[.int .i64 0, .int .i64 100]) ∧ w' = w := by
  go_enter Tryd.func19, Tryd.ntmps19
  go_wp2_with (go_at_call 33; refine (width_bad _ _ h h').mono ?_; rintro e w' ⟨rfl, rfl⟩)
  go_ret2
  exact ⟨rfl, rfl⟩
theorem rot_32 (x b : Int) (w : World) :
    Calls Tryd.prog 43 #[.int .i64 x, .int .i64 b, .int .i64 32] w fun e w' => e = .returned (.tuple #[.int .i64 (BM.rotl 32 (x % 4294967296).toNat (b % 32).toNat), .int .i64 0]) ∧ w' = w := by
  have hr := BM.rotl_lt 32 (x % 4294967296).toNat (b % 32).toNat (by omega) (by omega)
  have hb := BM.and31 b
  go_enter Tryd.func43, Tryd.ntmps43
  go_wp2_with (first | (go_at_call 33; refine (width_ok _ _ (Or.inl rfl)).mono ?_; rintro e w' ⟨rfl, rfl⟩) | (go_at_call 47; refine (rl32_any _ _ _ (by omega) (by omega) (by omega) (by omega)).mono ?_; rintro e w' ⟨rfl, rfl⟩))
  go_ret2
  exact ⟨rfl, rfl⟩
theorem rot_64 (x b : Int) (w : World) :
    Calls Tryd.prog 43 #[.int .i64 x, .int .i64 b, .int .i64 64] w fun e w' => e = .returned (.tuple #[.int .i64 (wrap64 (BM.rotl 64 (IntKind.u64.wrap x).toNat (b % 64).toNat)), .int .i64 0]) ∧ w' = w := by
  have hb := BM.and63 b
  go_enter Tryd.func43, Tryd.ntmps43
  go_wp2_with (first | (go_at_call 33; refine (width_ok _ _ (Or.inr rfl)).mono ?_; rintro e w' ⟨rfl, rfl⟩) | (go_at_call 48; refine (rl64_any _ _ _ (u64_pos x).1 (u64_pos x).2 (by omega) (by omega)).mono ?_; rintro e w' ⟨rfl, rfl⟩))
  go_ret2
  exact ⟨rfl, rfl⟩
theorem rot_bad (x b n : Int) (w : World) (h : (n == 32) = false) (h' : (n == 64) = false) :
    Calls Tryd.prog 43 #[.int .i64 x, .int .i64 b, .int .i64 n] w fun e w' => e = .returned (.tuple #[.int .i64 0, .int .i64 100]) ∧ w' = w := by
  go_enter Tryd.func43, Tryd.ntmps43
  go_wp2_with (go_at_call 33; refine (width_bad _ _ h h').mono ?_; rintro e w' ⟨rfl, rfl⟩)
  go_ret2
  exact ⟨rfl, rfl⟩

theorem clz_one (w : World) :
    Calls Tryd.prog 17 #[.int .i64 1, .int .i64 32] w fun e w' => e = .returned (.tuple #[.int .i64 31, .int .i64 0]) ∧ w' = w := by
  have h := clz_32 1 w
  rw [show (32 - (Lib.bitLen ((1 : Int) % 4294967296).toNat : Int)) = 31 from by decide +kernel] at h
  exact h
theorem rot_one (w : World) :
    Calls Tryd.prog 43 #[.int .i64 1, .int .i64 33, .int .i64 32] w fun e w' => e = .returned (.tuple #[.int .i64 2, .int .i64 0]) ∧ w' = w := by
  have h := rot_32 1 33 w
  rw [show ((BM.rotl 32 ((1 : Int) % 4294967296).toNat ((33 : Int) % 32).toNat : Nat) : Int) = 2 from by decide +kernel] at h
  exact h
theorem div_one (w : World) :
    Calls Tryd.prog 42 #[.int .i64 (-1), .int .i64 2] w fun e w' => (e = .returned (.tuple #[.int .i64 9223372036854775807, .int .i64 1, .int .i64 0])) ∧ ∃ n, w' = w.drewN n := by
  have h := div_some (-1) 2 w (by decide) (by decide) (by decide)
  rw [show uquo (-1) 2 = 9223372036854775807 from by decide +kernel, show urem (-1) 2 = 1 from by decide +kernel] at h
  exact h
theorem below_one (w : World) :
    Calls Tryd.prog 41 #[.int .i64 1, .int .i64 (-1)] w fun e w' => e = .returned (.bool true) ∧ w' = w := by
  have h := below_any 1 (-1) w
  rw [show decide (IntKind.u64.wrap 1 < IntKind.u64.wrap (-1)) = true from by decide +kernel] at h
  exact h

end Go.Proofs.YtjolnfipacpjgaaDoor
