/- Contracts of the document's own answers for package i32n (pelorusref1) over this seat's translation. -/
import Derived.Test.YtdfgcagbpndabaaGreatDoorZR
import Derived.Test.YtdfgcagbpndabaaGreatDoorZI
import Derived.Test.YtdfgcagbpndabaaGreatDoorZI3
set_option linter.unusedVariables false
set_option maxHeartbeats 4000000
set_option maxRecDepth 100000
namespace Go.Proofs.YtdfgcagbpndabaaGreatDoor.I3
open Go.RowKit
theorem rsgn_any (x : Int) (w : World) :
    Calls Tryz.prog 69 #[.int .i64 x] w fun e w' => e = .returned (.int .i64 (BM.sg x)) ∧ w' = w := rsign_any x w
theorem truth_any (b : Bool) (w : World) :
    Calls Tryz.prog 72 #[.bool b] w fun e w' => e = .returned (.int .i64 (BM.flagI b)) ∧ w' = w := by
  cases b
  all_goals
    go_enter Tryz.func72, Tryz.ntmps72
    go_wp2
    go_ret
    exact ⟨rfl, rfl⟩
def cmpK (k : Int) (l b s : Bool) : Bool :=
  if k = 0 then s else if k = 1 then !s else if k = 2 then l else if k = 3 then b else if k = 4 then !l && !s else if k = 5 then !b && !s
  else if k = 6 then l || s else if k = 7 then b || s else if k = 8 then !l else !b
theorem rcompare_any (k : Int) (l b s : Bool) (h : 0 ≤ k ∧ k ≤ 9) (w : World) :
    Calls Tryz.prog 76 #[.int .i64 k, .bool l, .bool b, .bool s] w fun e w' => e = .returned (.int .i64 (BM.flagI (cmpK k l b s))) ∧ w' = w := by
  have hc : k = 0 ∨ k = 1 ∨ k = 2 ∨ k = 3 ∨ k = 4 ∨ k = 5 ∨ k = 6 ∨ k = 7 ∨ k = 8 ∨ k = 9 := by omega
  clear h
  rcases hc with rfl | rfl | rfl | rfl | rfl | rfl | rfl | rfl | rfl | rfl
  all_goals
    cases l <;> cases b <;> cases s
    all_goals
      go_enter Tryz.func76, Tryz.ntmps76
      go_wp2_with (go_at_call 72; refine (truth_any _ _).mono ?_; rintro e w' ⟨rfl, rfl⟩)
      go_ret
      exact ⟨rfl, rfl⟩
theorem cmpK_is (op x y : Int) (h : 70 ≤ op ∧ op ≤ 79) (hx : 0 ≤ x ∧ x < 4294967296) (hy : 0 ≤ y ∧ y < 4294967296) : cmpK (op - 70) (decide (BM.sg x < BM.sg y)) (decide (x < y)) (x == y) = BM.cmp32 op x y := by
  have hc : op = 70 ∨ op = 71 ∨ op = 72 ∨ op = 73 ∨ op = 74 ∨ op = 75 ∨ op = 76 ∨ op = 77 ∨ op = 78 ∨ op = 79 := by omega
  have hs := BM.sg_eq x y
  rw [show x % 4294967296 = x from by omega, show y % 4294967296 = y from by omega] at hs
  clear h
  generalize ea : BM.sg x = s at *
  generalize eb : BM.sg y = t at *
  rcases hc with rfl | rfl | rfl | rfl | rfl | rfl | rfl | rfl | rfl | rfl
  · rfl
  · rfl
  · show decide (s < t) = decide (BM.sg x < BM.sg y); rw [ea, eb]
  · rfl
  · show (!decide (s < t) && !(x == y)) = decide (BM.sg y < BM.sg x); rw [ea, eb, Bool.eq_iff_iff]; simp; omega
  · show (!decide (x < y) && !(x == y)) = decide (y < x); rw [Bool.eq_iff_iff]; simp; omega
  · show (decide (s < t) || (x == y)) = decide (BM.sg x ≤ BM.sg y); rw [ea, eb, Bool.eq_iff_iff]; simp; omega
  · show (decide (x < y) || (x == y)) = decide (x ≤ y); rw [Bool.eq_iff_iff]; simp; omega
  · show (!decide (s < t)) = decide (BM.sg y ≤ BM.sg x); rw [ea, eb, Bool.eq_iff_iff]; simp
  · show (!decide (x < y)) = decide (y ≤ x); rw [Bool.eq_iff_iff]; simp
theorem rbin_cmp (op a b : Int) (h : 70 ≤ op ∧ op ≤ 79) (w : World) :
    Calls Tryz.prog 38 #[.int .i64 op, .int .i64 a, .int .i64 b] w fun e w' => e = .returned (.tuple #[.int .i64 (BM.bin32 op a b).1, .int .i64 (BM.bin32 op a b).2]) ∧ w' = w := by
  rw [BM.b_cmp op a b h, ← cmpK_is op _ _ h (low_in a) (low_in b), BM.sg_low, BM.sg_low]
  have h1 := h.1
  have h2 := h.2
  go_enter Tryz.func38, Tryz.ntmps38
  go_wp2_with (first | (go_at_call 65; refine (rlow_any _ _).mono ?_; rintro e w' ⟨rfl, rfl⟩) | (go_at_call 69; refine (rsgn_any _ _).mono ?_; rintro e w' ⟨rfl, rfl⟩) | (go_at_call 76; refine (rcompare_any _ _ _ _ (by omega) _).mono ?_; rintro e w' ⟨rfl, rfl⟩))
  go_ret2
  exact ⟨rfl, rfl⟩
theorem rbin_add (a b : Int) (w : World) :
    Calls Tryz.prog 38 #[.int .i64 106, .int .i64 a, .int .i64 b] w fun e w' => e = .returned (.tuple #[.int .i64 (BM.bin32 106 a b).1, .int .i64 (BM.bin32 106 a b).2]) ∧ w' = w := by
  rw [BM.b_add]
  have K1 : Hid (∀ x : Int, wrap64 x % 4294967296 = x % 4294967296) := BM.wrap_mod32
  have hk : bits .and .i64 (b % 4294967296) 31 = b % 32 := by rw [BM.and31]; omega
  have L1 := low_in a
  have L2 := low_in b
  go_enter Tryz.func38, Tryz.ntmps38
  go_wp2_with (first | (go_at_call 65; refine (rlow_any _ _).mono ?_; rintro e w' ⟨rfl, rfl⟩) | (go_at_call 69; refine (rsgn_any _ _).mono ?_; rintro e w' ⟨rfl, rfl⟩))
  go_ret2
  exact ⟨ret_two (by first | rfl | exact K1.out _ | (rw [K1.out]; rfl) | (rw [K1.out]; try simp only [Int.emod_emod_of_dvd, Int.add_emod, Int.sub_emod]; try rfl)), rfl⟩
theorem rbin_sub (a b : Int) (w : World) :
    Calls Tryz.prog 38 #[.int .i64 107, .int .i64 a, .int .i64 b] w fun e w' => e = .returned (.tuple #[.int .i64 (BM.bin32 107 a b).1, .int .i64 (BM.bin32 107 a b).2]) ∧ w' = w := by
  rw [BM.b_sub]
  have K1 : Hid (∀ x : Int, wrap64 x % 4294967296 = x % 4294967296) := BM.wrap_mod32
  have hk : bits .and .i64 (b % 4294967296) 31 = b % 32 := by rw [BM.and31]; omega
  have L1 := low_in a
  have L2 := low_in b
  go_enter Tryz.func38, Tryz.ntmps38
  go_wp2_with (first | (go_at_call 65; refine (rlow_any _ _).mono ?_; rintro e w' ⟨rfl, rfl⟩) | (go_at_call 69; refine (rsgn_any _ _).mono ?_; rintro e w' ⟨rfl, rfl⟩))
  go_ret2
  exact ⟨ret_two (by first | rfl | exact K1.out _ | (rw [K1.out]; rfl) | (rw [K1.out]; try simp only [Int.emod_emod_of_dvd, Int.add_emod, Int.sub_emod]; try rfl)), rfl⟩
theorem rbin_mul (a b : Int) (w : World) :
    Calls Tryz.prog 38 #[.int .i64 108, .int .i64 a, .int .i64 b] w fun e w' => e = .returned (.tuple #[.int .i64 (BM.bin32 108 a b).1, .int .i64 (BM.bin32 108 a b).2]) ∧ w' = w := by
  have K1 : Hid (∀ x : Int, wrap64 x % 4294967296 = x % 4294967296) := BM.wrap_mod32
  have hk : bits .and .i64 (b % 4294967296) 31 = b % 32 := by rw [BM.and31]; omega
  have L1 := low_in a
  have L2 := low_in b
  go_enter Tryz.func38, Tryz.ntmps38
  go_wp2_with (first | (go_at_call 65; refine (rlow_any _ _).mono ?_; rintro e w' ⟨rfl, rfl⟩) | (go_at_call 69; refine (rsgn_any _ _).mono ?_; rintro e w' ⟨rfl, rfl⟩))
  go_ret2
  exact ⟨ret_two (by first | rfl | exact K1.out _ | (rw [K1.out]; rfl) | (rw [K1.out]; try simp only [Int.emod_emod_of_dvd, Int.add_emod, Int.sub_emod]; try rfl)), rfl⟩
theorem rbin_and (a b : Int) (w : World) :
    Calls Tryz.prog 38 #[.int .i64 113, .int .i64 a, .int .i64 b] w fun e w' => e = .returned (.tuple #[.int .i64 (BM.bin32 113 a b).1, .int .i64 (BM.bin32 113 a b).2]) ∧ w' = w := by
  have K1 : Hid (∀ x : Int, wrap64 x % 4294967296 = x % 4294967296) := BM.wrap_mod32
  have hk : bits .and .i64 (b % 4294967296) 31 = b % 32 := by rw [BM.and31]; omega
  have L1 := low_in a
  have L2 := low_in b
  have E := BM.and_low _ _ L1.1 L1.2 L2.1 L2.2
  go_enter Tryz.func38, Tryz.ntmps38
  go_wp2_with (first | (go_at_call 65; refine (rlow_any _ _).mono ?_; rintro e w' ⟨rfl, rfl⟩) | (go_at_call 69; refine (rsgn_any _ _).mono ?_; rintro e w' ⟨rfl, rfl⟩))
  go_ret2
  exact ⟨ret_two rfl, rfl⟩
theorem rbin_or (a b : Int) (w : World) :
    Calls Tryz.prog 38 #[.int .i64 114, .int .i64 a, .int .i64 b] w fun e w' => e = .returned (.tuple #[.int .i64 (BM.bin32 114 a b).1, .int .i64 (BM.bin32 114 a b).2]) ∧ w' = w := by
  have K1 : Hid (∀ x : Int, wrap64 x % 4294967296 = x % 4294967296) := BM.wrap_mod32
  have hk : bits .and .i64 (b % 4294967296) 31 = b % 32 := by rw [BM.and31]; omega
  have L1 := low_in a
  have L2 := low_in b
  have E := BM.or_low _ _ L1.1 L1.2 L2.1 L2.2
  go_enter Tryz.func38, Tryz.ntmps38
  go_wp2_with (first | (go_at_call 65; refine (rlow_any _ _).mono ?_; rintro e w' ⟨rfl, rfl⟩) | (go_at_call 69; refine (rsgn_any _ _).mono ?_; rintro e w' ⟨rfl, rfl⟩))
  go_ret2
  exact ⟨ret_two rfl, rfl⟩
theorem rbin_xor (a b : Int) (w : World) :
    Calls Tryz.prog 38 #[.int .i64 115, .int .i64 a, .int .i64 b] w fun e w' => e = .returned (.tuple #[.int .i64 (BM.bin32 115 a b).1, .int .i64 (BM.bin32 115 a b).2]) ∧ w' = w := by
  have K1 : Hid (∀ x : Int, wrap64 x % 4294967296 = x % 4294967296) := BM.wrap_mod32
  have hk : bits .and .i64 (b % 4294967296) 31 = b % 32 := by rw [BM.and31]; omega
  have L1 := low_in a
  have L2 := low_in b
  have E := BM.xor_low _ _ L1.1 L1.2 L2.1 L2.2
  go_enter Tryz.func38, Tryz.ntmps38
  go_wp2_with (first | (go_at_call 65; refine (rlow_any _ _).mono ?_; rintro e w' ⟨rfl, rfl⟩) | (go_at_call 69; refine (rsgn_any _ _).mono ?_; rintro e w' ⟨rfl, rfl⟩))
  go_ret2
  exact ⟨ret_two rfl, rfl⟩
theorem rbin_shl (a b : Int) (w : World) :
    Calls Tryz.prog 38 #[.int .i64 116, .int .i64 a, .int .i64 b] w fun e w' => e = .returned (.tuple #[.int .i64 (BM.bin32 116 a b).1, .int .i64 (BM.bin32 116 a b).2]) ∧ w' = w := by
  have K1 : Hid (∀ x : Int, wrap64 x % 4294967296 = x % 4294967296) := BM.wrap_mod32
  have hk : bits .and .i64 (b % 4294967296) 31 = b % 32 := by rw [BM.and31]; omega
  have L1 := low_in a
  have L2 := low_in b
  go_enter Tryz.func38, Tryz.ntmps38
  go_wp2_with (first | (go_at_call 65; refine (rlow_any _ _).mono ?_; rintro e w' ⟨rfl, rfl⟩) | (go_at_call 69; refine (rsgn_any _ _).mono ?_; rintro e w' ⟨rfl, rfl⟩))
  go_ret2
  exact ⟨ret_two (by first | rfl | exact K1.out _), rfl⟩
theorem rbin_sar (a b : Int) (w : World) :
    Calls Tryz.prog 38 #[.int .i64 117, .int .i64 a, .int .i64 b] w fun e w' => e = .returned (.tuple #[.int .i64 (BM.bin32 117 a b).1, .int .i64 (BM.bin32 117 a b).2]) ∧ w' = w := by
  have K1 : Hid (∀ x : Int, wrap64 x % 4294967296 = x % 4294967296) := BM.wrap_mod32
  have hk : bits .and .i64 (b % 4294967296) 31 = b % 32 := by rw [BM.and31]; omega
  have L1 := low_in a
  have L2 := low_in b
  go_enter Tryz.func38, Tryz.ntmps38
  go_wp2_with (first | (go_at_call 65; refine (rlow_any _ _).mono ?_; rintro e w' ⟨rfl, rfl⟩) | (go_at_call 69; refine (rsgn_any _ _).mono ?_; rintro e w' ⟨rfl, rfl⟩))
  go_ret2
  exact ⟨ret_two (by first | rfl | exact K1.out _), rfl⟩
theorem rbin_shr (a b : Int) (w : World) :
    Calls Tryz.prog 38 #[.int .i64 118, .int .i64 a, .int .i64 b] w fun e w' => e = .returned (.tuple #[.int .i64 (BM.bin32 118 a b).1, .int .i64 (BM.bin32 118 a b).2]) ∧ w' = w := by
  have K1 : Hid (∀ x : Int, wrap64 x % 4294967296 = x % 4294967296) := BM.wrap_mod32
  have hk : bits .and .i64 (b % 4294967296) 31 = b % 32 := by rw [BM.and31]; omega
  have L1 := low_in a
  have L2 := low_in b
  go_enter Tryz.func38, Tryz.ntmps38
  go_wp2_with (first | (go_at_call 65; refine (rlow_any _ _).mono ?_; rintro e w' ⟨rfl, rfl⟩) | (go_at_call 69; refine (rsgn_any _ _).mono ?_; rintro e w' ⟨rfl, rfl⟩))
  go_ret2
  exact ⟨ret_two (by first | rfl | exact K1.out _), rfl⟩
theorem rbin_rotl (a b : Int) (w : World) :
    Calls Tryz.prog 38 #[.int .i64 119, .int .i64 a, .int .i64 b] w fun e w' => e = .returned (.tuple #[.int .i64 (BM.bin32 119 a b).1, .int .i64 (BM.bin32 119 a b).2]) ∧ w' = w := by
  have K1 : Hid (∀ x : Int, wrap64 x % 4294967296 = x % 4294967296) := BM.wrap_mod32
  have hk : bits .and .i64 (b % 4294967296) 31 = b % 32 := by rw [BM.and31]; omega
  have L1 := low_in a
  have L2 := low_in b
  have e1 : Hid ((a % 4294967296 % 4294967296).toNat = (a % 4294967296).toNat) := by show _ = _; omega
  have e2 : Hid ((b % 32 % 32).toNat = (b % 32).toNat) := by show _ = _; omega
  go_enter Tryz.func38, Tryz.ntmps38
  go_wp2_with (first | (go_at_call 65; refine (rlow_any _ _).mono ?_; rintro e w' ⟨rfl, rfl⟩) | (go_at_call 69; refine (rsgn_any _ _).mono ?_; rintro e w' ⟨rfl, rfl⟩) | (go_at_call 77; refine (roll_32 (a % 4294967296) (b % 32) _).mono ?_; rintro e w' ⟨rfl, rfl⟩; rw [e1.out, e2.out]))
  go_ret2
  exact ⟨rfl, rfl⟩
theorem rbin_rotr (a b : Int) (w : World) :
    Calls Tryz.prog 38 #[.int .i64 120, .int .i64 a, .int .i64 b] w fun e w' => e = .returned (.tuple #[.int .i64 (BM.bin32 120 a b).1, .int .i64 (BM.bin32 120 a b).2]) ∧ w' = w := by
  have K1 : Hid (∀ x : Int, wrap64 x % 4294967296 = x % 4294967296) := BM.wrap_mod32
  have hk : bits .and .i64 (b % 4294967296) 31 = b % 32 := by rw [BM.and31]; omega
  have L1 := low_in a
  have L2 := low_in b
  have e1 : Hid ((a % 4294967296 % 4294967296).toNat = (a % 4294967296).toNat) := by show _ = _; omega
  have e2 : Hid (((32 - b % 32) % 32).toNat = ((-b) % 32).toNat) := by show _ = _; omega
  go_enter Tryz.func38, Tryz.ntmps38
  go_wp2_with (first | (go_at_call 65; refine (rlow_any _ _).mono ?_; rintro e w' ⟨rfl, rfl⟩) | (go_at_call 69; refine (rsgn_any _ _).mono ?_; rintro e w' ⟨rfl, rfl⟩) | (go_at_call 77; refine (roll_32 (a % 4294967296) (32 - b % 32) _).mono ?_; rintro e w' ⟨rfl, rfl⟩; rw [e1.out, e2.out]))
  go_ret2
  exact ⟨rfl, rfl⟩
theorem rbin_div0 (op a b : Int) (hop : op = 109 ∨ op = 110 ∨ op = 111 ∨ op = 112) (h : b % 4294967296 = 0) (w : World) :
    Calls Tryz.prog 38 #[.int .i64 op, .int .i64 a, .int .i64 b] w fun e w' => e = .returned (.tuple #[.int .i64 0, .int .i64 201]) ∧ w' = w := by
  have L2 : Hid (b % 4294967296 = 0) := h
  have L3 : Hid (BM.sg b = 0) := (BM.sg_zero b).2 h
  clear h
  rcases hop with rfl | rfl | rfl | rfl
  all_goals
    go_enter Tryz.func38, Tryz.ntmps38
    go_wp2_with (first | (go_at_call 65; refine (rlow_any _ _).mono ?_; rintro e w' ⟨rfl, rfl⟩; try rw [L2.out]) | (go_at_call 69; refine (rsgn_any _ _).mono ?_; rintro e w' ⟨rfl, rfl⟩))
    go_ret2
    exact ⟨rfl, rfl⟩
theorem rbin_over (a b : Int) (h0 : ¬ b % 4294967296 = 0) (h1 : BM.sg a = -2147483648) (h2 : BM.sg b = -1) (w : World) :
    Calls Tryz.prog 38 #[.int .i64 109, .int .i64 a, .int .i64 b] w fun e w' => e = .returned (.tuple #[.int .i64 0, .int .i64 202]) ∧ w' = w := by
  have H1 : Hid (BM.sg a = -2147483648) := h1
  have H2 : Hid (BM.sg b = -1) := h2
  clear h1 h2
  go_enter Tryz.func38, Tryz.ntmps38
  go_wp2_with (first | (go_at_call 65; refine (rlow_any _ _).mono ?_; rintro e w' ⟨rfl, rfl⟩) | (go_at_call 69; refine (rsgn_any _ _).mono ?_; rintro e w' ⟨rfl, rfl⟩; first | rw [H1.out] | rw [H2.out]))
  go_ret2
  exact ⟨rfl, rfl⟩
theorem rbin_quos (a b p q : Int) (h0 : ¬ b % 4294967296 = 0) (ep : Hid (BM.sg a = p)) (eq : Hid (BM.sg b = q)) (hq : ¬ q = 0) (h : ¬ p = -2147483648 ∨ ¬ q = -1) (hp : -2147483648 ≤ p ∧ p ≤ 2147483647) (w : World) :
    Calls Tryz.prog 38 #[.int .i64 109, .int .i64 a, .int .i64 b] w fun e w' => e = .returned (.tuple #[.int .i64 (p.tdiv q % 4294967296), .int .i64 0]) ∧ w' = w := by
  have K1 : Hid (∀ x : Int, wrap64 x % 4294967296 = x % 4294967296) := BM.wrap_mod32
  by_cases hs : p = -2147483648
  · have h2 : ¬ q = -1 := by rcases h with h | h; exact absurd hs h; exact h
    subst hs
    clear h hp
    have H2 : Hid (-Int.tdiv 2147483648 q = (-2147483648 : Int).tdiv q) := (Int.neg_tdiv 2147483648 q).symm
    go_enter Tryz.func38, Tryz.ntmps38
    go_wp2_with (first | (go_at_call 65; refine (rlow_any _ _).mono ?_; rintro e w' ⟨rfl, rfl⟩) | (go_at_call 69; refine (rsgn_any _ _).mono ?_; rintro e w' ⟨rfl, rfl⟩; first | rw [ep.out] | rw [eq.out]))
    go_ret2
    exact ⟨ret_two (by first | rfl | exact K1.out _ | rw [K1.out, H2.out] | rw [H2.out]), rfl⟩
  · clear h
    go_enter Tryz.func38, Tryz.ntmps38
    go_wp2_with (first | (go_at_call 65; refine (rlow_any _ _).mono ?_; rintro e w' ⟨rfl, rfl⟩) | (go_at_call 69; refine (rsgn_any _ _).mono ?_; rintro e w' ⟨rfl, rfl⟩; first | rw [ep.out] | rw [eq.out]))
    go_ret2
    exact ⟨ret_two (by first | rfl | exact K1.out _), rfl⟩
theorem rbin_rems (a b p q : Int) (h0 : ¬ b % 4294967296 = 0) (ep : Hid (BM.sg a = p)) (eq : Hid (BM.sg b = q)) (hq : ¬ q = 0) (w : World) :
    Calls Tryz.prog 38 #[.int .i64 111, .int .i64 a, .int .i64 b] w fun e w' => e = .returned (.tuple #[.int .i64 (p.tmod q % 4294967296), .int .i64 0]) ∧ w' = w := by
  go_enter Tryz.func38, Tryz.ntmps38
  go_wp2_with (first | (go_at_call 65; refine (rlow_any _ _).mono ?_; rintro e w' ⟨rfl, rfl⟩) | (go_at_call 69; refine (rsgn_any _ _).mono ?_; rintro e w' ⟨rfl, rfl⟩; first | rw [ep.out] | rw [eq.out]))
  go_ret2
  exact ⟨rfl, rfl⟩
theorem rbin_quou (a b : Int) (h0 : ¬ b % 4294967296 = 0) (w : World) :
    Calls Tryz.prog 38 #[.int .i64 110, .int .i64 a, .int .i64 b] w fun e w' => e = .returned (.tuple #[.int .i64 (a % 4294967296 / (b % 4294967296)), .int .i64 0]) ∧ w' = w := by
  have L1 := low_in a
  have L2 : 1 ≤ b % 4294967296 ∧ b % 4294967296 < 4294967296 := by omega
  go_enter Tryz.func38, Tryz.ntmps38
  go_wp2_with (first | (go_at_call 65; refine (rlow_any _ _).mono ?_; rintro e w' ⟨rfl, rfl⟩) | (go_at_call 69; refine (rsgn_any _ _).mono ?_; rintro e w' ⟨rfl, rfl⟩))
  go_ret2
  exact ⟨rfl, rfl⟩
theorem rbin_remu (a b : Int) (h0 : ¬ b % 4294967296 = 0) (w : World) :
    Calls Tryz.prog 38 #[.int .i64 112, .int .i64 a, .int .i64 b] w fun e w' => e = .returned (.tuple #[.int .i64 (a % 4294967296 % (b % 4294967296)), .int .i64 0]) ∧ w' = w := by
  have L1 := low_in a
  have L2 : 1 ≤ b % 4294967296 ∧ b % 4294967296 < 4294967296 := by omega
  go_enter Tryz.func38, Tryz.ntmps38
  go_wp2_with (first | (go_at_call 65; refine (rlow_any _ _).mono ?_; rintro e w' ⟨rfl, rfl⟩) | (go_at_call 69; refine (rsgn_any _ _).mono ?_; rintro e w' ⟨rfl, rfl⟩))
  go_ret2
  exact ⟨rfl, rfl⟩
theorem rbin_bad (op a b : Int) (h : op < 70 ∨ (79 < op ∧ op < 106) ∨ 120 < op) (w : World) :
    Calls Tryz.prog 38 #[.int .i64 op, .int .i64 a, .int .i64 b] w fun e w' => e = .returned (.tuple #[.int .i64 0, .int .i64 200]) ∧ w' = w := by
  rcases h with h | ⟨h, h'⟩ | h
  all_goals
    go_enter Tryz.func38, Tryz.ntmps38
    go_wp2_with (first | (go_at_call 65; refine (rlow_any _ _).mono ?_; rintro e w' ⟨rfl, rfl⟩) | (go_at_call 69; refine (rsgn_any _ _).mono ?_; rintro e w' ⟨rfl, rfl⟩))
    go_ret2
    exact ⟨rfl, rfl⟩
theorem rbin_any (op a b : Int) (w : World) :
    Calls Tryz.prog 38 #[.int .i64 op, .int .i64 a, .int .i64 b] w fun e w' => e = .returned (.tuple #[.int .i64 (BM.bin32 op a b).1, .int .i64 (BM.bin32 op a b).2]) ∧ w' = w := by
  by_cases hc : 70 ≤ op ∧ op ≤ 79
  · exact rbin_cmp op a b hc w
  by_cases hi : 106 ≤ op ∧ op ≤ 120
  · have hs : op = 106 ∨ op = 107 ∨ op = 108 ∨ op = 109 ∨ op = 110 ∨ op = 111 ∨ op = 112 ∨ op = 113 ∨ op = 114 ∨ op = 115 ∨ op = 116 ∨ op = 117 ∨ op = 118 ∨ op = 119 ∨ op = 120 := by omega
    have hz := BM.sg_zero b
    rcases hs with rfl | rfl | rfl | rfl | rfl | rfl | rfl | rfl | rfl | rfl | rfl | rfl | rfl | rfl | rfl
    · exact rbin_add a b w
    · exact rbin_sub a b w
    · exact rbin_mul a b w
    · by_cases h0 : b % 4294967296 = 0
      · rw [(BM.b_div0 a b h0).1]; exact rbin_div0 _ a b (by omega) h0 w
      · by_cases ho : BM.sg a = -2147483648 ∧ BM.sg b = -1
        · rw [BM.b_over a b h0 ho]; exact rbin_over a b h0 ho.1 ho.2 w
        · rw [BM.b_divs a b h0 ho]; exact rbin_quos a b _ _ h0 rfl rfl (fun h => h0 (hz.1 h)) (by omega) (BM.sg_bounds a) w
    · by_cases h0 : b % 4294967296 = 0
      · rw [(BM.b_div0 a b h0).2.1]; exact rbin_div0 _ a b (by omega) h0 w
      · rw [BM.b_divu a b h0]; exact rbin_quou a b h0 w
    · by_cases h0 : b % 4294967296 = 0
      · rw [(BM.b_div0 a b h0).2.2.1]; exact rbin_div0 _ a b (by omega) h0 w
      · rw [BM.b_rems a b h0]; exact rbin_rems a b _ _ h0 rfl rfl (fun h => h0 (hz.1 h)) w
    · by_cases h0 : b % 4294967296 = 0
      · rw [(BM.b_div0 a b h0).2.2.2]; exact rbin_div0 _ a b (by omega) h0 w
      · rw [BM.b_remu a b h0]; exact rbin_remu a b h0 w
    · exact rbin_and a b w
    · exact rbin_or a b w
    · exact rbin_xor a b w
    · exact rbin_shl a b w
    · exact rbin_sar a b w
    · exact rbin_shr a b w
    · exact rbin_rotl a b w
    · exact rbin_rotr a b w
  · rw [BM.b_bad op a b (by omega)]; exact rbin_bad op a b (by omega) w
theorem run_eqz (a : Int) (w : World) :
    Calls Tryz.prog 37 #[.int .i64 69, .int .i64 a] w fun e w' => e = .returned (.tuple #[.int .i64 (BM.flagI (a % 4294967296 == 0)), .int .i64 0]) ∧ w' = w := by
  go_enter Tryz.func37, Tryz.ntmps37
  go_wp2_with (first | (go_at_call 65; refine (rlow_any _ _).mono ?_; rintro e w' ⟨rfl, rfl⟩) | (go_at_call 72; refine (truth_any _ _).mono ?_; rintro e w' ⟨rfl, rfl⟩))
  go_ret2
  exact ⟨rfl, rfl⟩
theorem run_clz (a : Int) (w : World) :
    Calls Tryz.prog 37 #[.int .i64 103, .int .i64 a] w fun e w' => e = .returned (.tuple #[.int .i64 (32 - (Lib.bitLen (a % 4294967296).toNat : Int)), .int .i64 0]) ∧ w' = w := by
  have e1 : Hid ((a % 4294967296 % 4294967296).toNat = (a % 4294967296).toNat) := by show _ = _; omega
  go_enter Tryz.func37, Tryz.ntmps37
  go_wp2_with (first | (go_at_call 65; refine (rlow_any _ _).mono ?_; rintro e w' ⟨rfl, rfl⟩) | (go_at_call 73; refine (rclz_32 (a % 4294967296) _).mono ?_; rintro e w' ⟨rfl, rfl⟩; rw [e1.out]))
  go_ret2
  exact ⟨rfl, rfl⟩
theorem run_ctz (a : Int) (w : World) :
    Calls Tryz.prog 37 #[.int .i64 104, .int .i64 a] w fun e w' => e = .returned (.tuple #[.int .i64 (Lib.ctz 32 (a % 4294967296).toNat), .int .i64 0]) ∧ w' = w := by
  have e1 : Hid ((a % 4294967296 % 4294967296).toNat = (a % 4294967296).toNat) := by show _ = _; omega
  go_enter Tryz.func37, Tryz.ntmps37
  go_wp2_with (first | (go_at_call 65; refine (rlow_any _ _).mono ?_; rintro e w' ⟨rfl, rfl⟩) | (go_at_call 74; refine (rctz_32 (a % 4294967296) _).mono ?_; rintro e w' ⟨rfl, rfl⟩; rw [e1.out]))
  go_ret2
  exact ⟨rfl, rfl⟩
theorem run_pop (a : Int) (w : World) :
    Calls Tryz.prog 37 #[.int .i64 105, .int .i64 a] w fun e w' => e = .returned (.tuple #[.int .i64 (Lib.popAux 32 (a % 4294967296).toNat), .int .i64 0]) ∧ w' = w := by
  have e1 : Hid ((a % 4294967296 % 4294967296).toNat = (a % 4294967296).toNat) := by show _ = _; omega
  go_enter Tryz.func37, Tryz.ntmps37
  go_wp2_with (first | (go_at_call 65; refine (rlow_any _ _).mono ?_; rintro e w' ⟨rfl, rfl⟩) | (go_at_call 75; refine (rpop_32 (a % 4294967296) _).mono ?_; rintro e w' ⟨rfl, rfl⟩; rw [e1.out]))
  go_ret2
  exact ⟨rfl, rfl⟩
theorem run_bad (op a : Int) (h1 : (op == 69) = false) (h2 : (op == 103) = false) (h3 : (op == 104) = false) (h4 : (op == 105) = false) (w : World) :
    Calls Tryz.prog 37 #[.int .i64 op, .int .i64 a] w fun e w' => e = .returned (.tuple #[.int .i64 0, .int .i64 200]) ∧ w' = w := by
  go_enter Tryz.func37, Tryz.ntmps37
  go_wp2_with (go_at_call 65; refine (rlow_any _ _).mono ?_; rintro e w' ⟨rfl, rfl⟩)
  go_ret2
  exact ⟨rfl, rfl⟩
theorem run_any (op a : Int) (w : World) :
    Calls Tryz.prog 37 #[.int .i64 op, .int .i64 a] w fun e w' => e = .returned (.tuple #[.int .i64 (BM.un32 op a).1, .int .i64 (BM.un32 op a).2]) ∧ w' = w := by
  by_cases h1 : op = 69
  · subst h1; exact run_eqz a w
  by_cases h2 : op = 103
  · subst h2; exact run_clz a w
  by_cases h3 : op = 104
  · subst h3; exact run_ctz a w
  by_cases h4 : op = 105
  · subst h4; exact run_pop a w
  · rw [BM.u_bad op a h1 h2 h3 h4]
    exact run_bad op a (by simpa using h1) (by simpa using h2) (by simpa using h3) (by simpa using h4) w
end Go.Proofs.YtdfgcagbpndabaaGreatDoor.I3
