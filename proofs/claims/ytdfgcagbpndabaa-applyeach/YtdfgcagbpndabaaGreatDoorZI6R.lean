/- Contracts of the document's own answers for package i64n (pelorusref1) over this seat's translation. -/
import Derived.Test.YtdfgcagbpndabaaGreatDoorZR
import Derived.Test.YtdfgcagbpndabaaGreatDoorZI6
set_option linter.unusedVariables false
set_option maxHeartbeats 4000000
set_option maxRecDepth 100000
namespace Go.Proofs.YtdfgcagbpndabaaGreatDoor.I6
open Go.RowKit
theorem truth_any (b : Bool) (w : World) :
    Calls Tryz.prog 72 #[.bool b] w fun e w' => e = .returned (.int .i64 (BM.flagI b)) ∧ w' = w := by
  cases b
  all_goals
    go_enter Tryz.func72, Tryz.ntmps72
    go_wp2
    go_ret
    exact ⟨rfl, rfl⟩
def cmpK (k : Int) (l b s : Bool) : Bool :=
  if k = 0 then s else if k = 1 then !s else if k = 2 then l else if k = 3 then b else if k = 4 then !l && !s else if k = 5 then !b && !s
  else if k = 6 then l || s else if k = 7 then b || s else if k = 8 then !l else !b
theorem rcompare_any (k : Int) (l b s : Bool) (h : 0 ≤ k ∧ k ≤ 9) (w : World) :
    Calls Tryz.prog 76 #[.int .i64 k, .bool l, .bool b, .bool s] w fun e w' => e = .returned (.int .i64 (BM.flagI (cmpK k l b s))) ∧ w' = w := by
  have hc : k = 0 ∨ k = 1 ∨ k = 2 ∨ k = 3 ∨ k = 4 ∨ k = 5 ∨ k = 6 ∨ k = 7 ∨ k = 8 ∨ k = 9 := by omega
  clear h
  rcases hc with rfl | rfl | rfl | rfl | rfl | rfl | rfl | rfl | rfl | rfl
  all_goals
    cases l <;> cases b <;> cases s
    all_goals
      go_enter Tryz.func76, Tryz.ntmps76
      go_wp2_with (go_at_call 72; refine (truth_any _ _).mono ?_; rintro e w' ⟨rfl, rfl⟩)
      go_ret
      exact ⟨rfl, rfl⟩
theorem cmpK_is (op x y : Int) (h : 81 ≤ op ∧ op ≤ 90) (hx : -9223372036854775808 ≤ x ∧ x ≤ 9223372036854775807) (hy : -9223372036854775808 ≤ y ∧ y ≤ 9223372036854775807) : cmpK (op - 81) (decide (x < y)) (decide (IntKind.u64.wrap x < IntKind.u64.wrap y)) (x == y) = BM.cmp64 op x y := by
  have hc : op = 81 ∨ op = 82 ∨ op = 83 ∨ op = 84 ∨ op = 85 ∨ op = 86 ∨ op = 87 ∨ op = 88 ∨ op = 89 ∨ op = 90 := by omega
  have hs : BM.uu x = BM.uu y ↔ x = y := ⟨BM.uu_inj x y hx hy, fun h => by rw [h]⟩
  show cmpK (op - 81) (decide (x < y)) (decide (BM.uu x < BM.uu y)) (x == y) = BM.cmp64 op x y
  clear h hx hy
  generalize ea : BM.uu x = s at *
  generalize eb : BM.uu y = t at *
  rcases hc with rfl | rfl | rfl | rfl | rfl | rfl | rfl | rfl | rfl | rfl
  · rfl
  · rfl
  · rfl
  · show decide (s < t) = decide (BM.uu x < BM.uu y); rw [ea, eb]
  · show (!decide (x < y) && !(x == y)) = decide (y < x); rw [Bool.eq_iff_iff]; simp; omega
  · show (!decide (s < t) && !(x == y)) = decide (BM.uu y < BM.uu x); rw [ea, eb, Bool.eq_iff_iff]; simp; omega
  · show (decide (x < y) || (x == y)) = decide (x ≤ y); rw [Bool.eq_iff_iff]; simp; omega
  · show (decide (s < t) || (x == y)) = decide (BM.uu x ≤ BM.uu y); rw [ea, eb, Bool.eq_iff_iff]; simp; omega
  · show (!decide (x < y)) = decide (y ≤ x); rw [Bool.eq_iff_iff]; simp
  · show (!decide (s < t)) = decide (BM.uu y ≤ BM.uu x); rw [ea, eb, Bool.eq_iff_iff]; simp
theorem rbin_cmp (op a b : Int) (h : 81 ≤ op ∧ op ≤ 90) (ha : -9223372036854775808 ≤ a ∧ a ≤ 9223372036854775807) (hb : -9223372036854775808 ≤ b ∧ b ≤ 9223372036854775807) (w : World) :
    Calls Tryz.prog 40 #[.int .i64 op, .int .i64 a, .int .i64 b] w fun e w' => e = .returned (.tuple #[.int .i64 (BM.bin64 op a b).1, .int .i64 (BM.bin64 op a b).2]) ∧ w' = w := by
  rw [BM.c_cmp op a b h, ← cmpK_is op _ _ h ha hb]
  have h1 := h.1
  have h2 := h.2
  go_enter Tryz.func40, Tryz.ntmps40
  go_wp2_with (first | (go_at_call 78; refine (rbelow_any _ _ _).mono ?_; rintro e w' ⟨rfl, rfl⟩) | (go_at_call 76; refine (rcompare_any _ _ _ _ (by omega) _).mono ?_; rintro e w' ⟨rfl, rfl⟩))
  go_ret2
  exact ⟨rfl, rfl⟩
theorem rbin_add (a b : Int) (w : World) :
    Calls Tryz.prog 40 #[.int .i64 124, .int .i64 a, .int .i64 b] w fun e w' => e = .returned (.tuple #[.int .i64 (BM.bin64 124 a b).1, .int .i64 (BM.bin64 124 a b).2]) ∧ w' = w := by
  rw [BM.c_add]
  have hk := BM.and63 b
  go_enter Tryz.func40, Tryz.ntmps40
  go_wp2
  go_ret2
  exact ⟨ret_two rfl, rfl⟩
theorem rbin_sub (a b : Int) (w : World) :
    Calls Tryz.prog 40 #[.int .i64 125, .int .i64 a, .int .i64 b] w fun e w' => e = .returned (.tuple #[.int .i64 (BM.bin64 125 a b).1, .int .i64 (BM.bin64 125 a b).2]) ∧ w' = w := by
  rw [BM.c_sub]
  have hk := BM.and63 b
  go_enter Tryz.func40, Tryz.ntmps40
  go_wp2
  go_ret2
  exact ⟨ret_two rfl, rfl⟩
theorem rbin_mul (a b : Int) (w : World) :
    Calls Tryz.prog 40 #[.int .i64 126, .int .i64 a, .int .i64 b] w fun e w' => e = .returned (.tuple #[.int .i64 (BM.bin64 126 a b).1, .int .i64 (BM.bin64 126 a b).2]) ∧ w' = w := by
  rw [BM.c_mul]
  have hk := BM.and63 b
  go_enter Tryz.func40, Tryz.ntmps40
  go_wp2
  go_ret2
  exact ⟨ret_two rfl, rfl⟩
theorem rbin_and (a b : Int) (w : World) :
    Calls Tryz.prog 40 #[.int .i64 131, .int .i64 a, .int .i64 b] w fun e w' => e = .returned (.tuple #[.int .i64 (BM.bin64 131 a b).1, .int .i64 (BM.bin64 131 a b).2]) ∧ w' = w := by
  rw [BM.c_and]
  have hk := BM.and63 b
  go_enter Tryz.func40, Tryz.ntmps40
  go_wp2
  go_ret2
  exact ⟨ret_two rfl, rfl⟩
theorem rbin_or (a b : Int) (w : World) :
    Calls Tryz.prog 40 #[.int .i64 132, .int .i64 a, .int .i64 b] w fun e w' => e = .returned (.tuple #[.int .i64 (BM.bin64 132 a b).1, .int .i64 (BM.bin64 132 a b).2]) ∧ w' = w := by
  rw [BM.c_or]
  have hk := BM.and63 b
  go_enter Tryz.func40, Tryz.ntmps40
  go_wp2
  go_ret2
  exact ⟨ret_two rfl, rfl⟩
theorem rbin_xor (a b : Int) (w : World) :
    Calls Tryz.prog 40 #[.int .i64 133, .int .i64 a, .int .i64 b] w fun e w' => e = .returned (.tuple #[.int .i64 (BM.bin64 133 a b).1, .int .i64 (BM.bin64 133 a b).2]) ∧ w' = w := by
  rw [BM.c_xor]
  have hk := BM.and63 b
  go_enter Tryz.func40, Tryz.ntmps40
  go_wp2
  go_ret2
  exact ⟨ret_two rfl, rfl⟩
theorem rbin_shl (a b : Int) (w : World) :
    Calls Tryz.prog 40 #[.int .i64 134, .int .i64 a, .int .i64 b] w fun e w' => e = .returned (.tuple #[.int .i64 (BM.bin64 134 a b).1, .int .i64 (BM.bin64 134 a b).2]) ∧ w' = w := by
  rw [BM.c_shl]
  have hk := BM.and63 b
  go_enter Tryz.func40, Tryz.ntmps40
  go_wp2
  go_ret2
  exact ⟨ret_two rfl, rfl⟩
theorem rbin_sar (a b : Int) (w : World) :
    Calls Tryz.prog 40 #[.int .i64 135, .int .i64 a, .int .i64 b] w fun e w' => e = .returned (.tuple #[.int .i64 (BM.bin64 135 a b).1, .int .i64 (BM.bin64 135 a b).2]) ∧ w' = w := by
  rw [BM.c_sar]
  have hk := BM.and63 b
  go_enter Tryz.func40, Tryz.ntmps40
  go_wp2
  go_ret2
  exact ⟨ret_two rfl, rfl⟩
theorem rbin_shr (a b : Int) (w : World) :
    Calls Tryz.prog 40 #[.int .i64 136, .int .i64 a, .int .i64 b] w fun e w' => e = .returned (.tuple #[.int .i64 (BM.bin64 136 a b).1, .int .i64 (BM.bin64 136 a b).2]) ∧ w' = w := by
  rw [BM.c_shr]
  have hk := BM.and63 b
  go_enter Tryz.func40, Tryz.ntmps40
  go_wp2
  go_ret2
  exact ⟨ret_two rfl, rfl⟩
theorem rbin_rotl (a b : Int) (w : World) :
    Calls Tryz.prog 40 #[.int .i64 137, .int .i64 a, .int .i64 b] w fun e w' => e = .returned (.tuple #[.int .i64 (BM.bin64 137 a b).1, .int .i64 (BM.bin64 137 a b).2]) ∧ w' = w := by
  rw [BM.c_rotl]
  have hk := BM.and63 b
  have e2 : Hid ((b % 64 % 64).toNat = (b % 64).toNat) := by show _ = _; omega
  go_enter Tryz.func40, Tryz.ntmps40
  go_wp2_with (go_at_call 77; refine (roll_64 a (b % 64) _).mono ?_; rintro e w' ⟨rfl, rfl⟩; rw [e2.out])
  go_ret2
  exact ⟨rfl, rfl⟩
theorem rbin_rotr (a b : Int) (w : World) :
    Calls Tryz.prog 40 #[.int .i64 138, .int .i64 a, .int .i64 b] w fun e w' => e = .returned (.tuple #[.int .i64 (BM.bin64 138 a b).1, .int .i64 (BM.bin64 138 a b).2]) ∧ w' = w := by
  rw [BM.c_rotr]
  have hk := BM.and63 b
  have e2 : Hid (((64 - b % 64) % 64).toNat = ((-b) % 64).toNat) := by show _ = _; omega
  go_enter Tryz.func40, Tryz.ntmps40
  go_wp2_with (go_at_call 77; refine (roll_64 a (64 - b % 64) _).mono ?_; rintro e w' ⟨rfl, rfl⟩; rw [e2.out])
  go_ret2
  exact ⟨rfl, rfl⟩
theorem rd_zero (op a : Int) (w : World) :
    Calls Tryz.prog 79 #[.int .i64 op, .int .i64 a, .int .i64 0] w fun e w' => e = .returned (.tuple #[.int .i64 0, .int .i64 301]) ∧ w' = w := by
  go_enter Tryz.func79, Tryz.ntmps79
  go_wp2
  go_ret2
  exact ⟨rfl, rfl⟩
theorem rd_over (w : World) :
    Calls Tryz.prog 79 #[.int .i64 127, .int .i64 (-9223372036854775808), .int .i64 (-1)] w fun e w' => e = .returned (.tuple #[.int .i64 0, .int .i64 302]) ∧ w' = w := by
  go_enter Tryz.func79, Tryz.ntmps79
  go_wp2
  go_ret2
  exact ⟨rfl, rfl⟩
theorem rd_quo (s t : Int) (ht : ¬ t = 0) (h : ¬ s = -9223372036854775808 ∨ ¬ t = -1) (w : World) :
    Calls Tryz.prog 79 #[.int .i64 127, .int .i64 s, .int .i64 t] w fun e w' => e = .returned (.tuple #[.int .i64 (wrap64 (s.tdiv t)), .int .i64 0]) ∧ w' = w := by
  by_cases hs : s = -9223372036854775808
  · have h2 : ¬ t = -1 := by rcases h with h | h; exact absurd hs h; exact h
    subst hs
    clear h
    have H2 : Hid (-Int.tdiv 9223372036854775808 t = (-9223372036854775808 : Int).tdiv t) := (Int.neg_tdiv 9223372036854775808 t).symm
    go_enter Tryz.func79, Tryz.ntmps79
    go_wp2
    go_ret2
    exact ⟨ret_two (by first | rfl | rw [H2.out]), rfl⟩
  · clear h
    go_enter Tryz.func79, Tryz.ntmps79
    go_wp2
    go_ret2
    exact ⟨ret_two rfl, rfl⟩
theorem rd_rem (s t : Int) (ht : ¬ t = 0) (h : ¬ t = -1) (w : World) :
    Calls Tryz.prog 79 #[.int .i64 129, .int .i64 s, .int .i64 t] w fun e w' => e = .returned (.tuple #[.int .i64 (s.tmod t), .int .i64 0]) ∧ w' = w := by
  go_enter Tryz.func79, Tryz.ntmps79
  go_wp2
  go_ret2
  exact ⟨rfl, rfl⟩
theorem rd_rem1 (s : Int) (w : World) :
    Calls Tryz.prog 79 #[.int .i64 129, .int .i64 s, .int .i64 (-1)] w fun e w' => e = .returned (.tuple #[.int .i64 0, .int .i64 0]) ∧ w' = w := by
  go_enter Tryz.func79, Tryz.ntmps79
  go_wp2
  go_ret2
  exact ⟨rfl, rfl⟩
theorem rd_quou (s t : Int) (ht : ¬ t = 0) (hu : 1 ≤ IntKind.u64.wrap t) (w : World) :
    Calls Tryz.prog 79 #[.int .i64 128, .int .i64 s, .int .i64 t] w fun e w' => e = .returned (.tuple #[.int .i64 (uquo s t), .int .i64 0]) ∧ w' = w := by
  have hs := (u64_pos s).1
  have hu0 : ¬ IntKind.u64.wrap t = 0 := by omega
  go_enter Tryz.func79, Tryz.ntmps79
  go_wp2
  go_ret2
  exact ⟨rfl, rfl⟩
theorem rd_remu (s t : Int) (ht : ¬ t = 0) (hu : 1 ≤ IntKind.u64.wrap t) (w : World) :
    Calls Tryz.prog 79 #[.int .i64 130, .int .i64 s, .int .i64 t] w fun e w' => e = .returned (.tuple #[.int .i64 (urem s t), .int .i64 0]) ∧ w' = w := by
  have hs := (u64_pos s).1
  have hu0 : ¬ IntKind.u64.wrap t = 0 := by omega
  go_enter Tryz.func79, Tryz.ntmps79
  go_wp2
  go_ret2
  exact ⟨rfl, rfl⟩
theorem rbin_div0 (op a : Int) (hop : op = 127 ∨ op = 128 ∨ op = 129 ∨ op = 130) (w : World) :
    Calls Tryz.prog 40 #[.int .i64 op, .int .i64 a, .int .i64 0] w fun e w' => e = .returned (.tuple #[.int .i64 0, .int .i64 301]) ∧ w' = w := by
  rcases hop with rfl | rfl | rfl | rfl
  all_goals
    go_enter Tryz.func40, Tryz.ntmps40
    go_wp2_with (go_at_call 79; refine (rd_zero _ _ _).mono ?_; rintro e w' ⟨rfl, rfl⟩)
    go_ret2
    exact ⟨rfl, rfl⟩
theorem rbin_over (w : World) :
    Calls Tryz.prog 40 #[.int .i64 127, .int .i64 (-9223372036854775808), .int .i64 (-1)] w fun e w' => e = .returned (.tuple #[.int .i64 0, .int .i64 302]) ∧ w' = w := by
  go_enter Tryz.func40, Tryz.ntmps40
  go_wp2_with (go_at_call 79; refine (rd_over _).mono ?_; rintro e w' ⟨rfl, rfl⟩)
  go_ret2
  exact ⟨rfl, rfl⟩
theorem rbin_quos (a b : Int) (h1 : ¬ b = 0) (h2 : ¬ a = -9223372036854775808 ∨ ¬ b = -1) (w : World) :
    Calls Tryz.prog 40 #[.int .i64 127, .int .i64 a, .int .i64 b] w fun e w' => e = .returned (.tuple #[.int .i64 (wrap64 (a.tdiv b)), .int .i64 0]) ∧ w' = w := by
  have H1 : Hid (¬ b = 0) := h1
  have H2 : Hid (¬ a = -9223372036854775808 ∨ ¬ b = -1) := h2
  clear h1 h2
  go_enter Tryz.func40, Tryz.ntmps40
  go_wp2_with (go_at_call 79; refine (rd_quo _ _ H1.out H2.out _).mono ?_; rintro e w' ⟨rfl, rfl⟩)
  go_ret2
  exact ⟨rfl, rfl⟩
theorem rbin_rems (a b : Int) (h1 : ¬ b = 0) (h2 : ¬ b = -1) (w : World) :
    Calls Tryz.prog 40 #[.int .i64 129, .int .i64 a, .int .i64 b] w fun e w' => e = .returned (.tuple #[.int .i64 (a.tmod b), .int .i64 0]) ∧ w' = w := by
  have H1 : Hid (¬ b = 0) := h1
  have H2 : Hid (¬ b = -1) := h2
  clear h1 h2
  go_enter Tryz.func40, Tryz.ntmps40
  go_wp2_with (go_at_call 79; refine (rd_rem _ _ H1.out H2.out _).mono ?_; rintro e w' ⟨rfl, rfl⟩)
  go_ret2
  exact ⟨rfl, rfl⟩
theorem rbin_rem1 (a : Int) (w : World) :
    Calls Tryz.prog 40 #[.int .i64 129, .int .i64 a, .int .i64 (-1)] w fun e w' => e = .returned (.tuple #[.int .i64 0, .int .i64 0]) ∧ w' = w := by
  go_enter Tryz.func40, Tryz.ntmps40
  go_wp2_with (go_at_call 79; refine (rd_rem1 _ _).mono ?_; rintro e w' ⟨rfl, rfl⟩)
  go_ret2
  exact ⟨rfl, rfl⟩
theorem rbin_quou (a b : Int) (h1 : ¬ b = 0) (h2 : 1 ≤ IntKind.u64.wrap b) (w : World) :
    Calls Tryz.prog 40 #[.int .i64 128, .int .i64 a, .int .i64 b] w fun e w' => e = .returned (.tuple #[.int .i64 (uquo a b), .int .i64 0]) ∧ w' = w := by
  have H1 : Hid (¬ b = 0) := h1
  have H2 : Hid (1 ≤ IntKind.u64.wrap b) := h2
  clear h1 h2
  go_enter Tryz.func40, Tryz.ntmps40
  go_wp2_with (go_at_call 79; refine (rd_quou _ _ H1.out H2.out _).mono ?_; rintro e w' ⟨rfl, rfl⟩)
  go_ret2
  exact ⟨rfl, rfl⟩
theorem rbin_remu (a b : Int) (h1 : ¬ b = 0) (h2 : 1 ≤ IntKind.u64.wrap b) (w : World) :
    Calls Tryz.prog 40 #[.int .i64 130, .int .i64 a, .int .i64 b] w fun e w' => e = .returned (.tuple #[.int .i64 (urem a b), .int .i64 0]) ∧ w' = w := by
  have H1 : Hid (¬ b = 0) := h1
  have H2 : Hid (1 ≤ IntKind.u64.wrap b) := h2
  clear h1 h2
  go_enter Tryz.func40, Tryz.ntmps40
  go_wp2_with (go_at_call 79; refine (rd_remu _ _ H1.out H2.out _).mono ?_; rintro e w' ⟨rfl, rfl⟩)
  go_ret2
  exact ⟨rfl, rfl⟩
theorem rbin_bad (op a b : Int) (h : op < 81 ∨ (90 < op ∧ op < 124) ∨ 138 < op) (w : World) :
    Calls Tryz.prog 40 #[.int .i64 op, .int .i64 a, .int .i64 b] w fun e w' => e = .returned (.tuple #[.int .i64 0, .int .i64 300]) ∧ w' = w := by
  rcases h with h | ⟨h, h'⟩ | h
  all_goals
    go_enter Tryz.func40, Tryz.ntmps40
    go_wp2
    go_ret2
    exact ⟨rfl, rfl⟩
theorem rbin_any (op a b : Int) (ha : -9223372036854775808 ≤ a ∧ a ≤ 9223372036854775807) (hb : -9223372036854775808 ≤ b ∧ b ≤ 9223372036854775807) (w : World) :
    Calls Tryz.prog 40 #[.int .i64 op, .int .i64 a, .int .i64 b] w fun e w' => e = .returned (.tuple #[.int .i64 (BM.bin64 op a b).1, .int .i64 (BM.bin64 op a b).2]) ∧ w' = w := by
  by_cases hc : 81 ≤ op ∧ op ≤ 90
  · exact rbin_cmp op a b hc ha hb w
  by_cases hi : 124 ≤ op ∧ op ≤ 138
  · have hs : op = 124 ∨ op = 125 ∨ op = 126 ∨ op = 127 ∨ op = 128 ∨ op = 129 ∨ op = 130 ∨ op = 131 ∨ op = 132 ∨ op = 133 ∨ op = 134 ∨ op = 135 ∨ op = 136 ∨ op = 137 ∨ op = 138 := by omega
    have hu : ¬ b = 0 → 1 ≤ BM.uu b := by intro h0; rw [BM.uu_is]; omega
    clear hc hi ha hb
    rcases hs with rfl | rfl | rfl | rfl | rfl | rfl | rfl | rfl | rfl | rfl | rfl | rfl | rfl | rfl | rfl
    · exact rbin_add a b w
    · exact rbin_sub a b w
    · exact rbin_mul a b w
    · by_cases h0 : b = 0
      · rw [(BM.c_div0 a b h0).1, h0]; exact rbin_div0 _ a (by omega) w
      · by_cases ho : a = -9223372036854775808 ∧ b = -1
        · rw [BM.c_over a b h0 ho, ho.1, ho.2]; exact rbin_over w
        · rw [BM.c_divs a b h0 ho]; exact rbin_quos a b h0 (by omega) w
    · by_cases h0 : b = 0
      · rw [(BM.c_div0 a b h0).2.1, h0]; exact rbin_div0 _ a (by omega) w
      · rw [BM.c_divu a b h0, ← uquo_is a b (hu h0)]; exact rbin_quou a b h0 (hu h0) w
    · by_cases h0 : b = 0
      · rw [(BM.c_div0 a b h0).2.2.1, h0]; exact rbin_div0 _ a (by omega) w
      · rw [BM.c_rems a b h0]
        by_cases h1 : b = -1
        · rw [h1, BM.tmod_one]; exact rbin_rem1 a w
        · exact rbin_rems a b h0 h1 w
    · by_cases h0 : b = 0
      · rw [(BM.c_div0 a b h0).2.2.2, h0]; exact rbin_div0 _ a (by omega) w
      · rw [BM.c_remu a b h0]; exact rbin_remu a b h0 (hu h0) w
    · exact rbin_and a b w
    · exact rbin_or a b w
    · exact rbin_xor a b w
    · exact rbin_shl a b w
    · exact rbin_sar a b w
    · exact rbin_shr a b w
    · exact rbin_rotl a b w
    · exact rbin_rotr a b w
  · rw [BM.c_bad op a b (by omega)]; exact rbin_bad op a b (by omega) w
theorem run_eqz (a : Int) (w : World) :
    Calls Tryz.prog 39 #[.int .i64 80, .int .i64 a] w fun e w' => e = .returned (.tuple #[.int .i64 (BM.flagI (a == 0)), .int .i64 0]) ∧ w' = w := by
  go_enter Tryz.func39, Tryz.ntmps39
  go_wp2_with (go_at_call 72; refine (truth_any _ _).mono ?_; rintro e w' ⟨rfl, rfl⟩)
  go_ret2
  exact ⟨rfl, rfl⟩
theorem run_clz (a : Int) (w : World) :
    Calls Tryz.prog 39 #[.int .i64 121, .int .i64 a] w fun e w' => e = .returned (.tuple #[.int .i64 (64 - (Lib.bitLen (BM.uu a).toNat : Int)), .int .i64 0]) ∧ w' = w := by
  go_enter Tryz.func39, Tryz.ntmps39
  go_wp2_with (go_at_call 73; refine (rclz_64 _ _).mono ?_; rintro e w' ⟨rfl, rfl⟩)
  go_ret2
  exact ⟨rfl, rfl⟩
theorem run_ctz (a : Int) (w : World) :
    Calls Tryz.prog 39 #[.int .i64 122, .int .i64 a] w fun e w' => e = .returned (.tuple #[.int .i64 (Lib.ctz 64 (BM.uu a).toNat), .int .i64 0]) ∧ w' = w := by
  go_enter Tryz.func39, Tryz.ntmps39
  go_wp2_with (go_at_call 74; refine (rctz_64 _ _).mono ?_; rintro e w' ⟨rfl, rfl⟩)
  go_ret2
  exact ⟨rfl, rfl⟩
theorem run_pop (a : Int) (w : World) :
    Calls Tryz.prog 39 #[.int .i64 123, .int .i64 a] w fun e w' => e = .returned (.tuple #[.int .i64 (Lib.popAux 64 (BM.uu a).toNat), .int .i64 0]) ∧ w' = w := by
  go_enter Tryz.func39, Tryz.ntmps39
  go_wp2_with (go_at_call 75; refine (rpop_64 _ _).mono ?_; rintro e w' ⟨rfl, rfl⟩)
  go_ret2
  exact ⟨rfl, rfl⟩
theorem run_bad (op a : Int) (h1 : (op == 80) = false) (h2 : (op == 121) = false) (h3 : (op == 122) = false) (h4 : (op == 123) = false) (w : World) :
    Calls Tryz.prog 39 #[.int .i64 op, .int .i64 a] w fun e w' => e = .returned (.tuple #[.int .i64 0, .int .i64 300]) ∧ w' = w := by
  go_enter Tryz.func39, Tryz.ntmps39
  go_wp2
  go_ret2
  exact ⟨rfl, rfl⟩
theorem run_any (op a : Int) (w : World) :
    Calls Tryz.prog 39 #[.int .i64 op, .int .i64 a] w fun e w' => e = .returned (.tuple #[.int .i64 (BM.un64 op a).1, .int .i64 (BM.un64 op a).2]) ∧ w' = w := by
  by_cases h1 : op = 80
  · subst h1; exact run_eqz a w
  by_cases h2 : op = 121
  · subst h2; exact run_clz a w
  by_cases h3 : op = 122
  · subst h3; exact run_ctz a w
  by_cases h4 : op = 123
  · subst h4; exact run_pop a w
  · rw [BM.v_bad op a h1 h2 h3 h4]
    exact run_bad op a (by simpa using h1) (by simpa using h2) (by simpa using h3) (by simpa using h4) w
end Go.Proofs.YtdfgcagbpndabaaGreatDoor.I6
