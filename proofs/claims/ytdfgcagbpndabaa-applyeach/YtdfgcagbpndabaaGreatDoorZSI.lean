/- Contracts of the document's floats (pelorusref4), over this seat's translation: sums of finite floats are the model's. -/
import Derived.Test.YtdfgcagbpndabaaGreatDoorZSE
import Derived.Test.YtdfgcagbpndabaaGreatDoorZD
import Derived.Test.YtdfgcagbpndabaaGreatDoorZA
import Derived.WalkLawsBesides
import Derived.RegionCalls
import Derived.Deep.RegionWith
set_option linter.unusedVariables false
namespace Go.Proofs.YtdfgcagbpndabaaGreatDoor.S
open Go.RowKit
open Go.FM (W64 two bl lost isN qn)
theorem up_hid (m k : Nat) (hm : m < W64) (hk : k < 128) (h : m * 2 ^ k < 2 ^ 128) : RL Tryz.prog 155 #[.int .u64 (m : Nat), .int .i64 ((k : Nat) : Int)] (.tuple #[.int .u64 ((m * 2 ^ k / W64 : Nat) : Int), .int .u64 ((m * 2 ^ k % W64 : Nat) : Int)]) := fun w => up_any m k hm hk h w
theorem tail_same (S : Bool) (T n : Nat) (ee : Int) (hT : T < 2 ^ 127) (hn : n < W64) (h1 : -10000 ≤ ee) (h2 : ee ≤ 10000) :
    Hid (∀ w : World, Calls Tryz.prog 171 #[.int .u64 ((T % W64 : Nat) : Int), .int .u64 (n : Nat), .int .u64 0] w fun e w' => e = .returned (.tuple #[.int .u64 (((T % W64 + n) % W64 : Nat) : Int), .int .u64 (((T % W64 + n) / W64 : Nat) : Int)]) ∧ w' = w) ∧
    IntKind.u64.wrap (((T / W64 : Nat) : Int) + (((T % W64 + n) / W64 : Nat) : Int)) = ((T / W64 + (T % W64 + n) / W64 : Nat) : Int) ∧
    RL Tryz.prog 122 #[fm, .bool S, .int .u64 ((T / W64 + (T % W64 + n) / W64 : Nat) : Int), .int .u64 (((T % W64 + n) % W64 : Nat) : Int), .int .i64 ee] (.int .u64 ((ff.nearest S (T + n) ee : Nat) : Int)) := by
  have hl : T % W64 < W64 := Nat.mod_lt _ (by decide)
  have hb : T / W64 + (T % W64 + n) / W64 < W64 := by simp only [W64] at *; omega
  refine ⟨fun w => add_any _ _ hl hn w, ?_, fun w => ?_⟩
  · rw [IntKind.wrap_u64]; simp only [W64] at *; omega
  · have := round_any S (T / W64 + (T % W64 + n) / W64) ((T % W64 + n) % W64) ee hb (Nat.mod_lt _ (by decide)) h1 h2 w
    rw [show two (T / W64 + (T % W64 + n) / W64) ((T % W64 + n) % W64) = T + n from by unfold two; simp only [W64] at *; omega] at this
    exact this
theorem subs (T n : Nat) (hT : T < 2 ^ 127) (hn : n < W64) :
    Hid (∀ w : World, Calls Tryz.prog 172 #[.int .u64 ((T % W64 : Nat) : Int), .int .u64 (n : Nat), .int .u64 0] w fun e w' => e = .returned (.tuple #[.int .u64 (((T % W64 + W64 + W64 - n - 0) % W64 : Nat) : Int), .int .u64 ((if T % W64 < n + 0 then 1 else 0 : Nat) : Int)]) ∧ w' = w) ∧
    Hid (∀ w : World, Calls Tryz.prog 172 #[.int .u64 ((T / W64 : Nat) : Int), .int .u64 0, .int .u64 ((if T % W64 < n + 0 then 1 else 0 : Nat) : Int)] w fun e w' => e = .returned (.tuple #[.int .u64 (((T / W64 + W64 + W64 - 0 - (if T % W64 < n + 0 then 1 else 0)) % W64 : Nat) : Int), .int .u64 ((if T / W64 < 0 + (if T % W64 < n + 0 then 1 else 0) then 1 else 0 : Nat) : Int)]) ∧ w' = w) := by
  have hl : T % W64 < W64 := Nat.mod_lt _ (by decide)
  have hb : T / W64 < W64 := by simp only [W64] at *; omega
  exact ⟨fun w => sub_any _ _ 0 hl hn (by decide) w, fun w => sub_any _ 0 _ hb (by decide) (by split <;> decide) w⟩
theorem sub_le (T n : Nat) (hT : T < 2 ^ 127) (hn : n < W64) (h : n ≤ T) : (if T / W64 < 0 + (if T % W64 < n + 0 then 1 else 0) then 1 else 0 : Nat) = 0 ∧ two ((T / W64 + W64 + W64 - 0 - (if T % W64 < n + 0 then 1 else 0)) % W64) ((T % W64 + W64 + W64 - n - 0) % W64) = T - n := by
  unfold two
  simp only [W64] at *
  by_cases h0 : T % 18446744073709551616 < n + 0
  · rw [if_pos h0, if_neg (by omega)]
    exact ⟨rfl, by omega⟩
  · rw [if_neg h0, if_neg (by omega)]
    exact ⟨rfl, by omega⟩
theorem sub_gt (T n : Nat) (hT : T < 2 ^ 127) (hn : n < W64) (h : T < n) : (if T / W64 < 0 + (if T % W64 < n + 0 then 1 else 0) then 1 else 0 : Nat) = 1 ∧ T % W64 = T := by
  simp only [W64] at *
  refine ⟨?_, by omega⟩
  rw [if_pos (show T % 18446744073709551616 < n + 0 by omega), if_pos (by omega)]
theorem or_two (a b : Nat) (ha : a < W64) (hb : b < W64) : bits .or .u64 (a : Int) (b : Int) = ((a ||| b : Nat) : Int) ∧ ((a ||| b) = 0 ↔ two a b = 0) := by
  refine ⟨FM.or_u a b ha hb, ?_⟩
  rw [Nat.or_eq_zero_iff]; unfold two; simp only [W64]; omega
theorem wrap_ij (i j : Int) (hi : -3000 ≤ i ∧ i ≤ 3000) (hj : -3000 ≤ j ∧ j ≤ 3000) (hij : j ≤ i) : IntKind.i64.wrap (i - j) = (((i - j).toNat : Nat) : Int) := by rw [IntKind.wrap_i64]; omega
theorem wrap_sub (i j e : Int) (hi : -3000 ≤ i ∧ i ≤ 3000) (hj : -3000 ≤ j ∧ j ≤ 3000) (h : i - j = e) : IntKind.i64.wrap (i - j) = e := by rw [IntKind.wrap_i64]; omega
theorem wrap_one (i : Int) (hi : -3000 ≤ i ∧ i ≤ 3000) : IntKind.i64.wrap i = i := by rw [IntKind.wrap_i64]; omega
theorem beq_no {a : Nat} (h : a ≠ 0) : (((a : Int) == 0) = false) ∧ ¬ (a : Int) = 0 := by
  have : ¬ (a : Int) = 0 := by omega
  exact ⟨by rw [beq_eq_false_iff_ne]; exact this, this⟩
theorem big_lt (m k : Nat) (hm : m < 16777216) (hk : k ≤ 70) : m * 2 ^ k < 2 ^ 127 := by
  have h1 : m * 2 ^ k < 2 ^ 24 * 2 ^ k := Nat.mul_lt_mul_of_pos_right hm (Nat.two_pow_pos k)
  rw [← Nat.pow_add] at h1
  exact Nat.lt_of_lt_of_le h1 (Nat.pow_le_pow_right (by decide) (by omega))
theorem ok_no_bz_same (S : Bool) (m n : Nat) (i j : Int) (hm : m ≠ 0) (hml : m < 16777216) (hn : n < 16777216) (hi : -3000 ≤ i ∧ i ≤ 3000) (hj : -3000 ≤ j ∧ j ≤ 3000) (w : World) :
    RW Tryz.prog 157 #[fm, fv S false false (m : Nat) i, fv S false false 0 j] w (.int .u64 ((ff.nearest S m i : Nat) : Int)) := by
  obtain ⟨m1, m2⟩ := beq_no hm
  have hT := big_lt m 0 hml (by decide)
  have hU := up_hid m 0 (by simp only [W64]; omega) (by decide) (by omega)
  obtain ⟨hA, hc, hr⟩ := tail_same S (m * 2 ^ 0) 0 i hT (by decide) (by omega) (by omega)
  have e : m * 2 ^ 0 = m := by rw [Nat.pow_zero, Nat.mul_one]
  have hz : ff.nearest S (m * 2 ^ 0 + 0) i = ff.nearest S m i := by rw [Nat.add_zero, e]
  rw [hz] at hr
  exact add_no_bz_same S m 0 i j _ 0 _ _ i _ _ _ 0 0 _ m1 m2 rfl (wrap_one i hi) hU hA hc hr w
theorem ok_no_bz_plain (S : Bool) (m n : Nat) (i j : Int) (hm : m ≠ 0) (hml : m < 16777216) (hn : n < 16777216) (hi : -3000 ≤ i ∧ i ≤ 3000) (hj : -3000 ≤ j ∧ j ≤ 3000) (w : World) :
    RW Tryz.prog 157 #[fm, fv S false false (m : Nat) i, fv (!S) false false 0 j] w (.int .u64 ((ff.nearest S m i : Nat) : Int)) := by
  obtain ⟨m1, m2⟩ := beq_no hm
  have hT := big_lt m 0 hml (by decide)
  have hU := up_hid m 0 (by simp only [W64]; omega) (by decide) (by omega)
  obtain ⟨hA, hB⟩ := subs (m * 2 ^ 0) 0 hT (by decide)
  obtain ⟨l1, l2⟩ := sub_le (m * 2 ^ 0) 0 hT (by decide) (Nat.zero_le _)
  rw [l1] at hB
  have e : m * 2 ^ 0 = m := by rw [Nat.pow_zero, Nat.mul_one]
  obtain ⟨o1, o2⟩ := or_two ((m * 2 ^ 0 / W64 + W64 + W64 - 0 - (if m * 2 ^ 0 % W64 < 0 + 0 then 1 else 0)) % W64) ((m * 2 ^ 0 % W64 + W64 + W64 - 0 - 0) % W64) (Nat.mod_lt _ (by decide)) (Nat.mod_lt _ (by decide))
  have hr : RL Tryz.prog 122 #[fm, .bool S, .int .u64 (((m * 2 ^ 0 / W64 + W64 + W64 - 0 - (if m * 2 ^ 0 % W64 < 0 + 0 then 1 else 0)) % W64 : Nat) : Int), .int .u64 (((m * 2 ^ 0 % W64 + W64 + W64 - 0 - 0) % W64 : Nat) : Int), .int .i64 i] (.int .u64 ((ff.nearest S m i : Nat) : Int)) := by
    intro w
    have := round_any S _ ((m * 2 ^ 0 % W64 + W64 + W64 - 0 - 0) % W64) i (Nat.mod_lt (m * 2 ^ 0 / W64 + W64 + W64 - 0 - (if m * 2 ^ 0 % W64 < 0 + 0 then 1 else 0)) (by decide)) (Nat.mod_lt _ (by decide)) (by omega) (by omega) w
    have hz : ff.nearest S (m * 2 ^ 0 - 0) i = ff.nearest S m i := by rw [Nat.sub_zero, e]
    rw [l2, hz] at this
    exact this
  have hd := beq_no (fun g => hm (by have := o2.1 g; rw [l2, e] at this; omega))
  exact add_no_bz_plain S m 0 i j _ 0 _ _ i _ _ _ _ 0 _ m1 m2 rfl (wrap_one i hi) hU hA hB o1 hd.1 hd.2 hr w
theorem ok_no_near_same (S : Bool) (m n : Nat) (i j : Int) (hm : m ≠ 0) (hml : m < 16777216) (hn : n < 16777216) (hi : -3000 ≤ i ∧ i ≤ 3000) (hj : -3000 ≤ j ∧ j ≤ 3000) (hn0 : n ≠ 0) (hij : j ≤ i) (hk : (i - j).toNat ≤ 70) (w : World) :
    RW Tryz.prog 157 #[fm, fv S false false (m : Nat) i, fv S false false (n : Nat) j] w (.int .u64 ((ff.nearest S (m * 2 ^ (i - j).toNat + n) j : Nat) : Int)) := by
  obtain ⟨m1, m2⟩ := beq_no hm
  obtain ⟨n1, n2⟩ := beq_no hn0
  have hT := big_lt m (i - j).toNat hml (by omega)
  have hU := up_hid m (i - j).toNat (by simp only [W64]; omega) (by omega) (by omega)
  have hb := wrap_ij i j hi hj (by omega)
  have hj' : ¬ i < j := by omega
  have h70 : ¬ (70 : Int) < ((i - j).toNat : Nat) := by omega
  have hee : IntKind.i64.wrap (i - ((i - j).toNat : Nat)) = j := wrap_sub i _ j hi (by omega) (by omega)
  obtain ⟨hA, hc, hr⟩ := tail_same S (m * 2 ^ (i - j).toNat) n j hT (by simp only [W64]; omega) (by omega) (by omega)
  exact add_no_near_same S m n i j _ n _ _ j _ _ _ 0 0 _ m1 m2 n1 n2 hj' hb h70 hee hU hA hc hr w
theorem ok_no_near_under (S : Bool) (m n : Nat) (i j : Int) (hm : m ≠ 0) (hml : m < 16777216) (hn : n < 16777216) (hi : -3000 ≤ i ∧ i ≤ 3000) (hj : -3000 ≤ j ∧ j ≤ 3000) (hn0 : n ≠ 0) (hij : j ≤ i) (hk : (i - j).toNat ≤ 70) (hlt : m * 2 ^ (i - j).toNat < n) (w : World) :
    RW Tryz.prog 157 #[fm, fv S false false (m : Nat) i, fv (!S) false false (n : Nat) j] w (.int .u64 ((ff.nearest (!S) (n - m * 2 ^ (i - j).toNat) j : Nat) : Int)) := by
  obtain ⟨m1, m2⟩ := beq_no hm
  obtain ⟨n1, n2⟩ := beq_no hn0
  have hT := big_lt m (i - j).toNat hml (by omega)
  have hU := up_hid m (i - j).toNat (by simp only [W64]; omega) (by omega) (by omega)
  have hb := wrap_ij i j hi hj (by omega)
  have hj' : ¬ i < j := by omega
  have h70 : ¬ (70 : Int) < ((i - j).toNat : Nat) := by omega
  have hee : IntKind.i64.wrap (i - ((i - j).toNat : Nat)) = j := wrap_sub i _ j hi (by omega) (by omega)
  obtain ⟨hA, hB⟩ := subs (m * 2 ^ (i - j).toNat) n hT (by simp only [W64]; omega)
  obtain ⟨l1, l2⟩ := sub_gt (m * 2 ^ (i - j).toNat) n hT (by simp only [W64]; omega) hlt
  rw [l1] at hB
  have hc : IntKind.u64.wrap ((n : Int) - ((m * 2 ^ (i - j).toNat % W64 : Nat) : Int)) = ((n - m * 2 ^ (i - j).toNat : Nat) : Int) := by
    rw [l2, IntKind.wrap_u64]
    generalize m * 2 ^ (i - j).toNat = T at *
    omega
  have hr : RL Tryz.prog 122 #[fm, .bool (!S), .int .u64 0, .int .u64 ((n - m * 2 ^ (i - j).toNat : Nat) : Int), .int .i64 j] (.int .u64 ((ff.nearest (!S) (n - m * 2 ^ (i - j).toNat) j : Nat) : Int)) := by
    intro w
    have := round_any (!S) 0 (n - m * 2 ^ (i - j).toNat) j (by decide) (by simp only [W64]; omega) (by omega) (by omega) w
    rw [show two 0 (n - m * 2 ^ (i - j).toNat) = n - m * 2 ^ (i - j).toNat from by unfold two; rw [Nat.zero_mul, Nat.zero_add]] at this
    exact this
  exact add_no_near_under S m n i j _ n _ _ j _ _ _ _ 0 _ m1 m2 n1 n2 hj' hb h70 hee hU hA hB hc hr w
theorem ok_no_near_zero (S : Bool) (m n : Nat) (i j : Int) (hm : m ≠ 0) (hml : m < 16777216) (hn : n < 16777216) (hi : -3000 ≤ i ∧ i ≤ 3000) (hj : -3000 ≤ j ∧ j ≤ 3000) (hn0 : n ≠ 0) (hij : j ≤ i) (hk : (i - j).toNat ≤ 70) (hlt : m * 2 ^ (i - j).toNat = n) (w : World) :
    RW Tryz.prog 157 #[fm, fv S false false (m : Nat) i, fv (!S) false false (n : Nat) j] w (.int .u64 ((ff.word false 0 : Nat) : Int)) := by
  obtain ⟨m1, m2⟩ := beq_no hm
  obtain ⟨n1, n2⟩ := beq_no hn0
  have hT := big_lt m (i - j).toNat hml (by omega)
  have hU := up_hid m (i - j).toNat (by simp only [W64]; omega) (by omega) (by omega)
  have hb := wrap_ij i j hi hj (by omega)
  have hj' : ¬ i < j := by omega
  have h70 : ¬ (70 : Int) < ((i - j).toNat : Nat) := by omega
  have hee : IntKind.i64.wrap (i - ((i - j).toNat : Nat)) = j := wrap_sub i _ j hi (by omega) (by omega)
  obtain ⟨hA, hB⟩ := subs (m * 2 ^ (i - j).toNat) n hT (by simp only [W64]; omega)
  obtain ⟨l1, l2⟩ := sub_le (m * 2 ^ (i - j).toNat) n hT (by simp only [W64]; omega) (by omega)
  rw [l1] at hB
  obtain ⟨o1, o2⟩ := or_two ((m * 2 ^ (i - j).toNat / W64 + W64 + W64 - 0 - (if m * 2 ^ (i - j).toNat % W64 < n + 0 then 1 else 0)) % W64) ((m * 2 ^ (i - j).toNat % W64 + W64 + W64 - n - 0) % W64) (Nat.mod_lt _ (by decide)) (Nat.mod_lt _ (by decide))
  have ho : ((m * 2 ^ (i - j).toNat / W64 + W64 + W64 - 0 - (if m * 2 ^ (i - j).toNat % W64 < n + 0 then 1 else 0)) % W64) ||| ((m * 2 ^ (i - j).toNat % W64 + W64 + W64 - n - 0) % W64) = 0 := o2.2 (by rw [l2]; omega)
  rw [ho] at o1
  have e := sgn_word false 0
  rw [show sgn false + ((0 : Nat) : Int) = sgn false from Int.add_zero _] at e
  rw [← e]
  exact add_no_near_zero S m n i j _ n _ _ j _ _ _ 0 0 0 m1 m2 n1 n2 hj' hb h70 hee hU hA hB o1 w
theorem ok_no_near_plain (S : Bool) (m n : Nat) (i j : Int) (hm : m ≠ 0) (hml : m < 16777216) (hn : n < 16777216) (hi : -3000 ≤ i ∧ i ≤ 3000) (hj : -3000 ≤ j ∧ j ≤ 3000) (hn0 : n ≠ 0) (hij : j ≤ i) (hk : (i - j).toNat ≤ 70) (hlt : n < m * 2 ^ (i - j).toNat) (w : World) :
    RW Tryz.prog 157 #[fm, fv S false false (m : Nat) i, fv (!S) false false (n : Nat) j] w (.int .u64 ((ff.nearest S (m * 2 ^ (i - j).toNat - n) j : Nat) : Int)) := by
  obtain ⟨m1, m2⟩ := beq_no hm
  obtain ⟨n1, n2⟩ := beq_no hn0
  have hT := big_lt m (i - j).toNat hml (by omega)
  have hU := up_hid m (i - j).toNat (by simp only [W64]; omega) (by omega) (by omega)
  have hb := wrap_ij i j hi hj (by omega)
  have hj' : ¬ i < j := by omega
  have h70 : ¬ (70 : Int) < ((i - j).toNat : Nat) := by omega
  have hee : IntKind.i64.wrap (i - ((i - j).toNat : Nat)) = j := wrap_sub i _ j hi (by omega) (by omega)
  obtain ⟨hA, hB⟩ := subs (m * 2 ^ (i - j).toNat) n hT (by simp only [W64]; omega)
  obtain ⟨l1, l2⟩ := sub_le (m * 2 ^ (i - j).toNat) n hT (by simp only [W64]; omega) (by omega)
  rw [l1] at hB
  obtain ⟨o1, o2⟩ := or_two ((m * 2 ^ (i - j).toNat / W64 + W64 + W64 - 0 - (if m * 2 ^ (i - j).toNat % W64 < n + 0 then 1 else 0)) % W64) ((m * 2 ^ (i - j).toNat % W64 + W64 + W64 - n - 0) % W64) (Nat.mod_lt _ (by decide)) (Nat.mod_lt _ (by decide))
  have hr : RL Tryz.prog 122 #[fm, .bool S, .int .u64 ((((m * 2 ^ (i - j).toNat / W64 + W64 + W64 - 0 - (if m * 2 ^ (i - j).toNat % W64 < n + 0 then 1 else 0)) % W64) : Nat) : Int), .int .u64 ((((m * 2 ^ (i - j).toNat % W64 + W64 + W64 - n - 0) % W64) : Nat) : Int), .int .i64 j] (.int .u64 ((ff.nearest S (m * 2 ^ (i - j).toNat - n) j : Nat) : Int)) := by
    intro w
    have := round_any S ((m * 2 ^ (i - j).toNat / W64 + W64 + W64 - 0 - (if m * 2 ^ (i - j).toNat % W64 < n + 0 then 1 else 0)) % W64) ((m * 2 ^ (i - j).toNat % W64 + W64 + W64 - n - 0) % W64) j (Nat.mod_lt _ (by decide)) (Nat.mod_lt _ (by decide)) (by omega) (by omega) w
    rw [l2] at this
    exact this
  have hd := beq_no (fun g => absurd (o2.1 g) (by rw [l2]; omega))
  exact add_no_near_plain S m n i j _ n _ _ j _ _ _ _ 0 _ m1 m2 n1 n2 hj' hb h70 hee hU hA hB o1 hd.1 hd.2 hr w
theorem ok_no_far_same (S : Bool) (m n : Nat) (i j : Int) (hm : m ≠ 0) (hml : m < 16777216) (hn : n < 16777216) (hi : -3000 ≤ i ∧ i ≤ 3000) (hj : -3000 ≤ j ∧ j ≤ 3000) (hn0 : n ≠ 0) (hij : j ≤ i) (hk : 70 < (i - j).toNat) (w : World) :
    RW Tryz.prog 157 #[fm, fv S false false (m : Nat) i, fv S false false (n : Nat) j] w (.int .u64 ((ff.nearest S (m * 2 ^ 70 + 1) (i - 70) : Nat) : Int)) := by
  obtain ⟨m1, m2⟩ := beq_no hm
  obtain ⟨n1, n2⟩ := beq_no hn0
  have hT := big_lt m 70 hml (by omega)
  have hU := up_hid m 70 (by simp only [W64]; omega) (by omega) (by omega)
  have hb := wrap_ij i j hi hj (by omega)
  have hj' : ¬ i < j := by omega
  have h70 : (70 : Int) < ((i - j).toNat : Nat) := by omega
  have hee : IntKind.i64.wrap (i - 70) = i - 70 := wrap_sub i 70 _ hi (by decide) rfl
  obtain ⟨hA, hc, hr⟩ := tail_same S (m * 2 ^ 70) 1 (i - 70) hT (by decide) (by omega) (by omega)
  exact add_no_far_same S m n i j _ 1 _ _ (i - 70) _ _ _ 0 0 _ m1 m2 n1 n2 hj' hb h70 hee hU hA hc hr w
theorem ok_no_far_plain (S : Bool) (m n : Nat) (i j : Int) (hm : m ≠ 0) (hml : m < 16777216) (hn : n < 16777216) (hi : -3000 ≤ i ∧ i ≤ 3000) (hj : -3000 ≤ j ∧ j ≤ 3000) (hn0 : n ≠ 0) (hij : j ≤ i) (hk : 70 < (i - j).toNat) (hlt : 1 < m * 2 ^ 70) (w : World) :
    RW Tryz.prog 157 #[fm, fv S false false (m : Nat) i, fv (!S) false false (n : Nat) j] w (.int .u64 ((ff.nearest S (m * 2 ^ 70 - 1) (i - 70) : Nat) : Int)) := by
  obtain ⟨m1, m2⟩ := beq_no hm
  obtain ⟨n1, n2⟩ := beq_no hn0
  have hT := big_lt m 70 hml (by omega)
  have hU := up_hid m 70 (by simp only [W64]; omega) (by omega) (by omega)
  have hb := wrap_ij i j hi hj (by omega)
  have hj' : ¬ i < j := by omega
  have h70 : (70 : Int) < ((i - j).toNat : Nat) := by omega
  have hee : IntKind.i64.wrap (i - 70) = i - 70 := wrap_sub i 70 _ hi (by decide) rfl
  obtain ⟨hA, hB⟩ := subs (m * 2 ^ 70) 1 hT (by decide)
  obtain ⟨l1, l2⟩ := sub_le (m * 2 ^ 70) 1 hT (by decide) (by omega)
  rw [l1] at hB
  obtain ⟨o1, o2⟩ := or_two ((m * 2 ^ 70 / W64 + W64 + W64 - 0 - (if m * 2 ^ 70 % W64 < 1 + 0 then 1 else 0)) % W64) ((m * 2 ^ 70 % W64 + W64 + W64 - 1 - 0) % W64) (Nat.mod_lt _ (by decide)) (Nat.mod_lt _ (by decide))
  have hr : RL Tryz.prog 122 #[fm, .bool S, .int .u64 ((((m * 2 ^ 70 / W64 + W64 + W64 - 0 - (if m * 2 ^ 70 % W64 < 1 + 0 then 1 else 0)) % W64) : Nat) : Int), .int .u64 ((((m * 2 ^ 70 % W64 + W64 + W64 - 1 - 0) % W64) : Nat) : Int), .int .i64 (i - 70)] (.int .u64 ((ff.nearest S (m * 2 ^ 70 - 1) (i - 70) : Nat) : Int)) := by
    intro w
    have := round_any S ((m * 2 ^ 70 / W64 + W64 + W64 - 0 - (if m * 2 ^ 70 % W64 < 1 + 0 then 1 else 0)) % W64) ((m * 2 ^ 70 % W64 + W64 + W64 - 1 - 0) % W64) (i - 70) (Nat.mod_lt _ (by decide)) (Nat.mod_lt _ (by decide)) (by omega) (by omega) w
    rw [l2] at this
    exact this
  have hd := beq_no (fun g => absurd (o2.1 g) (by rw [l2]; omega))
  exact add_no_far_plain S m n i j _ 1 _ _ (i - 70) _ _ _ _ 0 _ m1 m2 n1 n2 hj' hb h70 hee hU hA hB o1 hd.1 hd.2 hr w
theorem ok_yes_bz_same (S : Bool) (m n : Nat) (i j : Int) (hm : m ≠ 0) (hml : m < 16777216) (hn : n < 16777216) (hi : -3000 ≤ i ∧ i ≤ 3000) (hj : -3000 ≤ j ∧ j ≤ 3000) (w : World) :
    RW Tryz.prog 157 #[fm, fv S false false 0 j, fv S false false (m : Nat) i] w (.int .u64 ((ff.nearest S m i : Nat) : Int)) := by
  obtain ⟨m1, m2⟩ := beq_no hm
  have hT := big_lt m 0 hml (by decide)
  have hU := up_hid m 0 (by simp only [W64]; omega) (by decide) (by omega)
  obtain ⟨hA, hc, hr⟩ := tail_same S (m * 2 ^ 0) 0 i hT (by decide) (by omega) (by omega)
  have e : m * 2 ^ 0 = m := by rw [Nat.pow_zero, Nat.mul_one]
  have hz : ff.nearest S (m * 2 ^ 0 + 0) i = ff.nearest S m i := by rw [Nat.add_zero, e]
  rw [hz] at hr
  exact add_yes_bz_same S m 0 i j _ 0 _ _ i _ _ _ 0 0 _ m1 m2 rfl (wrap_one i hi) hU hA hc hr w
theorem ok_yes_bz_plain (S : Bool) (m n : Nat) (i j : Int) (hm : m ≠ 0) (hml : m < 16777216) (hn : n < 16777216) (hi : -3000 ≤ i ∧ i ≤ 3000) (hj : -3000 ≤ j ∧ j ≤ 3000) (w : World) :
    RW Tryz.prog 157 #[fm, fv (!S) false false 0 j, fv S false false (m : Nat) i] w (.int .u64 ((ff.nearest S m i : Nat) : Int)) := by
  obtain ⟨m1, m2⟩ := beq_no hm
  have hT := big_lt m 0 hml (by decide)
  have hU := up_hid m 0 (by simp only [W64]; omega) (by decide) (by omega)
  obtain ⟨hA, hB⟩ := subs (m * 2 ^ 0) 0 hT (by decide)
  obtain ⟨l1, l2⟩ := sub_le (m * 2 ^ 0) 0 hT (by decide) (Nat.zero_le _)
  rw [l1] at hB
  have e : m * 2 ^ 0 = m := by rw [Nat.pow_zero, Nat.mul_one]
  obtain ⟨o1, o2⟩ := or_two ((m * 2 ^ 0 / W64 + W64 + W64 - 0 - (if m * 2 ^ 0 % W64 < 0 + 0 then 1 else 0)) % W64) ((m * 2 ^ 0 % W64 + W64 + W64 - 0 - 0) % W64) (Nat.mod_lt _ (by decide)) (Nat.mod_lt _ (by decide))
  have hr : RL Tryz.prog 122 #[fm, .bool S, .int .u64 (((m * 2 ^ 0 / W64 + W64 + W64 - 0 - (if m * 2 ^ 0 % W64 < 0 + 0 then 1 else 0)) % W64 : Nat) : Int), .int .u64 (((m * 2 ^ 0 % W64 + W64 + W64 - 0 - 0) % W64 : Nat) : Int), .int .i64 i] (.int .u64 ((ff.nearest S m i : Nat) : Int)) := by
    intro w
    have := round_any S _ ((m * 2 ^ 0 % W64 + W64 + W64 - 0 - 0) % W64) i (Nat.mod_lt (m * 2 ^ 0 / W64 + W64 + W64 - 0 - (if m * 2 ^ 0 % W64 < 0 + 0 then 1 else 0)) (by decide)) (Nat.mod_lt _ (by decide)) (by omega) (by omega) w
    have hz : ff.nearest S (m * 2 ^ 0 - 0) i = ff.nearest S m i := by rw [Nat.sub_zero, e]
    rw [l2, hz] at this
    exact this
  have hd := beq_no (fun g => hm (by have := o2.1 g; rw [l2, e] at this; omega))
  exact add_yes_bz_plain S m 0 i j _ 0 _ _ i _ _ _ _ 0 _ m1 m2 rfl (wrap_one i hi) hU hA hB o1 hd.1 hd.2 hr w
theorem ok_yes_near_same (S : Bool) (m n : Nat) (i j : Int) (hm : m ≠ 0) (hml : m < 16777216) (hn : n < 16777216) (hi : -3000 ≤ i ∧ i ≤ 3000) (hj : -3000 ≤ j ∧ j ≤ 3000) (hn0 : n ≠ 0) (hij : j < i) (hk : (i - j).toNat ≤ 70) (w : World) :
    RW Tryz.prog 157 #[fm, fv S false false (n : Nat) j, fv S false false (m : Nat) i] w (.int .u64 ((ff.nearest S (m * 2 ^ (i - j).toNat + n) j : Nat) : Int)) := by
  obtain ⟨m1, m2⟩ := beq_no hm
  obtain ⟨n1, n2⟩ := beq_no hn0
  have hT := big_lt m (i - j).toNat hml (by omega)
  have hU := up_hid m (i - j).toNat (by simp only [W64]; omega) (by omega) (by omega)
  have hb := wrap_ij i j hi hj (by omega)
  have hj' : j < i := by omega
  have h70 : ¬ (70 : Int) < ((i - j).toNat : Nat) := by omega
  have hee : IntKind.i64.wrap (i - ((i - j).toNat : Nat)) = j := wrap_sub i _ j hi (by omega) (by omega)
  obtain ⟨hA, hc, hr⟩ := tail_same S (m * 2 ^ (i - j).toNat) n j hT (by simp only [W64]; omega) (by omega) (by omega)
  exact add_yes_near_same S m n i j _ n _ _ j _ _ _ 0 0 _ m1 m2 n1 n2 hj' hb h70 hee hU hA hc hr w
theorem ok_yes_near_under (S : Bool) (m n : Nat) (i j : Int) (hm : m ≠ 0) (hml : m < 16777216) (hn : n < 16777216) (hi : -3000 ≤ i ∧ i ≤ 3000) (hj : -3000 ≤ j ∧ j ≤ 3000) (hn0 : n ≠ 0) (hij : j < i) (hk : (i - j).toNat ≤ 70) (hlt : m * 2 ^ (i - j).toNat < n) (w : World) :
    RW Tryz.prog 157 #[fm, fv (!S) false false (n : Nat) j, fv S false false (m : Nat) i] w (.int .u64 ((ff.nearest (!S) (n - m * 2 ^ (i - j).toNat) j : Nat) : Int)) := by
  obtain ⟨m1, m2⟩ := beq_no hm
  obtain ⟨n1, n2⟩ := beq_no hn0
  have hT := big_lt m (i - j).toNat hml (by omega)
  have hU := up_hid m (i - j).toNat (by simp only [W64]; omega) (by omega) (by omega)
  have hb := wrap_ij i j hi hj (by omega)
  have hj' : j < i := by omega
  have h70 : ¬ (70 : Int) < ((i - j).toNat : Nat) := by omega
  have hee : IntKind.i64.wrap (i - ((i - j).toNat : Nat)) = j := wrap_sub i _ j hi (by omega) (by omega)
  obtain ⟨hA, hB⟩ := subs (m * 2 ^ (i - j).toNat) n hT (by simp only [W64]; omega)
  obtain ⟨l1, l2⟩ := sub_gt (m * 2 ^ (i - j).toNat) n hT (by simp only [W64]; omega) hlt
  rw [l1] at hB
  have hc : IntKind.u64.wrap ((n : Int) - ((m * 2 ^ (i - j).toNat % W64 : Nat) : Int)) = ((n - m * 2 ^ (i - j).toNat : Nat) : Int) := by
    rw [l2, IntKind.wrap_u64]
    generalize m * 2 ^ (i - j).toNat = T at *
    omega
  have hr : RL Tryz.prog 122 #[fm, .bool (!S), .int .u64 0, .int .u64 ((n - m * 2 ^ (i - j).toNat : Nat) : Int), .int .i64 j] (.int .u64 ((ff.nearest (!S) (n - m * 2 ^ (i - j).toNat) j : Nat) : Int)) := by
    intro w
    have := round_any (!S) 0 (n - m * 2 ^ (i - j).toNat) j (by decide) (by simp only [W64]; omega) (by omega) (by omega) w
    rw [show two 0 (n - m * 2 ^ (i - j).toNat) = n - m * 2 ^ (i - j).toNat from by unfold two; rw [Nat.zero_mul, Nat.zero_add]] at this
    exact this
  exact add_yes_near_under S m n i j _ n _ _ j _ _ _ _ 0 _ m1 m2 n1 n2 hj' hb h70 hee hU hA hB hc hr w
theorem ok_yes_near_zero (S : Bool) (m n : Nat) (i j : Int) (hm : m ≠ 0) (hml : m < 16777216) (hn : n < 16777216) (hi : -3000 ≤ i ∧ i ≤ 3000) (hj : -3000 ≤ j ∧ j ≤ 3000) (hn0 : n ≠ 0) (hij : j < i) (hk : (i - j).toNat ≤ 70) (hlt : m * 2 ^ (i - j).toNat = n) (w : World) :
    RW Tryz.prog 157 #[fm, fv (!S) false false (n : Nat) j, fv S false false (m : Nat) i] w (.int .u64 ((ff.word false 0 : Nat) : Int)) := by
  obtain ⟨m1, m2⟩ := beq_no hm
  obtain ⟨n1, n2⟩ := beq_no hn0
  have hT := big_lt m (i - j).toNat hml (by omega)
  have hU := up_hid m (i - j).toNat (by simp only [W64]; omega) (by omega) (by omega)
  have hb := wrap_ij i j hi hj (by omega)
  have hj' : j < i := by omega
  have h70 : ¬ (70 : Int) < ((i - j).toNat : Nat) := by omega
  have hee : IntKind.i64.wrap (i - ((i - j).toNat : Nat)) = j := wrap_sub i _ j hi (by omega) (by omega)
  obtain ⟨hA, hB⟩ := subs (m * 2 ^ (i - j).toNat) n hT (by simp only [W64]; omega)
  obtain ⟨l1, l2⟩ := sub_le (m * 2 ^ (i - j).toNat) n hT (by simp only [W64]; omega) (by omega)
  rw [l1] at hB
  obtain ⟨o1, o2⟩ := or_two ((m * 2 ^ (i - j).toNat / W64 + W64 + W64 - 0 - (if m * 2 ^ (i - j).toNat % W64 < n + 0 then 1 else 0)) % W64) ((m * 2 ^ (i - j).toNat % W64 + W64 + W64 - n - 0) % W64) (Nat.mod_lt _ (by decide)) (Nat.mod_lt _ (by decide))
  have ho : ((m * 2 ^ (i - j).toNat / W64 + W64 + W64 - 0 - (if m * 2 ^ (i - j).toNat % W64 < n + 0 then 1 else 0)) % W64) ||| ((m * 2 ^ (i - j).toNat % W64 + W64 + W64 - n - 0) % W64) = 0 := o2.2 (by rw [l2]; omega)
  rw [ho] at o1
  have e := sgn_word false 0
  rw [show sgn false + ((0 : Nat) : Int) = sgn false from Int.add_zero _] at e
  rw [← e]
  exact add_yes_near_zero S m n i j _ n _ _ j _ _ _ 0 0 0 m1 m2 n1 n2 hj' hb h70 hee hU hA hB o1 w
theorem ok_yes_near_plain (S : Bool) (m n : Nat) (i j : Int) (hm : m ≠ 0) (hml : m < 16777216) (hn : n < 16777216) (hi : -3000 ≤ i ∧ i ≤ 3000) (hj : -3000 ≤ j ∧ j ≤ 3000) (hn0 : n ≠ 0) (hij : j < i) (hk : (i - j).toNat ≤ 70) (hlt : n < m * 2 ^ (i - j).toNat) (w : World) :
    RW Tryz.prog 157 #[fm, fv (!S) false false (n : Nat) j, fv S false false (m : Nat) i] w (.int .u64 ((ff.nearest S (m * 2 ^ (i - j).toNat - n) j : Nat) : Int)) := by
  obtain ⟨m1, m2⟩ := beq_no hm
  obtain ⟨n1, n2⟩ := beq_no hn0
  have hT := big_lt m (i - j).toNat hml (by omega)
  have hU := up_hid m (i - j).toNat (by simp only [W64]; omega) (by omega) (by omega)
  have hb := wrap_ij i j hi hj (by omega)
  have hj' : j < i := by omega
  have h70 : ¬ (70 : Int) < ((i - j).toNat : Nat) := by omega
  have hee : IntKind.i64.wrap (i - ((i - j).toNat : Nat)) = j := wrap_sub i _ j hi (by omega) (by omega)
  obtain ⟨hA, hB⟩ := subs (m * 2 ^ (i - j).toNat) n hT (by simp only [W64]; omega)
  obtain ⟨l1, l2⟩ := sub_le (m * 2 ^ (i - j).toNat) n hT (by simp only [W64]; omega) (by omega)
  rw [l1] at hB
  obtain ⟨o1, o2⟩ := or_two ((m * 2 ^ (i - j).toNat / W64 + W64 + W64 - 0 - (if m * 2 ^ (i - j).toNat % W64 < n + 0 then 1 else 0)) % W64) ((m * 2 ^ (i - j).toNat % W64 + W64 + W64 - n - 0) % W64) (Nat.mod_lt _ (by decide)) (Nat.mod_lt _ (by decide))
  have hr : RL Tryz.prog 122 #[fm, .bool S, .int .u64 ((((m * 2 ^ (i - j).toNat / W64 + W64 + W64 - 0 - (if m * 2 ^ (i - j).toNat % W64 < n + 0 then 1 else 0)) % W64) : Nat) : Int), .int .u64 ((((m * 2 ^ (i - j).toNat % W64 + W64 + W64 - n - 0) % W64) : Nat) : Int), .int .i64 j] (.int .u64 ((ff.nearest S (m * 2 ^ (i - j).toNat - n) j : Nat) : Int)) := by
    intro w
    have := round_any S ((m * 2 ^ (i - j).toNat / W64 + W64 + W64 - 0 - (if m * 2 ^ (i - j).toNat % W64 < n + 0 then 1 else 0)) % W64) ((m * 2 ^ (i - j).toNat % W64 + W64 + W64 - n - 0) % W64) j (Nat.mod_lt _ (by decide)) (Nat.mod_lt _ (by decide)) (by omega) (by omega) w
    rw [l2] at this
    exact this
  have hd := beq_no (fun g => absurd (o2.1 g) (by rw [l2]; omega))
  exact add_yes_near_plain S m n i j _ n _ _ j _ _ _ _ 0 _ m1 m2 n1 n2 hj' hb h70 hee hU hA hB o1 hd.1 hd.2 hr w
theorem ok_yes_far_same (S : Bool) (m n : Nat) (i j : Int) (hm : m ≠ 0) (hml : m < 16777216) (hn : n < 16777216) (hi : -3000 ≤ i ∧ i ≤ 3000) (hj : -3000 ≤ j ∧ j ≤ 3000) (hn0 : n ≠ 0) (hij : j < i) (hk : 70 < (i - j).toNat) (w : World) :
    RW Tryz.prog 157 #[fm, fv S false false (n : Nat) j, fv S false false (m : Nat) i] w (.int .u64 ((ff.nearest S (m * 2 ^ 70 + 1) (i - 70) : Nat) : Int)) := by
  obtain ⟨m1, m2⟩ := beq_no hm
  obtain ⟨n1, n2⟩ := beq_no hn0
  have hT := big_lt m 70 hml (by omega)
  have hU := up_hid m 70 (by simp only [W64]; omega) (by omega) (by omega)
  have hb := wrap_ij i j hi hj (by omega)
  have hj' : j < i := by omega
  have h70 : (70 : Int) < ((i - j).toNat : Nat) := by omega
  have hee : IntKind.i64.wrap (i - 70) = i - 70 := wrap_sub i 70 _ hi (by decide) rfl
  obtain ⟨hA, hc, hr⟩ := tail_same S (m * 2 ^ 70) 1 (i - 70) hT (by decide) (by omega) (by omega)
  exact add_yes_far_same S m n i j _ 1 _ _ (i - 70) _ _ _ 0 0 _ m1 m2 n1 n2 hj' hb h70 hee hU hA hc hr w
theorem ok_yes_far_plain (S : Bool) (m n : Nat) (i j : Int) (hm : m ≠ 0) (hml : m < 16777216) (hn : n < 16777216) (hi : -3000 ≤ i ∧ i ≤ 3000) (hj : -3000 ≤ j ∧ j ≤ 3000) (hn0 : n ≠ 0) (hij : j < i) (hk : 70 < (i - j).toNat) (hlt : 1 < m * 2 ^ 70) (w : World) :
    RW Tryz.prog 157 #[fm, fv (!S) false false (n : Nat) j, fv S false false (m : Nat) i] w (.int .u64 ((ff.nearest S (m * 2 ^ 70 - 1) (i - 70) : Nat) : Int)) := by
  obtain ⟨m1, m2⟩ := beq_no hm
  obtain ⟨n1, n2⟩ := beq_no hn0
  have hT := big_lt m 70 hml (by omega)
  have hU := up_hid m 70 (by simp only [W64]; omega) (by omega) (by omega)
  have hb := wrap_ij i j hi hj (by omega)
  have hj' : j < i := by omega
  have h70 : (70 : Int) < ((i - j).toNat : Nat) := by omega
  have hee : IntKind.i64.wrap (i - 70) = i - 70 := wrap_sub i 70 _ hi (by decide) rfl
  obtain ⟨hA, hB⟩ := subs (m * 2 ^ 70) 1 hT (by decide)
  obtain ⟨l1, l2⟩ := sub_le (m * 2 ^ 70) 1 hT (by decide) (by omega)
  rw [l1] at hB
  obtain ⟨o1, o2⟩ := or_two ((m * 2 ^ 70 / W64 + W64 + W64 - 0 - (if m * 2 ^ 70 % W64 < 1 + 0 then 1 else 0)) % W64) ((m * 2 ^ 70 % W64 + W64 + W64 - 1 - 0) % W64) (Nat.mod_lt _ (by decide)) (Nat.mod_lt _ (by decide))
  have hr : RL Tryz.prog 122 #[fm, .bool S, .int .u64 ((((m * 2 ^ 70 / W64 + W64 + W64 - 0 - (if m * 2 ^ 70 % W64 < 1 + 0 then 1 else 0)) % W64) : Nat) : Int), .int .u64 ((((m * 2 ^ 70 % W64 + W64 + W64 - 1 - 0) % W64) : Nat) : Int), .int .i64 (i - 70)] (.int .u64 ((ff.nearest S (m * 2 ^ 70 - 1) (i - 70) : Nat) : Int)) := by
    intro w
    have := round_any S ((m * 2 ^ 70 / W64 + W64 + W64 - 0 - (if m * 2 ^ 70 % W64 < 1 + 0 then 1 else 0)) % W64) ((m * 2 ^ 70 % W64 + W64 + W64 - 1 - 0) % W64) (i - 70) (Nat.mod_lt _ (by decide)) (Nat.mod_lt _ (by decide)) (by omega) (by omega) w
    rw [l2] at this
    exact this
  have hd := beq_no (fun g => absurd (o2.1 g) (by rw [l2]; omega))
  exact add_yes_far_plain S m n i j _ 1 _ _ (i - 70) _ _ _ _ 0 _ m1 m2 n1 n2 hj' hb h70 hee hU hA hB o1 hd.1 hd.2 hr w
end Go.Proofs.YtdfgcagbpndabaaGreatDoor.S
