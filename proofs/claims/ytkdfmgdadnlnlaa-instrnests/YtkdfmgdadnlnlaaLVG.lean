/- Over this seat's translation: package leb: GetSigned is the document's. -/
import Derived.Test.YtkdfmgdadnlnlaaLVF
set_option linter.unusedVariables false
set_option linter.unusedSimpArgs false
set_option maxRecDepth 100000
set_option maxHeartbeats 4000000
namespace Go.Proofs.Ytkdfmgdadnlnlaa
open Go.RowKit
theorem ac_sign (s : ByteArray) (a j : Nat) (c : Int) : ac s a j (if c < 64 then 0 else -1) = wrap64 (lo s a j + (if c < 64 then 0 else -1) * 128 ^ j) := ac_lo s a j _ (by unfold wrap64; split <;> omega)
theorem lo_at1 (s : ByteArray) (a : Nat) : lo s a 1 = lo s a 0 + bt s (a + 0) % 128 * 1 := by
  show lo s a 0 + bt s (a + 0) % 128 * (128 : Int) ^ 0 = _
  rw [show (128 : Int) ^ 0 = 1 by decide]
theorem lo_in1 (s : ByteArray) (a : Nat) : 0 ≤ lo s a 0 ∧ lo s a 0 < 1 := by
  have := lo_rng s a 0
  rwa [show (128 : Int) ^ 0 = 1 by decide] at this
theorem exv_1 (s : ByteArray) (a : Nat) (w : World) :
    Calls Try.prog 101 #[nbr (lo s a 1 % 18446744073709551616) (bt s (a + 0)) 1] w fun e w' => e = .returned (.int .i64 (ac s a 1 (if bt s (a + 0) % 128 < 64 then 0 else -1))) ∧ Later w w' := by
  have hm := sx_1 (lo s a 0) (bt s (a + 0) % 128) (lo_in1 s a) (by omega)
  rw [← lo_at1] at hm
  have h := ext_1 (lo s a 1 % 18446744073709551616) (bt s (a + 0)) w
  rw [hm] at h
  rw [ac_sign, show (128 : Int) ^ 1 = 128 by decide]
  exact h
theorem lo_at2 (s : ByteArray) (a : Nat) : lo s a 2 = lo s a 1 + bt s (a + 1) % 128 * 128 := by
  show lo s a 1 + bt s (a + 1) % 128 * (128 : Int) ^ 1 = _
  rw [show (128 : Int) ^ 1 = 128 by decide]
theorem lo_in2 (s : ByteArray) (a : Nat) : 0 ≤ lo s a 1 ∧ lo s a 1 < 128 := by
  have := lo_rng s a 1
  rwa [show (128 : Int) ^ 1 = 128 by decide] at this
theorem exv_2 (s : ByteArray) (a : Nat) (w : World) :
    Calls Try.prog 101 #[nbr (lo s a 2 % 18446744073709551616) (bt s (a + 1)) 2] w fun e w' => e = .returned (.int .i64 (ac s a 2 (if bt s (a + 1) % 128 < 64 then 0 else -1))) ∧ Later w w' := by
  have hm := sx_2 (lo s a 1) (bt s (a + 1) % 128) (lo_in2 s a) (by omega)
  rw [← lo_at2] at hm
  have h := ext_2 (lo s a 2 % 18446744073709551616) (bt s (a + 1)) w
  rw [hm] at h
  rw [ac_sign, show (128 : Int) ^ 2 = 16384 by decide]
  exact h
theorem lo_at3 (s : ByteArray) (a : Nat) : lo s a 3 = lo s a 2 + bt s (a + 2) % 128 * 16384 := by
  show lo s a 2 + bt s (a + 2) % 128 * (128 : Int) ^ 2 = _
  rw [show (128 : Int) ^ 2 = 16384 by decide]
theorem lo_in3 (s : ByteArray) (a : Nat) : 0 ≤ lo s a 2 ∧ lo s a 2 < 16384 := by
  have := lo_rng s a 2
  rwa [show (128 : Int) ^ 2 = 16384 by decide] at this
theorem exv_3 (s : ByteArray) (a : Nat) (w : World) :
    Calls Try.prog 101 #[nbr (lo s a 3 % 18446744073709551616) (bt s (a + 2)) 3] w fun e w' => e = .returned (.int .i64 (ac s a 3 (if bt s (a + 2) % 128 < 64 then 0 else -1))) ∧ Later w w' := by
  have hm := sx_3 (lo s a 2) (bt s (a + 2) % 128) (lo_in3 s a) (by omega)
  rw [← lo_at3] at hm
  have h := ext_3 (lo s a 3 % 18446744073709551616) (bt s (a + 2)) w
  rw [hm] at h
  rw [ac_sign, show (128 : Int) ^ 3 = 2097152 by decide]
  exact h
theorem lo_at4 (s : ByteArray) (a : Nat) : lo s a 4 = lo s a 3 + bt s (a + 3) % 128 * 2097152 := by
  show lo s a 3 + bt s (a + 3) % 128 * (128 : Int) ^ 3 = _
  rw [show (128 : Int) ^ 3 = 2097152 by decide]
theorem lo_in4 (s : ByteArray) (a : Nat) : 0 ≤ lo s a 3 ∧ lo s a 3 < 2097152 := by
  have := lo_rng s a 3
  rwa [show (128 : Int) ^ 3 = 2097152 by decide] at this
theorem exv_4 (s : ByteArray) (a : Nat) (w : World) :
    Calls Try.prog 101 #[nbr (lo s a 4 % 18446744073709551616) (bt s (a + 3)) 4] w fun e w' => e = .returned (.int .i64 (ac s a 4 (if bt s (a + 3) % 128 < 64 then 0 else -1))) ∧ Later w w' := by
  have hm := sx_4 (lo s a 3) (bt s (a + 3) % 128) (lo_in4 s a) (by omega)
  rw [← lo_at4] at hm
  have h := ext_4 (lo s a 4 % 18446744073709551616) (bt s (a + 3)) w
  rw [hm] at h
  rw [ac_sign, show (128 : Int) ^ 4 = 268435456 by decide]
  exact h
theorem lo_at5 (s : ByteArray) (a : Nat) : lo s a 5 = lo s a 4 + bt s (a + 4) % 128 * 268435456 := by
  show lo s a 4 + bt s (a + 4) % 128 * (128 : Int) ^ 4 = _
  rw [show (128 : Int) ^ 4 = 268435456 by decide]
theorem lo_in5 (s : ByteArray) (a : Nat) : 0 ≤ lo s a 4 ∧ lo s a 4 < 268435456 := by
  have := lo_rng s a 4
  rwa [show (128 : Int) ^ 4 = 268435456 by decide] at this
theorem exv_5 (s : ByteArray) (a : Nat) (w : World) :
    Calls Try.prog 101 #[nbr (lo s a 5 % 18446744073709551616) (bt s (a + 4)) 5] w fun e w' => e = .returned (.int .i64 (ac s a 5 (if bt s (a + 4) % 128 < 64 then 0 else -1))) ∧ Later w w' := by
  have hm := sx_5 (lo s a 4) (bt s (a + 4) % 128) (lo_in5 s a) (by omega)
  rw [← lo_at5] at hm
  have h := ext_5 (lo s a 5 % 18446744073709551616) (bt s (a + 4)) w
  rw [hm] at h
  rw [ac_sign, show (128 : Int) ^ 5 = 34359738368 by decide]
  exact h
theorem lo_at6 (s : ByteArray) (a : Nat) : lo s a 6 = lo s a 5 + bt s (a + 5) % 128 * 34359738368 := by
  show lo s a 5 + bt s (a + 5) % 128 * (128 : Int) ^ 5 = _
  rw [show (128 : Int) ^ 5 = 34359738368 by decide]
theorem lo_in6 (s : ByteArray) (a : Nat) : 0 ≤ lo s a 5 ∧ lo s a 5 < 34359738368 := by
  have := lo_rng s a 5
  rwa [show (128 : Int) ^ 5 = 34359738368 by decide] at this
theorem exv_6 (s : ByteArray) (a : Nat) (w : World) :
    Calls Try.prog 101 #[nbr (lo s a 6 % 18446744073709551616) (bt s (a + 5)) 6] w fun e w' => e = .returned (.int .i64 (ac s a 6 (if bt s (a + 5) % 128 < 64 then 0 else -1))) ∧ Later w w' := by
  have hm := sx_6 (lo s a 5) (bt s (a + 5) % 128) (lo_in6 s a) (by omega)
  rw [← lo_at6] at hm
  have h := ext_6 (lo s a 6 % 18446744073709551616) (bt s (a + 5)) w
  rw [hm] at h
  rw [ac_sign, show (128 : Int) ^ 6 = 4398046511104 by decide]
  exact h
theorem lo_at7 (s : ByteArray) (a : Nat) : lo s a 7 = lo s a 6 + bt s (a + 6) % 128 * 4398046511104 := by
  show lo s a 6 + bt s (a + 6) % 128 * (128 : Int) ^ 6 = _
  rw [show (128 : Int) ^ 6 = 4398046511104 by decide]
theorem lo_in7 (s : ByteArray) (a : Nat) : 0 ≤ lo s a 6 ∧ lo s a 6 < 4398046511104 := by
  have := lo_rng s a 6
  rwa [show (128 : Int) ^ 6 = 4398046511104 by decide] at this
theorem exv_7 (s : ByteArray) (a : Nat) (w : World) :
    Calls Try.prog 101 #[nbr (lo s a 7 % 18446744073709551616) (bt s (a + 6)) 7] w fun e w' => e = .returned (.int .i64 (ac s a 7 (if bt s (a + 6) % 128 < 64 then 0 else -1))) ∧ Later w w' := by
  have hm := sx_7 (lo s a 6) (bt s (a + 6) % 128) (lo_in7 s a) (by omega)
  rw [← lo_at7] at hm
  have h := ext_7 (lo s a 7 % 18446744073709551616) (bt s (a + 6)) w
  rw [hm] at h
  rw [ac_sign, show (128 : Int) ^ 7 = 562949953421312 by decide]
  exact h
theorem lo_at8 (s : ByteArray) (a : Nat) : lo s a 8 = lo s a 7 + bt s (a + 7) % 128 * 562949953421312 := by
  show lo s a 7 + bt s (a + 7) % 128 * (128 : Int) ^ 7 = _
  rw [show (128 : Int) ^ 7 = 562949953421312 by decide]
theorem lo_in8 (s : ByteArray) (a : Nat) : 0 ≤ lo s a 7 ∧ lo s a 7 < 562949953421312 := by
  have := lo_rng s a 7
  rwa [show (128 : Int) ^ 7 = 562949953421312 by decide] at this
theorem exv_8 (s : ByteArray) (a : Nat) (w : World) :
    Calls Try.prog 101 #[nbr (lo s a 8 % 18446744073709551616) (bt s (a + 7)) 8] w fun e w' => e = .returned (.int .i64 (ac s a 8 (if bt s (a + 7) % 128 < 64 then 0 else -1))) ∧ Later w w' := by
  have hm := sx_8 (lo s a 7) (bt s (a + 7) % 128) (lo_in8 s a) (by omega)
  rw [← lo_at8] at hm
  have h := ext_8 (lo s a 8 % 18446744073709551616) (bt s (a + 7)) w
  rw [hm] at h
  rw [ac_sign, show (128 : Int) ^ 8 = 72057594037927936 by decide]
  exact h
theorem lo_at9 (s : ByteArray) (a : Nat) : lo s a 9 = lo s a 8 + bt s (a + 8) % 128 * 72057594037927936 := by
  show lo s a 8 + bt s (a + 8) % 128 * (128 : Int) ^ 8 = _
  rw [show (128 : Int) ^ 8 = 72057594037927936 by decide]
theorem lo_in9 (s : ByteArray) (a : Nat) : 0 ≤ lo s a 8 ∧ lo s a 8 < 72057594037927936 := by
  have := lo_rng s a 8
  rwa [show (128 : Int) ^ 8 = 72057594037927936 by decide] at this
theorem exv_9 (s : ByteArray) (a : Nat) (w : World) :
    Calls Try.prog 101 #[nbr (lo s a 9 % 18446744073709551616) (bt s (a + 8)) 9] w fun e w' => e = .returned (.int .i64 (ac s a 9 (if bt s (a + 8) % 128 < 64 then 0 else -1))) ∧ Later w w' := by
  have hm := sx_9 (lo s a 8) (bt s (a + 8) % 128) (lo_in9 s a) (by omega)
  rw [← lo_at9] at hm
  have h := ext_9 (lo s a 9 % 18446744073709551616) (bt s (a + 8)) w
  rw [hm] at h
  rw [ac_sign, show (128 : Int) ^ 9 = 9223372036854775808 by decide]
  exact h
theorem lo_at10 (s : ByteArray) (a : Nat) : lo s a 10 = lo s a 9 + bt s (a + 9) % 128 * 9223372036854775808 := by
  show lo s a 9 + bt s (a + 9) % 128 * (128 : Int) ^ 9 = _
  rw [show (128 : Int) ^ 9 = 9223372036854775808 by decide]
theorem lo_in10 (s : ByteArray) (a : Nat) : 0 ≤ lo s a 9 ∧ lo s a 9 < 9223372036854775808 := by
  have := lo_rng s a 9
  rwa [show (128 : Int) ^ 9 = 9223372036854775808 by decide] at this
theorem exv_10 (s : ByteArray) (a : Nat) (w : World) :
    Calls Try.prog 101 #[nbr (lo s a 10 % 18446744073709551616) (bt s (a + 9)) 10] w fun e w' => e = .returned (.int .i64 (ac s a 10 (if bt s (a + 9) % 128 < 64 then 0 else -1))) ∧ Later w w' := by
  have hm := sx_10 (lo s a 9) (bt s (a + 9) % 128) (lo_in10 s a) (by omega)
  rw [← lo_at10] at hm
  have h := ext_10 (lo s a 10 % 18446744073709551616) (bt s (a + 9)) w
  rw [hm] at h
  rw [ac_sign, show (128 : Int) ^ 10 = 1180591620717411303424 by decide]
  exact h
theorem ext_any (s : ByteArray) (a j : Nat) (hj : j ≤ 9) (w : World) :
    Calls Try.prog 101 #[nbr (lo s a (j + 1) % 18446744073709551616) (bt s (a + j)) ((j : Int) + 1)] w fun e w' => e = .returned (.int .i64 (ac s a (j + 1) (if bt s (a + j) % 128 < 64 then 0 else -1))) ∧ Later w w' := by
  match j, hj with
  | 0, _ => exact exv_1 s a w
  | 1, _ => exact exv_2 s a w
  | 2, _ => exact exv_3 s a w
  | 3, _ => exact exv_4 s a w
  | 4, _ => exact exv_5 s a w
  | 5, _ => exact exv_6 s a w
  | 6, _ => exact exv_7 s a w
  | 7, _ => exact exv_8 s a w
  | 8, _ => exact exv_9 s a w
  | 9, _ => exact exv_10 s a w
theorem sgv_1 (s : ByteArray) (a : Nat) : ac s a 1 (if bt s (a + 0) % 128 < 64 then 0 else -1) = sg3 (ac s a 1 (if bt s (a + 0) % 128 < 64 then 0 else -1)) := by
  rw [ac_sign, lo_at1, show (128 : Int) ^ 1 = 128 by decide]
  exact s3_1 _ _ (lo_in1 s a) (by omega)
theorem sgv_2 (s : ByteArray) (a : Nat) : ac s a 2 (if bt s (a + 1) % 128 < 64 then 0 else -1) = sg3 (ac s a 2 (if bt s (a + 1) % 128 < 64 then 0 else -1)) := by
  rw [ac_sign, lo_at2, show (128 : Int) ^ 2 = 16384 by decide]
  exact s3_2 _ _ (lo_in2 s a) (by omega)
theorem sgv_3 (s : ByteArray) (a : Nat) : ac s a 3 (if bt s (a + 2) % 128 < 64 then 0 else -1) = sg3 (ac s a 3 (if bt s (a + 2) % 128 < 64 then 0 else -1)) := by
  rw [ac_sign, lo_at3, show (128 : Int) ^ 3 = 2097152 by decide]
  exact s3_3 _ _ (lo_in3 s a) (by omega)
theorem sgv_4 (s : ByteArray) (a : Nat) : ac s a 4 (if bt s (a + 3) % 128 < 64 then 0 else -1) = sg3 (ac s a 4 (if bt s (a + 3) % 128 < 64 then 0 else -1)) := by
  rw [ac_sign, lo_at4, show (128 : Int) ^ 4 = 268435456 by decide]
  exact s3_4 _ _ (lo_in4 s a) (by omega)
theorem sgv_5 (s : ByteArray) (a : Nat) (h8 : bt s (a + 4) % 128 / 8 = 0 ∨ bt s (a + 4) % 128 / 8 = 15) : ac s a 5 (if bt s (a + 4) % 128 < 64 then 0 else -1) = sg3 (ac s a 5 (if bt s (a + 4) % 128 < 64 then 0 else -1)) := by
  rw [ac_sign, lo_at5, show (128 : Int) ^ 5 = 34359738368 by decide]
  exact s3_5 _ _ (lo_in5 s a) (by omega) h8
theorem sg_any (s : ByteArray) (a j : Nat) (hj : j ≤ 4) (h8 : j = 4 → bt s (a + j) % 128 / 8 = 0 ∨ bt s (a + j) % 128 / 8 = 15) : ac s a (j + 1) (if bt s (a + j) % 128 < 64 then 0 else -1) = sg3 (ac s a (j + 1) (if bt s (a + j) % 128 < 64 then 0 else -1)) := by
  match j, hj, h8 with
  | 0, _, h => exact sgv_1 s a
  | 1, _, h => exact sgv_2 s a
  | 2, _, h => exact sgv_3 s a
  | 3, _, h => exact sgv_4 s a
  | 4, _, h => exact sgv_5 s a (h rfl)
theorem gets_32 (s : ByteArray) (hs : s.size < 9223372036854775000) (a j : Nat) (hp : ptR s (a : Int) 32 = (((a + j : Nat) : Int), 0)) (hk2 : a + j < s.size) (hj : j < 5) (hk5 : bt s (a + j) < 128) (w : World) :
    Calls Try.prog 96 #[.string s, .int .i64 (a : Int), .int .i64 32] w fun e w' => e = .returned (.tuple #[.int .i64 (usR s (a : Int) 32).1, .int .i64 (usR s (a : Int) 32).2.1, .int .i64 (usR s (a : Int) 32).2.2]) ∧ Later w w' := by
  have hb := bt_lt s (a + j)
  have hpp : Hid (∀ w : World, Calls Try.prog 99 #[.string s, .int .i64 (a : Int), .int .i64 32] w fun e w' => e = .returned (.tuple #[nbr (lo s a (j + 1) % 18446744073709551616) (bt s (a + j)) ((j : Int) + 1), .int .i64 0]) ∧ Later w w') := fun w => by
    have := walk_any s hs (a : Int) 32 w
    rw [hp] at this
    unfold wkV at this
    rw [if_pos rfl, Int.toNat_natCast, Int.toNat_natCast, show a + j + 1 - a = j + 1 by omega] at this
    exact this
  have hat : (a : Int) + ((j : Int) + 1) = ((a + j : Nat) : Int) + 1 := by omega
  have hsv := sv_of (bt s (a + j)) ⟨hb.1, hk5⟩
  have hsr : -64 ≤ (if bt s (a + j) < 64 then bt s (a + j) else bt s (a + j) - 128) ∧ (if bt s (a + j) < 64 then bt s (a + j) else bt s (a + j) - 128) ≤ 63 := by split <;> omega
  have hx := ext_any s a j (by omega)
  have hok : ¬ (j = 4 ∧ ¬ bt s (a + j) / 8 = 0 ∧ ¬ bt s (a + j) / 8 = 15) → usR s (a : Int) 32 = (sg3 (ac s a (j + 1) (if bt s (a + j) % 128 < 64 then 0 else -1)), ((a + j : Nat) : Int) + 1, 0) := by
    intro hn
    unfold usR
    rw [hp, if_pos rfl, if_neg]
    · show (_, _, _) = (_, _, _)
      simp only [Int.toNat_natCast, show a + j + 1 - a = j + 1 by omega]
      rfl
    · rintro ⟨x1, x2⟩
      exact hn ⟨by omega, x2⟩
  by_cases hc : j = 4
  · have hroom : Hid (∀ w : World, Calls Try.prog 100 #[.int .i64 ((j : Int) + 1), .int .i64 32] w fun e w' => e = .returned (.int .i64 4) ∧ w' = w) := fun w => by
      rw [hc]
      exact room_32 w
    by_cases hd : ¬ bt s (a + j) / 8 = 0 ∧ ¬ bt s (a + j) / 8 = 15
    · have e : usR s (a : Int) 32 = (0, 0, 1200) := by
        unfold usR
        rw [hp, if_pos rfl, if_pos]
        exact ⟨by omega, hd⟩
      rw [e]
      refine gets_form4 s (a : Int) 32 _ _ _ _ _ ⟨hb.1, hk5⟩ (by omega) hpp hroom hx hsv hsr ?_ ?_ w
      · simp only [bne_iff_ne, ne_eq]
        split <;> omega
      · simp only [bne_iff_ne, ne_eq]
        split <;> omega
    · rw [hok (fun h => hd h.2)]
      rw [← sg_any s a j (by omega) (fun _ => by omega)]
      have := gets_ok4 s (a : Int) 32 _ _ _ _ _ ⟨hb.1, hk5⟩ (by omega) hpp hroom hx hsv hsr ?_ w
      · rwa [hat] at this
      · simp only [bne_iff_ne, ne_eq, bne_eq_false_iff_eq]
        split <;> omega
  · have hroom : Hid (∀ w : World, Calls Try.prog 100 #[.int .i64 ((j : Int) + 1), .int .i64 32] w fun e w' => e = .returned (.int .i64 7) ∧ w' = w) := fun w => room_big _ _ (by omega) (by omega) (by omega) w
    rw [hok (fun h => hc h.1)]
    rw [← sg_any s a j (by omega) (fun h => absurd h hc)]
    have := gets_ok7 s (a : Int) 32 _ _ _ _ _ ⟨hb.1, hk5⟩ (by omega) hpp hroom hx hsv hsr ?_ w
    · rwa [hat] at this
    · simp only [bne_iff_ne, ne_eq, bne_eq_false_iff_eq]
      split <;> omega
theorem gets_64 (s : ByteArray) (hs : s.size < 9223372036854775000) (a j : Nat) (hp : ptR s (a : Int) 64 = (((a + j : Nat) : Int), 0)) (hk2 : a + j < s.size) (hj : j < 10) (hk5 : bt s (a + j) < 128) (w : World) :
    Calls Try.prog 96 #[.string s, .int .i64 (a : Int), .int .i64 64] w fun e w' => e = .returned (.tuple #[.int .i64 (usR s (a : Int) 64).1, .int .i64 (usR s (a : Int) 64).2.1, .int .i64 (usR s (a : Int) 64).2.2]) ∧ Later w w' := by
  have hb := bt_lt s (a + j)
  have hpp : Hid (∀ w : World, Calls Try.prog 99 #[.string s, .int .i64 (a : Int), .int .i64 64] w fun e w' => e = .returned (.tuple #[nbr (lo s a (j + 1) % 18446744073709551616) (bt s (a + j)) ((j : Int) + 1), .int .i64 0]) ∧ Later w w') := fun w => by
    have := walk_any s hs (a : Int) 64 w
    rw [hp] at this
    unfold wkV at this
    rw [if_pos rfl, Int.toNat_natCast, Int.toNat_natCast, show a + j + 1 - a = j + 1 by omega] at this
    exact this
  have hat : (a : Int) + ((j : Int) + 1) = ((a + j : Nat) : Int) + 1 := by omega
  have hsv := sv_of (bt s (a + j)) ⟨hb.1, hk5⟩
  have hsr : -64 ≤ (if bt s (a + j) < 64 then bt s (a + j) else bt s (a + j) - 128) ∧ (if bt s (a + j) < 64 then bt s (a + j) else bt s (a + j) - 128) ≤ 63 := by split <;> omega
  have hx := ext_any s a j (by omega)
  have hok : ¬ (j = 9 ∧ ¬ bt s (a + j) / 1 = 0 ∧ ¬ bt s (a + j) / 1 = 127) → usR s (a : Int) 64 = (ac s a (j + 1) (if bt s (a + j) % 128 < 64 then 0 else -1), ((a + j : Nat) : Int) + 1, 0) := by
    intro hn
    unfold usR
    rw [hp, if_pos rfl, if_neg]
    · show (_, _, _) = (_, _, _)
      simp only [Int.toNat_natCast, show a + j + 1 - a = j + 1 by omega]
      rfl
    · rintro ⟨x1, x2⟩
      exact hn ⟨by omega, x2⟩
  by_cases hc : j = 9
  · have hroom : Hid (∀ w : World, Calls Try.prog 100 #[.int .i64 ((j : Int) + 1), .int .i64 64] w fun e w' => e = .returned (.int .i64 1) ∧ w' = w) := fun w => by
      rw [hc]
      exact room_64 w
    by_cases hd : ¬ bt s (a + j) / 1 = 0 ∧ ¬ bt s (a + j) / 1 = 127
    · have e : usR s (a : Int) 64 = (0, 0, 1200) := by
        unfold usR
        rw [hp, if_pos rfl, if_pos]
        exact ⟨by omega, hd⟩
      rw [e]
      refine gets_form1 s (a : Int) 64 _ _ _ _ _ ⟨hb.1, hk5⟩ (by omega) hpp hroom hx hsv hsr ?_ ?_ w
      · simp only [bne_iff_ne, ne_eq]
        split <;> omega
      · simp only [bne_iff_ne, ne_eq]
        split <;> omega
    · rw [hok (fun h => hd h.2)]
      have := gets_ok1 s (a : Int) 64 _ _ _ _ _ ⟨hb.1, hk5⟩ (by omega) hpp hroom hx hsv hsr ?_ w
      · rwa [hat] at this
      · simp only [bne_iff_ne, ne_eq, bne_eq_false_iff_eq]
        split <;> omega
  · have hroom : Hid (∀ w : World, Calls Try.prog 100 #[.int .i64 ((j : Int) + 1), .int .i64 64] w fun e w' => e = .returned (.int .i64 7) ∧ w' = w) := fun w => room_big _ _ (by omega) (by omega) (by omega) w
    rw [hok (fun h => hc h.1)]
    have := gets_ok7 s (a : Int) 64 _ _ _ _ _ ⟨hb.1, hk5⟩ (by omega) hpp hroom hx hsv hsr ?_ w
    · rwa [hat] at this
    · simp only [bne_iff_ne, ne_eq, bne_eq_false_iff_eq]
      split <;> omega
theorem gets_err (s : ByteArray) (hs : s.size < 9223372036854775000) (at_ bits_ : Int) (h : ¬ (ptR s at_ bits_).2 = 0) (w : World) :
    Calls Try.prog 96 #[.string s, .int .i64 at_, .int .i64 bits_] w fun e w' => e = .returned (.tuple #[.int .i64 0, .int .i64 0, .int .i64 (ptR s at_ bits_).2]) ∧ Later w w' := by
  have hp : Hid (∀ w : World, Calls Try.prog 99 #[.string s, .int .i64 at_, .int .i64 bits_] w fun e w' => e = .returned (.tuple #[nbr 0 0 0, .int .i64 (ptR s at_ bits_).2]) ∧ Later w w') := fun w => by
    have := walk_any s hs at_ bits_ w
    unfold wkV at this
    rwa [if_neg h] at this
  unfold nbr at hp
  generalize (ptR s at_ bits_).2 = E at *
  have h2 : (E != 0) = true := by simpa using h
  go_enter Try.func96, Try.ntmps96
  go_wp2_with (go_at_call 99; refine (hp.out _).mono ?_; rintro e w2 ⟨rfl, h3⟩)
  go_ret3
  exact ⟨rfl, La h3⟩
theorem gets_any (s : ByteArray) (hs : s.size < 9223372036854775000) (at_ bits_ : Int) (ha : -9223372036854775808 ≤ at_ ∧ at_ ≤ 9223372036854775807) (hb : -9223372036854775808 ≤ bits_ ∧ bits_ ≤ 9223372036854775807) (w : World) :
    Calls Try.prog 96 #[.string s, .int .i64 at_, .int .i64 bits_] w fun e w' => e = .returned (.tuple #[.int .i64 (usR s at_ bits_).1, .int .i64 (usR s at_ bits_).2.1, .int .i64 (usR s at_ bits_).2.2]) ∧ Later w w' := by
  by_cases h : (ptR s at_ bits_).2 = 0
  · obtain ⟨a, k, m, rfl, hb, h1, h2, h3, h4, h5⟩ := ptR_in h
    obtain ⟨j, rfl⟩ : ∃ j, k = a + j := ⟨k - a, by omega⟩
    have hp : ptR s (a : Int) bits_ = (((a + j : Nat) : Int), 0) := Prod.ext h1 h
    rcases hb with ⟨rfl, rfl⟩ | ⟨rfl, rfl⟩
    · exact gets_32 s hs a j hp h3 (by omega) h5 w
    · exact gets_64 s hs a j hp h3 (by omega) h5 w
  · have e : usR s at_ bits_ = (0, 0, (ptR s at_ bits_).2) := by unfold usR; exact if_neg h
    rw [e]
    exact gets_err s hs at_ bits_ h w
end Go.Proofs.Ytkdfmgdadnlnlaa
