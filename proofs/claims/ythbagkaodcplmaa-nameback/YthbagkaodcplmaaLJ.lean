/- Numbers written in parts: what they are, that they are read as they were written, with and without sign, by 32 and 64 bits. No walk. -/
import Derived.Test.YthbagkaodcplmaaLI
set_option linter.unusedVariables false
set_option linter.unusedSimpArgs false
set_option maxRecDepth 100000
set_option maxHeartbeats 4000000
namespace Go.Proofs.Ythbagkaodcplmaa
open Go.RowKit
theorem pow_up (r : Nat) : (128 : Int) ^ (r + 1) = 128 ^ r * 128 := Int.pow_succ 128 r
theorem lebF_pts : ∀ (r : Nat) (y : Int), 0 ≤ y → y < 128 * 128 ^ r → Pts (lebF r y)
  | 0, y, h0, h1 => Or.inl ⟨rfl, h0, by simpa using h1⟩
  | r + 1, y, h0, h1 => by
    unfold lebF
    by_cases hy : y < 128
    · rw [if_pos hy]; exact Or.inl ⟨rfl, h0, hy⟩
    · rw [if_neg hy]
      rw [pow_up] at h1
      exact Or.inr ⟨by omega, by omega, lebF_pts r (y / 128) (by omega) (by omega)⟩
theorem lebF_len : ∀ (r : Nat) (y : Int), (lebF r y).length ≤ r + 1
  | 0, y => by simp [lebF]
  | r + 1, y => by
    unfold lebF
    split
    · simp
    · have := lebF_len r (y / 128)
      simp only [List.length_cons]
      omega
theorem lebF_un : ∀ (r : Nat) (y : Int), 0 ≤ y → y < 128 * 128 ^ r → un (lebF r y) 0 = y
  | 0, y, h0, h1 => by
    have : y < 128 := by simpa using h1
    simp only [lebF, un]
    omega
  | r + 1, y, h0, h1 => by
    unfold lebF
    by_cases hy : y < 128
    · rw [if_pos hy]
      simp only [un]
      omega
    · rw [if_neg hy]
      rw [pow_up] at h1
      simp only [un]
      rw [lebF_un r (y / 128) (by omega) (by omega)]
      omega
theorem lebF_ne (r : Nat) (y : Int) : lebF r y ≠ [] := by
  cases r with
  | zero => simp [lebF]
  | succ r => unfold lebF; split <;> simp
theorem lebF_la : ∀ (r : Nat) (y c : Int), 0 ≤ y → y < c * 128 ^ r → (lebF r y).length = r + 1 → 0 ≤ la (lebF r y) ∧ la (lebF r y) < c
  | 0, y, c, h0, h1, hl => by
    have : y < c := by simpa using h1
    exact ⟨h0, this⟩
  | r + 1, y, c, h0, h1, hl => by
    unfold lebF at hl ⊢
    by_cases hy : y < 128
    · rw [if_pos hy] at hl
      simp at hl
    · rw [if_neg hy] at hl ⊢
      rw [pow_up, ← Int.mul_assoc] at h1
      show 0 ≤ (if lebF r (y / 128) = [] then _ else la (lebF r (y / 128))) ∧ (if lebF r (y / 128) = [] then _ else la (lebF r (y / 128))) < c
      rw [if_neg (lebF_ne _ _)]
      exact lebF_la r (y / 128) c (by omega) (by generalize c * 128 ^ r = P at *; omega) (by simpa using hl)
theorem lebF_less : ∀ (r k : Nat) (y : Int), 0 ≤ y → y < 128 * 128 ^ r → lebF (r + k) y = lebF r y
  | 0, 0, y, h0, h1 => rfl
  | 0, k + 1, y, h0, h1 => by
    have : y < 128 := by simpa using h1
    rw [Nat.zero_add]
    unfold lebF
    rw [if_pos this]
  | r + 1, k, y, h0, h1 => by
    rw [show r + 1 + k = (r + k) + 1 by omega]
    unfold lebF
    by_cases hy : y < 128
    · rw [if_pos hy, if_pos hy]
    · rw [if_neg hy, if_neg hy]
      rw [pow_up] at h1
      rw [lebF_less r k (y / 128) (by omega) (by omega)]
theorem slebF_pts : ∀ (r : Nat) (x : Int), Pts (slebF r x)
  | 0, x => Or.inl ⟨rfl, by omega, by omega⟩
  | r + 1, x => by
    unfold slebF
    by_cases hx : -64 ≤ x ∧ x ≤ 63
    · rw [if_pos hx]; exact Or.inl ⟨rfl, by omega, by omega⟩
    · rw [if_neg hx]
      exact Or.inr ⟨by omega, by omega, slebF_pts r (x / 128)⟩
theorem slebF_len : ∀ (r : Nat) (y : Int), (slebF r y).length ≤ r + 1
  | 0, y => by simp [slebF]
  | r + 1, y => by
    unfold slebF
    split
    · simp
    · have := slebF_len r (y / 128)
      simp only [List.length_cons]
      omega
theorem slebF_ne (r : Nat) (y : Int) : slebF r y ≠ [] := pts_ne (slebF_pts r y)
theorem slebF_la : ∀ (r : Nat) (x c : Int), -c * 128 ^ r ≤ x → x < c * 128 ^ r → (slebF r x).length = r + 1 → ∃ z, -c ≤ z ∧ z < c ∧ la (slebF r x) = z % 128
  | 0, x, c, h0, h1, hl => ⟨x, by simpa using h0, by simpa using h1, rfl⟩
  | r + 1, x, c, h0, h1, hl => by
    unfold slebF at hl ⊢
    by_cases hx : -64 ≤ x ∧ x ≤ 63
    · rw [if_pos hx] at hl
      simp at hl
    · rw [if_neg hx] at hl ⊢
      rw [pow_up, ← Int.mul_assoc] at h0 h1
      show ∃ z, -c ≤ z ∧ z < c ∧ (if slebF r (x / 128) = [] then _ else la (slebF r (x / 128))) = z % 128
      rw [if_neg (slebF_ne _ _)]
      exact slebF_la r (x / 128) c (by generalize -c * 128 ^ r = P at *; omega) (by generalize c * 128 ^ r = P at *; omega) (by simpa using hl)
theorem slebF_sgn : ∀ (r : Nat) (x : Int), -(64 * 128 ^ r) ≤ x → x < 64 * 128 ^ r → sgn (slebF r x) = if 0 ≤ x then 0 else -1
  | 0, x, h0, h1 => by
    have h2 : -64 ≤ x := by simpa using h0
    have h3 : x < 64 := by simpa using h1
    show (if x % 128 % 128 < 64 then (0 : Int) else -1) = _
    by_cases hx : 0 ≤ x
    · rw [if_pos hx, if_pos (by omega)]
    · rw [if_neg hx, if_neg (by omega)]
  | r + 1, x, h0, h1 => by
    unfold slebF
    by_cases hx : -64 ≤ x ∧ x ≤ 63
    · rw [if_pos hx]
      show (if x % 128 % 128 < 64 then (0 : Int) else -1) = _
      by_cases h2 : 0 ≤ x
      · rw [if_pos h2, if_pos (by omega)]
      · rw [if_neg h2, if_neg (by omega)]
    · rw [if_neg hx]
      rw [pow_up] at h0 h1
      have := slebF_sgn r (x / 128) (by omega) (by omega)
      unfold sgn at this ⊢
      show (if (if slebF r (x / 128) = [] then _ else la (slebF r (x / 128))) % 128 < 64 then (0 : Int) else -1) = _
      rw [if_neg (slebF_ne _ _), this]
      by_cases h2 : 0 ≤ x
      · rw [if_pos h2, if_pos (by omega)]
      · rw [if_neg h2, if_neg (by omega)]
theorem slebF_un : ∀ (r : Nat) (x : Int), -(64 * 128 ^ r) ≤ x → x < 64 * 128 ^ r → un (slebF r x) (if 0 ≤ x then 0 else -1) = x
  | 0, x, h0, h1 => by
    have h2 : -64 ≤ x := by simpa using h0
    have h3 : x < 64 := by simpa using h1
    simp only [slebF, un]
    split <;> omega
  | r + 1, x, h0, h1 => by
    unfold slebF
    by_cases hx : -64 ≤ x ∧ x ≤ 63
    · rw [if_pos hx]
      simp only [un]
      split <;> omega
    · rw [if_neg hx]
      rw [pow_up] at h0 h1
      simp only [un]
      have := slebF_un r (x / 128) (by omega) (by omega)
      have e : (if 0 ≤ x / 128 then (0 : Int) else -1) = if 0 ≤ x then 0 else -1 := by
        by_cases h2 : 0 ≤ x
        · rw [if_pos h2, if_pos (by omega)]
        · rw [if_neg h2, if_neg (by omega)]
      rw [e] at this
      rw [this]
      omega
theorem slebF_less : ∀ (r k : Nat) (x : Int), -(64 * 128 ^ r) ≤ x → x < 64 * 128 ^ r → slebF (r + k) x = slebF r x
  | 0, 0, x, h0, h1 => rfl
  | 0, k + 1, x, h0, h1 => by
    have h2 : -64 ≤ x := by simpa using h0
    have h3 : x < 64 := by simpa using h1
    rw [Nat.zero_add]
    unfold slebF
    rw [if_pos ⟨h2, by omega⟩]
  | r + 1, k, x, h0, h1 => by
    rw [show r + 1 + k = (r + k) + 1 by omega]
    unfold slebF
    by_cases hx : -64 ≤ x ∧ x ≤ 63
    · rw [if_pos hx, if_pos hx]
    · rw [if_neg hx, if_neg hx]
      rw [pow_up] at h0 h1
      rw [slebF_less r k (x / 128) (by omega) (by omega)]
/-- bytes of a text -/
theorem bt_get (s : ByteArray) (i : Nat) : bt s i = ((s.data[i]?).map fun b => (b.toNat : Int)).getD 0 := by
  unfold bt
  by_cases h : i < s.size
  · rw [dif_pos h]
    have h2 : i < s.data.size := h
    rw [Array.getElem?_eq_getElem h2]
    rfl
  · rw [dif_neg h]
    have h2 : s.data.size ≤ i := Nat.le_of_not_lt h
    rw [Array.getElem?_eq_none h2]
    rfl
theorem bt_left (s q : ByteArray) (i : Nat) (h : i < s.size) : bt (s ++ q) i = bt s i := by
  rw [bt_get, bt_get, ByteArray.data_append, Array.getElem?_append_left h]
theorem bt_right (p s : ByteArray) (i : Nat) : bt (p ++ s) (p.size + i) = bt s i := by
  rw [bt_get, bt_get, ByteArray.data_append, Array.getElem?_append_right (show p.data.size ≤ p.size + i from Nat.le_add_right _ _)]
  congr 3
  show p.size + i - p.data.size = i
  exact Nat.add_sub_cancel_left _ _
theorem bl_left {s : ByteArray} (q : ByteArray) : ∀ {d : List Int} {a : Nat}, bl s a d → bl (s ++ q) a d
  | [], a, h => by
    have h2 : a ≤ s.size := h
    show a ≤ (s ++ q).size
    rw [ByteArray.size_append]
    omega
  | b :: d, a, h => by
    refine ⟨?_, ?_, bl_left q h.2.2⟩
    · rw [ByteArray.size_append]; have := h.1; omega
    · rw [bt_left s q a h.1]; exact h.2.1
theorem bl_right (p : ByteArray) {s : ByteArray} : ∀ {d : List Int} {a : Nat}, bl s a d → bl (p ++ s) (p.size + a) d
  | [], a, h => by
    have h2 : a ≤ s.size := h
    show p.size + a ≤ (p ++ s).size
    rw [ByteArray.size_append]
    omega
  | b :: d, a, h => by
    refine ⟨?_, ?_, bl_right p h.2.2⟩
    · rw [ByteArray.size_append]; have := h.1; omega
    · rw [bt_right]; exact h.2.1
theorem bl_nums : ∀ (d e : List Int), (∀ b ∈ e, 0 ≤ b ∧ b < 256) → bl (strOfNums (d ++ e)) d.length e
  | d, [], h => by
    show d.length ≤ (strOfNums (d ++ [])).size
    rw [strOfNums_size]
    simp
  | d, b :: e, h => by
    have hb := h b (by simp)
    refine ⟨?_, ?_, ?_⟩
    · rw [strOfNums_size]; simp
    · rw [bt_get]
      simp [strOfNums, hb]
      omega
    · have := bl_nums (d ++ [b]) e (fun c hc => h c (by simp [hc]))
      simpa using this
theorem bl_num (d : List Int) (h : ∀ b ∈ d, 0 ≤ b ∧ b < 256) : bl (strOfNums d) 0 d := bl_nums [] d h
/-- a number written, between other bytes, is read -/
theorem get_put64 (x : Int) (hx : -9223372036854775808 ≤ x ∧ x ≤ 9223372036854775807) (s : ByteArray) (a : Nat) (h : bl s a (lebL x)) : ulR s (a : Int) 64 = (x, ((a + (lebL x).length : Nat) : Int), 0) := by
  have h0 : 0 ≤ x % 18446744073709551616 := by omega
  have h1 : x % 18446744073709551616 < 2 * 128 ^ 9 := by omega
  have h2 : x % 18446744073709551616 < 128 * 128 ^ 9 := by omega
  rw [ul_of s a (lebL x) 64 10 (Or.inr ⟨rfl, rfl⟩) h (lebF_pts 9 _ h0 h2) (lebF_len 9 _) (fun hl => by
    have := lebF_la 9 _ 2 h0 h1 hl
    show la (lebF 9 (x % 18446744073709551616)) / 2 = 0
    omega)]
  show (wrap64 (un (lebF 9 (x % 18446744073709551616)) 0), _, _) = _
  rw [lebF_un 9 _ h0 h2]
  refine Prod.ext ?_ rfl
  show wrap64 (x % 18446744073709551616) = x
  unfold wrap64
  omega
theorem leb32 (y : Int) (hy : 0 ≤ y ∧ y < 4294967296) : lebL y = lebF 4 y := by
  unfold lebL
  rw [show y % 18446744073709551616 = y by omega]
  exact lebF_less 4 5 y hy.1 (by omega)
theorem sleb32 (x : Int) (hx : -2147483648 ≤ x ∧ x < 2147483648) : slebL x = slebF 4 x := slebF_less 4 5 x (by omega) (by omega)
theorem get_put32 (y : Int) (hy : 0 ≤ y ∧ y < 4294967296) (s : ByteArray) (a : Nat) (h : bl s a (lebL y)) : ulR s (a : Int) 32 = (y, ((a + (lebL y).length : Nat) : Int), 0) := by
  rw [leb32 y hy] at h ⊢
  rw [ul_of s a (lebF 4 y) 32 5 (Or.inl ⟨rfl, rfl⟩) h (lebF_pts 4 _ hy.1 (by omega)) (lebF_len 4 _) (fun hl => by
    have := lebF_la 4 y 16 hy.1 (by omega) hl
    show la (lebF 4 y) / 16 = 0
    omega), lebF_un 4 y hy.1 (by omega)]
  refine Prod.ext ?_ rfl
  show wrap64 y = y
  unfold wrap64
  omega
end Go.Proofs.Ythbagkaodcplmaa
