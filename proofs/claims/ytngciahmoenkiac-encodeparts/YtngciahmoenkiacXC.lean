/- XC: LI, LJ, LK, joined. -/
import Derived.Test.YtngciahmoenkiacXB
/- Reading undoes writing: parts that stand in a text, what they make, which are refused. No walk. -/
set_option linter.unusedVariables false
set_option linter.unusedSimpArgs false
set_option maxRecDepth 100000
set_option maxHeartbeats 4000000
namespace Go.Proofs.Ytngciahmoenkiac
open Go.RowKit
/-- numbers that are a text's bytes from a place on -/
def bl (s : ByteArray) (a : Nat) : List Int → Prop
  | [] => a ≤ s.size
  | b :: d => a < s.size ∧ bt s a = b ∧ bl s (a + 1) d
/-- parts: 128 in each but the last -/
def Pts : List Int → Prop
  | [] => False
  | b :: d => (d = [] ∧ 0 ≤ b ∧ b < 128) ∨ (128 ≤ b ∧ b < 256 ∧ Pts d)
/-- what parts make, behind a number -/
def un : List Int → Int → Int
  | [], x => x
  | b :: d, x => un d x * 128 + b % 128
def la : List Int → Int
  | [] => 0
  | b :: d => if d = [] then b else la d
theorem bl_len {s : ByteArray} : ∀ {d : List Int} {a : Nat}, bl s a d → a + d.length ≤ s.size
  | [], a, h => by simpa [bl] using h
  | b :: d, a, h => by
    have := bl_len h.2.2
    simp only [List.length_cons]
    omega
theorem bl_app {s : ByteArray} : ∀ {d e : List Int} {a : Nat}, bl s a (d ++ e) ↔ bl s a d ∧ bl s (a + d.length) e
  | [], e, a => by
    simp only [List.nil_append, List.length_nil, Nat.add_zero, bl]
    constructor
    · intro h
      refine ⟨?_, h⟩
      have := bl_len h
      omega
    · exact fun h => h.2
  | b :: d, e, a => by
    simp only [List.cons_append, bl, List.length_cons]
    rw [bl_app (d := d) (e := e) (a := a + 1), show a + 1 + d.length = a + (d.length + 1) by omega]
    constructor
    · rintro ⟨h1, h2, h3, h4⟩
      exact ⟨⟨h1, h2, h3⟩, h4⟩
    · rintro ⟨⟨h1, h2, h3⟩, h4⟩
      exact ⟨h1, h2, h3, h4⟩
theorem pts_ne {d : List Int} (h : Pts d) : d ≠ [] := by
  intro e
  subst e
  exact h
theorem pts_pos {d : List Int} (h : Pts d) : 0 < d.length := List.length_pos_iff.2 (pts_ne h)
theorem pt_of (s : ByteArray) (a : Nat) : ∀ (r i : Nat) (d : List Int), bl s (a + i) d → Pts d → pt s a r i = if d.length ≤ r then (((a + i + d.length - 1 : Nat) : Int), 0) else (0, 1200)
  | 0, i, d, h, hp => by
    have := pts_pos hp
    rw [if_neg (by omega)]
    rfl
  | r + 1, i, [], h, hp => absurd rfl (pts_ne hp)
  | r + 1, i, b :: d, h, hp => by
    unfold pt
    obtain ⟨h1, h2, h3⟩ := h
    rw [if_neg (by omega), h2]
    rcases hp with ⟨rfl, h4, h5⟩ | ⟨h4, h5, h6⟩
    · rw [if_pos h5, if_pos (by simp)]
      simp
    · rw [if_neg (by omega), pt_of s a r (i + 1) d h3 h6]
      have := pts_pos h6
      simp only [List.length_cons]
      by_cases hd : d.length ≤ r
      · rw [if_pos hd, if_pos (by omega)]
        congr 2
        omega
      · rw [if_neg hd, if_neg (by omega)]
/-- every part goes on: too many, or cut -/
def Mor : List Int → Prop
  | [] => True
  | b :: d => 128 ≤ b ∧ Mor d
theorem pt_mor (s : ByteArray) (a : Nat) : ∀ (r i : Nat) (d : List Int), bl s (a + i) d → Mor d → r ≤ d.length → pt s a r i = (0, 1200)
  | 0, i, d, h, hp, hr => rfl
  | r + 1, i, [], h, hp, hr => by simp at hr
  | r + 1, i, b :: d, h, hp, hr => by
    unfold pt
    obtain ⟨h1, h2, h3⟩ := h
    rw [if_neg (by omega), h2, if_neg (by have := hp.1; omega)]
    exact pt_mor s a r (i + 1) d h3 hp.2 (by simpa using hr)
theorem pt_cut (s : ByteArray) (a : Nat) : ∀ (r i : Nat) (d : List Int), bl s (a + i) d → Mor d → a + i + d.length = s.size → d.length < r → pt s a r i = (0, 1201)
  | 0, i, d, h, hp, he, hr => by omega
  | r + 1, i, [], h, hp, he, hr => by
    unfold pt
    simp only [List.length_nil] at he
    rw [if_pos (by omega)]
  | r + 1, i, b :: d, h, hp, he, hr => by
    unfold pt
    obtain ⟨h1, h2, h3⟩ := h
    simp only [List.length_cons] at he hr
    rw [if_neg (by omega), h2, if_neg (by have := hp.1; omega)]
    exact pt_cut s a r (i + 1) d h3 hp.2 (by omega) (by omega)
theorem un_app : ∀ (d e : List Int) (x : Int), un (d ++ e) x = un d (un e x)
  | [], e, x => rfl
  | b :: d, e, x => by simp only [List.cons_append, un]; rw [un_app d e x]
theorem un_lin : ∀ (d : List Int) (x : Int), ∃ P : Int, ∀ y : Int, un d y = un d x + (y - x) * P
  | [], x => ⟨1, fun y => by simp only [un]; omega⟩
  | b :: d, x => by
    obtain ⟨P, h⟩ := un_lin d x
    refine ⟨P * 128, fun y => ?_⟩
    simp only [un]
    rw [h y, Int.add_mul, ← Int.mul_assoc]
    omega
theorem wrap_of {x y : Int} (k : Int) (h : x = y + 18446744073709551616 * k) : wrap64 x = wrap64 y := by
  subst h
  unfold wrap64
  omega
theorem un_wrap (d : List Int) (x : Int) : wrap64 (un d (wrap64 x)) = wrap64 (un d x) := by
  obtain ⟨P, h⟩ := un_lin d x
  have e : ∃ q : Int, wrap64 x - x = 18446744073709551616 * q := ⟨-((x + 9223372036854775808) / 18446744073709551616), by unfold wrap64; omega⟩
  obtain ⟨q, hq⟩ := e
  refine wrap_of (q * P) ?_
  rw [h (wrap64 x), hq, Int.mul_assoc]
theorem ac_of (s : ByteArray) (a : Nat) : ∀ (j : Nat) (d : List Int) (x : Int), d.length = j → bl s a d → wrap64 x = x → ac s a j x = wrap64 (un d x)
  | 0, d, x, hj, h, hx => by
    obtain rfl : d = [] := List.eq_nil_of_length_eq_zero hj
    exact hx.symm
  | j + 1, d, x, hj, h, hx => by
    obtain ⟨e, b, rfl⟩ : ∃ e b, d = e ++ [b] := ⟨d.dropLast, d.getLast (by intro h; rw [h] at hj; simp at hj), (List.dropLast_concat_getLast _).symm⟩
    have hje : e.length = j := by simpa using hj
    obtain ⟨h1, h2⟩ := bl_app.1 h
    have h3 : bt s (a + j) = b := by rw [← hje]; exact h2.2.1
    unfold ac
    rw [ac_of s a j e _ hje h1 (by unfold wrap64; omega), un_wrap, un_app, h3]
    rfl
theorem la_app : ∀ (d : List Int) (b : Int), la (d ++ [b]) = b
  | [], b => rfl
  | c :: d, b => by
    show (if d ++ [b] = [] then c else la (d ++ [b])) = b
    rw [if_neg (by simp), la_app d b]
theorem bl_la {s : ByteArray} : ∀ {d : List Int} {a : Nat}, bl s a d → d ≠ [] → bt s (a + d.length - 1) = la d
  | [], a, h, hn => absurd rfl hn
  | b :: d, a, h, hn => by
    by_cases hd : d = []
    · subst hd
      show bt s (a + 1 - 1) = b
      rw [Nat.add_sub_cancel]
      exact h.2.1
    · have := bl_la h.2.2 hd
      have hp := List.length_pos_iff.2 hd
      show bt s (a + (d.length + 1) - 1) = if d = [] then b else la d
      rw [if_neg hd, ← this]
      congr 1
      omega
/-- a number that stands there is read -/
theorem ul_of (s : ByteArray) (a : Nat) (d : List Int) (bits_ : Int) (m : Nat) (hb : (bits_ = 32 ∧ m = 5) ∨ (bits_ = 64 ∧ m = 10)) (h : bl s a d) (hp : Pts d) (hm : d.length ≤ m) (hl : d.length = m → la d / 2 ^ (bits_ % 7).toNat = 0) : ulR s (a : Int) bits_ = (wrap64 (un d 0), ((a + d.length : Nat) : Int), 0) := by
  have hlen := bl_len h
  have hpos := pts_pos hp
  have hpt : ptR s (a : Int) bits_ = (((a + d.length - 1 : Nat) : Int), 0) := by
    unfold ptR
    rw [if_pos ⟨by omega, by omega, by omega⟩, Int.toNat_natCast, pt_of s a _ 0 d h hp, if_pos (by omega)]
    rfl
  unfold ulR
  rw [hpt, if_pos rfl, if_neg, Int.toNat_natCast, Int.toNat_natCast, ac_of s a _ d 0 (by omega) h (by unfold wrap64; omega)]
  · refine Prod.ext rfl (Prod.ext ?_ rfl)
    show ((a + d.length - 1 : Nat) : Int) + 1 = ((a + d.length : Nat) : Int)
    omega
  · rintro ⟨x1, x2⟩
    refine x2 ?_
    show bt s ((a + d.length - 1 : Nat) : Int).toNat / _ = 0
    rw [Int.toNat_natCast, bl_la h (pts_ne hp)]
    exact hl (by omega)
def sgn (d : List Int) : Int := if la d % 128 < 64 then 0 else -1
theorem us_of (s : ByteArray) (a : Nat) (d : List Int) (bits_ : Int) (m : Nat) (hb : (bits_ = 32 ∧ m = 5) ∨ (bits_ = 64 ∧ m = 10)) (h : bl s a d) (hp : Pts d) (hm : d.length ≤ m) (hl : d.length = m → la d / 2 ^ (bits_ % 7 - 1).toNat = 0 ∨ la d / 2 ^ (bits_ % 7 - 1).toNat = 127 / 2 ^ (bits_ % 7 - 1).toNat) : usR s (a : Int) bits_ = (if bits_ = 32 then sg3 (wrap64 (un d (sgn d))) else wrap64 (un d (sgn d)), ((a + d.length : Nat) : Int), 0) := by
  have hlen := bl_len h
  have hpos := pts_pos hp
  have hpt : ptR s (a : Int) bits_ = (((a + d.length - 1 : Nat) : Int), 0) := by
    unfold ptR
    rw [if_pos ⟨by omega, by omega, by omega⟩, Int.toNat_natCast, pt_of s a _ 0 d h hp, if_pos (by omega)]
    rfl
  unfold usR
  rw [hpt, if_pos rfl, if_neg, Int.toNat_natCast, Int.toNat_natCast, bl_la h (pts_ne hp), ac_of s a _ d _ (by omega) h (by unfold wrap64; split <;> omega)]
  · refine Prod.ext rfl (Prod.ext ?_ rfl)
    show ((a + d.length - 1 : Nat) : Int) + 1 = ((a + d.length : Nat) : Int)
    omega
  · rintro ⟨x1, x2, x3⟩
    rw [Int.toNat_natCast, bl_la h (pts_ne hp)] at x2 x3
    exact (hl (by omega)).elim x2 x3
theorem ul_mor (s : ByteArray) (a : Nat) (d : List Int) (bits_ : Int) (m : Nat) (hb : (bits_ = 32 ∧ m = 5) ∨ (bits_ = 64 ∧ m = 10)) (h : bl s a d) (hp : Mor d) (hm : m ≤ d.length) : ulR s (a : Int) bits_ = (0, 0, 1200) := by
  have hlen := bl_len h
  have hpt : ptR s (a : Int) bits_ = (0, 1200) := by
    unfold ptR
    rw [if_pos ⟨by omega, by omega, by omega⟩, Int.toNat_natCast, pt_mor s a _ 0 d h hp (by omega)]
  unfold ulR
  rw [hpt]
  rfl
theorem ul_cut (s : ByteArray) (a : Nat) (d : List Int) (bits_ : Int) (m : Nat) (hb : (bits_ = 32 ∧ m = 5) ∨ (bits_ = 64 ∧ m = 10)) (h : bl s a d) (hp : Mor d) (hs : a + d.length = s.size) (hm : d.length < m) : ulR s (a : Int) bits_ = (0, 0, 1201) := by
  have hpt : ptR s (a : Int) bits_ = (0, 1201) := by
    unfold ptR
    rw [if_pos ⟨by omega, by omega, by omega⟩, Int.toNat_natCast, pt_cut s a _ 0 d h hp (by omega) (by omega)]
  unfold ulR
  rw [hpt]
  rfl
/-- bits of the last part that do not belong -/
theorem ul_high (s : ByteArray) (a : Nat) (d : List Int) (bits_ : Int) (m : Nat) (hb : (bits_ = 32 ∧ m = 5) ∨ (bits_ = 64 ∧ m = 10)) (h : bl s a d) (hp : Pts d) (hm : d.length = m) (hl : ¬ la d / 2 ^ (bits_ % 7).toNat = 0) : ulR s (a : Int) bits_ = (0, 0, 1200) := by
  have hlen := bl_len h
  have hpos := pts_pos hp
  have hpt : ptR s (a : Int) bits_ = (((a + d.length - 1 : Nat) : Int), 0) := by
    unfold ptR
    rw [if_pos ⟨by omega, by omega, by omega⟩, Int.toNat_natCast, pt_of s a _ 0 d h hp, if_pos (by omega)]
    rfl
  unfold ulR
  rw [hpt, if_pos rfl, if_pos]
  refine ⟨by omega, ?_⟩
  rw [Int.toNat_natCast, bl_la h (pts_ne hp)]
  exact hl
theorem ul_out (s : ByteArray) (at_ bits_ : Int) (h : ¬ ((bits_ = 32 ∨ bits_ = 64) ∧ 0 ≤ at_ ∧ at_ ≤ (s.size : Int))) : ulR s at_ bits_ = (0, 0, 1200) := by
  have hpt : ptR s at_ bits_ = (0, 1200) := by
    unfold ptR
    rw [if_neg h]
  unfold ulR
  rw [hpt]
  rfl
end Go.Proofs.Ytngciahmoenkiac


/- Numbers written in parts: what they are, that they are read as they were written, with and without sign, by 32 and 64 bits. No walk. -/
set_option linter.unusedVariables false
set_option linter.unusedSimpArgs false
set_option maxRecDepth 100000
set_option maxHeartbeats 4000000
namespace Go.Proofs.Ytngciahmoenkiac
open Go.RowKit
theorem pow_up (r : Nat) : (128 : Int) ^ (r + 1) = 128 ^ r * 128 := Int.pow_succ 128 r
theorem lebF_pts : ∀ (r : Nat) (y : Int), 0 ≤ y → y < 128 * 128 ^ r → Pts (lebF r y)
  | 0, y, h0, h1 => Or.inl ⟨rfl, h0, by simpa using h1⟩
  | r + 1, y, h0, h1 => by
    unfold lebF
    by_cases hy : y < 128
    · rw [if_pos hy]; exact Or.inl ⟨rfl, h0, hy⟩
    · rw [if_neg hy]
      rw [pow_up] at h1
      exact Or.inr ⟨by omega, by omega, lebF_pts r (y / 128) (by omega) (by omega)⟩
theorem lebF_len : ∀ (r : Nat) (y : Int), (lebF r y).length ≤ r + 1
  | 0, y => by simp [lebF]
  | r + 1, y => by
    unfold lebF
    split
    · simp
    · have := lebF_len r (y / 128)
      simp only [List.length_cons]
      omega
theorem lebF_un : ∀ (r : Nat) (y : Int), 0 ≤ y → y < 128 * 128 ^ r → un (lebF r y) 0 = y
  | 0, y, h0, h1 => by
    have : y < 128 := by simpa using h1
    simp only [lebF, un]
    omega
  | r + 1, y, h0, h1 => by
    unfold lebF
    by_cases hy : y < 128
    · rw [if_pos hy]
      simp only [un]
      omega
    · rw [if_neg hy]
      rw [pow_up] at h1
      simp only [un]
      rw [lebF_un r (y / 128) (by omega) (by omega)]
      omega
theorem lebF_ne (r : Nat) (y : Int) : lebF r y ≠ [] := by
  cases r with
  | zero => simp [lebF]
  | succ r => unfold lebF; split <;> simp
theorem lebF_la : ∀ (r : Nat) (y c : Int), 0 ≤ y → y < c * 128 ^ r → (lebF r y).length = r + 1 → 0 ≤ la (lebF r y) ∧ la (lebF r y) < c
  | 0, y, c, h0, h1, hl => by
    have : y < c := by simpa using h1
    exact ⟨h0, this⟩
  | r + 1, y, c, h0, h1, hl => by
    unfold lebF at hl ⊢
    by_cases hy : y < 128
    · rw [if_pos hy] at hl
      simp at hl
    · rw [if_neg hy] at hl ⊢
      rw [pow_up, ← Int.mul_assoc] at h1
      show 0 ≤ (if lebF r (y / 128) = [] then _ else la (lebF r (y / 128))) ∧ (if lebF r (y / 128) = [] then _ else la (lebF r (y / 128))) < c
      rw [if_neg (lebF_ne _ _)]
      exact lebF_la r (y / 128) c (by omega) (by generalize c * 128 ^ r = P at *; omega) (by simpa using hl)
theorem lebF_less : ∀ (r k : Nat) (y : Int), 0 ≤ y → y < 128 * 128 ^ r → lebF (r + k) y = lebF r y
  | 0, 0, y, h0, h1 => rfl
  | 0, k + 1, y, h0, h1 => by
    have : y < 128 := by simpa using h1
    rw [Nat.zero_add]
    unfold lebF
    rw [if_pos this]
  | r + 1, k, y, h0, h1 => by
    rw [show r + 1 + k = (r + k) + 1 by omega]
    unfold lebF
    by_cases hy : y < 128
    · rw [if_pos hy, if_pos hy]
    · rw [if_neg hy, if_neg hy]
      rw [pow_up] at h1
      rw [lebF_less r k (y / 128) (by omega) (by omega)]
theorem slebF_pts : ∀ (r : Nat) (x : Int), Pts (slebF r x)
  | 0, x => Or.inl ⟨rfl, by omega, by omega⟩
  | r + 1, x => by
    unfold slebF
    by_cases hx : -64 ≤ x ∧ x ≤ 63
    · rw [if_pos hx]; exact Or.inl ⟨rfl, by omega, by omega⟩
    · rw [if_neg hx]
      exact Or.inr ⟨by omega, by omega, slebF_pts r (x / 128)⟩
theorem slebF_len : ∀ (r : Nat) (y : Int), (slebF r y).length ≤ r + 1
  | 0, y => by simp [slebF]
  | r + 1, y => by
    unfold slebF
    split
    · simp
    · have := slebF_len r (y / 128)
      simp only [List.length_cons]
      omega
theorem slebF_ne (r : Nat) (y : Int) : slebF r y ≠ [] := pts_ne (slebF_pts r y)
theorem slebF_la : ∀ (r : Nat) (x c : Int), -c * 128 ^ r ≤ x → x < c * 128 ^ r → (slebF r x).length = r + 1 → ∃ z, -c ≤ z ∧ z < c ∧ la (slebF r x) = z % 128
  | 0, x, c, h0, h1, hl => ⟨x, by simpa using h0, by simpa using h1, rfl⟩
  | r + 1, x, c, h0, h1, hl => by
    unfold slebF at hl ⊢
    by_cases hx : -64 ≤ x ∧ x ≤ 63
    · rw [if_pos hx] at hl
      simp at hl
    · rw [if_neg hx] at hl ⊢
      rw [pow_up, ← Int.mul_assoc] at h0 h1
      show ∃ z, -c ≤ z ∧ z < c ∧ (if slebF r (x / 128) = [] then _ else la (slebF r (x / 128))) = z % 128
      rw [if_neg (slebF_ne _ _)]
      exact slebF_la r (x / 128) c (by generalize -c * 128 ^ r = P at *; omega) (by generalize c * 128 ^ r = P at *; omega) (by simpa using hl)
theorem slebF_sgn : ∀ (r : Nat) (x : Int), -(64 * 128 ^ r) ≤ x → x < 64 * 128 ^ r → sgn (slebF r x) = if 0 ≤ x then 0 else -1
  | 0, x, h0, h1 => by
    have h2 : -64 ≤ x := by simpa using h0
    have h3 : x < 64 := by simpa using h1
    show (if x % 128 % 128 < 64 then (0 : Int) else -1) = _
    by_cases hx : 0 ≤ x
    · rw [if_pos hx, if_pos (by omega)]
    · rw [if_neg hx, if_neg (by omega)]
  | r + 1, x, h0, h1 => by
    unfold slebF
    by_cases hx : -64 ≤ x ∧ x ≤ 63
    · rw [if_pos hx]
      show (if x % 128 % 128 < 64 then (0 : Int) else -1) = _
      by_cases h2 : 0 ≤ x
      · rw [if_pos h2, if_pos (by omega)]
      · rw [if_neg h2, if_neg (by omega)]
    · rw [if_neg hx]
      rw [pow_up] at h0 h1
      have := slebF_sgn r (x / 128) (by omega) (by omega)
      unfold sgn at this ⊢
      show (if (if slebF r (x / 128) = [] then _ else la (slebF r (x / 128))) % 128 < 64 then (0 : Int) else -1) = _
      rw [if_neg (slebF_ne _ _), this]
      by_cases h2 : 0 ≤ x
      · rw [if_pos h2, if_pos (by omega)]
      · rw [if_neg h2, if_neg (by omega)]
theorem slebF_un : ∀ (r : Nat) (x : Int), -(64 * 128 ^ r) ≤ x → x < 64 * 128 ^ r → un (slebF r x) (if 0 ≤ x then 0 else -1) = x
  | 0, x, h0, h1 => by
    have h2 : -64 ≤ x := by simpa using h0
    have h3 : x < 64 := by simpa using h1
    simp only [slebF, un]
    split <;> omega
  | r + 1, x, h0, h1 => by
    unfold slebF
    by_cases hx : -64 ≤ x ∧ x ≤ 63
    · rw [if_pos hx]
      simp only [un]
      split <;> omega
    · rw [if_neg hx]
      rw [pow_up] at h0 h1
      simp only [un]
      have := slebF_un r (x / 128) (by omega) (by omega)
      have e : (if 0 ≤ x / 128 then (0 : Int) else -1) = if 0 ≤ x then 0 else -1 := by
        by_cases h2 : 0 ≤ x
        · rw [if_pos h2, if_pos (by omega)]
        · rw [if_neg h2, if_neg (by omega)]
      rw [e] at this
      rw [this]
      omega
theorem slebF_less : ∀ (r k : Nat) (x : Int), -(64 * 128 ^ r) ≤ x → x < 64 * 128 ^ r → slebF (r + k) x = slebF r x
  | 0, 0, x, h0, h1 => rfl
  | 0, k + 1, x, h0, h1 => by
    have h2 : -64 ≤ x := by simpa using h0
    have h3 : x < 64 := by simpa using h1
    rw [Nat.zero_add]
    unfold slebF
    rw [if_pos ⟨h2, by omega⟩]
  | r + 1, k, x, h0, h1 => by
    rw [show r + 1 + k = (r + k) + 1 by omega]
    unfold slebF
    by_cases hx : -64 ≤ x ∧ x ≤ 63
    · rw [if_pos hx, if_pos hx]
    · rw [if_neg hx, if_neg hx]
      rw [pow_up] at h0 h1
      rw [slebF_less r k (x / 128) (by omega) (by omega)]
/-- bytes of a text -/
theorem bt_get (s : ByteArray) (i : Nat) : bt s i = ((s.data[i]?).map fun b => (b.toNat : Int)).getD 0 := by
  unfold bt
  by_cases h : i < s.size
  · rw [dif_pos h]
    have h2 : i < s.data.size := h
    rw [Array.getElem?_eq_getElem h2]
    rfl
  · rw [dif_neg h]
    have h2 : s.data.size ≤ i := Nat.le_of_not_lt h
    rw [Array.getElem?_eq_none h2]
    rfl
theorem bt_left (s q : ByteArray) (i : Nat) (h : i < s.size) : bt (s ++ q) i = bt s i := by
  rw [bt_get, bt_get, ByteArray.data_append, Array.getElem?_append_left h]
theorem bt_right (p s : ByteArray) (i : Nat) : bt (p ++ s) (p.size + i) = bt s i := by
  rw [bt_get, bt_get, ByteArray.data_append, Array.getElem?_append_right (show p.data.size ≤ p.size + i from Nat.le_add_right _ _)]
  congr 3
  show p.size + i - p.data.size = i
  exact Nat.add_sub_cancel_left _ _
theorem bl_left {s : ByteArray} (q : ByteArray) : ∀ {d : List Int} {a : Nat}, bl s a d → bl (s ++ q) a d
  | [], a, h => by
    have h2 : a ≤ s.size := h
    show a ≤ (s ++ q).size
    rw [ByteArray.size_append]
    omega
  | b :: d, a, h => by
    refine ⟨?_, ?_, bl_left q h.2.2⟩
    · rw [ByteArray.size_append]; have := h.1; omega
    · rw [bt_left s q a h.1]; exact h.2.1
theorem bl_right (p : ByteArray) {s : ByteArray} : ∀ {d : List Int} {a : Nat}, bl s a d → bl (p ++ s) (p.size + a) d
  | [], a, h => by
    have h2 : a ≤ s.size := h
    show p.size + a ≤ (p ++ s).size
    rw [ByteArray.size_append]
    omega
  | b :: d, a, h => by
    refine ⟨?_, ?_, bl_right p h.2.2⟩
    · rw [ByteArray.size_append]; have := h.1; omega
    · rw [bt_right]; exact h.2.1
theorem bl_nums : ∀ (d e : List Int), (∀ b ∈ e, 0 ≤ b ∧ b < 256) → bl (strOfNums (d ++ e)) d.length e
  | d, [], h => by
    show d.length ≤ (strOfNums (d ++ [])).size
    rw [strOfNums_size]
    simp
  | d, b :: e, h => by
    have hb := h b (by simp)
    refine ⟨?_, ?_, ?_⟩
    · rw [strOfNums_size]; simp
    · rw [bt_get]
      simp [strOfNums, hb]
      omega
    · have := bl_nums (d ++ [b]) e (fun c hc => h c (by simp [hc]))
      simpa using this
theorem bl_num (d : List Int) (h : ∀ b ∈ d, 0 ≤ b ∧ b < 256) : bl (strOfNums d) 0 d := bl_nums [] d h
/-- a number written, between other bytes, is read -/
theorem get_put64 (x : Int) (hx : -9223372036854775808 ≤ x ∧ x ≤ 9223372036854775807) (s : ByteArray) (a : Nat) (h : bl s a (lebL x)) : ulR s (a : Int) 64 = (x, ((a + (lebL x).length : Nat) : Int), 0) := by
  have h0 : 0 ≤ x % 18446744073709551616 := by omega
  have h1 : x % 18446744073709551616 < 2 * 128 ^ 9 := by omega
  have h2 : x % 18446744073709551616 < 128 * 128 ^ 9 := by omega
  rw [ul_of s a (lebL x) 64 10 (Or.inr ⟨rfl, rfl⟩) h (lebF_pts 9 _ h0 h2) (lebF_len 9 _) (fun hl => by
    have := lebF_la 9 _ 2 h0 h1 hl
    show la (lebF 9 (x % 18446744073709551616)) / 2 = 0
    omega)]
  show (wrap64 (un (lebF 9 (x % 18446744073709551616)) 0), _, _) = _
  rw [lebF_un 9 _ h0 h2]
  refine Prod.ext ?_ rfl
  show wrap64 (x % 18446744073709551616) = x
  unfold wrap64
  omega
theorem gets_put64 (x : Int) (hx : -9223372036854775808 ≤ x ∧ x ≤ 9223372036854775807) (s : ByteArray) (a : Nat) (h : bl s a (slebL x)) : usR s (a : Int) 64 = (x, ((a + (slebL x).length : Nat) : Int), 0) := by
  rw [us_of s a (slebL x) 64 10 (Or.inr ⟨rfl, rfl⟩) h (slebF_pts 9 _) (slebF_len 9 _) (fun hl => by
    obtain ⟨z, h1, h2, h3⟩ := slebF_la 9 x 1 (by omega) (by omega) hl
    show la (slebF 9 x) / 1 = 0 ∨ la (slebF 9 x) / 1 = 127 / 1
    omega)]
  rw [if_neg (by decide)]
  show (wrap64 (un (slebF 9 x) (sgn (slebF 9 x))), _, _) = _
  rw [slebF_sgn 9 x (by omega) (by omega), slebF_un 9 x (by omega) (by omega)]
  refine Prod.ext ?_ rfl
  show wrap64 x = x
  unfold wrap64
  omega
theorem leb32 (y : Int) (hy : 0 ≤ y ∧ y < 4294967296) : lebL y = lebF 4 y := by
  unfold lebL
  rw [show y % 18446744073709551616 = y by omega]
  exact lebF_less 4 5 y hy.1 (by omega)
theorem sleb32 (x : Int) (hx : -2147483648 ≤ x ∧ x < 2147483648) : slebL x = slebF 4 x := slebF_less 4 5 x (by omega) (by omega)
theorem get_put32 (y : Int) (hy : 0 ≤ y ∧ y < 4294967296) (s : ByteArray) (a : Nat) (h : bl s a (lebL y)) : ulR s (a : Int) 32 = (y, ((a + (lebL y).length : Nat) : Int), 0) := by
  rw [leb32 y hy] at h ⊢
  rw [ul_of s a (lebF 4 y) 32 5 (Or.inl ⟨rfl, rfl⟩) h (lebF_pts 4 _ hy.1 (by omega)) (lebF_len 4 _) (fun hl => by
    have := lebF_la 4 y 16 hy.1 (by omega) hl
    show la (lebF 4 y) / 16 = 0
    omega), lebF_un 4 y hy.1 (by omega)]
  refine Prod.ext ?_ rfl
  show wrap64 y = y
  unfold wrap64
  omega
theorem gets_put32 (x : Int) (hx : -2147483648 ≤ x ∧ x < 2147483648) (s : ByteArray) (a : Nat) (h : bl s a (slebL x)) : usR s (a : Int) 32 = (x, ((a + (slebL x).length : Nat) : Int), 0) := by
  rw [sleb32 x hx] at h ⊢
  rw [us_of s a (slebF 4 x) 32 5 (Or.inl ⟨rfl, rfl⟩) h (slebF_pts 4 _) (slebF_len 4 _) (fun hl => by
    obtain ⟨z, h1, h2, h3⟩ := slebF_la 4 x 8 (by omega) (by omega) hl
    show la (slebF 4 x) / 8 = 0 ∨ la (slebF 4 x) / 8 = 127 / 8
    omega), if_pos rfl, slebF_sgn 4 x (by omega) (by omega), slebF_un 4 x (by omega) (by omega)]
  refine Prod.ext ?_ rfl
  show sg3 (wrap64 x) = x
  unfold sg3 wrap64
  omega
end Go.Proofs.Ytngciahmoenkiac


/- What a number of 32 bits that is read may be. -/
set_option linter.unusedVariables false
set_option linter.unusedSimpArgs false
set_option maxRecDepth 100000
set_option maxHeartbeats 4000000
namespace Go.Proofs.Ytngciahmoenkiac
open Go.RowKit
/-- numbers from a place on -/
def bts (s : ByteArray) (a : Nat) : Nat → List Int
  | 0 => []
  | j + 1 => bt s a :: bts s (a + 1) j
theorem bts_len (s : ByteArray) : ∀ (j a : Nat), (bts s a j).length = j
  | 0, a => rfl
  | j + 1, a => by simp [bts, bts_len s j]
theorem bl_bts (s : ByteArray) : ∀ (j a : Nat), a + j ≤ s.size → bl s a (bts s a j)
  | 0, a, h => h
  | j + 1, a, h => ⟨by omega, rfl, bl_bts s j (a + 1) (by omega)⟩
theorem un_rng : ∀ (d : List Int), 0 ≤ un d 0 ∧ un d 0 < 128 ^ d.length
  | [] => by simp [un]
  | b :: d => by
    obtain ⟨h1, h2⟩ := un_rng d
    simp only [un, List.length_cons]
    rw [Int.pow_succ]
    omega
/-- what a number of 32 bits that is read may be -/
theorem ul_rng (s : ByteArray) (at_ : Int) (h : (ulR s at_ 32).2.2 = 0) : 0 ≤ (ulR s at_ 32).1 ∧ (ulR s at_ 32).1 < 34359738368 ∧ 0 ≤ (ulR s at_ 32).2.1 ∧ (ulR s at_ 32).2.1 ≤ (s.size : Int) := by
  by_cases hp : (ptR s at_ 32).2 = 0
  · obtain ⟨a, k, m, rfl, hb, h1, h2, h3, h4, h5⟩ := ptR_in hp
    obtain rfl : m = 5 := by omega
    have hp2 : ptR s (a : Int) 32 = ((k : Int), 0) := Prod.ext h1 hp
    by_cases hc : k = a + 4 ∧ ¬ bt s k / 16 = 0
    · have e : ulR s (a : Int) 32 = (0, 0, 1200) := by
        unfold ulR
        rw [hp2, if_pos rfl, if_pos]
        exact ⟨by omega, hc.2⟩
      rw [e] at h
      exact absurd h (by decide)
    · have e : ulR s (a : Int) 32 = (ac s a (k + 1 - a) 0, (k : Int) + 1, 0) := by
        unfold ulR
        rw [hp2, if_pos rfl, if_neg]
        · rfl
        · rintro ⟨x1, x2⟩
          exact hc ⟨by omega, x2⟩
      rw [e, ac_of s a (k + 1 - a) (bts s a (k + 1 - a)) 0 (bts_len s _ _) (bl_bts s _ _ (by omega)) (by unfold wrap64; omega)]
      obtain ⟨u1, u2⟩ := un_rng (bts s a (k + 1 - a))
      rw [bts_len] at u2
      have u3 : (128 : Int) ^ (k + 1 - a) ≤ 128 ^ 5 := by
        have : k + 1 - a ≤ 5 := by omega
        exact_mod_cast Nat.pow_le_pow_right (show 0 < 128 by decide) this
      generalize un (bts s a (k + 1 - a)) 0 = z at *
      have hz : wrap64 z = z := by unfold wrap64; omega
      refine ⟨?_, ?_, ?_, ?_⟩
      · show 0 ≤ wrap64 z; rw [hz]; exact u1
      · show wrap64 z < 34359738368; rw [hz]; omega
      · show 0 ≤ (k : Int) + 1; omega
      · show (k : Int) + 1 ≤ (s.size : Int); omega
  · have e : ulR s at_ 32 = (0, 0, (ptR s at_ 32).2) := by unfold ulR; exact if_neg hp
    rw [e] at h
    exact absurd h hp
end Go.Proofs.Ytngciahmoenkiac

