/- Reading undoes writing: parts that stand in a text, what they make, which are refused. No walk. -/
import Derived.Test.YthbagkaodcplmaaLF
set_option linter.unusedVariables false
set_option linter.unusedSimpArgs false
set_option maxRecDepth 100000
set_option maxHeartbeats 4000000
namespace Go.Proofs.Ythbagkaodcplmaa
open Go.RowKit
/-- numbers that are a text's bytes from a place on -/
def bl (s : ByteArray) (a : Nat) : List Int → Prop
  | [] => a ≤ s.size
  | b :: d => a < s.size ∧ bt s a = b ∧ bl s (a + 1) d
/-- parts: 128 in each but the last -/
def Pts : List Int → Prop
  | [] => False
  | b :: d => (d = [] ∧ 0 ≤ b ∧ b < 128) ∨ (128 ≤ b ∧ b < 256 ∧ Pts d)
/-- what parts make, behind a number -/
def un : List Int → Int → Int
  | [], x => x
  | b :: d, x => un d x * 128 + b % 128
def la : List Int → Int
  | [] => 0
  | b :: d => if d = [] then b else la d
theorem bl_len {s : ByteArray} : ∀ {d : List Int} {a : Nat}, bl s a d → a + d.length ≤ s.size
  | [], a, h => by simpa [bl] using h
  | b :: d, a, h => by
    have := bl_len h.2.2
    simp only [List.length_cons]
    omega
theorem bl_app {s : ByteArray} : ∀ {d e : List Int} {a : Nat}, bl s a (d ++ e) ↔ bl s a d ∧ bl s (a + d.length) e
  | [], e, a => by
    simp only [List.nil_append, List.length_nil, Nat.add_zero, bl]
    constructor
    · intro h
      refine ⟨?_, h⟩
      have := bl_len h
      omega
    · exact fun h => h.2
  | b :: d, e, a => by
    simp only [List.cons_append, bl, List.length_cons]
    rw [bl_app (d := d) (e := e) (a := a + 1), show a + 1 + d.length = a + (d.length + 1) by omega]
    constructor
    · rintro ⟨h1, h2, h3, h4⟩
      exact ⟨⟨h1, h2, h3⟩, h4⟩
    · rintro ⟨⟨h1, h2, h3⟩, h4⟩
      exact ⟨h1, h2, h3, h4⟩
theorem pts_ne {d : List Int} (h : Pts d) : d ≠ [] := by
  intro e
  subst e
  exact h
theorem pts_pos {d : List Int} (h : Pts d) : 0 < d.length := List.length_pos_iff.2 (pts_ne h)
theorem pt_of (s : ByteArray) (a : Nat) : ∀ (r i : Nat) (d : List Int), bl s (a + i) d → Pts d → pt s a r i = if d.length ≤ r then (((a + i + d.length - 1 : Nat) : Int), 0) else (0, 1200)
  | 0, i, d, h, hp => by
    have := pts_pos hp
    rw [if_neg (by omega)]
    rfl
  | r + 1, i, [], h, hp => absurd rfl (pts_ne hp)
  | r + 1, i, b :: d, h, hp => by
    unfold pt
    obtain ⟨h1, h2, h3⟩ := h
    rw [if_neg (by omega), h2]
    rcases hp with ⟨rfl, h4, h5⟩ | ⟨h4, h5, h6⟩
    · rw [if_pos h5, if_pos (by simp)]
      simp
    · rw [if_neg (by omega), pt_of s a r (i + 1) d h3 h6]
      have := pts_pos h6
      simp only [List.length_cons]
      by_cases hd : d.length ≤ r
      · rw [if_pos hd, if_pos (by omega)]
        congr 2
        omega
      · rw [if_neg hd, if_neg (by omega)]
/-- every part goes on: too many, or cut -/
def Mor : List Int → Prop
  | [] => True
  | b :: d => 128 ≤ b ∧ Mor d
theorem pt_mor (s : ByteArray) (a : Nat) : ∀ (r i : Nat) (d : List Int), bl s (a + i) d → Mor d → r ≤ d.length → pt s a r i = (0, 1200)
  | 0, i, d, h, hp, hr => rfl
  | r + 1, i, [], h, hp, hr => by simp at hr
  | r + 1, i, b :: d, h, hp, hr => by
    unfold pt
    obtain ⟨h1, h2, h3⟩ := h
    rw [if_neg (by omega), h2, if_neg (by have := hp.1; omega)]
    exact pt_mor s a r (i + 1) d h3 hp.2 (by simpa using hr)
theorem pt_cut (s : ByteArray) (a : Nat) : ∀ (r i : Nat) (d : List Int), bl s (a + i) d → Mor d → a + i + d.length = s.size → d.length < r → pt s a r i = (0, 1201)
  | 0, i, d, h, hp, he, hr => by omega
  | r + 1, i, [], h, hp, he, hr => by
    unfold pt
    simp only [List.length_nil] at he
    rw [if_pos (by omega)]
  | r + 1, i, b :: d, h, hp, he, hr => by
    unfold pt
    obtain ⟨h1, h2, h3⟩ := h
    simp only [List.length_cons] at he hr
    rw [if_neg (by omega), h2, if_neg (by have := hp.1; omega)]
    exact pt_cut s a r (i + 1) d h3 hp.2 (by omega) (by omega)
theorem un_app : ∀ (d e : List Int) (x : Int), un (d ++ e) x = un d (un e x)
  | [], e, x => rfl
  | b :: d, e, x => by simp only [List.cons_append, un]; rw [un_app d e x]
theorem un_lin : ∀ (d : List Int) (x : Int), ∃ P : Int, ∀ y : Int, un d y = un d x + (y - x) * P
  | [], x => ⟨1, fun y => by simp only [un]; omega⟩
  | b :: d, x => by
    obtain ⟨P, h⟩ := un_lin d x
    refine ⟨P * 128, fun y => ?_⟩
    simp only [un]
    rw [h y, Int.add_mul, ← Int.mul_assoc]
    omega
theorem wrap_of {x y : Int} (k : Int) (h : x = y + 18446744073709551616 * k) : wrap64 x = wrap64 y := by
  subst h
  unfold wrap64
  omega
theorem un_wrap (d : List Int) (x : Int) : wrap64 (un d (wrap64 x)) = wrap64 (un d x) := by
  obtain ⟨P, h⟩ := un_lin d x
  have e : ∃ q : Int, wrap64 x - x = 18446744073709551616 * q := ⟨-((x + 9223372036854775808) / 18446744073709551616), by unfold wrap64; omega⟩
  obtain ⟨q, hq⟩ := e
  refine wrap_of (q * P) ?_
  rw [h (wrap64 x), hq, Int.mul_assoc]
theorem ac_of (s : ByteArray) (a : Nat) : ∀ (j : Nat) (d : List Int) (x : Int), d.length = j → bl s a d → wrap64 x = x → ac s a j x = wrap64 (un d x)
  | 0, d, x, hj, h, hx => by
    obtain rfl : d = [] := List.eq_nil_of_length_eq_zero hj
    exact hx.symm
  | j + 1, d, x, hj, h, hx => by
    obtain ⟨e, b, rfl⟩ : ∃ e b, d = e ++ [b] := ⟨d.dropLast, d.getLast (by intro h; rw [h] at hj; simp at hj), (List.dropLast_concat_getLast _).symm⟩
    have hje : e.length = j := by simpa using hj
    obtain ⟨h1, h2⟩ := bl_app.1 h
    have h3 : bt s (a + j) = b := by rw [← hje]; exact h2.2.1
    unfold ac
    rw [ac_of s a j e _ hje h1 (by unfold wrap64; omega), un_wrap, un_app, h3]
    rfl
theorem la_app : ∀ (d : List Int) (b : Int), la (d ++ [b]) = b
  | [], b => rfl
  | c :: d, b => by
    show (if d ++ [b] = [] then c else la (d ++ [b])) = b
    rw [if_neg (by simp), la_app d b]
theorem bl_la {s : ByteArray} : ∀ {d : List Int} {a : Nat}, bl s a d → d ≠ [] → bt s (a + d.length - 1) = la d
  | [], a, h, hn => absurd rfl hn
  | b :: d, a, h, hn => by
    by_cases hd : d = []
    · subst hd
      show bt s (a + 1 - 1) = b
      rw [Nat.add_sub_cancel]
      exact h.2.1
    · have := bl_la h.2.2 hd
      have hp := List.length_pos_iff.2 hd
      show bt s (a + (d.length + 1) - 1) = if d = [] then b else la d
      rw [if_neg hd, ← this]
      congr 1
      omega
/-- a number that stands there is read -/
theorem ul_of (s : ByteArray) (a : Nat) (d : List Int) (bits_ : Int) (m : Nat) (hb : (bits_ = 32 ∧ m = 5) ∨ (bits_ = 64 ∧ m = 10)) (h : bl s a d) (hp : Pts d) (hm : d.length ≤ m) (hl : d.length = m → la d / 2 ^ (bits_ % 7).toNat = 0) : ulR s (a : Int) bits_ = (wrap64 (un d 0), ((a + d.length : Nat) : Int), 0) := by
  have hlen := bl_len h
  have hpos := pts_pos hp
  have hpt : ptR s (a : Int) bits_ = (((a + d.length - 1 : Nat) : Int), 0) := by
    unfold ptR
    rw [if_pos ⟨by omega, by omega, by omega⟩, Int.toNat_natCast, pt_of s a _ 0 d h hp, if_pos (by omega)]
    rfl
  unfold ulR
  rw [hpt, if_pos rfl, if_neg, Int.toNat_natCast, Int.toNat_natCast, ac_of s a _ d 0 (by omega) h (by unfold wrap64; omega)]
  · refine Prod.ext rfl (Prod.ext ?_ rfl)
    show ((a + d.length - 1 : Nat) : Int) + 1 = ((a + d.length : Nat) : Int)
    omega
  · rintro ⟨x1, x2⟩
    refine x2 ?_
    show bt s ((a + d.length - 1 : Nat) : Int).toNat / _ = 0
    rw [Int.toNat_natCast, bl_la h (pts_ne hp)]
    exact hl (by omega)
def sgn (d : List Int) : Int := if la d % 128 < 64 then 0 else -1
theorem ul_mor (s : ByteArray) (a : Nat) (d : List Int) (bits_ : Int) (m : Nat) (hb : (bits_ = 32 ∧ m = 5) ∨ (bits_ = 64 ∧ m = 10)) (h : bl s a d) (hp : Mor d) (hm : m ≤ d.length) : ulR s (a : Int) bits_ = (0, 0, 1200) := by
  have hlen := bl_len h
  have hpt : ptR s (a : Int) bits_ = (0, 1200) := by
    unfold ptR
    rw [if_pos ⟨by omega, by omega, by omega⟩, Int.toNat_natCast, pt_mor s a _ 0 d h hp (by omega)]
  unfold ulR
  rw [hpt]
  rfl
theorem ul_cut (s : ByteArray) (a : Nat) (d : List Int) (bits_ : Int) (m : Nat) (hb : (bits_ = 32 ∧ m = 5) ∨ (bits_ = 64 ∧ m = 10)) (h : bl s a d) (hp : Mor d) (hs : a + d.length = s.size) (hm : d.length < m) : ulR s (a : Int) bits_ = (0, 0, 1201) := by
  have hpt : ptR s (a : Int) bits_ = (0, 1201) := by
    unfold ptR
    rw [if_pos ⟨by omega, by omega, by omega⟩, Int.toNat_natCast, pt_cut s a _ 0 d h hp (by omega) (by omega)]
  unfold ulR
  rw [hpt]
  rfl
/-- bits of the last part that do not belong -/
theorem ul_high (s : ByteArray) (a : Nat) (d : List Int) (bits_ : Int) (m : Nat) (hb : (bits_ = 32 ∧ m = 5) ∨ (bits_ = 64 ∧ m = 10)) (h : bl s a d) (hp : Pts d) (hm : d.length = m) (hl : ¬ la d / 2 ^ (bits_ % 7).toNat = 0) : ulR s (a : Int) bits_ = (0, 0, 1200) := by
  have hlen := bl_len h
  have hpos := pts_pos hp
  have hpt : ptR s (a : Int) bits_ = (((a + d.length - 1 : Nat) : Int), 0) := by
    unfold ptR
    rw [if_pos ⟨by omega, by omega, by omega⟩, Int.toNat_natCast, pt_of s a _ 0 d h hp, if_pos (by omega)]
    rfl
  unfold ulR
  rw [hpt, if_pos rfl, if_pos]
  refine ⟨by omega, ?_⟩
  rw [Int.toNat_natCast, bl_la h (pts_ne hp)]
  exact hl
theorem ul_out (s : ByteArray) (at_ bits_ : Int) (h : ¬ ((bits_ = 32 ∨ bits_ = 64) ∧ 0 ≤ at_ ∧ at_ ≤ (s.size : Int))) : ulR s at_ bits_ = (0, 0, 1200) := by
  have hpt : ptR s at_ bits_ = (0, 1200) := by
    unfold ptR
    rw [if_neg h]
  unfold ulR
  rw [hpt]
  rfl
end Go.Proofs.Ythbagkaodcplmaa
