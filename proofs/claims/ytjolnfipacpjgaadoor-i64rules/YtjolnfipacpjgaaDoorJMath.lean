/- Plain mathematics: what package i64n's operations make of numbers, as functions; and what the statements' rules need of them. -/
import Derived.Test.YtjolnfipacpjgaaDoorILaw
namespace Go.BM
open Go.RowKit
open Lib (popAux)
set_option linter.unusedVariables false

/-- the same bits as a number without sign -/
def uu (x : Int) : Int := IntKind.u64.wrap x
theorem uu_is (x : Int) : uu x = x % 18446744073709551616 := by unfold uu; rw [IntKind.wrap_u64]
def cmp64 (op x y : Int) : Bool :=
  if op = 81 then x == y else if op = 82 then x != y
  else if op = 83 then decide (x < y) else if op = 84 then decide (uu x < uu y)
  else if op = 85 then decide (y < x) else if op = 86 then decide (uu y < uu x)
  else if op = 87 then decide (x ≤ y) else if op = 88 then decide (uu x ≤ uu y)
  else if op = 89 then decide (y ≤ x) else decide (uu y ≤ uu x)
def un64 (op a : Int) : Int × Int :=
  if op = 80 then (flagI (a == 0), 0)
  else if op = 121 then (64 - (Lib.bitLen (uu a).toNat : Int), 0)
  else if op = 122 then (Lib.ctz 64 (uu a).toNat, 0)
  else if op = 123 then (popAux 64 (uu a).toNat, 0)
  else (0, 300)
def bin64 (op a b : Int) : Int × Int :=
  if 81 ≤ op ∧ op ≤ 90 then (flagI (cmp64 op a b), 0)
  else if op = 124 then (wrap64 (a + b), 0)
  else if op = 125 then (wrap64 (a - b), 0)
  else if op = 126 then (wrap64 (a * b), 0)
  else if op = 127 then if b = 0 then (0, 301) else if a = -9223372036854775808 ∧ b = -1 then (0, 302) else (wrap64 (a.tdiv b), 0)
  else if op = 128 then if b = 0 then (0, 301) else (wrap64 (uu a / uu b), 0)
  else if op = 129 then if b = 0 then (0, 301) else (a.tmod b, 0)
  else if op = 130 then if b = 0 then (0, 301) else (wrap64 (uu a % uu b), 0)
  else if op = 131 then (bits .and .i64 a b, 0)
  else if op = 132 then (bits .or .i64 a b, 0)
  else if op = 133 then (bits .xor .i64 a b, 0)
  else if op = 134 then (wrap64 (a * 2 ^ (b % 64).toNat), 0)
  else if op = 135 then (a / 2 ^ (b % 64).toNat, 0)
  else if op = 136 then (wrap64 (uu a / 2 ^ (b % 64).toNat), 0)
  else if op = 137 then (wrap64 (rotl 64 (uu a).toNat (b % 64).toNat : Nat), 0)
  else if op = 138 then (wrap64 (rotl 64 (uu a).toNat ((-b) % 64).toNat : Nat), 0)
  else (0, 300)

theorem wrap_mod (z : Int) : wrap64 z % 18446744073709551616 = z % 18446744073709551616 := by simp only [wrap64]; omega
theorem wrap_congr (y z : Int) (h : y % 18446744073709551616 = z % 18446744073709551616) : wrap64 y = wrap64 z := by simp only [wrap64]; omega
theorem wrap_id (x : Int) (h : -9223372036854775808 ≤ x ∧ x ≤ 9223372036854775807) : wrap64 x = x := by simp only [wrap64]; omega
theorem wrap_in (z : Int) : -9223372036854775808 ≤ wrap64 z ∧ wrap64 z ≤ 9223372036854775807 := by simp only [wrap64]; omega
theorem uu_wrap (z : Int) : uu (wrap64 z) = z % 18446744073709551616 := by rw [uu_is, wrap_mod]
theorem uu_in (x : Int) : 0 ≤ uu x ∧ uu x < 18446744073709551616 := by rw [uu_is]; omega
theorem wrap_uu (x : Int) (h : -9223372036854775808 ≤ x ∧ x ≤ 9223372036854775807) : wrap64 (uu x) = x := by
  rw [uu_is, wrap_congr _ x (by omega), wrap_id x h]
theorem uu_zero (x : Int) (h : -9223372036854775808 ≤ x ∧ x ≤ 9223372036854775807) : uu x = 0 ↔ x = 0 := by rw [uu_is]; omega
theorem mulmod64 (p z : Int) : p % 18446744073709551616 * z % 18446744073709551616 = p * z % 18446744073709551616 := by
  rw [Int.mul_emod, Int.emod_emod_of_dvd _ (Int.dvd_refl _), ← Int.mul_emod]
theorem wrap_mul (p z : Int) : wrap64 (wrap64 p * z) = wrap64 (p * z) := by
  apply wrap_congr; rw [← mulmod64, wrap_mod, mulmod64]
theorem wrap_mul' (p z : Int) : wrap64 (z * wrap64 p) = wrap64 (z * p) := by
  rw [Int.mul_comm, wrap_mul, Int.mul_comm]
theorem wrap_add (p z : Int) : wrap64 (wrap64 p + z) = wrap64 (p + z) := by
  apply wrap_congr; rw [Int.add_emod, wrap_mod, ← Int.add_emod]
theorem wrap_add' (p z : Int) : wrap64 (z + wrap64 p) = wrap64 (z + p) := by
  rw [Int.add_comm, wrap_add, Int.add_comm]
theorem wrap_sub (p z : Int) : wrap64 (wrap64 p - z) = wrap64 (p - z) := by
  apply wrap_congr; rw [Int.sub_emod, wrap_mod, ← Int.sub_emod]
theorem wrap_sub' (p z : Int) : wrap64 (z - wrap64 p) = wrap64 (z - p) := by
  apply wrap_congr; rw [Int.sub_emod, wrap_mod, ← Int.sub_emod]
theorem wrap_neg (p : Int) : wrap64 (-wrap64 p) = wrap64 (-p) := by
  rw [← Int.zero_sub, wrap_sub', Int.zero_sub]

/-! each operation by its number -/
theorem c_cmp (op a b : Int) (h : 81 ≤ op ∧ op ≤ 90) : bin64 op a b = (flagI (cmp64 op a b), 0) := by unfold bin64; rw [if_pos h]
theorem c_add (a b : Int) : bin64 124 a b = (wrap64 (a + b), 0) := rfl
theorem c_sub (a b : Int) : bin64 125 a b = (wrap64 (a - b), 0) := rfl
theorem c_mul (a b : Int) : bin64 126 a b = (wrap64 (a * b), 0) := rfl
theorem c_and (a b : Int) : bin64 131 a b = (bits .and .i64 a b, 0) := rfl
theorem c_or (a b : Int) : bin64 132 a b = (bits .or .i64 a b, 0) := rfl
theorem c_xor (a b : Int) : bin64 133 a b = (bits .xor .i64 a b, 0) := rfl
theorem c_shl (a b : Int) : bin64 134 a b = (wrap64 (a * 2 ^ (b % 64).toNat), 0) := rfl
theorem c_sar (a b : Int) : bin64 135 a b = (a / 2 ^ (b % 64).toNat, 0) := rfl
theorem c_shr (a b : Int) : bin64 136 a b = (wrap64 (uu a / 2 ^ (b % 64).toNat), 0) := rfl
theorem c_rotl (a b : Int) : bin64 137 a b = (wrap64 (rotl 64 (uu a).toNat (b % 64).toNat : Nat), 0) := rfl
theorem c_rotr (a b : Int) : bin64 138 a b = (wrap64 (rotl 64 (uu a).toNat ((-b) % 64).toNat : Nat), 0) := rfl
theorem c_div0 (a b : Int) (h : b = 0) : bin64 127 a b = (0, 301) ∧ bin64 128 a b = (0, 301) ∧ bin64 129 a b = (0, 301) ∧ bin64 130 a b = (0, 301) := by
  refine ⟨?_, ?_, ?_, ?_⟩
  · show (if b = 0 then ((0 : Int), (301 : Int)) else _) = _; rw [if_pos h]
  · show (if b = 0 then ((0 : Int), (301 : Int)) else _) = _; rw [if_pos h]
  · show (if b = 0 then ((0 : Int), (301 : Int)) else _) = _; rw [if_pos h]
  · show (if b = 0 then ((0 : Int), (301 : Int)) else _) = _; rw [if_pos h]
theorem c_over (a b : Int) (h : b ≠ 0) (h' : a = -9223372036854775808 ∧ b = -1) : bin64 127 a b = (0, 302) := by
  show (if b = 0 then ((0 : Int), (301 : Int)) else _) = _; rw [if_neg h, if_pos h']
theorem c_divs (a b : Int) (h : b ≠ 0) (h' : ¬ (a = -9223372036854775808 ∧ b = -1)) : bin64 127 a b = (wrap64 (a.tdiv b), 0) := by
  show (if b = 0 then ((0 : Int), (301 : Int)) else _) = _; rw [if_neg h, if_neg h']
theorem c_divu (a b : Int) (h : b ≠ 0) : bin64 128 a b = (wrap64 (uu a / uu b), 0) := by
  show (if b = 0 then ((0 : Int), (301 : Int)) else _) = _; rw [if_neg h]
theorem c_rems (a b : Int) (h : b ≠ 0) : bin64 129 a b = (a.tmod b, 0) := by
  show (if b = 0 then ((0 : Int), (301 : Int)) else _) = _; rw [if_neg h]
theorem c_remu (a b : Int) (h : b ≠ 0) : bin64 130 a b = (wrap64 (uu a % uu b), 0) := by
  show (if b = 0 then ((0 : Int), (301 : Int)) else _) = _; rw [if_neg h]
theorem c_bad (op a b : Int) (h : op < 81 ∨ (90 < op ∧ op < 124) ∨ 138 < op) : bin64 op a b = (0, 300) := by
  unfold bin64
  repeat rw [if_neg (by omega)]
theorem v_bad (op a : Int) (h1 : ¬ op = 80) (h2 : ¬ op = 121) (h3 : ¬ op = 122) (h4 : ¬ op = 123) : un64 op a = (0, 300) := by
  unfold un64
  rw [if_neg h1, if_neg h2, if_neg h3, if_neg h4]
theorem v_eqz (a : Int) : un64 80 a = (flagI (a == 0), 0) := rfl
theorem v_clz (a : Int) : un64 121 a = (64 - (Lib.bitLen (uu a).toNat : Int), 0) := rfl
theorem v_ctz (a : Int) : un64 122 a = ((Lib.ctz 64 (uu a).toNat : Int), 0) := rfl
theorem v_pop (a : Int) : un64 123 a = ((popAux 64 (uu a).toNat : Int), 0) := rfl

/-! the rules -/
theorem ring64 (x y z : Int) : wrap64 (wrap64 (x + y) * z) = wrap64 (wrap64 (x * z) + wrap64 (y * z)) := by
  rw [wrap_mul, wrap_add, wrap_add', Int.add_mul]
theorem nat64 (x : Int) : ∃ X : Nat, X < 2 ^ 64 ∧ uu x = (X : Int) ∧ (uu x).toNat = X ∧ (x % 18446744073709551616).toNat = X := by
  have h := uu_in x
  refine ⟨(uu x).toNat, by omega, by omega, rfl, by rw [uu_is]⟩
theorem of_wrap (X : Nat) (h : X < 2 ^ 64) : (wrap64 (X : Int) % 18446744073709551616).toNat = X ∧ (uu (wrap64 (X : Int))).toNat = X := by
  rw [uu_wrap, wrap_mod]; omega
theorem logic64 (x y : Int) (X Y : Nat) (hX : X < 2 ^ 64) (hY : Y < 2 ^ 64) (eX : (x % 18446744073709551616).toNat = X) (eY : (y % 18446744073709551616).toNat = Y) (hx : -9223372036854775808 ≤ x ∧ x ≤ 9223372036854775807) :
    bits .xor .i64 (bits .xor .i64 x y) y = x ∧ wrap64 (bits .and .i64 x y + bits .or .i64 x y) = wrap64 (x + y) ∧ wrap64 (bits .or .i64 x y - bits .and .i64 x y) = bits .xor .i64 x y
    ∧ bits .andNot .i64 (bits .and .i64 x y) x = 0 ∧ bits .andNot .i64 x (bits .or .i64 x y) = 0 := by
  have lr : X ^^^ Y < 2 ^ 64 := Nat.xor_lt_two_pow hX hY
  have lp : X &&& Y < 2 ^ 64 := Nat.and_lt_two_pow X hY
  have lq : X ||| Y < 2 ^ 64 := Nat.or_lt_two_pow hX hY
  obtain ⟨hs, hd⟩ := and_or_add X Y
  have ea := and_i64 x y
  have eo := or_i64 x y
  have ex := xor_i64 x y
  rw [eX, eY] at ea eo ex
  refine ⟨?_, ?_, ?_, ?_, ?_⟩
  · rw [ex, xor_i64, eY, (of_wrap _ lr).1, xor_back]
    refine (wrap_congr _ x ?_).trans (wrap_id x hx)
    clear ea eo ex hs hd lp lq lr; omega
  · rw [ea, eo, wrap_add, wrap_add']
    apply wrap_congr
    clear ea eo ex hd lr
    generalize X &&& Y = p at *
    generalize X ||| Y = q at *
    omega
  · rw [ea, eo, ex, wrap_sub, wrap_sub']
    apply wrap_congr
    clear ea eo ex hs
    generalize X &&& Y = p at *
    generalize X ||| Y = q at *
    generalize X ^^^ Y = r at *
    omega
  · rw [ea]; exact andNot_sub _ _ (by rw [(of_wrap _ lp).1, eX]; exact and_sub X Y)
  · rw [eo]; exact andNot_sub _ _ (by rw [(of_wrap _ lq).1, eX]; exact sub_or X Y)
/-! counts -/
theorem bitLen_up64 (u : Nat) (hz : u ≠ 0) (hl : u < 2 ^ 64) : Lib.bitLen (u * 2 ^ (64 - Lib.bitLen u) % 2 ^ 64) = 64 := by
  have h1 := lt_bitLen u hl
  have h2 := Lib.bitLen_le u 64 (by decide) hl
  have h0 : Lib.bitLen u ≠ 0 := by
    intro h0; rw [h0] at h1; omega
  have h3 : 2 ^ (Lib.bitLen u - 1) ≤ u := by
    rcases Nat.lt_or_ge u (2 ^ (Lib.bitLen u - 1)) with h | h
    · have := Lib.bitLen_le u (Lib.bitLen u - 1) (by omega) h
      omega
    · exact h
  generalize Lib.bitLen u = L at *
  have e1 : u * 2 ^ (64 - L) < 2 ^ 64 := by
    have : 2 ^ 64 = 2 ^ L * 2 ^ (64 - L) := by rw [← Nat.pow_add]; congr 1; omega
    rw [this]
    exact Nat.mul_lt_mul_of_pos_right h1 (Nat.two_pow_pos _)
  have e2 : 2 ^ 63 ≤ u * 2 ^ (64 - L) := by
    have : 2 ^ 63 = 2 ^ (L - 1) * 2 ^ (64 - L) := by rw [← Nat.pow_add]; congr 1; omega
    rw [this]
    exact Nat.mul_le_mul_right _ h3
  rw [Nat.mod_eq_of_lt e1]
  have a := bitLenAux_ge 64 _ 63 e2 (by decide)
  have b := Lib.bitLen_le _ 64 (by decide) e1
  have c : 63 < Lib.bitLen (u * 2 ^ (64 - L)) := a
  omega
theorem ctz_down64 (u : Nat) (hz : u ≠ 0) (hl : u < 2 ^ 64) : Lib.ctz 64 (u / 2 ^ Lib.ctz 64 u) = 0 :=
  ctz_odd 64 _ (low_bit 64 u hz hl) (Nat.lt_of_le_of_lt (Nat.div_le_self _ _) hl)
theorem pop_pos64 (u : Nat) (hz : u ≠ 0) (hl : u < 2 ^ 64) : 1 ≤ popAux 64 u := by
  obtain ⟨m, h1, h2⟩ := low_one 64 u hz hl
  exact pop_at 64 u _ h2 (low_bit 64 u hz hl)
theorem bitLen_pos64 (u : Nat) (hz : u ≠ 0) (hl : u < 2 ^ 64) : 1 ≤ Lib.bitLen u := by
  have h1 := lt_bitLen u hl
  rcases Nat.eq_zero_or_pos (Lib.bitLen u) with h | h
  · rw [h] at h1; omega
  · exact h
theorem up_nat64 (x : Int) (X L : Nat) (hX : X < 2 ^ 64) (e : uu x = (X : Int)) (h1 : 1 ≤ L) (h2 : L ≤ 64) : (uu (wrap64 (x * 2 ^ ((64 - (L : Int)) % 64).toNat))).toNat = X * 2 ^ (64 - L) % 2 ^ 64 := by
  rw [show ((64 - (L : Int)) % 64).toNat = 64 - L from by omega, uu_wrap]
  rw [uu_is] at e
  rw [← mulmod64, e, show ((X : Int) * 2 ^ (64 - L)) = ((X * 2 ^ (64 - L) : Nat) : Int) from by simp]
  generalize X * 2 ^ (64 - L) = z
  omega
theorem down_nat64 (x : Int) (X k : Nat) (hX : X < 2 ^ 64) (e : uu x = (X : Int)) (hk : k < 64) : (uu (wrap64 (uu x / 2 ^ ((k : Int) % 64).toNat))).toNat = X / 2 ^ k := by
  rw [show ((k : Int) % 64).toNat = k from by omega, uu_wrap, e]
  rw [show ((X : Int) / 2 ^ k) = ((X / 2 ^ k : Nat) : Int) from by simp]
  have := Nat.div_le_self X (2 ^ k)
  generalize X / 2 ^ k = z at *
  omega
/-! rolls -/
theorem roll_back64 (x y : Int) (hx : -9223372036854775808 ≤ x ∧ x ≤ 9223372036854775807) : bin64 138 (wrap64 (rotl 64 (uu x).toNat (y % 64).toNat : Nat)) y = (x, 0) := by
  obtain ⟨X, hl, e, en, _⟩ := nat64 x
  have hk : (y % 64).toNat < 64 := by omega
  have hj : ((-y) % 64).toNat < 64 := by omega
  have hjk : (((-y) % 64).toNat + (y % 64).toNat) % 64 = 0 := by omega
  have hr := rotl_lt 64 X _ (Nat.le_of_lt hk) hl
  rw [c_rotr, en, (of_wrap _ hr).2, rot_back 64 _ _ _ hk hj hjk hl, ← e, wrap_uu x hx]
/-! shifts -/
theorem pow_63 (k : Nat) (hk : k < 64) : (0 : Int) < 2 ^ k ∧ (2 : Int) ^ k ≤ 9223372036854775808 := by
  have h : 2 ^ k ≤ 2 ^ 63 := Nat.pow_le_pow_right (by decide) (by omega)
  have h0 : 0 < 2 ^ k := Nat.two_pow_pos k
  have e : (2 : Int) ^ k = ((2 ^ k : Nat) : Int) := by simp
  rw [e]; generalize 2 ^ k = z at *; omega
theorem uu_pow (k : Nat) (hk : k < 64) : uu (wrap64 (2 ^ k)) = 2 ^ k := by
  obtain ⟨h1, h2⟩ := pow_63 k hk
  rw [uu_wrap]; generalize (2 : Int) ^ k = z at *; omega
theorem pow_ne (k : Nat) (hk : k < 64) : wrap64 ((2 : Int) ^ k) ≠ 0 := by
  obtain ⟨h1, h2⟩ := pow_63 k hk
  intro h
  have := uu_pow k hk
  rw [h] at this
  have e : uu 0 = 0 := by decide +kernel
  rw [e] at this; omega
/-! signs -/
theorem neg_yes64 (x : Int) (h : x < 0) : bin64 83 x 0 = (1, 0) := by
  rw [c_cmp 83 x 0 (by decide), show cmp64 83 x 0 = true from by show decide (x < 0) = true; simpa using h]; rfl
theorem neg_no64 (x : Int) (h : 0 ≤ x) : bin64 83 x 0 = (0, 0) := by
  rw [c_cmp 83 x 0 (by decide), show cmp64 83 x 0 = false from by show decide (x < 0) = false; simpa using h]; rfl
theorem uu_pos (x : Int) (h : 0 ≤ x) (hx : -9223372036854775808 ≤ x ∧ x ≤ 9223372036854775807) : uu x = x := by rw [uu_is]; omega
theorem uu_neg (x : Int) (h : x < 0) (hx : -9223372036854775808 ≤ x ∧ x ≤ 9223372036854775807) : uu (wrap64 (0 - x)) = -x := by rw [uu_wrap]; omega
theorem neg_ne (x : Int) (h : x < 0) (hx : -9223372036854775808 ≤ x ∧ x ≤ 9223372036854775807) : wrap64 (0 - x) ≠ 0 := by simp only [wrap64]; omega
/-! order -/
theorem cmp_at64 (x y : Int) : cmp64 81 x y = (x == y) ∧ cmp64 82 x y = (x != y) ∧ cmp64 83 x y = decide (x < y) ∧ cmp64 84 x y = decide (uu x < uu y) ∧ cmp64 85 x y = decide (y < x) ∧ cmp64 86 x y = decide (uu y < uu x)
    ∧ cmp64 87 x y = decide (x ≤ y) ∧ cmp64 88 x y = decide (uu x ≤ uu y) ∧ cmp64 89 x y = decide (y ≤ x) ∧ cmp64 90 x y = decide (uu y ≤ uu x) := ⟨rfl, rfl, rfl, rfl, rfl, rfl, rfl, rfl, rfl, rfl⟩
theorem uu_inj (x y : Int) (hx : -9223372036854775808 ≤ x ∧ x ≤ 9223372036854775807) (hy : -9223372036854775808 ≤ y ∧ y ≤ 9223372036854775807) (h : uu x = uu y) : x = y := by rw [uu_is, uu_is] at h; omega
theorem tmod_one (a : Int) : a.tmod (-1) = 0 := by rw [Int.tmod_neg, Int.tmod_one]
/-! divisions -/
theorem div_back_u64 (x y : Int) (hx : -9223372036854775808 ≤ x ∧ x ≤ 9223372036854775807) : wrap64 (wrap64 (wrap64 (uu x / uu y) * y) + wrap64 (uu x % uu y)) = x := by
  rw [wrap_mul, wrap_add, wrap_add']
  have e : (uu x / uu y * y + uu x % uu y) % 18446744073709551616 = x % 18446744073709551616 := by
    have e1 : uu x / uu y * y % 18446744073709551616 = uu x / uu y * uu y % 18446744073709551616 := by
      rw [uu_is y, Int.mul_comm _ y, Int.mul_comm _ (y % 18446744073709551616), mulmod64]
    rw [Int.add_emod, e1, ← Int.add_emod, Int.mul_comm, Int.mul_ediv_add_emod, uu_is]
    omega
  rw [wrap_congr _ x e, wrap_id x hx]
theorem div_back_s64 (x y : Int) (hx : -9223372036854775808 ≤ x ∧ x ≤ 9223372036854775807) : wrap64 (wrap64 (wrap64 (x.tdiv y) * y) + x.tmod y) = x := by
  rw [wrap_mul, wrap_add, Int.mul_comm, Int.mul_tdiv_add_tmod, wrap_id x hx]
end Go.BM
