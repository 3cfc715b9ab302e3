/- Contracts of the document's floats (pelorusref4), over this seat's translation: sums, products, quotients, roots, whole numbers of finite floats are the model's. -/
import Derived.Test.YtobhihggdoccoaaDAddOk
import Derived.Test.YtobhihggdoccoaaDProd
import Derived.Test.YtobhihggdoccoaaDQuo
import Derived.Test.YtobhihggdoccoaaDRootW
import Derived.Test.YtobhihggdoccoaaDWhole2
import Derived.Test.YtobhihggdoccoaaDSum
import Derived.Test.YtobhihggdoccoaaFFar2
import Derived.WalkLawsBesides
import Derived.RegionCalls
import Derived.Deep.RegionWith
namespace Go.Proofs.Ytobhihggdoccoaa.D
open Go.RowKit
open Go.FM (W64 two bl lost isN qn)
set_option linter.unusedVariables false

theorem some_nat {o : Option Nat} {a z : Nat} (h : o = some a) (hz : o = some z) : a = z := Option.some.inj (h.symm.trans hz)
theorem add_big_no (S T : Bool) (m n z : Nat) (i j : Int) (hm : m ≠ 0) (hn : n ≠ 0) (hml : m < 9007199254740992) (hnl : n < 9007199254740992) (hi : -3000 ≤ i ∧ i ≤ 3000) (hj : -3000 ≤ j ∧ j ≤ 3000) (gi : i = -1074 ∨ 4503599627370496 ≤ m) (lj : -1074 ≤ j) (hij : j ≤ i) (hz : (Ieee.Datum.sum (.number S m i) (.number T n j)).map ff.write = some z) (w : World) :
    Calls Try.prog 78 #[fm, fv S false false (m : Nat) i, fv T false false (n : Nat) j] w fun e w' => e = .returned (.int .u64 (z : Nat)) ∧ Later w w' := by
  have hfb : ff.fractionBits ≤ 52 := by decide
  have p0 : 2 ^ ff.fractionBits = 4503599627370496 := by decide +kernel
  rcases Nat.lt_or_ge 70 (i - j).toNat with hk | hk
  · have hM : 2 ^ ff.fractionBits ≤ m := by rw [p0]; omega
    have hb := big_lt m 70 hml (by decide)
    have h1 : 1 < m * 2 ^ 70 := by omega
    by_cases hST : S = T
    · subst hST
      rw [← some_nat (FM.glue_far_same ff S m n i j (by omega) hfb hM hn (by omega)) hz]
      exact ok_no_far_same S m n i j hm hml hnl hi hj hn hij hk w
    · obtain rfl : T = !S := by cases S <;> cases T <;> first | rfl | exact absurd rfl hST
      rw [← some_nat (FM.glue_far_plain ff S m n i j (by omega) hfb hM hn (by omega)) hz]
      exact ok_no_far_plain S m n i j hm hml hnl hi hj hn hij hk h1 w
  · by_cases hST : S = T
    · subst hST
      rw [← some_nat (FM.glue_same ff S m n i j (by omega) hm) hz]
      exact ok_no_near_same S m n i j hm hml hnl hi hj hn hij hk w
    · obtain rfl : T = !S := by cases S <;> cases T <;> first | rfl | exact absurd rfl hST
      rcases Nat.lt_trichotomy (m * 2 ^ (i - j).toNat) n with h | h | h
      · rw [← some_nat (FM.glue_under ff S m n i j (by omega) h) hz]
        exact ok_no_near_under S m n i j hm hml hnl hi hj hn hij hk h w
      · rw [← some_nat (FM.glue_zero ff S m n i j (by omega) h) hz]
        exact ok_no_near_zero S m n i j hm hml hnl hi hj hn hij hk h w
      · rw [← some_nat (FM.glue_plain ff S m n i j (by omega) h) hz]
        exact ok_no_near_plain S m n i j hm hml hnl hi hj hn hij hk h w
theorem add_zero_no (S T : Bool) (m z : Nat) (i j : Int) (hm : m ≠ 0) (hml : m < 9007199254740992) (hi : -3000 ≤ i ∧ i ≤ 3000) (hj : -3000 ≤ j ∧ j ≤ 3000) (hz : (Ieee.Datum.sum (.number S m i) (.number T 0 j)).map ff.write = some z) (w : World) :
    Calls Try.prog 78 #[fm, fv S false false (m : Nat) i, fv T false false 0 j] w fun e w' => e = .returned (.int .u64 (z : Nat)) ∧ Later w w' := by
  rw [← some_nat (FM.glue_bz ff S T m i j hm) hz]
  by_cases hST : S = T
  · subst hST
    exact ok_no_bz_same S m 0 i j hm hml (by decide) hi hj w
  · obtain rfl : T = !S := by cases S <;> cases T <;> first | rfl | exact absurd rfl hST
    exact ok_no_bz_plain S m 0 i j hm hml (by decide) hi hj w
theorem add_big_yes (S T : Bool) (m n z : Nat) (i j : Int) (hm : m ≠ 0) (hn : n ≠ 0) (hml : m < 9007199254740992) (hnl : n < 9007199254740992) (hi : -3000 ≤ i ∧ i ≤ 3000) (hj : -3000 ≤ j ∧ j ≤ 3000) (gi : i = -1074 ∨ 4503599627370496 ≤ m) (lj : -1074 ≤ j) (hij : j < i) (hz : (Ieee.Datum.sum (.number S m i) (.number T n j)).map ff.write = some z) (w : World) :
    Calls Try.prog 78 #[fm, fv T false false (n : Nat) j, fv S false false (m : Nat) i] w fun e w' => e = .returned (.int .u64 (z : Nat)) ∧ Later w w' := by
  have hfb : ff.fractionBits ≤ 52 := by decide
  have p0 : 2 ^ ff.fractionBits = 4503599627370496 := by decide +kernel
  rcases Nat.lt_or_ge 70 (i - j).toNat with hk | hk
  · have hM : 2 ^ ff.fractionBits ≤ m := by rw [p0]; omega
    have hb := big_lt m 70 hml (by decide)
    have h1 : 1 < m * 2 ^ 70 := by omega
    by_cases hST : S = T
    · subst hST
      rw [← some_nat (FM.glue_far_same ff S m n i j (by omega) hfb hM hn (by omega)) hz]
      exact ok_yes_far_same S m n i j hm hml hnl hi hj hn hij hk w
    · obtain rfl : T = !S := by cases S <;> cases T <;> first | rfl | exact absurd rfl hST
      rw [← some_nat (FM.glue_far_plain ff S m n i j (by omega) hfb hM hn (by omega)) hz]
      exact ok_yes_far_plain S m n i j hm hml hnl hi hj hn hij hk h1 w
  · by_cases hST : S = T
    · subst hST
      rw [← some_nat (FM.glue_same ff S m n i j (by omega) hm) hz]
      exact ok_yes_near_same S m n i j hm hml hnl hi hj hn hij hk w
    · obtain rfl : T = !S := by cases S <;> cases T <;> first | rfl | exact absurd rfl hST
      rcases Nat.lt_trichotomy (m * 2 ^ (i - j).toNat) n with h | h | h
      · rw [← some_nat (FM.glue_under ff S m n i j (by omega) h) hz]
        exact ok_yes_near_under S m n i j hm hml hnl hi hj hn hij hk h w
      · rw [← some_nat (FM.glue_zero ff S m n i j (by omega) h) hz]
        exact ok_yes_near_zero S m n i j hm hml hnl hi hj hn hij hk h w
      · rw [← some_nat (FM.glue_plain ff S m n i j (by omega) h) hz]
        exact ok_yes_near_plain S m n i j hm hml hnl hi hj hn hij hk h w
theorem add_zero_yes (S T : Bool) (m z : Nat) (i j : Int) (hm : m ≠ 0) (hml : m < 9007199254740992) (hi : -3000 ≤ i ∧ i ≤ 3000) (hj : -3000 ≤ j ∧ j ≤ 3000) (hz : (Ieee.Datum.sum (.number S m i) (.number T 0 j)).map ff.write = some z) (w : World) :
    Calls Try.prog 78 #[fm, fv T false false 0 j, fv S false false (m : Nat) i] w fun e w' => e = .returned (.int .u64 (z : Nat)) ∧ Later w w' := by
  rw [← some_nat (FM.glue_bz ff S T m i j hm) hz]
  by_cases hST : S = T
  · subst hST
    exact ok_yes_bz_same S m 0 i j hm hml (by decide) hi hj w
  · obtain rfl : T = !S := by cases S <;> cases T <;> first | rfl | exact absurd rfl hST
    exact ok_yes_bz_plain S m 0 i j hm hml (by decide) hi hj w
/-- the document's sum of finite floats -/
theorem add_ok (s t : Bool) (m n z : Nat) (i j : Int) (hml : m < 9007199254740992) (hnl : n < 9007199254740992) (hi : -3000 ≤ i ∧ i ≤ 3000) (hj : -3000 ≤ j ∧ j ≤ 3000) (gi : i = -1074 ∨ 4503599627370496 ≤ m) (gj : j = -1074 ∨ 4503599627370496 ≤ n) (li : -1074 ≤ i) (lj : -1074 ≤ j)
    (hz : (Ieee.Datum.sum (.number s m i) (.number t n j)).map ff.write = some z) (w : World) :
    Calls Try.prog 78 #[fm, fv s false false (m : Nat) i, fv t false false (n : Nat) j] w fun e w' => e = .returned (.int .u64 (z : Nat)) ∧ Later w w' := by
  have hz' := hz
  rw [FM.sum_comm] at hz'
  by_cases hm : m = 0
  · subst hm
    by_cases hn : n = 0
    · subst hn
      rw [← some_nat (FM.glue_nil ff s t i j) hz]
      have e := sgn_word (s && t) 0
      rw [show sgn (s && t) + ((0 : Nat) : Int) = sgn (s && t) from Int.add_zero _] at e
      rw [← e]
      exact add_none s t i j w
    · exact add_zero_yes t s n z j i hn hnl hj hi hz' w
  · by_cases hn : n = 0
    · subst hn
      exact add_zero_no s t m z i j hm hml hi hj hz w
    · rcases Int.lt_or_le i j with hij | hij
      · exact add_big_yes t s n m z j i hn hm hnl hml hj hi gj li hij hz' w
      · exact add_big_no s t m n z i j hm hn hml hnl hi hj gi lj hij hz w
theorem xor_ne (s t : Bool) : (!(s == t)) = (s ^^ t) := by cases s <;> cases t <;> rfl
/-- the document's product of finite floats -/
theorem product_ok (s t : Bool) (m n : Nat) (i j : Int) (hml : m < 9007199254740992) (hnl : n < 9007199254740992) (hi : -3000 ≤ i ∧ i ≤ 3000) (hj : -3000 ≤ j ∧ j ≤ 3000) (w : World) :
    Calls Try.prog 57 #[fm, fv s false false (m : Nat) i, fv t false false (n : Nat) j] w fun e w' => e = .returned (.int .u64 ((ff.nearest (s ^^ t) (m * n) (i + j) : Nat) : Int)) ∧ Later w w' := by
  have hb : m * n < W64 * W64 := Nat.mul_lt_mul'' (by simp only [W64]; omega) (by simp only [W64]; omega)
  refine product_fin0 s t (s ^^ t) m n (m * n / W64) (m * n % W64) _ i j (i + j) (xor_ne s t) (by rw [IntKind.wrap_i64]; omega) (fun w => mul_any m n (by simp only [W64]; omega) (by simp only [W64]; omega) w) (fun w => ?_) w
  have := round_any (s ^^ t) (m * n / W64) (m * n % W64) (i + j) (Nat.div_lt_of_lt_mul hb) (Nat.mod_lt _ (by decide)) (by omega) (by omega) w
  rw [FM.two_parts] at this
  exact this
/-- the document's quotient of finite floats that are not 0 -/
theorem quotient_ok (s t : Bool) (m n : Nat) (i j : Int) (hm : m ≠ 0) (hn : n ≠ 0) (hml : m < 9007199254740992) (hnl : n < 9007199254740992) (hi : -3000 ≤ i ∧ i ≤ 3000) (hj : -3000 ≤ j ∧ j ≤ 3000) (w : World) :
    Calls Try.prog 58 #[fm, fv s false false (m : Nat) i, fv t false false (n : Nat) j] w fun e w' => e = .returned (.int .u64 ((ff.nearest (s ^^ t) (2 * (m * 2 ^ (64 - bl m) * 2 ^ 63 / (n * 2 ^ (64 - bl n))) + (if m * 2 ^ (64 - bl m) * 2 ^ 63 % (n * 2 ^ (64 - bl n)) = 0 then 0 else 1)) (i - ((64 - bl m : Nat) : Int) - (j - ((64 - bl n : Nat) : Int)) - 63 - 1) : Nat) : Int)) ∧ Later w w' := by
  obtain ⟨m1, m2⟩ := beq_no hm
  obtain ⟨n1, n2⟩ := beq_no hn
  have lead : ∀ m : Nat, m ≠ 0 → m < 9007199254740992 → bl m ≤ 64 ∧ 2 ^ 63 ≤ m * 2 ^ (64 - bl m) ∧ m * 2 ^ (64 - bl m) < W64 ∧ IntKind.u64.wrap ((m : Int) * 2 ^ (64 - bl m)) = ((m * 2 ^ (64 - bl m) : Nat) : Int) ∧ Hid (∀ w : World, Calls Try.prog 71 #[.int .u64 (m : Int)] w fun e w' => e = .returned (.int .i64 ((64 - bl m : Nat) : Int)) ∧ w' = w) := by
    intro m hm hml
    have hb : bl m ≤ 64 := FM.bl_le m 64 (Nat.lt_of_lt_of_le hml (by decide))
    obtain ⟨b1, b2, b3⟩ := FM.pow_bl m hm
    have h1 : 2 ^ 63 ≤ m * 2 ^ (64 - bl m) := by
      refine Nat.le_trans ?_ (Nat.mul_le_mul_right _ b1)
      rw [← Nat.pow_add]; exact Nat.pow_le_pow_right (by decide) (by omega)
    have h2 : m * 2 ^ (64 - bl m) < W64 := by
      have : m * 2 ^ (64 - bl m) < 2 ^ bl m * 2 ^ (64 - bl m) := Nat.mul_lt_mul_of_pos_right b2 (Nat.two_pow_pos _)
      rw [← Nat.pow_add, show bl m + (64 - bl m) = 64 from by omega] at this
      exact this
    refine ⟨hb, h1, h2, ?_, fun w => ?_⟩
    · have e : (m : Int) * 2 ^ (64 - bl m) = ((m * 2 ^ (64 - bl m) : Nat) : Int) := by rw [Int.natCast_mul, Int.natCast_pow]; rfl
      rw [e, IntKind.wrap_u64]
      simp only [W64] at h2
      omega
    · have := lead_any m (by simp only [W64]; omega) w
      rw [show (64 : Int) - (bl m : Nat) = ((64 - bl m : Nat) : Int) from by omega] at this
      exact this
  obtain ⟨bm, X0, X1, hX, hp⟩ := lead m hm hml
  obtain ⟨bn, Y0, Y1, hY, hq⟩ := lead n hn hnl
  clear lead
  generalize hpp : 64 - bl m = p at *
  generalize hqq : 64 - bl n = q at *
  have hpb : p ≤ 64 := by omega
  have hqb : q ≤ 64 := by omega
  generalize m * 2 ^ p = X at *
  generalize n * 2 ^ q = Y at *
  have hx1 : ((X : Nat) : Int) / 2 = ((X / 2 : Nat) : Int) := by omega
  have hx2 : IntKind.u64.wrap ((X : Int) * 9223372036854775808) = ((X * 9223372036854775808 % W64 : Nat) : Int) := by rw [IntKind.wrap_u64]; simp only [W64] at *; omega
  have hdw := FM.div_words X X1
  have hlt : X / 2 < Y := by simp only [W64] at *; omega
  have hd : ∀ w : World, Calls Try.prog 79 #[.int .u64 ((X / 2 : Nat) : Int), .int .u64 ((X * 9223372036854775808 % W64 : Nat) : Int), .int .u64 (Y : Int)] w fun e w' => e = .returned (.tuple #[.int .u64 ((X * 2 ^ 63 / Y : Nat) : Int), .int .u64 ((X * 2 ^ 63 % Y : Nat) : Int)]) ∧ w' = w :=
    fun w => div_any (X / 2) (X * 9223372036854775808 % W64) Y _ _ (Nat.mod_lt _ (by decide)) Y1 hlt (by show _ = _; rw [hdw]) (by show _ = _; rw [hdw]) w
  have hQ : X * 2 ^ 63 / Y < W64 := by
    rw [Nat.div_lt_iff_lt_mul (by omega)]
    simp only [W64] at *
    omega
  have hU : ∀ w : World, Calls Try.prog 72 #[.int .u64 ((X * 2 ^ 63 / Y : Nat) : Int), .int .i64 1] w fun e w' => e = .returned (.tuple #[.int .u64 ((X * 2 ^ 63 / Y * 2 ^ 1 / W64 : Nat) : Int), .int .u64 ((X * 2 ^ 63 / Y * 2 ^ 1 % W64 : Nat) : Int)]) ∧ Later w w' :=
    fun w => up_any (X * 2 ^ 63 / Y) 1 hQ (by decide) (by simp only [W64] at hQ; omega) w
  have he1 : IntKind.i64.wrap (i - (p : Int)) = i - p := by rw [IntKind.wrap_i64]; omega
  have he2 : IntKind.i64.wrap (j - (q : Int)) = j - q := by rw [IntKind.wrap_i64]; omega
  have he3 : IntKind.i64.wrap (i - (p : Int) - (j - q)) = i - p - (j - q) := by rw [IntKind.wrap_i64]; omega
  have he4 : IntKind.i64.wrap (i - (p : Int) - (j - q) - 63) = i - p - (j - q) - 63 := by rw [IntKind.wrap_i64]; omega
  have hee : IntKind.i64.wrap (i - (p : Int) - (j - q) - 63 - 1) = i - p - (j - q) - 63 - 1 := by rw [IntKind.wrap_i64]; omega
  have hb1 : -10000 ≤ i - (p : Int) - (j - q) - 63 - 1 := by omega
  have hb2 : i - (p : Int) - (j - q) - 63 - 1 ≤ 10000 := by omega
  generalize X * 2 ^ 63 / Y = k at *
  generalize hrr : X * 2 ^ 63 % Y = r at *
  by_cases hr : r = 0
  · subst hr
    rw [if_pos rfl, Nat.add_zero]
    refine quo_fin0 s t (s ^^ t) m n p q i j X Y _ _ k _ _ 0 _ _ _ _ _ _ (xor_ne s t) m1 m2 n1 n2 hpb hqb hp hq hX hY he1 he2 he3 he4 hee hx1 hx2 hd hU (fun w => ?_) w
    have := round_any (s ^^ t) (k * 2 ^ 1 / W64) (k * 2 ^ 1 % W64) _ (by simp only [W64] at *; omega) (Nat.mod_lt _ (by decide)) hb1 hb2 w
    rw [FM.two_parts, Nat.pow_one, Nat.mul_comm k 2] at this
    rw [Nat.pow_one, Nat.mul_comm k 2]
    exact this
  · obtain ⟨r1, r2⟩ := beq_no hr
    rw [if_neg hr]
    have hor : bits .or .u64 ((k * 2 ^ 1 % W64 : Nat) : Int) 1 = ((k * 2 ^ 1 % W64 + 1 : Nat) : Int) := by
      have a1 := FM.or_u (k * 2 ^ 1 % W64) 1 (Nat.mod_lt _ (by decide)) (by decide)
      have a2 := FM.or_add (k * 2 ^ 1 % W64 / 2) 1 1 (by decide)
      rw [show k * 2 ^ 1 % W64 / 2 * 2 ^ 1 = k * 2 ^ 1 % W64 from by simp only [W64]; omega] at a2
      rw [a2] at a1
      exact a1
    refine quo_fin1 s t (s ^^ t) m n r p q i j X Y _ _ k _ _ ((k * 2 ^ 1 % W64 + 1 : Nat) : Int) _ _ _ _ _ _ (xor_ne s t) m1 m2 n1 n2 hpb hqb hp hq hX hY he1 he2 he3 he4 hee hx1 hx2 hd hU r2 r1 hor (fun w => ?_) w
    have := round_any (s ^^ t) (k * 2 ^ 1 / W64) (k * 2 ^ 1 % W64 + 1) _ (by simp only [W64] at *; omega) (by simp only [W64]; omega) hb1 hb2 w
    rw [show two (k * 2 ^ 1 / W64) (k * 2 ^ 1 % W64 + 1) = 2 * k + 1 from by unfold two; simp only [W64]; omega] at this
    exact this
end Go.Proofs.Ytobhihggdoccoaa.D
