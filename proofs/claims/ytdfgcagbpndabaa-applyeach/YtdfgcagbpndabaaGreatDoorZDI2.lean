/- Contracts of the document's floats (pelorusref4), over this seat's translation: sums, products, quotients, roots, whole numbers of finite floats are the model's. -/
import Derived.Test.YtdfgcagbpndabaaGreatDoorZDI
import Derived.Test.YtdfgcagbpndabaaGreatDoorZDE
import Derived.Test.YtdfgcagbpndabaaGreatDoorZDG
import Derived.Test.YtdfgcagbpndabaaGreatDoorZDH
import Derived.Test.YtdfgcagbpndabaaGreatDoorZA
import Derived.WalkLawsBesides
import Derived.RegionCalls
import Derived.Deep.RegionWith
import Derived.Test.YtdfgcagbpndabaaGreatDoorZB
set_option linter.unusedVariables false
set_option maxHeartbeats 4000000
set_option maxRecDepth 100000
namespace Go.Proofs.YtdfgcagbpndabaaGreatDoor.D
open Go.RowKit
open Go.FM (W64 two bl lost isN qn)
theorem some_nat {o : Option Nat} {a z : Nat} (h : o = some a) (hz : o = some z) : a = z := Option.some.inj (h.symm.trans hz)
theorem add_big_no (S T : Bool) (m n z : Nat) (i j : Int) (hm : m ≠ 0) (hn : n ≠ 0) (hml : m < 9007199254740992) (hnl : n < 9007199254740992) (hi : -3000 ≤ i ∧ i ≤ 3000) (hj : -3000 ≤ j ∧ j ≤ 3000) (gi : i = -1074 ∨ 4503599627370496 ≤ m) (lj : -1074 ≤ j) (hij : j ≤ i) (hz : (Ieee.Datum.sum (.number S m i) (.number T n j)).map ff.write = some z) (w : World) :
    RW Tryz.prog 157 #[fm, fv S false false (m : Nat) i, fv T false false (n : Nat) j] w (.int .u64 (z : Nat)) := by
  have hfb : ff.fractionBits ≤ 52 := by decide
  have p0 : 2 ^ ff.fractionBits = 4503599627370496 := by decide +kernel
  rcases Nat.lt_or_ge 70 (i - j).toNat with hk | hk
  · have hM : 2 ^ ff.fractionBits ≤ m := by rw [p0]; omega
    have hb := big_lt m 70 hml (by decide)
    have h1 : 1 < m * 2 ^ 70 := by omega
    by_cases hST : S = T
    · subst hST
      rw [← some_nat (FM.glue_far_same ff S m n i j (by omega) hfb hM hn (by omega)) hz]
      exact ok_no_far_same S m n i j hm hml hnl hi hj hn hij hk w
    · obtain rfl : T = !S := by cases S <;> cases T <;> first | rfl | exact absurd rfl hST
      rw [← some_nat (FM.glue_far_plain ff S m n i j (by omega) hfb hM hn (by omega)) hz]
      exact ok_no_far_plain S m n i j hm hml hnl hi hj hn hij hk h1 w
  · by_cases hST : S = T
    · subst hST
      rw [← some_nat (FM.glue_same ff S m n i j (by omega) hm) hz]
      exact ok_no_near_same S m n i j hm hml hnl hi hj hn hij hk w
    · obtain rfl : T = !S := by cases S <;> cases T <;> first | rfl | exact absurd rfl hST
      rcases Nat.lt_trichotomy (m * 2 ^ (i - j).toNat) n with h | h | h
      · rw [← some_nat (FM.glue_under ff S m n i j (by omega) h) hz]
        exact ok_no_near_under S m n i j hm hml hnl hi hj hn hij hk h w
      · rw [← some_nat (FM.glue_zero ff S m n i j (by omega) h) hz]
        exact ok_no_near_zero S m n i j hm hml hnl hi hj hn hij hk h w
      · rw [← some_nat (FM.glue_plain ff S m n i j (by omega) h) hz]
        exact ok_no_near_plain S m n i j hm hml hnl hi hj hn hij hk h w
theorem add_zero_no (S T : Bool) (m z : Nat) (i j : Int) (hm : m ≠ 0) (hml : m < 9007199254740992) (hi : -3000 ≤ i ∧ i ≤ 3000) (hj : -3000 ≤ j ∧ j ≤ 3000) (hz : (Ieee.Datum.sum (.number S m i) (.number T 0 j)).map ff.write = some z) (w : World) :
    RW Tryz.prog 157 #[fm, fv S false false (m : Nat) i, fv T false false 0 j] w (.int .u64 (z : Nat)) := by
  rw [← some_nat (FM.glue_bz ff S T m i j hm) hz]
  by_cases hST : S = T
  · subst hST
    exact ok_no_bz_same S m 0 i j hm hml (by decide) hi hj w
  · obtain rfl : T = !S := by cases S <;> cases T <;> first | rfl | exact absurd rfl hST
    exact ok_no_bz_plain S m 0 i j hm hml (by decide) hi hj w
theorem add_big_yes (S T : Bool) (m n z : Nat) (i j : Int) (hm : m ≠ 0) (hn : n ≠ 0) (hml : m < 9007199254740992) (hnl : n < 9007199254740992) (hi : -3000 ≤ i ∧ i ≤ 3000) (hj : -3000 ≤ j ∧ j ≤ 3000) (gi : i = -1074 ∨ 4503599627370496 ≤ m) (lj : -1074 ≤ j) (hij : j < i) (hz : (Ieee.Datum.sum (.number S m i) (.number T n j)).map ff.write = some z) (w : World) :
    RW Tryz.prog 157 #[fm, fv T false false (n : Nat) j, fv S false false (m : Nat) i] w (.int .u64 (z : Nat)) := by
  have hfb : ff.fractionBits ≤ 52 := by decide
  have p0 : 2 ^ ff.fractionBits = 4503599627370496 := by decide +kernel
  rcases Nat.lt_or_ge 70 (i - j).toNat with hk | hk
  · have hM : 2 ^ ff.fractionBits ≤ m := by rw [p0]; omega
    have hb := big_lt m 70 hml (by decide)
    have h1 : 1 < m * 2 ^ 70 := by omega
    by_cases hST : S = T
    · subst hST
      rw [← some_nat (FM.glue_far_same ff S m n i j (by omega) hfb hM hn (by omega)) hz]
      exact ok_yes_far_same S m n i j hm hml hnl hi hj hn hij hk w
    · obtain rfl : T = !S := by cases S <;> cases T <;> first | rfl | exact absurd rfl hST
      rw [← some_nat (FM.glue_far_plain ff S m n i j (by omega) hfb hM hn (by omega)) hz]
      exact ok_yes_far_plain S m n i j hm hml hnl hi hj hn hij hk h1 w
  · by_cases hST : S = T
    · subst hST
      rw [← some_nat (FM.glue_same ff S m n i j (by omega) hm) hz]
      exact ok_yes_near_same S m n i j hm hml hnl hi hj hn hij hk w
    · obtain rfl : T = !S := by cases S <;> cases T <;> first | rfl | exact absurd rfl hST
      rcases Nat.lt_trichotomy (m * 2 ^ (i - j).toNat) n with h | h | h
      · rw [← some_nat (FM.glue_under ff S m n i j (by omega) h) hz]
        exact ok_yes_near_under S m n i j hm hml hnl hi hj hn hij hk h w
      · rw [← some_nat (FM.glue_zero ff S m n i j (by omega) h) hz]
        exact ok_yes_near_zero S m n i j hm hml hnl hi hj hn hij hk h w
      · rw [← some_nat (FM.glue_plain ff S m n i j (by omega) h) hz]
        exact ok_yes_near_plain S m n i j hm hml hnl hi hj hn hij hk h w
theorem add_zero_yes (S T : Bool) (m z : Nat) (i j : Int) (hm : m ≠ 0) (hml : m < 9007199254740992) (hi : -3000 ≤ i ∧ i ≤ 3000) (hj : -3000 ≤ j ∧ j ≤ 3000) (hz : (Ieee.Datum.sum (.number S m i) (.number T 0 j)).map ff.write = some z) (w : World) :
    RW Tryz.prog 157 #[fm, fv T false false 0 j, fv S false false (m : Nat) i] w (.int .u64 (z : Nat)) := by
  rw [← some_nat (FM.glue_bz ff S T m i j hm) hz]
  by_cases hST : S = T
  · subst hST
    exact ok_yes_bz_same S m 0 i j hm hml (by decide) hi hj w
  · obtain rfl : T = !S := by cases S <;> cases T <;> first | rfl | exact absurd rfl hST
    exact ok_yes_bz_plain S m 0 i j hm hml (by decide) hi hj w
theorem add_ok (s t : Bool) (m n z : Nat) (i j : Int) (hml : m < 9007199254740992) (hnl : n < 9007199254740992) (hi : -3000 ≤ i ∧ i ≤ 3000) (hj : -3000 ≤ j ∧ j ≤ 3000) (gi : i = -1074 ∨ 4503599627370496 ≤ m) (gj : j = -1074 ∨ 4503599627370496 ≤ n) (li : -1074 ≤ i) (lj : -1074 ≤ j)
    (hz : (Ieee.Datum.sum (.number s m i) (.number t n j)).map ff.write = some z) (w : World) :
    RW Tryz.prog 157 #[fm, fv s false false (m : Nat) i, fv t false false (n : Nat) j] w (.int .u64 (z : Nat)) := by
  have hz' := hz
  rw [FM.sum_comm] at hz'
  by_cases hm : m = 0
  · subst hm
    by_cases hn : n = 0
    · subst hn
      rw [← some_nat (FM.glue_nil ff s t i j) hz]
      have e := sgn_word (s && t) 0
      rw [show sgn (s && t) + ((0 : Nat) : Int) = sgn (s && t) from Int.add_zero _] at e
      rw [← e]
      exact add_none s t i j w
    · exact add_zero_yes t s n z j i hn hnl hj hi hz' w
  · by_cases hn : n = 0
    · subst hn
      exact add_zero_no s t m z i j hm hml hi hj hz w
    · rcases Int.lt_or_le i j with hij | hij
      · exact add_big_yes t s n m z j i hn hm hnl hml hj hi gj li hij hz' w
      · exact add_big_no s t m n z i j hm hn hml hnl hi hj gi lj hij hz w
theorem xor_ne (s t : Bool) : (!(s == t)) = (s ^^ t) := by cases s <;> cases t <;> rfl
theorem product_ok (s t : Bool) (m n : Nat) (i j : Int) (hml : m < 9007199254740992) (hnl : n < 9007199254740992) (hi : -3000 ≤ i ∧ i ≤ 3000) (hj : -3000 ≤ j ∧ j ≤ 3000) (w : World) :
    RW Tryz.prog 132 #[fm, fv s false false (m : Nat) i, fv t false false (n : Nat) j] w (.int .u64 ((ff.nearest (s ^^ t) (m * n) (i + j) : Nat) : Int)) := by
  have hb : m * n < W64 * W64 := Nat.mul_lt_mul'' (by simp only [W64]; omega) (by simp only [W64]; omega)
  refine product_fin0 s t (s ^^ t) m n (m * n / W64) (m * n % W64) _ i j (i + j) (xor_ne s t) (by rw [IntKind.wrap_i64]; omega) (fun w => mul_any m n (by simp only [W64]; omega) (by simp only [W64]; omega) w) (fun w => ?_) w
  have := round_any (s ^^ t) (m * n / W64) (m * n % W64) (i + j) (Nat.div_lt_of_lt_mul hb) (Nat.mod_lt _ (by decide)) (by omega) (by omega) w
  rw [FM.two_parts] at this
  exact this
theorem quotient_ok (s t : Bool) (m n : Nat) (i j : Int) (hm : m ≠ 0) (hn : n ≠ 0) (hml : m < 9007199254740992) (hnl : n < 9007199254740992) (hi : -3000 ≤ i ∧ i ≤ 3000) (hj : -3000 ≤ j ∧ j ≤ 3000) (w : World) :
    RW Tryz.prog 133 #[fm, fv s false false (m : Nat) i, fv t false false (n : Nat) j] w (.int .u64 ((ff.nearest (s ^^ t) (2 * (m * 2 ^ (64 - bl m) * 2 ^ 63 / (n * 2 ^ (64 - bl n))) + (if m * 2 ^ (64 - bl m) * 2 ^ 63 % (n * 2 ^ (64 - bl n)) = 0 then 0 else 1)) (i - ((64 - bl m : Nat) : Int) - (j - ((64 - bl n : Nat) : Int)) - 63 - 1) : Nat) : Int)) := by
  obtain ⟨m1, m2⟩ := beq_no hm
  obtain ⟨n1, n2⟩ := beq_no hn
  have lead : ∀ m : Nat, m ≠ 0 → m < 9007199254740992 → bl m ≤ 64 ∧ 2 ^ 63 ≤ m * 2 ^ (64 - bl m) ∧ m * 2 ^ (64 - bl m) < W64 ∧ IntKind.u64.wrap ((m : Int) * 2 ^ (64 - bl m)) = ((m * 2 ^ (64 - bl m) : Nat) : Int) ∧ Hid (∀ w : World, Calls Tryz.prog 154 #[.int .u64 (m : Int)] w fun e w' => e = .returned (.int .i64 ((64 - bl m : Nat) : Int)) ∧ w' = w) := by
    intro m hm hml
    have hb : bl m ≤ 64 := FM.bl_le m 64 (Nat.lt_of_lt_of_le hml (by decide))
    obtain ⟨b1, b2, b3⟩ := FM.pow_bl m hm
    have h1 : 2 ^ 63 ≤ m * 2 ^ (64 - bl m) := by
      refine Nat.le_trans ?_ (Nat.mul_le_mul_right _ b1)
      rw [← Nat.pow_add]; exact Nat.pow_le_pow_right (by decide) (by omega)
    have h2 : m * 2 ^ (64 - bl m) < W64 := by
      have : m * 2 ^ (64 - bl m) < 2 ^ bl m * 2 ^ (64 - bl m) := Nat.mul_lt_mul_of_pos_right b2 (Nat.two_pow_pos _)
      rw [← Nat.pow_add, show bl m + (64 - bl m) = 64 from by omega] at this
      exact this
    refine ⟨hb, h1, h2, ?_, fun w => ?_⟩
    · have e : (m : Int) * 2 ^ (64 - bl m) = ((m * 2 ^ (64 - bl m) : Nat) : Int) := by rw [Int.natCast_mul, Int.natCast_pow]; rfl
      rw [e, IntKind.wrap_u64]
      simp only [W64] at h2
      omega
    · have := lead_any m (by simp only [W64]; omega) w
      rw [show (64 : Int) - (bl m : Nat) = ((64 - bl m : Nat) : Int) from by omega] at this
      exact this
  obtain ⟨bm, X0, X1, hX, hp⟩ := lead m hm hml
  obtain ⟨bn, Y0, Y1, hY, hq⟩ := lead n hn hnl
  clear lead
  generalize hpp : 64 - bl m = p at *
  generalize hqq : 64 - bl n = q at *
  have hpb : p ≤ 64 := by omega
  have hqb : q ≤ 64 := by omega
  generalize m * 2 ^ p = X at *
  generalize n * 2 ^ q = Y at *
  have hx1 : ((X : Nat) : Int) / 2 = ((X / 2 : Nat) : Int) := by omega
  have hx2 : IntKind.u64.wrap ((X : Int) * 9223372036854775808) = ((X * 9223372036854775808 % W64 : Nat) : Int) := by rw [IntKind.wrap_u64]; simp only [W64] at *; omega
  have hdw := FM.div_words X X1
  have hlt : X / 2 < Y := by simp only [W64] at *; omega
  have hd : ∀ w : World, Calls Tryz.prog 158 #[.int .u64 ((X / 2 : Nat) : Int), .int .u64 ((X * 9223372036854775808 % W64 : Nat) : Int), .int .u64 (Y : Int)] w fun e w' => e = .returned (.tuple #[.int .u64 ((X * 2 ^ 63 / Y : Nat) : Int), .int .u64 ((X * 2 ^ 63 % Y : Nat) : Int)]) ∧ w' = w :=
    fun w => div_any (X / 2) (X * 9223372036854775808 % W64) Y _ _ (Nat.mod_lt _ (by decide)) Y1 hlt (by show _ = _; rw [hdw]) (by show _ = _; rw [hdw]) w
  have hQ : X * 2 ^ 63 / Y < W64 := by
    rw [Nat.div_lt_iff_lt_mul (by omega)]
    simp only [W64] at *
    omega
  have hU : ∀ w : World, Calls Tryz.prog 155 #[.int .u64 ((X * 2 ^ 63 / Y : Nat) : Int), .int .i64 1] w fun e w' => e = .returned (.tuple #[.int .u64 ((X * 2 ^ 63 / Y * 2 ^ 1 / W64 : Nat) : Int), .int .u64 ((X * 2 ^ 63 / Y * 2 ^ 1 % W64 : Nat) : Int)]) ∧ Later w w' :=
    fun w => up_any (X * 2 ^ 63 / Y) 1 hQ (by decide) (by simp only [W64] at hQ; omega) w
  have he1 : IntKind.i64.wrap (i - (p : Int)) = i - p := by rw [IntKind.wrap_i64]; omega
  have he2 : IntKind.i64.wrap (j - (q : Int)) = j - q := by rw [IntKind.wrap_i64]; omega
  have he3 : IntKind.i64.wrap (i - (p : Int) - (j - q)) = i - p - (j - q) := by rw [IntKind.wrap_i64]; omega
  have he4 : IntKind.i64.wrap (i - (p : Int) - (j - q) - 63) = i - p - (j - q) - 63 := by rw [IntKind.wrap_i64]; omega
  have hee : IntKind.i64.wrap (i - (p : Int) - (j - q) - 63 - 1) = i - p - (j - q) - 63 - 1 := by rw [IntKind.wrap_i64]; omega
  have hb1 : -10000 ≤ i - (p : Int) - (j - q) - 63 - 1 := by omega
  have hb2 : i - (p : Int) - (j - q) - 63 - 1 ≤ 10000 := by omega
  generalize X * 2 ^ 63 / Y = k at *
  generalize hrr : X * 2 ^ 63 % Y = r at *
  by_cases hr : r = 0
  · subst hr
    rw [if_pos rfl, Nat.add_zero]
    refine quo_fin0 s t (s ^^ t) m n p q i j X Y _ _ k _ _ 0 _ _ _ _ _ _ (xor_ne s t) m1 m2 n1 n2 hpb hqb hp hq hX hY he1 he2 he3 he4 hee hx1 hx2 hd hU (fun w => ?_) w
    have := round_any (s ^^ t) (k * 2 ^ 1 / W64) (k * 2 ^ 1 % W64) _ (by simp only [W64] at *; omega) (Nat.mod_lt _ (by decide)) hb1 hb2 w
    rw [FM.two_parts, Nat.pow_one, Nat.mul_comm k 2] at this
    rw [Nat.pow_one, Nat.mul_comm k 2]
    exact this
  · obtain ⟨r1, r2⟩ := beq_no hr
    rw [if_neg hr]
    have hor : bits .or .u64 ((k * 2 ^ 1 % W64 : Nat) : Int) 1 = ((k * 2 ^ 1 % W64 + 1 : Nat) : Int) := by
      have a1 := FM.or_u (k * 2 ^ 1 % W64) 1 (Nat.mod_lt _ (by decide)) (by decide)
      have a2 := FM.or_add (k * 2 ^ 1 % W64 / 2) 1 1 (by decide)
      rw [show k * 2 ^ 1 % W64 / 2 * 2 ^ 1 = k * 2 ^ 1 % W64 from by simp only [W64]; omega] at a2
      rw [a2] at a1
      exact a1
    refine quo_fin1 s t (s ^^ t) m n r p q i j X Y _ _ k _ _ ((k * 2 ^ 1 % W64 + 1 : Nat) : Int) _ _ _ _ _ _ (xor_ne s t) m1 m2 n1 n2 hpb hqb hp hq hX hY he1 he2 he3 he4 hee hx1 hx2 hd hU r2 r1 hor (fun w => ?_) w
    have := round_any (s ^^ t) (k * 2 ^ 1 / W64) (k * 2 ^ 1 % W64 + 1) _ (by simp only [W64] at *; omega) (by simp only [W64]; omega) hb1 hb2 w
    rw [show two (k * 2 ^ 1 / W64) (k * 2 ^ 1 % W64 + 1) = 2 * k + 1 from by unfold two; simp only [W64]; omega] at this
    exact this
end Go.Proofs.YtdfgcagbpndabaaGreatDoor.D
namespace Go.Proofs.YtdfgcagbpndabaaGreatDoor.D
open Go.RowKit
open Go.FM (W64 two bl lost isN qn)
theorem root_words (m c by1 : Nat) (hb : by1 = c + 64) : two (m * 2 ^ c) 0 = m * 2 ^ by1 := by
  unfold two
  rw [Nat.add_zero, hb, Nat.pow_add, ← Nat.mul_assoc]
theorem root_ok (x m z : Nat) (i : Int) (hx : ff.read x = .number false m i) (hm : m ≠ 0) (hml : m < 9007199254740992) (hi : -3000 ≤ i ∧ i ≤ 3000) (hz : ff.sqrt x = some z) (w : World) :
    RW Tryz.prog 128 #[fm, fv false false false (m : Nat) i] w (.int .u64 (z : Nat)) := by
  obtain ⟨m1, m2⟩ := beq_no hm
  have hfb : ff.fractionBits ≤ 52 := by decide
  have hmb : m < 2 * ff.binade := by rw [ff_bin]; omega
  have hb : bl m ≤ 53 := FM.bl_le m 53 hml
  obtain ⟨b1, b2, b3⟩ := FM.pow_bl m hm
  have hbl := FM.bl_log m hm
  have hp : Hid (∀ w : World, Calls Tryz.prog 154 #[.int .u64 (m : Int)] w fun e w' => e = .returned (.int .i64 ((64 - bl m : Nat) : Int)) ∧ w' = w) := fun w => by
    have := lead_any m (by simp only [W64]; omega) w
    rw [show (64 : Int) - (bl m : Nat) = ((64 - bl m : Nat) : Int) from by omega] at this
    exact this
  -- what both ways share: by1 = c + 64, an even place
  have fin : ∀ (c by1 : Nat) (P : Int), by1 = c + 64 → bl m + c ≤ 62 → 125 ≤ bl m + by1 → i - (by1 : Int) = 2 * P →
      ∃ (H R : Nat) (u1 u2 a b y2 : Int), IntKind.u64.wrap ((m : Int) * 2 ^ c) = (H : Int) ∧ H < W64 ∧ Hid (FM.IsRoot (two H 0) R) ∧
      Hid (∀ w : World, Calls Tryz.prog 156 #[.int .u64 (R : Nat), .int .u64 (R : Nat)] w fun e w' => e = .returned (.tuple #[.int .u64 u1, .int .u64 u2]) ∧ w' = w) ∧
      RL Tryz.prog 155 #[.int .u64 (R : Nat), .int .i64 1] (.tuple #[.int .u64 a, .int .u64 b]) ∧
      Hid ((u1 = (H : Int) ∧ u2 = 0 ∧ y2 = b) ∨ (¬ u1 = (H : Int) ∧ bits .or .u64 b 1 = y2) ∨ (u1 = (H : Int) ∧ ¬ u2 = 0 ∧ bits .or .u64 b 1 = y2)) ∧
      IntKind.i64.wrap ((i - (by1 : Int)).tdiv 2) = P ∧ IntKind.i64.wrap (P - 1) = P - 1 ∧
      RL Tryz.prog 122 #[fm, .bool false, .int .u64 a, .int .u64 y2, .int .i64 (P - 1)] (.int .u64 (z : Nat)) := by
    intro c by1 P h1 h2 h3 h4
    have hH : m * 2 ^ c < 2 ^ 62 := by
      have : m * 2 ^ c < 2 ^ bl m * 2 ^ c := Nat.mul_lt_mul_of_pos_right b2 (Nat.two_pow_pos c)
      rw [← Nat.pow_add] at this
      exact Nat.lt_of_lt_of_le this (Nat.pow_le_pow_right (by decide) h2)
    have hN := root_words m c by1 h1
    obtain ⟨R, hR⟩ : ∃ R, FM.IsRoot (m * 2 ^ by1) R := ⟨_, FM.rootFrom_root _⟩
    have hzz := some_nat (FM.glue_sqrt ff x m by1 R i P hx hm hmb hfb (by omega) h4 hR) hz
    have hNb : m * 2 ^ by1 < 2 ^ 126 := by
      rw [h1, Nat.pow_add, ← Nat.mul_assoc]
      generalize m * 2 ^ c = H at *
      omega
    have hRb : R < 2 ^ 63 := FM.root_lt hR hNb
    have hRw : R < W64 := by simp only [W64]; omega
    have hor : bits .or .u64 ((R * 2 ^ 1 % W64 : Nat) : Int) 1 = ((R * 2 ^ 1 % W64 + 1 : Nat) : Int) := by
      have a1 := FM.or_u (R * 2 ^ 1 % W64) 1 (Nat.mod_lt _ (by decide)) (by decide)
      have a2 := FM.or_add (R * 2 ^ 1 % W64 / 2) 1 1 (by decide)
      rw [show R * 2 ^ 1 % W64 / 2 * 2 ^ 1 = R * 2 ^ 1 % W64 from by simp only [W64]; omega] at a2
      rw [a2] at a1
      exact a1
    refine ⟨m * 2 ^ c, R, ((R * R / W64 : Nat) : Int), ((R * R % W64 : Nat) : Int), ((R * 2 ^ 1 / W64 : Nat) : Int), ((R * 2 ^ 1 % W64 : Nat) : Int), ((R * 2 ^ 1 % W64 + (if R * R = m * 2 ^ by1 then 0 else 1) : Nat) : Int), ?_, by simp only [W64]; omega, by show FM.IsRoot _ _; rw [hN]; exact hR, fun w => mul_any R R hRw hRw w, fun w => up_any R 1 hRw (by decide) (by omega) w, ?_, ?_, ?_, fun w => ?_⟩
    · have e : (m : Int) * 2 ^ c = ((m * 2 ^ c : Nat) : Int) := by rw [Int.natCast_mul, Int.natCast_pow]; rfl
      rw [e, IntKind.wrap_u64]; omega
    · show _ ∨ _
      have hle := FM.two_parts (R * R)
      by_cases hq : R * R = m * 2 ^ by1
      · left
        rw [if_pos hq, Nat.add_zero]
        rw [hq, ← hN] at *
        refine ⟨?_, ?_, rfl⟩
        · unfold two; simp only [W64]; omega
        · unfold two; simp only [W64]; omega
      · right
        rw [if_neg hq]
        by_cases hu : R * R / W64 = m * 2 ^ c
        · right
          refine ⟨by rw [hu], ?_, hor⟩
          intro g
          apply hq
          have g' : R * R % W64 = 0 := by omega
          rw [← hle, hu, g', hN]
        · left
          exact ⟨fun g => hu (Int.ofNat_inj.1 g), hor⟩
    · rw [h4, Int.mul_tdiv_cancel_left P (by decide), IntKind.wrap_i64]; omega
    · rw [IntKind.wrap_i64]; omega
    · have := round_any false (R * 2 ^ 1 / W64) (R * 2 ^ 1 % W64 + (if R * R = m * 2 ^ by1 then 0 else 1)) (P - 1) (by simp only [W64]; omega) (by simp only [W64]; split <;> omega) (by omega) (by omega) w
      rw [show two (R * 2 ^ 1 / W64) (R * 2 ^ 1 % W64 + (if R * R = m * 2 ^ by1 then 0 else 1)) = FM.rs (m * 2 ^ by1) R from by unfold two FM.rs; simp only [W64]; split <;> omega, hzz] at this
      exact this
  have e64 : IntKind.i64.wrap (64 + ((64 - bl m : Nat) : Int)) = 128 - (bl m : Int) := by rw [IntKind.wrap_i64]; omega
  have e62 : IntKind.i64.wrap (128 - (bl m : Int) - 2) = 126 - (bl m : Int) := by rw [IntKind.wrap_i64]; omega
  have ed : IntKind.i64.wrap (i - (126 - (bl m : Int))) = i - (126 - (bl m : Int)) := by rw [IntKind.wrap_i64]; omega
  have eo := FM.and1 (i - (126 - (bl m : Int)))
  have hoo : (i - (126 - (bl m : Int))) % 2 = 0 ∨ (i - (126 - (bl m : Int))) % 2 = 1 := by omega
  rcases hoo with ho | ho
  · rw [ho] at eo
    obtain ⟨P, hP⟩ : ∃ P, i - ((126 - bl m : Nat) : Int) = 2 * P := ⟨(i - (126 - (bl m : Int))) / 2, by omega⟩
    obtain ⟨H, R, u1, u2, a, b, y2, f1, f2, f3, f4, f5, f6, f7, f8, f9⟩ := fin (62 - bl m) (126 - bl m) P (by omega) (by omega) (by omega) hP
    have eby : (126 : Int) - (bl m : Int) = ((126 - bl m : Nat) : Int) := by omega
    refine root_fin0 m i (64 - bl m) (62 - bl m) H R _ _ _ ((126 - bl m : Nat) : Int) _ _ _ u1 u2 a b y2 z m1 m2 hp (by omega) e64 e62 ed eo eby (by omega) (by rw [IntKind.wrap_i64]; omega) (by omega) f1 f2 f3 f4 f5 f6 rfl ?_ f8 f9 w
    rw [eby]; exact f7
  · rw [ho] at eo
    obtain ⟨P, hP⟩ : ∃ P, i - ((125 - bl m : Nat) : Int) = 2 * P := ⟨(i - (125 - (bl m : Int))) / 2, by omega⟩
    obtain ⟨H, R, u1, u2, a, b, y2, f1, f2, f3, f4, f5, f6, f7, f8, f9⟩ := fin (61 - bl m) (125 - bl m) P (by omega) (by omega) (by omega) hP
    exact root_fin1 m i (64 - bl m) (61 - bl m) H R _ _ _ ((125 - bl m : Nat) : Int) _ _ _ u1 u2 a b y2 z m1 m2 hp (by omega) e64 e62 ed eo (by rw [IntKind.wrap_i64]; omega) (by omega) (by rw [IntKind.wrap_i64]; omega) (by omega) f1 f2 f3 f4 f5 f6 (by rw [IntKind.wrap_i64]; omega) f7 f8 f9 w
theorem down_one (m d : Nat) (hm : m ≠ 0) (hml : m < 9007199254740992) (hd : 0 < d) (hd1 : d ≤ 3000) : RL Tryz.prog 121 #[.int .u64 0, .int .u64 (m : Nat), .int .i64 (d : Nat)] (.tuple #[.int .u64 0, .int .u64 ((m / 2 ^ d : Nat) : Int), .int .i64 (lost m d)]) := by
  intro w
  have hmw : m < W64 := by simp only [W64]; omega
  have htw : two 0 m = m := by unfold two; rw [Nat.zero_mul, Nat.zero_add]
  obtain ⟨k, rfl⟩ : ∃ k, d = k + 1 := ⟨d - 1, by omega⟩
  rcases Nat.lt_or_ge k 128 with h | h
  · exact down_mid 0 m k _ _ (by decide) hmw h (by rw [htw]) (Nat.lt_of_le_of_lt (Nat.div_le_self _ _) hmw) (by rw [htw]) w
  · have hp : 2 * m < 2 ^ (k + 1) := by
      have : 2 ^ 65 ≤ 2 ^ (k + 1) := Nat.pow_le_pow_right (by decide) (by omega)
      simp only [W64] at hmw
      omega
    have h1 : m / 2 ^ (k + 1) = 0 := Nat.div_eq_of_lt (by omega)
    have h2 : lost m (k + 1) = -1 := by unfold lost; rw [Nat.mod_eq_of_lt (by omega), if_neg hm, if_pos hp]
    rw [h1, h2]
    exact down_far 0 m _ (by omega) (or_ne 0 m (by decide) hmw (by rw [htw]; exact hm)) w
theorem cut_neg (way : Ieee.Toward) (s : Bool) (m : Nat) (i : Int) (hi : i < 0) : way.cut s (m <<< i.toNat) (-i).toNat = way.cut s m (-i).toNat := by
  rw [show i.toNat = 0 from by omega, Nat.shiftLeft_zero]
theorem whole_up_ok (x m : Nat) (s : Bool) (i : Int) (ha : RL Tryz.prog 119 #[fm, .int .u64 (x : Nat)] (fv s false false (m : Nat) i)) (hm : m ≠ 0) (hml : m < 9007199254740992) (hi : -3000 ≤ i ∧ i < 0) (w : World) :
    RW Tryz.prog 129 #[fm, .int .i64 0, .int .u64 (x : Nat)] w (.int .u64 ((ff.nearest s (Ieee.Toward.up.cut s (m <<< i.toNat) (-i).toNat) 0 : Nat) : Int)) := by
  obtain ⟨m1, m2⟩ := beq_no hm
  rw [cut_neg .up s m i hi.2, FM.glue_up]
  have hn0 : ¬ 0 ≤ i := by omega
  have hnb : IntKind.i64.wrap (-i) = (((-i).toNat : Nat) : Int) := by rw [IntKind.wrap_i64]; omega
  have hd := down_one m (-i).toNat hm hml (by omega) (by omega)
  have hML : m / 2 ^ (-i).toNat < 9007199254740992 := Nat.lt_of_le_of_lt (Nat.div_le_self _ _) hml
  generalize m / 2 ^ (-i).toNat = M at *
  have hM1 : IntKind.u64.wrap ((M : Int) + 1) = ((M + 1 : Nat) : Int) := by rw [IntKind.wrap_u64]; omega
  have rd : ∀ K : Nat, K ≤ 9007199254740992 → RL Tryz.prog 122 #[fm, .bool s, .int .u64 0, .int .u64 (K : Int), .int .i64 0] (.int .u64 ((ff.nearest s K 0 : Nat) : Int)) := by
    intro K hK w
    have := round_any s 0 K 0 (by decide) (by simp only [W64]; omega) (by decide) (by decide) w
    rw [show two 0 K = K from by unfold two; rw [Nat.zero_mul, Nat.zero_add]] at this
    exact this
  generalize hL : lost m (-i).toNat = L at *
  cases s
  · by_cases hl : L = 2
    · subst hl
      rw [if_neg (fun g => g.2 rfl), Nat.add_zero]
      exact whole_u2 x m i 0 M _ _ _ m1 m2 hn0 hnb ha hd rfl (rd M (by omega)) w
    · rw [if_pos ⟨rfl, hl⟩]
      exact whole_u1 x m i 0 M _ _ _ L m1 m2 hn0 hnb ha hd hM1 (by rw [beq_eq_false_iff_ne]; exact hl) hl (rd (M + 1) (by omega)) w
  · rw [if_neg (fun g => by cases g.1), Nat.add_zero]
    exact whole_u3 x m i 0 M _ _ _ L m1 m2 hn0 hnb ha hd rfl (rd M (by omega)) w
theorem whole_down_ok (x m : Nat) (s : Bool) (i : Int) (ha : RL Tryz.prog 119 #[fm, .int .u64 (x : Nat)] (fv s false false (m : Nat) i)) (hm : m ≠ 0) (hml : m < 9007199254740992) (hi : -3000 ≤ i ∧ i < 0) (w : World) :
    RW Tryz.prog 129 #[fm, .int .i64 1, .int .u64 (x : Nat)] w (.int .u64 ((ff.nearest s (Ieee.Toward.down.cut s (m <<< i.toNat) (-i).toNat) 0 : Nat) : Int)) := by
  obtain ⟨m1, m2⟩ := beq_no hm
  rw [cut_neg .down s m i hi.2, FM.glue_down]
  have hn0 : ¬ 0 ≤ i := by omega
  have hnb : IntKind.i64.wrap (-i) = (((-i).toNat : Nat) : Int) := by rw [IntKind.wrap_i64]; omega
  have hd := down_one m (-i).toNat hm hml (by omega) (by omega)
  have hML : m / 2 ^ (-i).toNat < 9007199254740992 := Nat.lt_of_le_of_lt (Nat.div_le_self _ _) hml
  generalize m / 2 ^ (-i).toNat = M at *
  have hM1 : IntKind.u64.wrap ((M : Int) + 1) = ((M + 1 : Nat) : Int) := by rw [IntKind.wrap_u64]; omega
  have rd : ∀ K : Nat, K ≤ 9007199254740992 → RL Tryz.prog 122 #[fm, .bool s, .int .u64 0, .int .u64 (K : Int), .int .i64 0] (.int .u64 ((ff.nearest s K 0 : Nat) : Int)) := by
    intro K hK w
    have := round_any s 0 K 0 (by decide) (by simp only [W64]; omega) (by decide) (by decide) w
    rw [show two 0 K = K from by unfold two; rw [Nat.zero_mul, Nat.zero_add]] at this
    exact this
  generalize hL : lost m (-i).toNat = L at *
  cases s
  · rw [if_neg (fun g => by cases g.1), Nat.add_zero]
    exact whole_d3 x m i 0 M _ _ _ L m1 m2 hn0 hnb ha hd rfl (rd M (by omega)) w
  · by_cases hl : L = 2
    · subst hl
      rw [if_neg (fun g => g.2 rfl), Nat.add_zero]
      exact whole_d2 x m i 0 M _ _ _ m1 m2 hn0 hnb ha hd rfl (rd M (by omega)) w
    · rw [if_pos ⟨rfl, hl⟩]
      exact whole_d1 x m i 0 M _ _ _ L m1 m2 hn0 hnb ha hd hM1 (by rw [beq_eq_false_iff_ne]; exact hl) hl (rd (M + 1) (by omega)) w
theorem whole_zero_ok (x m : Nat) (s : Bool) (i : Int) (ha : RL Tryz.prog 119 #[fm, .int .u64 (x : Nat)] (fv s false false (m : Nat) i)) (hm : m ≠ 0) (hml : m < 9007199254740992) (hi : -3000 ≤ i ∧ i < 0) (w : World) :
    RW Tryz.prog 129 #[fm, .int .i64 2, .int .u64 (x : Nat)] w (.int .u64 ((ff.nearest s (Ieee.Toward.zero.cut s (m <<< i.toNat) (-i).toNat) 0 : Nat) : Int)) := by
  obtain ⟨m1, m2⟩ := beq_no hm
  rw [cut_neg .zero s m i hi.2, FM.glue_cut]
  have hn0 : ¬ 0 ≤ i := by omega
  have hnb : IntKind.i64.wrap (-i) = (((-i).toNat : Nat) : Int) := by rw [IntKind.wrap_i64]; omega
  have hd := down_one m (-i).toNat hm hml (by omega) (by omega)
  have hML : m / 2 ^ (-i).toNat < 9007199254740992 := Nat.lt_of_le_of_lt (Nat.div_le_self _ _) hml
  generalize m / 2 ^ (-i).toNat = M at *
  have hM1 : IntKind.u64.wrap ((M : Int) + 1) = ((M + 1 : Nat) : Int) := by rw [IntKind.wrap_u64]; omega
  have rd : ∀ K : Nat, K ≤ 9007199254740992 → RL Tryz.prog 122 #[fm, .bool s, .int .u64 0, .int .u64 (K : Int), .int .i64 0] (.int .u64 ((ff.nearest s K 0 : Nat) : Int)) := by
    intro K hK w
    have := round_any s 0 K 0 (by decide) (by simp only [W64]; omega) (by decide) (by decide) w
    rw [show two 0 K = K from by unfold two; rw [Nat.zero_mul, Nat.zero_add]] at this
    exact this
  exact whole_z x m i 0 M _ _ _ s _ m1 m2 hn0 hnb ha hd rfl (rd M (by omega)) w
theorem whole_even_ok (x m : Nat) (s : Bool) (i : Int) (ha : RL Tryz.prog 119 #[fm, .int .u64 (x : Nat)] (fv s false false (m : Nat) i)) (hm : m ≠ 0) (hml : m < 9007199254740992) (hi : -3000 ≤ i ∧ i < 0) (w : World) :
    RW Tryz.prog 129 #[fm, .int .i64 3, .int .u64 (x : Nat)] w (.int .u64 ((ff.nearest s (Ieee.Toward.even.cut s (m <<< i.toNat) (-i).toNat) 0 : Nat) : Int)) := by
  obtain ⟨m1, m2⟩ := beq_no hm
  rw [cut_neg .even s m i hi.2, FM.glue_even]
  have hn0 : ¬ 0 ≤ i := by omega
  have hnb : IntKind.i64.wrap (-i) = (((-i).toNat : Nat) : Int) := by rw [IntKind.wrap_i64]; omega
  have hd := down_one m (-i).toNat hm hml (by omega) (by omega)
  have hML : m / 2 ^ (-i).toNat < 9007199254740992 := Nat.lt_of_le_of_lt (Nat.div_le_self _ _) hml
  generalize m / 2 ^ (-i).toNat = M at *
  have hM1 : IntKind.u64.wrap ((M : Int) + 1) = ((M + 1 : Nat) : Int) := by rw [IntKind.wrap_u64]; omega
  have rd : ∀ K : Nat, K ≤ 9007199254740992 → RL Tryz.prog 122 #[fm, .bool s, .int .u64 0, .int .u64 (K : Int), .int .i64 0] (.int .u64 ((ff.nearest s K 0 : Nat) : Int)) := by
    intro K hK w
    have := round_any s 0 K 0 (by decide) (by simp only [W64]; omega) (by decide) (by decide) w
    rw [show two 0 K = K from by unfold two; rw [Nat.zero_mul, Nat.zero_add]] at this
    exact this
  have hcc : lost m (-i).toNat = 1 ∨ lost m (-i).toNat = 0 ∨ lost m (-i).toNat = -1 ∨ lost m (-i).toNat = 2 := by
    unfold lost; split; exact Or.inr (Or.inr (Or.inr rfl)); split; exact Or.inr (Or.inr (Or.inl rfl)); split; exact Or.inr (Or.inl rfl); exact Or.inl rfl
  have ho := FM.and1_u M (by simp only [W64]; omega)
  generalize hL : lost m (-i).toNat = L at *
  rcases hcc with rfl | rfl | rfl | rfl
  · rw [if_pos (Or.inl rfl)]
    exact whole_n1 x m i 0 M _ _ _ s m1 m2 hn0 hnb ha hd hM1 (rd (M + 1) (by omega)) w
  · rcases Nat.mod_two_eq_zero_or_one M with h2 | h2
    · rw [if_neg (by omega), Nat.add_zero]
      rw [h2] at ho
      exact whole_n3 x m i 0 M _ _ _ s m1 m2 hn0 hnb ha hd rfl ho (rd M (by omega)) w
    · rw [if_pos (Or.inr ⟨rfl, h2⟩)]
      rw [h2] at ho
      exact whole_n2 x m i 0 M _ _ _ s m1 m2 hn0 hnb ha hd hM1 ho (rd (M + 1) (by omega)) w
  · rw [if_neg (by omega), Nat.add_zero]
    exact whole_n4 x m i 0 M _ _ _ s m1 m2 hn0 hnb ha hd rfl (rd M (by omega)) w
  · rw [if_neg (by omega), Nat.add_zero]
    exact whole_n5 x m i 0 M _ _ _ s m1 m2 hn0 hnb ha hd rfl (rd M (by omega)) w
end Go.Proofs.YtdfgcagbpndabaaGreatDoor.D
namespace Go.Proofs.YtdfgcagbpndabaaGreatDoor.D
open Go.RowKit
open Go.FM (W64 two bl lost isN qn)
theorem root_nan1 (s p : Bool) (m i : Int) (w : World) :
    RW Tryz.prog 128 #[fm, fv s p true m i] w (.int .u64 9221120237041090560) := by
  go_enter Tryz.func128, Tryz.ntmps128
  go_wp2_with fail
  refine (nan_any _).mono ?_
  rintro e w' ⟨rfl, bs1, n1, rfl⟩
  go_wp2
  go_ret
  exact ⟨rfl, (by repeat first | exact Lz _ | apply La | apply Lv | apply Ln | apply Ld)⟩
theorem root_nan2 (m i : Int) (w : World) :
    RW Tryz.prog 128 #[fm, fv true true false m i] w (.int .u64 9221120237041090560) := by
  go_enter Tryz.func128, Tryz.ntmps128
  go_wp2_with fail
  refine (nan_any _).mono ?_
  rintro e w' ⟨rfl, bs2, n2, rfl⟩
  go_wp2
  go_ret
  exact ⟨rfl, (by repeat first | exact Lz _ | apply La | apply Lv | apply Ln | apply Ld)⟩
theorem root_nan3 (m i : Int) (hm : (m == 0) = false) (hm2 : ¬ m = 0) (w : World) :
    RW Tryz.prog 128 #[fm, fv true false false m i] w (.int .u64 9221120237041090560) := by
  go_enter Tryz.func128, Tryz.ntmps128
  go_wp2_with fail
  refine (nan_any _).mono ?_
  rintro e w' ⟨rfl, bs3, n3, rfl⟩
  go_wp2
  go_ret
  exact ⟨rfl, (by repeat first | exact Lz _ | apply La | apply Lv | apply Ln | apply Ld)⟩
theorem root_inf0 (m i : Int) (w : World) :
    RW Tryz.prog 128 #[fm, fv false true false m i] w (.int .u64 (sgn false + 9218868437227405312)) := by
  go_enter Tryz.func128, Tryz.ntmps128
  go_wp2_with fail
  refine (inf_any false _).mono ?_
  rintro e w' ⟨rfl, bs4, n4, rfl⟩
  go_wp2
  go_ret
  exact ⟨rfl, (by repeat first | exact Lz _ | apply La | apply Lv | apply Ln | apply Ld)⟩
theorem root_nil_true (i : Int) (w : World) :
    RW Tryz.prog 128 #[fm, fv true false false 0 i] w (.int .u64 (sgn true)) := by
  go_enter Tryz.func128, Tryz.ntmps128
  go_wp2_with fail
  refine (signed_any true _).mono ?_
  rintro e w' ⟨rfl, bs5, n5, rfl⟩
  go_wp2
  go_ret
  exact ⟨rfl, (by repeat first | exact Lz _ | apply La | apply Lv | apply Ln | apply Ld)⟩
theorem root_nil_false (i : Int) (w : World) :
    RW Tryz.prog 128 #[fm, fv false false false 0 i] w (.int .u64 (sgn false)) := by
  go_enter Tryz.func128, Tryz.ntmps128
  go_wp2_with fail
  refine (signed_any false _).mono ?_
  rintro e w' ⟨rfl, bs6, n6, rfl⟩
  go_wp2
  go_ret
  exact ⟨rfl, (by repeat first | exact Lz _ | apply La | apply Lv | apply Ln | apply Ld)⟩
theorem un_abs (x y : Int) (h : bits .andNot .u64 x 9223372036854775808 = y) (w : World) :
    RW Tryz.prog 80 #[fm, .int .i64 0, .int .u64 x] w (.int .u64 y) := by
  have es : sgn true = 9223372036854775808 := rfl
  go_enter Tryz.func80, Tryz.ntmps80
  go_wp2_with fail
  refine (signed_any true _).mono ?_
  rintro e w' ⟨rfl, bs7, n7, rfl⟩
  go_wp2
  go_ret
  exact ⟨rfl, (by repeat first | exact Lz _ | apply La | apply Lv | apply Ln | apply Ld)⟩
theorem un_neg (x y : Int) (h : bits .xor .u64 x 9223372036854775808 = y) (w : World) :
    RW Tryz.prog 80 #[fm, .int .i64 1, .int .u64 x] w (.int .u64 y) := by
  have es : sgn true = 9223372036854775808 := rfl
  go_enter Tryz.func80, Tryz.ntmps80
  go_wp2_with fail
  refine (signed_any true _).mono ?_
  rintro e w' ⟨rfl, bs8, n8, rfl⟩
  go_wp2
  go_ret
  exact ⟨rfl, (by repeat first | exact Lz _ | apply La | apply Lv | apply Ln | apply Ld)⟩
theorem un_root (x : Int) (s i1 n1 : Bool) (m i : Int) (z : Int) (ha : RL Tryz.prog 119 #[fm, .int .u64 x] (fv s i1 n1 m i)) (hr : RL Tryz.prog 128 #[fm, fv s i1 n1 m i] (.int .u64 z)) (w : World) :
    RW Tryz.prog 80 #[fm, .int .i64 6, .int .u64 x] w (.int .u64 z) := by
  go_enter Tryz.func80, Tryz.ntmps80
  go_wp2_with fail
  refine (signed_any true _).mono ?_
  rintro e w' ⟨rfl, bs10, n10, rfl⟩
  go_wp2_with fail
  refine wp_region_quiet_far2 (by kernel_rfl) (by kernel_rfl) ?_
  repeat (quiet_step (first | (go_at_call_of 119 x; exact Calls.far_of (ha.out _)) | (go_at_call 128; exact Calls.far_of (hr.out _))))
  refine wpQuiet_nil ?_
  rintro _ ⟨⟨bq9, nq9⟩, rfl⟩
  go_wp2
  go_ret
  exact ⟨rfl, (by repeat first | exact Lz _ | apply La | apply Lv | apply Ln | apply Ld)⟩
theorem un_whole2 (x z : Int) (hw : RL Tryz.prog 129 #[fm, .int .i64 0, .int .u64 x] (.int .u64 z)) (w : World) :
    RW Tryz.prog 80 #[fm, .int .i64 2, .int .u64 x] w (.int .u64 z) := by
  go_enter Tryz.func80, Tryz.ntmps80
  go_wp2_with fail
  refine (signed_any true _).mono ?_
  rintro e w' ⟨rfl, bs12, n12, rfl⟩
  go_wp2_with fail
  refine (hw.out _).mono ?_
  rintro e w' ⟨rfl, bs11, n11, rfl⟩
  go_wp2
  go_ret
  exact ⟨rfl, (by repeat first | exact Lz _ | apply La | apply Lv | apply Ln | apply Ld)⟩
theorem un_whole3 (x z : Int) (hw : RL Tryz.prog 129 #[fm, .int .i64 1, .int .u64 x] (.int .u64 z)) (w : World) :
    RW Tryz.prog 80 #[fm, .int .i64 3, .int .u64 x] w (.int .u64 z) := by
  go_enter Tryz.func80, Tryz.ntmps80
  go_wp2_with fail
  refine (signed_any true _).mono ?_
  rintro e w' ⟨rfl, bs14, n14, rfl⟩
  go_wp2_with fail
  refine (hw.out _).mono ?_
  rintro e w' ⟨rfl, bs13, n13, rfl⟩
  go_wp2
  go_ret
  exact ⟨rfl, (by repeat first | exact Lz _ | apply La | apply Lv | apply Ln | apply Ld)⟩
theorem un_whole4 (x z : Int) (hw : RL Tryz.prog 129 #[fm, .int .i64 2, .int .u64 x] (.int .u64 z)) (w : World) :
    RW Tryz.prog 80 #[fm, .int .i64 4, .int .u64 x] w (.int .u64 z) := by
  go_enter Tryz.func80, Tryz.ntmps80
  go_wp2_with fail
  refine (signed_any true _).mono ?_
  rintro e w' ⟨rfl, bs16, n16, rfl⟩
  go_wp2_with fail
  refine (hw.out _).mono ?_
  rintro e w' ⟨rfl, bs15, n15, rfl⟩
  go_wp2
  go_ret
  exact ⟨rfl, (by repeat first | exact Lz _ | apply La | apply Lv | apply Ln | apply Ld)⟩
theorem un_whole5 (x z : Int) (hw : RL Tryz.prog 129 #[fm, .int .i64 3, .int .u64 x] (.int .u64 z)) (w : World) :
    RW Tryz.prog 80 #[fm, .int .i64 5, .int .u64 x] w (.int .u64 z) := by
  go_enter Tryz.func80, Tryz.ntmps80
  go_wp2_with fail
  refine (signed_any true _).mono ?_
  rintro e w' ⟨rfl, bs18, n18, rfl⟩
  go_wp2_with fail
  refine (hw.out _).mono ?_
  rintro e w' ⟨rfl, bs17, n17, rfl⟩
  go_wp2
  go_ret
  exact ⟨rfl, (by repeat first | exact Lz _ | apply La | apply Lv | apply Ln | apply Ld)⟩
end Go.Proofs.YtdfgcagbpndabaaGreatDoor.D
