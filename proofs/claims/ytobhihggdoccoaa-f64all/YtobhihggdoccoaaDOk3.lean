/- Contracts of the document's floats (pelorusref4), over this seat's translation: roots and whole numbers of finite floats are the model's. -/
import Derived.Test.YtobhihggdoccoaaDOk
import Derived.Test.YtobhihggdoccoaaFMask
import Derived.Test.YtobhihggdoccoaaFFar2
import Derived.WalkLawsBesides
import Derived.RegionCalls
import Derived.Deep.RegionWith
namespace Go.Proofs.Ytobhihggdoccoaa.D
open Go.RowKit
open Go.FM (W64 two bl lost isN qn)
set_option linter.unusedVariables false

theorem root_words (m c by1 : Nat) (hb : by1 = c + 64) : two (m * 2 ^ c) 0 = m * 2 ^ by1 := by
  unfold two
  rw [Nat.add_zero, hb, Nat.pow_add, ← Nat.mul_assoc]
/-- the document's root of a positive float -/
theorem root_ok (x m z : Nat) (i : Int) (hx : ff.read x = .number false m i) (hm : m ≠ 0) (hml : m < 9007199254740992) (hi : -3000 ≤ i ∧ i ≤ 3000) (hz : ff.sqrt x = some z) (w : World) :
    Calls Try.prog 51 #[fm, fv false false false (m : Nat) i] w fun e w' => e = .returned (.int .u64 (z : Nat)) ∧ Later w w' := by
  obtain ⟨m1, m2⟩ := beq_no hm
  have hfb : ff.fractionBits ≤ 52 := by decide
  have hmb : m < 2 * ff.binade := by rw [ff_bin]; omega
  have hb : bl m ≤ 53 := FM.bl_le m 53 hml
  obtain ⟨b1, b2, b3⟩ := FM.pow_bl m hm
  have hbl := FM.bl_log m hm
  have hp : Hid (∀ w : World, Calls Try.prog 71 #[.int .u64 (m : Int)] w fun e w' => e = .returned (.int .i64 ((64 - bl m : Nat) : Int)) ∧ w' = w) := fun w => by
    have := lead_any m (by simp only [W64]; omega) w
    rw [show (64 : Int) - (bl m : Nat) = ((64 - bl m : Nat) : Int) from by omega] at this
    exact this
  -- what both ways share: by1 = c + 64, an even place
  have fin : ∀ (c by1 : Nat) (P : Int), by1 = c + 64 → bl m + c ≤ 62 → 125 ≤ bl m + by1 → i - (by1 : Int) = 2 * P →
      ∃ (H R : Nat) (u1 u2 a b y2 : Int), IntKind.u64.wrap ((m : Int) * 2 ^ c) = (H : Int) ∧ H < W64 ∧ Hid (FM.IsRoot (two H 0) R) ∧
      Hid (∀ w : World, Calls Try.prog 73 #[.int .u64 (R : Nat), .int .u64 (R : Nat)] w fun e w' => e = .returned (.tuple #[.int .u64 u1, .int .u64 u2]) ∧ w' = w) ∧
      Hid (∀ w : World, Calls Try.prog 72 #[.int .u64 (R : Nat), .int .i64 1] w fun e w' => e = .returned (.tuple #[.int .u64 a, .int .u64 b]) ∧ Later w w') ∧
      Hid ((u1 = (H : Int) ∧ u2 = 0 ∧ y2 = b) ∨ (¬ u1 = (H : Int) ∧ bits .or .u64 b 1 = y2) ∨ (u1 = (H : Int) ∧ ¬ u2 = 0 ∧ bits .or .u64 b 1 = y2)) ∧
      IntKind.i64.wrap ((i - (by1 : Int)).tdiv 2) = P ∧ IntKind.i64.wrap (P - 1) = P - 1 ∧
      Hid (∀ w : World, Calls Try.prog 74 #[fm, .bool false, .int .u64 a, .int .u64 y2, .int .i64 (P - 1)] w fun e w' => e = .returned (.int .u64 (z : Nat)) ∧ Later w w') := by
    intro c by1 P h1 h2 h3 h4
    have hH : m * 2 ^ c < 2 ^ 62 := by
      have : m * 2 ^ c < 2 ^ bl m * 2 ^ c := Nat.mul_lt_mul_of_pos_right b2 (Nat.two_pow_pos c)
      rw [← Nat.pow_add] at this
      exact Nat.lt_of_lt_of_le this (Nat.pow_le_pow_right (by decide) h2)
    have hN := root_words m c by1 h1
    obtain ⟨R, hR⟩ : ∃ R, FM.IsRoot (m * 2 ^ by1) R := ⟨_, FM.rootFrom_root _⟩
    have hzz := some_nat (FM.glue_sqrt ff x m by1 R i P hx hm hmb hfb (by omega) h4 hR) hz
    have hNb : m * 2 ^ by1 < 2 ^ 126 := by
      rw [h1, Nat.pow_add, ← Nat.mul_assoc]
      generalize m * 2 ^ c = H at *
      omega
    have hRb : R < 2 ^ 63 := FM.root_lt hR hNb
    have hRw : R < W64 := by simp only [W64]; omega
    have hor : bits .or .u64 ((R * 2 ^ 1 % W64 : Nat) : Int) 1 = ((R * 2 ^ 1 % W64 + 1 : Nat) : Int) := by
      have a1 := FM.or_u (R * 2 ^ 1 % W64) 1 (Nat.mod_lt _ (by decide)) (by decide)
      have a2 := FM.or_add (R * 2 ^ 1 % W64 / 2) 1 1 (by decide)
      rw [show R * 2 ^ 1 % W64 / 2 * 2 ^ 1 = R * 2 ^ 1 % W64 from by simp only [W64]; omega] at a2
      rw [a2] at a1
      exact a1
    refine ⟨m * 2 ^ c, R, ((R * R / W64 : Nat) : Int), ((R * R % W64 : Nat) : Int), ((R * 2 ^ 1 / W64 : Nat) : Int), ((R * 2 ^ 1 % W64 : Nat) : Int), ((R * 2 ^ 1 % W64 + (if R * R = m * 2 ^ by1 then 0 else 1) : Nat) : Int), ?_, by simp only [W64]; omega, by show FM.IsRoot _ _; rw [hN]; exact hR, fun w => mul_any R R hRw hRw w, fun w => up_any R 1 hRw (by decide) (by omega) w, ?_, ?_, ?_, fun w => ?_⟩
    · have e : (m : Int) * 2 ^ c = ((m * 2 ^ c : Nat) : Int) := by rw [Int.natCast_mul, Int.natCast_pow]; rfl
      rw [e, IntKind.wrap_u64]; omega
    · show _ ∨ _
      have hle := FM.two_parts (R * R)
      by_cases hq : R * R = m * 2 ^ by1
      · left
        rw [if_pos hq, Nat.add_zero]
        rw [hq, ← hN] at *
        refine ⟨?_, ?_, rfl⟩
        · unfold two; simp only [W64]; omega
        · unfold two; simp only [W64]; omega
      · right
        rw [if_neg hq]
        by_cases hu : R * R / W64 = m * 2 ^ c
        · right
          refine ⟨by rw [hu], ?_, hor⟩
          intro g
          apply hq
          have g' : R * R % W64 = 0 := by omega
          rw [← hle, hu, g', hN]
        · left
          exact ⟨fun g => hu (Int.ofNat_inj.1 g), hor⟩
    · rw [h4, Int.mul_tdiv_cancel_left P (by decide), IntKind.wrap_i64]; omega
    · rw [IntKind.wrap_i64]; omega
    · have := round_any false (R * 2 ^ 1 / W64) (R * 2 ^ 1 % W64 + (if R * R = m * 2 ^ by1 then 0 else 1)) (P - 1) (by simp only [W64]; omega) (by simp only [W64]; split <;> omega) (by omega) (by omega) w
      rw [show two (R * 2 ^ 1 / W64) (R * 2 ^ 1 % W64 + (if R * R = m * 2 ^ by1 then 0 else 1)) = FM.rs (m * 2 ^ by1) R from by unfold two FM.rs; simp only [W64]; split <;> omega, hzz] at this
      exact this
  have e64 : IntKind.i64.wrap (64 + ((64 - bl m : Nat) : Int)) = 128 - (bl m : Int) := by rw [IntKind.wrap_i64]; omega
  have e62 : IntKind.i64.wrap (128 - (bl m : Int) - 2) = 126 - (bl m : Int) := by rw [IntKind.wrap_i64]; omega
  have ed : IntKind.i64.wrap (i - (126 - (bl m : Int))) = i - (126 - (bl m : Int)) := by rw [IntKind.wrap_i64]; omega
  have eo := FM.and1 (i - (126 - (bl m : Int)))
  have hoo : (i - (126 - (bl m : Int))) % 2 = 0 ∨ (i - (126 - (bl m : Int))) % 2 = 1 := by omega
  rcases hoo with ho | ho
  · rw [ho] at eo
    obtain ⟨P, hP⟩ : ∃ P, i - ((126 - bl m : Nat) : Int) = 2 * P := ⟨(i - (126 - (bl m : Int))) / 2, by omega⟩
    obtain ⟨H, R, u1, u2, a, b, y2, f1, f2, f3, f4, f5, f6, f7, f8, f9⟩ := fin (62 - bl m) (126 - bl m) P (by omega) (by omega) (by omega) hP
    have eby : (126 : Int) - (bl m : Int) = ((126 - bl m : Nat) : Int) := by omega
    refine root_fin0 m i (64 - bl m) (62 - bl m) H R _ _ _ ((126 - bl m : Nat) : Int) _ _ _ u1 u2 a b y2 z m1 m2 hp (by omega) e64 e62 ed eo eby (by omega) (by rw [IntKind.wrap_i64]; omega) (by omega) f1 f2 f3 f4 f5 f6 rfl ?_ f8 f9 w
    rw [eby]; exact f7
  · rw [ho] at eo
    obtain ⟨P, hP⟩ : ∃ P, i - ((125 - bl m : Nat) : Int) = 2 * P := ⟨(i - (125 - (bl m : Int))) / 2, by omega⟩
    obtain ⟨H, R, u1, u2, a, b, y2, f1, f2, f3, f4, f5, f6, f7, f8, f9⟩ := fin (61 - bl m) (125 - bl m) P (by omega) (by omega) (by omega) hP
    exact root_fin1 m i (64 - bl m) (61 - bl m) H R _ _ _ ((125 - bl m : Nat) : Int) _ _ _ u1 u2 a b y2 z m1 m2 hp (by omega) e64 e62 ed eo (by rw [IntKind.wrap_i64]; omega) (by omega) (by rw [IntKind.wrap_i64]; omega) (by omega) f1 f2 f3 f4 f5 f6 (by rw [IntKind.wrap_i64]; omega) f7 f8 f9 w
/-- shifts down of one word -/
theorem down_one (m d : Nat) (hm : m ≠ 0) (hml : m < 9007199254740992) (hd : 0 < d) (hd1 : d ≤ 3000) : Hid (∀ w : World, Calls Try.prog 77 #[.int .u64 0, .int .u64 (m : Nat), .int .i64 (d : Nat)] w fun e w' => e = .returned (.tuple #[.int .u64 0, .int .u64 ((m / 2 ^ d : Nat) : Int), .int .i64 (lost m d)]) ∧ Later w w') := by
  intro w
  have hmw : m < W64 := by simp only [W64]; omega
  have htw : two 0 m = m := by unfold two; rw [Nat.zero_mul, Nat.zero_add]
  obtain ⟨k, rfl⟩ : ∃ k, d = k + 1 := ⟨d - 1, by omega⟩
  rcases Nat.lt_or_ge k 128 with h | h
  · exact down_mid 0 m k _ _ (by decide) hmw h (by rw [htw]) (Nat.lt_of_le_of_lt (Nat.div_le_self _ _) hmw) (by rw [htw]) w
  · have hp : 2 * m < 2 ^ (k + 1) := by
      have : 2 ^ 65 ≤ 2 ^ (k + 1) := Nat.pow_le_pow_right (by decide) (by omega)
      simp only [W64] at hmw
      omega
    have h1 : m / 2 ^ (k + 1) = 0 := Nat.div_eq_of_lt (by omega)
    have h2 : lost m (k + 1) = -1 := by unfold lost; rw [Nat.mod_eq_of_lt (by omega), if_neg hm, if_pos hp]
    rw [h1, h2]
    exact down_far 0 m _ (by omega) (or_ne 0 m (by decide) hmw (by rw [htw]; exact hm)) w
/-- the document's whole number of a finite float that is none -/
theorem cut_neg (way : Ieee.Toward) (s : Bool) (m : Nat) (i : Int) (hi : i < 0) : way.cut s (m <<< i.toNat) (-i).toNat = way.cut s m (-i).toNat := by
  rw [show i.toNat = 0 from by omega, Nat.shiftLeft_zero]
theorem whole_up_ok (x m : Nat) (s : Bool) (i : Int) (ha : Hid (∀ w : World, Calls Try.prog 52 #[fm, .int .u64 (x : Nat)] w fun e w' => e = .returned (fv s false false (m : Nat) i) ∧ Later w w')) (hm : m ≠ 0) (hml : m < 9007199254740992) (hi : -3000 ≤ i ∧ i < 0) (w : World) :
    Calls Try.prog 53 #[fm, .int .i64 0, .int .u64 (x : Nat)] w fun e w' => e = .returned (.int .u64 ((ff.nearest s (Ieee.Toward.up.cut s (m <<< i.toNat) (-i).toNat) 0 : Nat) : Int)) ∧ Later w w' := by
  obtain ⟨m1, m2⟩ := beq_no hm
  rw [cut_neg .up s m i hi.2, FM.glue_up]
  have hn0 : ¬ 0 ≤ i := by omega
  have hnb : IntKind.i64.wrap (-i) = (((-i).toNat : Nat) : Int) := by rw [IntKind.wrap_i64]; omega
  have hd := down_one m (-i).toNat hm hml (by omega) (by omega)
  have hML : m / 2 ^ (-i).toNat < 9007199254740992 := Nat.lt_of_le_of_lt (Nat.div_le_self _ _) hml
  generalize m / 2 ^ (-i).toNat = M at *
  have hM1 : IntKind.u64.wrap ((M : Int) + 1) = ((M + 1 : Nat) : Int) := by rw [IntKind.wrap_u64]; omega
  have rd : ∀ K : Nat, K ≤ 9007199254740992 → Hid (∀ w : World, Calls Try.prog 74 #[fm, .bool s, .int .u64 0, .int .u64 (K : Int), .int .i64 0] w fun e w' => e = .returned (.int .u64 ((ff.nearest s K 0 : Nat) : Int)) ∧ Later w w') := by
    intro K hK w
    have := round_any s 0 K 0 (by decide) (by simp only [W64]; omega) (by decide) (by decide) w
    rw [show two 0 K = K from by unfold two; rw [Nat.zero_mul, Nat.zero_add]] at this
    exact this
  generalize hL : lost m (-i).toNat = L at *
  cases s
  · by_cases hl : L = 2
    · subst hl
      rw [if_neg (fun g => g.2 rfl), Nat.add_zero]
      exact whole_u2 x m i 0 M _ _ _ m1 m2 hn0 hnb ha hd rfl (rd M (by omega)) w
    · rw [if_pos ⟨rfl, hl⟩]
      exact whole_u1 x m i 0 M _ _ _ L m1 m2 hn0 hnb ha hd hM1 (by rw [beq_eq_false_iff_ne]; exact hl) hl (rd (M + 1) (by omega)) w
  · rw [if_neg (fun g => by cases g.1), Nat.add_zero]
    exact whole_u3 x m i 0 M _ _ _ L m1 m2 hn0 hnb ha hd rfl (rd M (by omega)) w
theorem whole_down_ok (x m : Nat) (s : Bool) (i : Int) (ha : Hid (∀ w : World, Calls Try.prog 52 #[fm, .int .u64 (x : Nat)] w fun e w' => e = .returned (fv s false false (m : Nat) i) ∧ Later w w')) (hm : m ≠ 0) (hml : m < 9007199254740992) (hi : -3000 ≤ i ∧ i < 0) (w : World) :
    Calls Try.prog 53 #[fm, .int .i64 1, .int .u64 (x : Nat)] w fun e w' => e = .returned (.int .u64 ((ff.nearest s (Ieee.Toward.down.cut s (m <<< i.toNat) (-i).toNat) 0 : Nat) : Int)) ∧ Later w w' := by
  obtain ⟨m1, m2⟩ := beq_no hm
  rw [cut_neg .down s m i hi.2, FM.glue_down]
  have hn0 : ¬ 0 ≤ i := by omega
  have hnb : IntKind.i64.wrap (-i) = (((-i).toNat : Nat) : Int) := by rw [IntKind.wrap_i64]; omega
  have hd := down_one m (-i).toNat hm hml (by omega) (by omega)
  have hML : m / 2 ^ (-i).toNat < 9007199254740992 := Nat.lt_of_le_of_lt (Nat.div_le_self _ _) hml
  generalize m / 2 ^ (-i).toNat = M at *
  have hM1 : IntKind.u64.wrap ((M : Int) + 1) = ((M + 1 : Nat) : Int) := by rw [IntKind.wrap_u64]; omega
  have rd : ∀ K : Nat, K ≤ 9007199254740992 → Hid (∀ w : World, Calls Try.prog 74 #[fm, .bool s, .int .u64 0, .int .u64 (K : Int), .int .i64 0] w fun e w' => e = .returned (.int .u64 ((ff.nearest s K 0 : Nat) : Int)) ∧ Later w w') := by
    intro K hK w
    have := round_any s 0 K 0 (by decide) (by simp only [W64]; omega) (by decide) (by decide) w
    rw [show two 0 K = K from by unfold two; rw [Nat.zero_mul, Nat.zero_add]] at this
    exact this
  generalize hL : lost m (-i).toNat = L at *
  cases s
  · rw [if_neg (fun g => by cases g.1), Nat.add_zero]
    exact whole_d3 x m i 0 M _ _ _ L m1 m2 hn0 hnb ha hd rfl (rd M (by omega)) w
  · by_cases hl : L = 2
    · subst hl
      rw [if_neg (fun g => g.2 rfl), Nat.add_zero]
      exact whole_d2 x m i 0 M _ _ _ m1 m2 hn0 hnb ha hd rfl (rd M (by omega)) w
    · rw [if_pos ⟨rfl, hl⟩]
      exact whole_d1 x m i 0 M _ _ _ L m1 m2 hn0 hnb ha hd hM1 (by rw [beq_eq_false_iff_ne]; exact hl) hl (rd (M + 1) (by omega)) w
theorem whole_zero_ok (x m : Nat) (s : Bool) (i : Int) (ha : Hid (∀ w : World, Calls Try.prog 52 #[fm, .int .u64 (x : Nat)] w fun e w' => e = .returned (fv s false false (m : Nat) i) ∧ Later w w')) (hm : m ≠ 0) (hml : m < 9007199254740992) (hi : -3000 ≤ i ∧ i < 0) (w : World) :
    Calls Try.prog 53 #[fm, .int .i64 2, .int .u64 (x : Nat)] w fun e w' => e = .returned (.int .u64 ((ff.nearest s (Ieee.Toward.zero.cut s (m <<< i.toNat) (-i).toNat) 0 : Nat) : Int)) ∧ Later w w' := by
  obtain ⟨m1, m2⟩ := beq_no hm
  rw [cut_neg .zero s m i hi.2, FM.glue_cut]
  have hn0 : ¬ 0 ≤ i := by omega
  have hnb : IntKind.i64.wrap (-i) = (((-i).toNat : Nat) : Int) := by rw [IntKind.wrap_i64]; omega
  have hd := down_one m (-i).toNat hm hml (by omega) (by omega)
  have hML : m / 2 ^ (-i).toNat < 9007199254740992 := Nat.lt_of_le_of_lt (Nat.div_le_self _ _) hml
  generalize m / 2 ^ (-i).toNat = M at *
  have hM1 : IntKind.u64.wrap ((M : Int) + 1) = ((M + 1 : Nat) : Int) := by rw [IntKind.wrap_u64]; omega
  have rd : ∀ K : Nat, K ≤ 9007199254740992 → Hid (∀ w : World, Calls Try.prog 74 #[fm, .bool s, .int .u64 0, .int .u64 (K : Int), .int .i64 0] w fun e w' => e = .returned (.int .u64 ((ff.nearest s K 0 : Nat) : Int)) ∧ Later w w') := by
    intro K hK w
    have := round_any s 0 K 0 (by decide) (by simp only [W64]; omega) (by decide) (by decide) w
    rw [show two 0 K = K from by unfold two; rw [Nat.zero_mul, Nat.zero_add]] at this
    exact this
  exact whole_z x m i 0 M _ _ _ s _ m1 m2 hn0 hnb ha hd rfl (rd M (by omega)) w
theorem whole_even_ok (x m : Nat) (s : Bool) (i : Int) (ha : Hid (∀ w : World, Calls Try.prog 52 #[fm, .int .u64 (x : Nat)] w fun e w' => e = .returned (fv s false false (m : Nat) i) ∧ Later w w')) (hm : m ≠ 0) (hml : m < 9007199254740992) (hi : -3000 ≤ i ∧ i < 0) (w : World) :
    Calls Try.prog 53 #[fm, .int .i64 3, .int .u64 (x : Nat)] w fun e w' => e = .returned (.int .u64 ((ff.nearest s (Ieee.Toward.even.cut s (m <<< i.toNat) (-i).toNat) 0 : Nat) : Int)) ∧ Later w w' := by
  obtain ⟨m1, m2⟩ := beq_no hm
  rw [cut_neg .even s m i hi.2, FM.glue_even]
  have hn0 : ¬ 0 ≤ i := by omega
  have hnb : IntKind.i64.wrap (-i) = (((-i).toNat : Nat) : Int) := by rw [IntKind.wrap_i64]; omega
  have hd := down_one m (-i).toNat hm hml (by omega) (by omega)
  have hML : m / 2 ^ (-i).toNat < 9007199254740992 := Nat.lt_of_le_of_lt (Nat.div_le_self _ _) hml
  generalize m / 2 ^ (-i).toNat = M at *
  have hM1 : IntKind.u64.wrap ((M : Int) + 1) = ((M + 1 : Nat) : Int) := by rw [IntKind.wrap_u64]; omega
  have rd : ∀ K : Nat, K ≤ 9007199254740992 → Hid (∀ w : World, Calls Try.prog 74 #[fm, .bool s, .int .u64 0, .int .u64 (K : Int), .int .i64 0] w fun e w' => e = .returned (.int .u64 ((ff.nearest s K 0 : Nat) : Int)) ∧ Later w w') := by
    intro K hK w
    have := round_any s 0 K 0 (by decide) (by simp only [W64]; omega) (by decide) (by decide) w
    rw [show two 0 K = K from by unfold two; rw [Nat.zero_mul, Nat.zero_add]] at this
    exact this
  have hcc : lost m (-i).toNat = 1 ∨ lost m (-i).toNat = 0 ∨ lost m (-i).toNat = -1 ∨ lost m (-i).toNat = 2 := by
    unfold lost; split; exact Or.inr (Or.inr (Or.inr rfl)); split; exact Or.inr (Or.inr (Or.inl rfl)); split; exact Or.inr (Or.inl rfl); exact Or.inl rfl
  have ho := FM.and1_u M (by simp only [W64]; omega)
  generalize hL : lost m (-i).toNat = L at *
  rcases hcc with rfl | rfl | rfl | rfl
  · rw [if_pos (Or.inl rfl)]
    exact whole_n1 x m i 0 M _ _ _ s m1 m2 hn0 hnb ha hd hM1 (rd (M + 1) (by omega)) w
  · rcases Nat.mod_two_eq_zero_or_one M with h2 | h2
    · rw [if_neg (by omega), Nat.add_zero]
      rw [h2] at ho
      exact whole_n3 x m i 0 M _ _ _ s m1 m2 hn0 hnb ha hd rfl ho (rd M (by omega)) w
    · rw [if_pos (Or.inr ⟨rfl, h2⟩)]
      rw [h2] at ho
      exact whole_n2 x m i 0 M _ _ _ s m1 m2 hn0 hnb ha hd hM1 ho (rd (M + 1) (by omega)) w
  · rw [if_neg (by omega), Nat.add_zero]
    exact whole_n4 x m i 0 M _ _ _ s m1 m2 hn0 hnb ha hd rfl (rd M (by omega)) w
  · rw [if_neg (by omega), Nat.add_zero]
    exact whole_n5 x m i 0 M _ _ _ s m1 m2 hn0 hnb ha hd rfl (rd M (by omega)) w
end Go.Proofs.Ytobhihggdoccoaa.D
