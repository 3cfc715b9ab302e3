/- Contract of the document's rounding (pelorusref4), over this seat's translation: every number is rounded to the nearest float. -/
import Derived.Test.YtibfjlibkaejnaaDRound
namespace Go.Proofs.Ytibfjlibkaejnaa.D
open Go.RowKit
open Go.FM (W64 two bl lost byOf kept)
set_option linter.unusedVariables false

theorem lost_none (M : Nat) : lost M 0 = 2 := by unfold lost; rw [Nat.pow_zero, Nat.mod_one, if_pos rfl]
theorem two_nil (hi lo : Nat) (h : two hi lo = 0) : hi = 0 ∧ lo = 0 := by unfold two at h; simp only [W64] at h; omega
theorem small_hi (hi lo : Nat) (hlo : lo < W64) (h : bl (two hi lo) ≤ 64) : hi = 0 ∧ two hi lo = lo := by
  have h0 : hi = 0 := by
    rcases Nat.eq_zero_or_pos hi with h1 | h1
    · exact h1
    · have := FM.bl_two hi lo (by omega) hlo
      unfold two at h
      rw [this] at h
      have : 1 ≤ bl hi := by unfold bl; rw [if_neg (by omega)]; omega
      omega
  refine ⟨h0, ?_⟩
  unfold two; rw [h0, Nat.zero_mul, Nat.zero_add]
theorem down_mid (hi lo k m : Nat) (c : Int) (hhi : hi < W64) (hlo : lo < W64) (hk : k < 128) (hm : two hi lo / 2 ^ (k + 1) = m) (hml : m < W64) (hc : lost (two hi lo) (k + 1) = c) (w : World) :
    Calls Try.prog 38 #[.int .u64 (hi : Nat), .int .u64 (lo : Nat), .int .i64 ((k + 1 : Nat) : Int)] w fun e w' => e = .returned (.tuple #[.int .u64 (0 : Nat), .int .u64 (m : Nat), .int .i64 c]) ∧ Later w w' :=
  down_some hi lo k 0 m c _ hhi hlo hk rfl (by show _ = _; rw [hm, Nat.div_eq_of_lt hml]) (by show _ = _; rw [hm, Nat.mod_eq_of_lt hml]) hc w
theorem neg_bl (lo k : Nat) (h0 : lo ≠ 0) (hk : k = 53 - bl lo) (h : bl lo ≤ 53) : lo * 2 ^ k < 9007199254740992 := by
  have h1 := (FM.pow_bl lo h0).2.1
  have h2 : lo * 2 ^ k < 2 ^ bl lo * 2 ^ k := Nat.mul_lt_mul_of_pos_right h1 (Nat.two_pow_pos k)
  rw [← Nat.pow_add, show bl lo + k = 53 from by omega] at h2
  exact h2
set_option maxHeartbeats 2000000 in
theorem round_dn (neg : Bool) (lo : Nat) (x : Int) (k : Nat) (hlo : lo < W64) (he : -10000 ≤ x) (he1 : x ≤ 10000) (h : lo ≠ 0) (hb : byOf ff lo x = -(k : Int)) (hk0 : 0 < k) (w : World) :
    Calls Try.prog 39 #[fm, .bool neg, .int .u64 0, .int .u64 (lo : Nat), .int .i64 x] w fun e w' => e = .returned (.int .u64 (ff.nearest neg lo x : Nat)) ∧ Later w w' := by
  have htw : two 0 lo = lo := by unfold two; rw [Nat.zero_mul, Nat.zero_add]
  have hz := or_ne 0 lo (by decide) hlo (by rw [htw]; exact h)
  have hfb : ff.fractionBits = 52 := rfl
  have hlp : ff.leastPlace = -1074 := by decide +kernel
  have hbd : byOf ff lo x = max ((bl lo : Int) - 52 - 1) (-1074 - x) := by unfold byOf; rw [hfb, hlp]; rfl
  rw [hb] at hbd
  have hn : bl lo ≤ 53 := by omega
  have hkb : k ≤ 53 - bl lo := by omega
  have hm := neg_bl lo (53 - bl lo) h rfl hn
  have hm2 : lo * 2 ^ k < 9007199254740992 := Nat.lt_of_le_of_lt (Nat.mul_le_mul_left lo (Nat.pow_le_pow_right (by decide) hkb)) hm
  have hK : kept ff lo x = lo * 2 ^ k := by
    unfold kept
    rw [hb, show (-(k : Int)).toNat = 0 from by omega, FM.keep_zero, show (- -(k : Int)).toNat = k from by omega]
  have hks := FM.kept_small ff lo x h
  rw [hfb, hlp, hb, hK] at hks
  have e1 := wr1 (bl lo) (by omega)
  have e2 := wr2 (bl lo) (by omega)
  have e3 := wr3 x he he1
  have eb := wr4 (bl lo) x (-(k : Int)) hbd
  obtain ⟨E, hE⟩ : ∃ E, x + -(k : Int) = E := ⟨_, rfl⟩
  obtain ⟨hE0, hE1, hb1⟩ := wr5 (bl lo) x (-(k : Int)) E (by omega) he he1 hbd hE
  have hEb : x + byOf ff lo x = E := by rw [hb]; exact hE
  have p0 : (2 : Nat) ^ 52 = 4503599627370496 := by decide
  rw [p0] at hks
  have hwr : IntKind.u64.wrap ((lo : Int) * 2 ^ k) = ((lo * 2 ^ k : Nat) : Int) := by
    have e : (lo : Int) * 2 ^ k = ((lo * 2 ^ k : Nat) : Int) := by rw [Int.natCast_mul, Int.natCast_pow]; rfl
    rw [e, IntKind.wrap_u64]; omega
  have hk1 : k ≤ 64 := by omega
  clear hbd hm hfb hlp hn
  generalize hKK : lo * 2 ^ k = K at *
  have hmm := FM.and1_u K (by simp only [W64]; omega)
  have hd : ∀ w : World, Calls Try.prog 38 #[.int .u64 0, .int .u64 (K : Nat), .int .i64 (-(k : Int))] w fun e w' => e = .returned (.tuple #[.int .u64 (0 : Nat), .int .u64 (K : Nat), .int .i64 2]) ∧ Later w w' :=
    fun w => (down_none 0 K (-(k : Int)) (by omega) (by omega) w).mono fun e w' h => ⟨h.1, by rw [h.2]; exact Later.refl _⟩
  have hnn : Hid (bl (two 0 lo) = bl lo) := by show _ = _; rw [htw]
  by_cases k2 : K < 4503599627370496
  · have hEl : E = -1074 := by rw [← hE]; exact hks k2
    have Hw := word_fin neg lo x E K h hEb (by rw [hK]; omega) (by omega)
    rw [Hw]
    exact round_neg3 neg 0 lo _ 0 K _ x 0 _ _ _ E 2 (K : Int) k K _ (by decide) hlo hz hnn e1 e2 e3 eb hk1 hk0 hwr hE hd he he1 hE0 hE1 hmm (by omega) rfl rfl (by omega) (or_sgn neg K (by omega)) (by omega) w
  · rcases Int.lt_or_le (E + 1074 + 1) 2047 with hX | hX
    · obtain ⟨X, hXe⟩ : ∃ X : Nat, E + 1074 + 1 = (X : Int) := ⟨(E + 1074 + 1).toNat, by omega⟩
      have Hw := word_fin neg lo x E (X * 4503599627370496 + (K - 4503599627370496)) h hEb (by rw [hK]; omega) (by omega)
      rw [Hw]
      exact round_neg5 neg 0 lo _ 0 K _ x 0 _ _ _ E 2 (K : Int) k K (X : Int) (X * 4503599627370496) (K - 4503599627370496) (ff.word neg (X * 4503599627370496)) _ (by decide) hlo hz hnn e1 e2 e3 eb hk1 hk0 hwr hE hd he he1 hE0 hE1 hmm (by omega) rfl rfl (by omega) (by omega) hXe (by omega) (by omega) (wr6 X (by rw [← hXe]; exact hX)).1 (wr6 X (by rw [← hXe]; exact hX)).2.1 (low_frac K (by omega) (by omega)) (or_sgn neg _ (wr6 X (by rw [← hXe]; exact hX)).2.2) (or_word neg X (K - 4503599627370496) (by omega) (by omega)) w
    · rw [← word_inf neg lo x E h hEb (by rw [hK]; omega)]
      exact round_neg4 neg 0 lo _ 0 K _ x 0 _ _ _ E 2 (K : Int) k K _ (by decide) hlo hz hnn e1 e2 e3 eb hk1 hk0 hwr hE hd he he1 hE0 hE1 hmm (by omega) rfl rfl (by omega) (by omega) rfl hX w
/-- the document's rounding gives the nearest float -/
theorem round_any (neg : Bool) (hi lo : Nat) (x : Int) (hhi : hi < W64) (hlo : lo < W64) (he : -10000 ≤ x) (he1 : x ≤ 10000) (w : World) :
    Calls Try.prog 39 #[fm, .bool neg, .int .u64 (hi : Nat), .int .u64 (lo : Nat), .int .i64 x] w fun e w' => e = .returned (.int .u64 (ff.nearest neg (two hi lo) x : Nat)) ∧ Later w w' := by
  by_cases h : two hi lo = 0
  · obtain ⟨h1, h2⟩ := two_nil hi lo h
    rw [h, FM.nearest_zero]
    subst h1; subst h2
    have := round_zero neg x w
    have e := sgn_word neg 0
    rw [show sgn neg + ((0 : Nat) : Int) = sgn neg from Int.add_zero _] at e
    rw [e] at this
    exact this
  have hfb : ff.fractionBits = 52 := rfl
  have hn : bl (two hi lo) ≤ 128 := FM.bl_le _ _ (FM.two_lt hi lo hhi hlo)
  have hby : (bl (two hi lo) : Int) - 52 - 1 ≤ byOf ff (two hi lo) x := by unfold byOf; rw [hfb]; omega
  have hkl := FM.kept_le ff (two hi lo) x h
  have hkw : kept ff (two hi lo) x < W64 := by
    have e1 : (2 : Nat) ^ (52 + 1) = 9007199254740992 := by decide
    rw [hfb, e1] at hkl
    simp only [W64]; omega
  rcases Int.lt_trichotomy (byOf ff (two hi lo) x) 0 with hb | hb | hb
  · obtain ⟨h1, h2⟩ := small_hi hi lo hlo (by omega)
    obtain ⟨k, hk⟩ : ∃ k : Nat, byOf ff (two hi lo) x = -(k : Int) := ⟨(-byOf ff (two hi lo) x).toNat, by omega⟩
    rw [h2] at hk h ⊢
    subst h1
    exact round_dn neg lo x k hlo he he1 h hk (by rw [h2, hk] at hb; omega) w
  · obtain ⟨h1, h2⟩ := small_hi hi lo hlo (by omega)
    exact round_up neg hi lo hi lo x 0 2 hhi hlo he he1 h hb (by omega) (by rw [show (0 : Int).toNat = 0 from rfl, Nat.pow_zero, Nat.div_one, h2]) (by rw [show (0 : Int).toNat = 0 from rfl, lost_none])
      (fun w => (down_none hi lo 0 (by omega) (by omega) w).mono fun e w' h => ⟨h.1, by rw [h.2]; exact Later.refl _⟩) w
  · obtain ⟨k, hk⟩ : ∃ k : Nat, byOf ff (two hi lo) x = ((k + 1 : Nat) : Int) := ⟨(byOf ff (two hi lo) x - 1).toNat, by omega⟩
    have ht : ((k + 1 : Nat) : Int).toNat = k + 1 := by omega
    rcases Nat.lt_or_ge k 128 with h128 | h128
    · have hmw : two hi lo / 2 ^ (k + 1) < W64 := by
        refine Nat.lt_of_le_of_lt ?_ hkw
        have := (FM.keep_bounds (two hi lo) (k + 1)).1
        unfold kept
        rw [hk, ht, show (-((k + 1 : Nat) : Int)).toNat = 0 from by omega, Nat.pow_zero, Nat.mul_one]
        exact this
      exact round_up neg hi lo 0 _ x _ _ hhi hlo he he1 h hk (by omega) (by rw [ht]) (by rw [ht]) (fun w => down_mid hi lo k _ _ hhi hlo h128 rfl hmw rfl w) w
    · have htl := FM.two_lt hi lo hhi hlo
      have hp : 2 * two hi lo < 2 ^ (k + 1) := by
        rw [Nat.pow_succ, Nat.mul_comm]
        exact Nat.mul_lt_mul_of_pos_right (Nat.lt_of_lt_of_le htl (Nat.pow_le_pow_right (by decide) h128)) (by decide)
      have hd : two hi lo / 2 ^ (k + 1) = 0 := Nat.div_eq_of_lt (by omega)
      have hl : lost (two hi lo) (k + 1) = -1 := by
        unfold lost
        rw [Nat.mod_eq_of_lt (by omega), if_neg h, if_pos hp]
      exact round_up neg hi lo 0 0 x _ (-1) hhi hlo he he1 h hk (by omega) (by rw [ht, hd]) (by rw [ht, hl]) (fun w => down_far hi lo _ (by omega) (or_ne hi lo hhi hlo h) w) w
end Go.Proofs.Ytibfjlibkaejnaa.D
