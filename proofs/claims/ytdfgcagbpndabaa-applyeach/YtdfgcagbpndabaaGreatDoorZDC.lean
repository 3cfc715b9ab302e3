/- Contract of the document's rounding (pelorusref4), over this seat's translation: it gives the nearest float. -/
import Derived.Test.YtdfgcagbpndabaaGreatDoorZDB
import Derived.RegionCalls
import Derived.Deep.RegionWith
import Derived.Test.YtdfgcagbpndabaaGreatDoorZB
import Derived.Test.YtdfgcagbpndabaaGreatDoorZC
set_option linter.unusedVariables false
set_option maxHeartbeats 4000000
set_option maxRecDepth 100000
namespace Go.Proofs.YtdfgcagbpndabaaGreatDoor.D
open Go.RowKit
open Go.FM (W64 two bl lost byOf kept)
abbrev ff : Ieee.Format := Ieee.double
theorem truth_false (w : World) :
    Calls Tryz.prog 72 #[.bool false] w fun e w' => e = .returned (.int .i64 0) ∧ w' = w := by
  go_enter Tryz.func72, Tryz.ntmps72
  go_wp2
  go_ret
  exact ⟨rfl, rfl⟩
theorem down_far (hi lo : Nat) (k : Int) (hk : 128 < k) (hz : ¬ bits .or .u64 (hi : Int) (lo : Int) = 0) (w : World) :
    RW Tryz.prog 121 #[.int .u64 (hi : Nat), .int .u64 (lo : Nat), .int .i64 k] w (.tuple #[.int .u64 0, .int .u64 0, .int .i64 (-1)]) := by
  have hz' : (bits .or .u64 (hi : Int) (lo : Int) == 0) = false := by simpa using hz
  go_enter Tryz.func121, Tryz.ntmps121
  go_wp2_with (go_at_call 72; refine (truth_false _).mono ?_; rintro e w' ⟨rfl, rfl⟩)
  first
    | (go_ret3; exact ⟨rfl, Later.refl _⟩)
    | (refine wp_region_quiet_far (by kernel_rfl) (by kernel_rfl) ?_
       repeat (quiet_step ((go_at_call 72; exact Calls.far_of_same (truth_false _))))
       refine wpQuiet_nil ?_
       rintro _ ⟨⟨bs, n⟩, rfl⟩
       go_wp2
       go_ret3
       exact ⟨rfl, (Later.refl _).far⟩)
theorem sgn_word (neg : Bool) (r : Nat) : sgn neg + (r : Int) = ((ff.word neg r : Nat) : Int) := by
  cases neg
  · show (0 : Int) + r = r; omega
  · show (9223372036854775808 : Int) + r = ((9223372036854775808 + r : Nat) : Int); omega
theorem or_sgn (neg : Bool) (r : Nat) (h : r < 9223372036854775808) : bits .or .u64 (sgn neg) (r : Int) = ((ff.word neg r : Nat) : Int) := by
  cases neg
  · have := FM.or_u 0 r (by decide) (by simp only [W64]; omega)
    rw [Nat.zero_or] at this
    exact this
  · have := FM.or_u 9223372036854775808 r (by decide) (by simp only [W64]; omega)
    have e := FM.or_add 1 r 63 (by simpa using h)
    rw [show 1 * 2 ^ 63 = 9223372036854775808 from by decide] at e
    rw [e] at this
    exact this
theorem or_word (neg : Bool) (x f : Nat) (hx : x < 2047) (hf : f < 4503599627370496) : bits .or .u64 ((ff.word neg (x * 4503599627370496) : Nat) : Int) (f : Int) = ((ff.word neg (x * 4503599627370496 + f) : Nat) : Int) := by
  have hb : ff.word neg (x * 4503599627370496) < W64 := by cases neg; (show x * 4503599627370496 < _; simp only [W64]; omega); (show 9223372036854775808 + x * 4503599627370496 < _; simp only [W64]; omega)
  have h := FM.or_u (ff.word neg (x * 4503599627370496)) f hb (by simp only [W64]; omega)
  rw [h]
  congr 1
  cases neg
  · show x * 4503599627370496 ||| f = x * 4503599627370496 + f
    exact FM.or_add x f 52 hf
  · show (9223372036854775808 + x * 4503599627370496) ||| f = 9223372036854775808 + (x * 4503599627370496 + f)
    have e := FM.or_add (2048 + x) f 52 hf
    rw [show (2048 + x) * 2 ^ 52 = 9223372036854775808 + x * 4503599627370496 from by omega] at e
    rw [e]; omega
theorem low_frac (K : Nat) (h : 4503599627370496 ≤ K) (h1 : K < 9007199254740992) : bits .and .u64 (K : Int) 4503599627370495 = ((K - 4503599627370496 : Nat) : Int) := by
  have := FM.mask_u K 52 (by simp only [W64]; omega) (by decide)
  rw [show K % 2 ^ 52 = K - 4503599627370496 from by omega] at this
  exact this
theorem word_inf (neg : Bool) (M : Nat) (e E : Int) (h : M ≠ 0) (hE : e + byOf ff M e = E) (hX : 2047 * 4503599627370496 ≤ (E + 1074).toNat * 4503599627370496 + kept ff M e) : sgn neg + 9218868437227405312 = ((ff.nearest neg M e : Nat) : Int) := by
  rw [FM.nearest_kept ff neg M e h, hE, show ff.leastPlace = -1074 from by decide +kernel, show ff.binade = 4503599627370496 from by decide +kernel, show ff.infRung = 9218868437227405312 from by decide +kernel, show E - -1074 = E + 1074 from by omega, Nat.min_eq_right (by omega)]
  exact sgn_word neg 9218868437227405312
theorem word_fin (neg : Bool) (M : Nat) (e E : Int) (r : Nat) (h : M ≠ 0) (hE : e + byOf ff M e = E) (hr : (E + 1074).toNat * 4503599627370496 + kept ff M e = r) (hX : r < 9218868437227405312) : ff.nearest neg M e = ff.word neg r := by
  rw [FM.nearest_kept ff neg M e h, hE, show ff.leastPlace = -1074 from by decide +kernel, show ff.binade = 4503599627370496 from by decide +kernel, show ff.infRung = 9218868437227405312 from by decide +kernel, show E - -1074 = E + 1074 from by omega, hr, Nat.min_eq_left (by omega)]
theorem or_ne (hi lo : Nat) (hhi : hi < W64) (hlo : lo < W64) (h : two hi lo ≠ 0) : ¬ bits .or .u64 (hi : Int) (lo : Int) = 0 := by
  rw [FM.or_u hi lo hhi hlo]
  intro h0
  have h1 : hi ||| lo = 0 := by omega
  rw [Nat.or_eq_zero_iff] at h1
  unfold two at h
  rw [h1.1, h1.2] at h
  exact h rfl
theorem wr1 (n : Nat) (h : n ≤ 128) : IntKind.i64.wrap ((n : Int) - 52) = (n : Int) - 52 := by rw [IntKind.wrap_i64]; omega
theorem wr2 (n : Nat) (h : n ≤ 128) : IntKind.i64.wrap ((n : Int) - 52 - 1) = (n : Int) - 52 - 1 := by rw [IntKind.wrap_i64]; omega
theorem wr3 (x : Int) (h : -10000 ≤ x) (h1 : x ≤ 10000) : IntKind.i64.wrap (-1074 - x) = -1074 - x := by rw [IntKind.wrap_i64]; omega
theorem wr4 (n : Nat) (x b : Int) (h : b = max ((n : Int) - 52 - 1) (-1074 - x)) : (if (n : Int) - 52 - 1 < -1074 - x then -1074 - x else (n : Int) - 52 - 1) = b := by rw [h]; split <;> omega
theorem wr5 (n : Nat) (x b E : Int) (hn : n ≤ 128) (he : -10000 ≤ x) (he1 : x ≤ 10000) (h : b = max ((n : Int) - 52 - 1) (-1074 - x)) (hE : x + b = E) : -1074 ≤ E ∧ E ≤ 20000 ∧ b ≤ 20000 := by omega
theorem wr6 (X : Nat) (h : (X : Int) < 2047) : IntKind.u64.wrap ((X : Int) * 4503599627370496) = ((X * 4503599627370496 : Nat) : Int) ∧ IntKind.u64.wrap (X : Int) = (X : Int) ∧ X * 4503599627370496 < 9223372036854775808 := by rw [IntKind.wrap_u64, IntKind.wrap_u64]; omega
theorem round_up (neg : Bool) (hi lo A m : Nat) (x b c : Int) (hhi : hi < W64) (hlo : lo < W64) (he : -10000 ≤ x) (he1 : x ≤ 10000) (h : two hi lo ≠ 0) (hb : byOf ff (two hi lo) x = b) (hb0 : 0 ≤ b) (hm : two hi lo / 2 ^ b.toNat = m) (hc : lost (two hi lo) b.toNat = c)
    (hd : ∀ w : World, Calls Tryz.prog 121 #[.int .u64 (hi : Nat), .int .u64 (lo : Nat), .int .i64 b] w fun e w' => e = .returned (.tuple #[.int .u64 (A : Nat), .int .u64 (m : Nat), .int .i64 c]) ∧ Later w w') (w : World) :
    RW Tryz.prog 122 #[fm, .bool neg, .int .u64 (hi : Nat), .int .u64 (lo : Nat), .int .i64 x] w (.int .u64 (ff.nearest neg (two hi lo) x : Nat)) := by
  have hz := or_ne hi lo hhi hlo h
  have hn : bl (two hi lo) ≤ 128 := FM.bl_le _ _ (FM.two_lt hi lo hhi hlo)
  have hfb : ff.fractionBits = 52 := rfl
  have hlp : ff.leastPlace = -1074 := by decide +kernel
  have hbd : byOf ff (two hi lo) x = max ((bl (two hi lo) : Int) - 52 - 1) (-1074 - x) := by unfold byOf; rw [hfb, hlp]; rfl
  have hkl := FM.kept_le ff (two hi lo) x h
  have hks := FM.kept_small ff (two hi lo) x h
  rw [hfb] at hkl hks
  rw [hlp] at hks
  have hK : kept ff (two hi lo) x = m + (if c = 1 ∨ (c = 0 ∧ m % 2 = 1) then 1 else 0) := by
    unfold kept
    rw [hb, show (-b).toNat = 0 from by omega, Nat.pow_zero, Nat.mul_one, FM.keep_lost, hm, hc]
  have hcc : c = 1 ∨ c = 0 ∨ c = -1 ∨ c = 2 := by
    rw [← hc]; unfold lost; split; exact Or.inr (Or.inr (Or.inr rfl)); split; exact Or.inr (Or.inr (Or.inl rfl)); split; exact Or.inr (Or.inl rfl); exact Or.inl rfl
  have hu : (c = 1 ∧ (m : Int) + 1 = (kept ff (two hi lo) x : Nat)) ∨ (c = 0 ∧ m % 2 = 1 ∧ (m : Int) + 1 = (kept ff (two hi lo) x : Nat)) ∨ (c = 0 ∧ m % 2 = 0 ∧ (m : Int) = (kept ff (two hi lo) x : Nat)) ∨ (c = -1 ∧ (m : Int) = (kept ff (two hi lo) x : Nat)) ∨ (c = 2 ∧ (m : Int) = (kept ff (two hi lo) x : Nat)) := by
    rw [hK]
    rcases hcc with h1 | h1 | h1 | h1
    · rw [if_pos (Or.inl h1)]; left; exact ⟨h1, by omega⟩
    · rcases Nat.mod_two_eq_zero_or_one m with h2 | h2
      · rw [if_neg (by omega)]; right; right; left; exact ⟨h1, h2, by omega⟩
      · rw [if_pos (Or.inr ⟨h1, h2⟩)]; right; left; exact ⟨h1, h2, by omega⟩
    · rw [if_neg (by omega)]; right; right; right; left; exact ⟨h1, by omega⟩
    · rw [if_neg (by omega)]; right; right; right; right; exact ⟨h1, by omega⟩
  rw [hb] at hbd hks
  have hml : m ≤ 9007199254740992 := by
    have := hkl
    rw [hK] at this
    have e1 : (2 : Nat) ^ (52 + 1) = 9007199254740992 := by decide
    omega
  have hmw : m < W64 := by simp only [W64]; omega
  have hkl' : kept ff (two hi lo) x ≤ 9007199254740992 := hkl
  have p0 : (2 : Nat) ^ 52 = 4503599627370496 := by decide
  rw [p0] at hks
  generalize hKK : kept ff (two hi lo) x = K at *
  clear hK hcc hkl
  have e1 := wr1 (bl (two hi lo)) hn
  have e2 := wr2 (bl (two hi lo)) hn
  have e3 := wr3 x he he1
  have eb := wr4 (bl (two hi lo)) x b hbd
  obtain ⟨E, hE⟩ : ∃ E, x + b = E := ⟨_, rfl⟩
  obtain ⟨hE0, hE1, hb1⟩ := wr5 (bl (two hi lo)) x b E hn he he1 hbd hE
  clear hbd hlp hfb p0
  have hmm := FM.and1_u m hmw
  have hEb : x + byOf ff (two hi lo) x = E := by rw [hb]; exact hE
  by_cases k1 : K = 9007199254740992
  · rcases Int.lt_or_le (E + 1 + 1074 + 1) 2047 with hX | hX
    · obtain ⟨X, hXe⟩ : ∃ X : Nat, E + 1 + 1074 + 1 = (X : Int) := ⟨(E + 1 + 1074 + 1).toNat, by omega⟩
      have Hw := word_fin neg (two hi lo) x E (X * 4503599627370496) h hEb (by rw [hKK, k1]; omega) (by omega)
      rw [Hw]
      refine round_pos2 neg hi lo _ A m _ x b _ _ _ E c (K : Int) (E + 1) (X : Int) (X * 4503599627370496) 0 (ff.word neg (X * 4503599627370496)) (ff.word neg (X * 4503599627370496)) hhi hlo hz rfl e1 e2 e3 eb hb0 hb1 hE hd he he1 hE0 hE1 hmm (by omega) hu (by omega) rfl hXe (by omega) (by omega) (wr6 X (by rw [← hXe]; exact hX)).1 (wr6 X (by rw [← hXe]; exact hX)).2.1 (by decide +kernel) (or_sgn neg _ (wr6 X (by rw [← hXe]; exact hX)).2.2) ?_ w
      have := or_word neg X 0 (by omega) (by decide)
      rw [Nat.add_zero] at this
      exact this
    · rw [← word_inf neg (two hi lo) x E h hEb (by rw [hKK, k1]; omega)]
      exact round_pos1 neg hi lo _ A m _ x b _ _ _ E c (K : Int) (E + 1) _ hhi hlo hz rfl e1 e2 e3 eb hb0 hb1 hE hd he he1 hE0 hE1 hmm (by omega) hu (by omega) rfl rfl hX w
  by_cases k2 : K < 4503599627370496
  · have hEl := hks k2
    have Hw := word_fin neg (two hi lo) x E K h hEb (by rw [hKK]; omega) (by omega)
    rw [Hw]
    exact round_pos3 neg hi lo _ A m _ x b _ _ _ E c (K : Int) _ hhi hlo hz rfl e1 e2 e3 eb hb0 hb1 hE hd he he1 hE0 hE1 hmm (by omega) hu (by omega) (or_sgn neg K (by omega)) (by omega) w
  · rcases Int.lt_or_le (E + 1074 + 1) 2047 with hX | hX
    · obtain ⟨X, hXe⟩ : ∃ X : Nat, E + 1074 + 1 = (X : Int) := ⟨(E + 1074 + 1).toNat, by omega⟩
      have Hw := word_fin neg (two hi lo) x E (X * 4503599627370496 + (K - 4503599627370496)) h hEb (by rw [hKK]; omega) (by omega)
      rw [Hw]
      exact round_pos5 neg hi lo _ A m _ x b _ _ _ E c (K : Int) (X : Int) (X * 4503599627370496) (K - 4503599627370496) (ff.word neg (X * 4503599627370496)) _ hhi hlo hz rfl e1 e2 e3 eb hb0 hb1 hE hd he he1 hE0 hE1 hmm (by omega) hu (by omega) (by omega) hXe (by omega) (by omega) (wr6 X (by rw [← hXe]; exact hX)).1 (wr6 X (by rw [← hXe]; exact hX)).2.1 (low_frac K (by omega) (by omega)) (or_sgn neg _ (wr6 X (by rw [← hXe]; exact hX)).2.2) (or_word neg X (K - 4503599627370496) (by omega) (by omega)) w
    · rw [← word_inf neg (two hi lo) x E h hEb (by rw [hKK]; omega)]
      exact round_pos4 neg hi lo _ A m _ x b _ _ _ E c (K : Int) _ hhi hlo hz rfl e1 e2 e3 eb hb0 hb1 hE hd he he1 hE0 hE1 hmm (by omega) hu (by omega) (by omega) rfl hX w
end Go.Proofs.YtdfgcagbpndabaaGreatDoor.D
namespace Go.Proofs.YtdfgcagbpndabaaGreatDoor.D
open Go.RowKit
open Go.FM (W64 two bl lost byOf kept)
theorem lost_none (M : Nat) : lost M 0 = 2 := by unfold lost; rw [Nat.pow_zero, Nat.mod_one, if_pos rfl]
theorem two_nil (hi lo : Nat) (h : two hi lo = 0) : hi = 0 ∧ lo = 0 := by unfold two at h; simp only [W64] at h; omega
theorem small_hi (hi lo : Nat) (hlo : lo < W64) (h : bl (two hi lo) ≤ 64) : hi = 0 ∧ two hi lo = lo := by
  have h0 : hi = 0 := by
    rcases Nat.eq_zero_or_pos hi with h1 | h1
    · exact h1
    · have := FM.bl_two hi lo (by omega) hlo
      unfold two at h
      rw [this] at h
      have : 1 ≤ bl hi := by unfold bl; rw [if_neg (by omega)]; omega
      omega
  refine ⟨h0, ?_⟩
  unfold two; rw [h0, Nat.zero_mul, Nat.zero_add]
theorem down_mid (hi lo k m : Nat) (c : Int) (hhi : hi < W64) (hlo : lo < W64) (hk : k < 128) (hm : two hi lo / 2 ^ (k + 1) = m) (hml : m < W64) (hc : lost (two hi lo) (k + 1) = c) (w : World) :
    Calls Tryz.prog 121 #[.int .u64 (hi : Nat), .int .u64 (lo : Nat), .int .i64 ((k + 1 : Nat) : Int)] w fun e w' => e = .returned (.tuple #[.int .u64 (0 : Nat), .int .u64 (m : Nat), .int .i64 c]) ∧ Later w w' :=
  down_some hi lo k 0 m c _ hhi hlo hk rfl (by show _ = _; rw [hm, Nat.div_eq_of_lt hml]) (by show _ = _; rw [hm, Nat.mod_eq_of_lt hml]) hc w
theorem neg_bl (lo k : Nat) (h0 : lo ≠ 0) (hk : k = 53 - bl lo) (h : bl lo ≤ 53) : lo * 2 ^ k < 9007199254740992 := by
  have h1 := (FM.pow_bl lo h0).2.1
  have h2 : lo * 2 ^ k < 2 ^ bl lo * 2 ^ k := Nat.mul_lt_mul_of_pos_right h1 (Nat.two_pow_pos k)
  rw [← Nat.pow_add, show bl lo + k = 53 from by omega] at h2
  exact h2
theorem round_dn (neg : Bool) (lo : Nat) (x : Int) (k : Nat) (hlo : lo < W64) (he : -10000 ≤ x) (he1 : x ≤ 10000) (h : lo ≠ 0) (hb : byOf ff lo x = -(k : Int)) (hk0 : 0 < k) (w : World) :
    RW Tryz.prog 122 #[fm, .bool neg, .int .u64 0, .int .u64 (lo : Nat), .int .i64 x] w (.int .u64 (ff.nearest neg lo x : Nat)) := by
  have htw : two 0 lo = lo := by unfold two; rw [Nat.zero_mul, Nat.zero_add]
  have hz := or_ne 0 lo (by decide) hlo (by rw [htw]; exact h)
  have hfb : ff.fractionBits = 52 := rfl
  have hlp : ff.leastPlace = -1074 := by decide +kernel
  have hbd : byOf ff lo x = max ((bl lo : Int) - 52 - 1) (-1074 - x) := by unfold byOf; rw [hfb, hlp]; rfl
  rw [hb] at hbd
  have hn : bl lo ≤ 53 := by omega
  have hkb : k ≤ 53 - bl lo := by omega
  have hm := neg_bl lo (53 - bl lo) h rfl hn
  have hm2 : lo * 2 ^ k < 9007199254740992 := Nat.lt_of_le_of_lt (Nat.mul_le_mul_left lo (Nat.pow_le_pow_right (by decide) hkb)) hm
  have hK : kept ff lo x = lo * 2 ^ k := by
    unfold kept
    rw [hb, show (-(k : Int)).toNat = 0 from by omega, FM.keep_zero, show (- -(k : Int)).toNat = k from by omega]
  have hks := FM.kept_small ff lo x h
  rw [hfb, hlp, hb, hK] at hks
  have e1 := wr1 (bl lo) (by omega)
  have e2 := wr2 (bl lo) (by omega)
  have e3 := wr3 x he he1
  have eb := wr4 (bl lo) x (-(k : Int)) hbd
  obtain ⟨E, hE⟩ : ∃ E, x + -(k : Int) = E := ⟨_, rfl⟩
  obtain ⟨hE0, hE1, hb1⟩ := wr5 (bl lo) x (-(k : Int)) E (by omega) he he1 hbd hE
  have hEb : x + byOf ff lo x = E := by rw [hb]; exact hE
  have p0 : (2 : Nat) ^ 52 = 4503599627370496 := by decide
  rw [p0] at hks
  have hwr : IntKind.u64.wrap ((lo : Int) * 2 ^ k) = ((lo * 2 ^ k : Nat) : Int) := by
    have e : (lo : Int) * 2 ^ k = ((lo * 2 ^ k : Nat) : Int) := by rw [Int.natCast_mul, Int.natCast_pow]; rfl
    rw [e, IntKind.wrap_u64]; omega
  have hk1 : k ≤ 64 := by omega
  clear hbd hm hfb hlp hn
  generalize hKK : lo * 2 ^ k = K at *
  have hmm := FM.and1_u K (by simp only [W64]; omega)
  have hd : ∀ w : World, Calls Tryz.prog 121 #[.int .u64 0, .int .u64 (K : Nat), .int .i64 (-(k : Int))] w fun e w' => e = .returned (.tuple #[.int .u64 (0 : Nat), .int .u64 (K : Nat), .int .i64 2]) ∧ Later w w' :=
    fun w => (down_none 0 K (-(k : Int)) (by omega) (by omega) w).mono fun e w' h => ⟨h.1, by rw [h.2]; exact Lz _⟩
  have hnn : Hid (bl (two 0 lo) = bl lo) := by show _ = _; rw [htw]
  by_cases k2 : K < 4503599627370496
  · have hEl : E = -1074 := by rw [← hE]; exact hks k2
    have Hw := word_fin neg lo x E K h hEb (by rw [hK]; omega) (by omega)
    rw [Hw]
    exact round_neg3 neg 0 lo _ 0 K _ x 0 _ _ _ E 2 (K : Int) k K _ (by decide) hlo hz hnn e1 e2 e3 eb hk1 hk0 hwr hE hd he he1 hE0 hE1 hmm (by omega) rfl rfl (by omega) (or_sgn neg K (by omega)) (by omega) w
  · rcases Int.lt_or_le (E + 1074 + 1) 2047 with hX | hX
    · obtain ⟨X, hXe⟩ : ∃ X : Nat, E + 1074 + 1 = (X : Int) := ⟨(E + 1074 + 1).toNat, by omega⟩
      have Hw := word_fin neg lo x E (X * 4503599627370496 + (K - 4503599627370496)) h hEb (by rw [hK]; omega) (by omega)
      rw [Hw]
      exact round_neg5 neg 0 lo _ 0 K _ x 0 _ _ _ E 2 (K : Int) k K (X : Int) (X * 4503599627370496) (K - 4503599627370496) (ff.word neg (X * 4503599627370496)) _ (by decide) hlo hz hnn e1 e2 e3 eb hk1 hk0 hwr hE hd he he1 hE0 hE1 hmm (by omega) rfl rfl (by omega) (by omega) hXe (by omega) (by omega) (wr6 X (by rw [← hXe]; exact hX)).1 (wr6 X (by rw [← hXe]; exact hX)).2.1 (low_frac K (by omega) (by omega)) (or_sgn neg _ (wr6 X (by rw [← hXe]; exact hX)).2.2) (or_word neg X (K - 4503599627370496) (by omega) (by omega)) w
    · rw [← word_inf neg lo x E h hEb (by rw [hK]; omega)]
      exact round_neg4 neg 0 lo _ 0 K _ x 0 _ _ _ E 2 (K : Int) k K _ (by decide) hlo hz hnn e1 e2 e3 eb hk1 hk0 hwr hE hd he he1 hE0 hE1 hmm (by omega) rfl rfl (by omega) (by omega) rfl hX w
theorem round_any (neg : Bool) (hi lo : Nat) (x : Int) (hhi : hi < W64) (hlo : lo < W64) (he : -10000 ≤ x) (he1 : x ≤ 10000) (w : World) :
    RW Tryz.prog 122 #[fm, .bool neg, .int .u64 (hi : Nat), .int .u64 (lo : Nat), .int .i64 x] w (.int .u64 (ff.nearest neg (two hi lo) x : Nat)) := by
  by_cases h : two hi lo = 0
  · obtain ⟨h1, h2⟩ := two_nil hi lo h
    rw [h, FM.nearest_zero]
    subst h1; subst h2
    have := round_zero neg x w
    have e := sgn_word neg 0
    rw [show sgn neg + ((0 : Nat) : Int) = sgn neg from Int.add_zero _] at e
    rw [e] at this
    exact this
  have hfb : ff.fractionBits = 52 := rfl
  have hn : bl (two hi lo) ≤ 128 := FM.bl_le _ _ (FM.two_lt hi lo hhi hlo)
  have hby : (bl (two hi lo) : Int) - 52 - 1 ≤ byOf ff (two hi lo) x := by unfold byOf; rw [hfb]; omega
  have hkl := FM.kept_le ff (two hi lo) x h
  have hkw : kept ff (two hi lo) x < W64 := by
    have e1 : (2 : Nat) ^ (52 + 1) = 9007199254740992 := by decide
    rw [hfb, e1] at hkl
    simp only [W64]; omega
  rcases Int.lt_trichotomy (byOf ff (two hi lo) x) 0 with hb | hb | hb
  · obtain ⟨h1, h2⟩ := small_hi hi lo hlo (by omega)
    obtain ⟨k, hk⟩ : ∃ k : Nat, byOf ff (two hi lo) x = -(k : Int) := ⟨(-byOf ff (two hi lo) x).toNat, by omega⟩
    rw [h2] at hk h ⊢
    subst h1
    exact round_dn neg lo x k hlo he he1 h hk (by rw [h2, hk] at hb; omega) w
  · obtain ⟨h1, h2⟩ := small_hi hi lo hlo (by omega)
    exact round_up neg hi lo hi lo x 0 2 hhi hlo he he1 h hb (by omega) (by rw [show (0 : Int).toNat = 0 from rfl, Nat.pow_zero, Nat.div_one, h2]) (by rw [show (0 : Int).toNat = 0 from rfl, lost_none])
      (fun w => (down_none hi lo 0 (by omega) (by omega) w).mono fun e w' h => ⟨h.1, by rw [h.2]; exact Lz _⟩) w
  · obtain ⟨k, hk⟩ : ∃ k : Nat, byOf ff (two hi lo) x = ((k + 1 : Nat) : Int) := ⟨(byOf ff (two hi lo) x - 1).toNat, by omega⟩
    have ht : ((k + 1 : Nat) : Int).toNat = k + 1 := by omega
    rcases Nat.lt_or_ge k 128 with h128 | h128
    · have hmw : two hi lo / 2 ^ (k + 1) < W64 := by
        refine Nat.lt_of_le_of_lt ?_ hkw
        have := (FM.keep_bounds (two hi lo) (k + 1)).1
        unfold kept
        rw [hk, ht, show (-((k + 1 : Nat) : Int)).toNat = 0 from by omega, Nat.pow_zero, Nat.mul_one]
        exact this
      exact round_up neg hi lo 0 _ x _ _ hhi hlo he he1 h hk (by omega) (by rw [ht]) (by rw [ht]) (fun w => down_mid hi lo k _ _ hhi hlo h128 rfl hmw rfl w) w
    · have htl := FM.two_lt hi lo hhi hlo
      have hp : 2 * two hi lo < 2 ^ (k + 1) := by
        rw [Nat.pow_succ, Nat.mul_comm]
        exact Nat.mul_lt_mul_of_pos_right (Nat.lt_of_lt_of_le htl (Nat.pow_le_pow_right (by decide) h128)) (by decide)
      have hd : two hi lo / 2 ^ (k + 1) = 0 := Nat.div_eq_of_lt (by omega)
      have hl : lost (two hi lo) (k + 1) = -1 := by
        unfold lost
        rw [Nat.mod_eq_of_lt (by omega), if_neg h, if_pos hp]
      exact round_up neg hi lo 0 0 x _ (-1) hhi hlo he he1 h hk (by omega) (by rw [ht, hd]) (by rw [ht, hl]) (fun w => down_far hi lo _ (by omega) (or_ne hi lo hhi hlo h) w) w
end Go.Proofs.YtdfgcagbpndabaaGreatDoor.D
namespace Go.Proofs.YtdfgcagbpndabaaGreatDoor.D
open Go.RowKit
open Go.FM (W64 two bl lost)
abbrev fv (neg inf nan : Bool) (m e : Int) : Value := .agg #[.bool neg, .bool inf, .bool nan, .int .u64 m, .int .i64 e]
theorem apart_inf0 (x a sb q ex m : Int) (neg : Bool) (ea : x / 9223372036854775808 = a) (es : bits .and .u64 a 1 = sb) (hs : (sb == 1) = neg) (eq : x / 4503599627370496 = q) (ee : bits .and .u64 q 2047 = ex) (em : bits .and .u64 x 4503599627370495 = m) (hx : ex = 2047) (hm : m = 0) (w : World) :
    RW Tryz.prog 119 #[fm, .int .u64 x] w (fv neg true false 0 0) := by
  go_enter Tryz.func119, Tryz.ntmps119
  go_wp2_with fail
  refine wp_region_quiet_far (by kernel_rfl) (by kernel_rfl) ?_
  repeat (quiet_step ((go_at_call 150; exact Calls.far_of (top_any _))))
  refine wpQuiet_nil ?_
  rintro _ ⟨⟨bs, n⟩, rfl⟩
  go_wp2_with (first | (go_at_call 151; refine (least_any _).mono ?_; rintro e w' ⟨rfl, bs, n, rfl⟩) | (go_at_call 150; refine (top_any _).mono ?_; rintro e w' ⟨rfl, bs, n, rfl⟩))
  first
    | (go_ret; exact ⟨rfl, (by repeat first | exact Lz _ | apply La | apply Lv | apply Ln | apply Ld)⟩)
    | (refine bodyPost_ret (v := (fv neg true false 0 0)) (by simp [results, Tryz.results119, go_sem]) rfl ⟨rfl, (by repeat first | exact Lz _ | apply La | apply Lv | apply Ln | apply Ld)⟩)
theorem apart_nan0 (x a sb q ex m : Int) (neg : Bool) (ea : x / 9223372036854775808 = a) (es : bits .and .u64 a 1 = sb) (hs : (sb == 1) = neg) (eq : x / 4503599627370496 = q) (ee : bits .and .u64 q 2047 = ex) (em : bits .and .u64 x 4503599627370495 = m) (hx : ex = 2047) (hm : ¬ m = 0) (w : World) :
    RW Tryz.prog 119 #[fm, .int .u64 x] w (fv neg false true m 0) := by
  go_enter Tryz.func119, Tryz.ntmps119
  go_wp2_with fail
  refine wp_region_quiet_far (by kernel_rfl) (by kernel_rfl) ?_
  repeat (quiet_step ((go_at_call 150; exact Calls.far_of (top_any _))))
  refine wpQuiet_nil ?_
  rintro _ ⟨⟨bs, n⟩, rfl⟩
  go_wp2_with (first | (go_at_call 151; refine (least_any _).mono ?_; rintro e w' ⟨rfl, bs, n, rfl⟩) | (go_at_call 150; refine (top_any _).mono ?_; rintro e w' ⟨rfl, bs, n, rfl⟩))
  first
    | (go_ret; exact ⟨rfl, (by repeat first | exact Lz _ | apply La | apply Lv | apply Ln | apply Ld)⟩)
    | (refine bodyPost_ret (v := (fv neg false true m 0)) (by simp [results, Tryz.results119, go_sem, hm]) rfl ⟨rfl, (by repeat first | exact Lz _ | apply La | apply Lv | apply Ln | apply Ld)⟩)
theorem apart_sub0 (x a sb q ex m : Int) (neg : Bool) (ea : x / 9223372036854775808 = a) (es : bits .and .u64 a 1 = sb) (hs : (sb == 1) = neg) (eq : x / 4503599627370496 = q) (ee : bits .and .u64 q 2047 = ex) (em : bits .and .u64 x 4503599627370495 = m) (hx : ex = 0) (w : World) :
    RW Tryz.prog 119 #[fm, .int .u64 x] w (fv neg false false m (-1074)) := by
  go_enter Tryz.func119, Tryz.ntmps119
  go_wp2_with fail
  refine wp_region_quiet_far (by kernel_rfl) (by kernel_rfl) ?_
  repeat (quiet_step ((go_at_call 150; exact Calls.far_of (top_any _))))
  refine wpQuiet_nil ?_
  rintro _ ⟨⟨bs, n⟩, rfl⟩
  go_wp2_with (first | (go_at_call 151; refine (least_any _).mono ?_; rintro e w' ⟨rfl, bs, n, rfl⟩) | (go_at_call 150; refine (top_any _).mono ?_; rintro e w' ⟨rfl, bs, n, rfl⟩))
  first
    | (go_ret; exact ⟨rfl, (by repeat first | exact Lz _ | apply La | apply Lv | apply Ln | apply Ld)⟩)
    | (refine bodyPost_ret (v := (fv neg false false m (-1074))) (by simp [results, Tryz.results119, go_sem]) rfl ⟨rfl, (by repeat first | exact Lz _ | apply La | apply Lv | apply Ln | apply Ld)⟩)
theorem apart_norm0 (x a sb q ex m : Int) (neg : Bool) (ea : x / 9223372036854775808 = a) (es : bits .and .u64 a 1 = sb) (hs : (sb == 1) = neg) (eq : x / 4503599627370496 = q) (ee : bits .and .u64 q 2047 = ex) (em : bits .and .u64 x 4503599627370495 = m) (m2 e2 : Int) (hx : (ex == 2047) = false) (hx0 : (ex == 0) = false) (hx1 : 0 ≤ ex) (hx2 : ex < 2047) (eo : bits .or .u64 m 4503599627370496 = m2) (e2e : -1074 + ex - 1 = e2) (w : World) :
    RW Tryz.prog 119 #[fm, .int .u64 x] w (fv neg false false m2 e2) := by
  go_enter Tryz.func119, Tryz.ntmps119
  go_wp2_with fail
  refine wp_region_quiet_far (by kernel_rfl) (by kernel_rfl) ?_
  repeat (quiet_step ((go_at_call 150; exact Calls.far_of (top_any _))))
  refine wpQuiet_nil ?_
  rintro _ ⟨⟨bs, n⟩, rfl⟩
  go_wp2_with (first | (go_at_call 151; refine (least_any _).mono ?_; rintro e w' ⟨rfl, bs, n, rfl⟩) | (go_at_call 150; refine (top_any _).mono ?_; rintro e w' ⟨rfl, bs, n, rfl⟩))
  go_region
  go_wp2_with (first | (go_at_call 151; refine (least_any _).mono ?_; rintro e w' ⟨rfl, bs, n, rfl⟩) | (go_at_call 150; refine (top_any _).mono ?_; rintro e w' ⟨rfl, bs, n, rfl⟩))
  first
    | (go_ret; exact ⟨rfl, (by repeat first | exact Lz _ | apply La | apply Lv | apply Ln | apply Ld)⟩)
    | (refine bodyPost_ret (v := (fv neg false false m2 e2)) (by simp [results, Tryz.results119, go_sem]) rfl ⟨rfl, (by repeat first | exact Lz _ | apply La | apply Lv | apply Ln | apply Ld)⟩)
end Go.Proofs.YtdfgcagbpndabaaGreatDoor.D
namespace Go.Proofs.YtdfgcagbpndabaaGreatDoor.D
open Go.RowKit
open Go.FM (W64 two bl lost isN)
theorem hff : 2 ≤ ff.exponentBits := by decide
theorem ff_sw : ff.signWeight = 9223372036854775808 := by decide +kernel
theorem ff_inf : ff.infRung = 9218868437227405312 := by decide +kernel
theorem ff_bin : ff.binade = 4503599627370496 := by decide +kernel
theorem ff_least : ff.leastPlace = -1074 := by decide +kernel
theorem ap_parts (x : Nat) (hx : x < 18446744073709551616) : (x : Int) / 9223372036854775808 = ((x / 9223372036854775808 : Nat) : Int) ∧ bits .and .u64 ((x / 9223372036854775808 : Nat) : Int) 1 = ((x / 9223372036854775808 % 2 : Nat) : Int) ∧ (((x / 9223372036854775808 % 2 : Nat) : Int) == 1) = FM.sg ff x ∧
    (x : Int) / 4503599627370496 = ((x / 4503599627370496 : Nat) : Int) ∧ bits .and .u64 ((x / 4503599627370496 : Nat) : Int) 2047 = ((FM.rg ff x / 4503599627370496 : Nat) : Int) ∧ bits .and .u64 (x : Int) 4503599627370495 = ((FM.rg ff x % 4503599627370496 : Nat) : Int) := by
  have hr : FM.rg ff x = x % 9223372036854775808 := by unfold FM.rg; rw [ff_sw]
  refine ⟨by omega, ?_, ?_, by omega, ?_, ?_⟩
  · exact FM.and1_u _ (by simp only [W64]; omega)
  · unfold FM.sg; rw [ff_sw, Bool.eq_iff_iff]; simp only [beq_iff_eq]; omega
  · have := FM.mask_u (x / 4503599627370496) 11 (by simp only [W64]; omega) (by decide)
    rw [hr, show x % 9223372036854775808 / 4503599627370496 = x / 4503599627370496 % 2 ^ 11 from by omega]
    exact this
  · have := FM.mask_u x 52 (by simp only [W64]; omega) (by decide)
    rw [hr, show x % 9223372036854775808 % 4503599627370496 = x % 2 ^ 52 from by omega]
    exact this
theorem apart_fin (x : Nat) (hx : x < 18446744073709551616) (h : FM.rg ff x < ff.infRung) (w : World) :
    RW Tryz.prog 119 #[fm, .int .u64 (x : Nat)] w (fv (FM.sg ff x) false false (FM.mag ff (FM.rg ff x) : Nat) (FM.plc ff (FM.rg ff x))) := by
  obtain ⟨a1, a2, a3, a4, a5, a6⟩ := ap_parts x hx
  rw [ff_inf] at h
  generalize FM.rg ff x = r at *
  by_cases h1 : r < 4503599627370496
  · have e1 : FM.mag ff r = r := by unfold FM.mag; rw [ff_bin, if_pos h1]
    have e2 : FM.plc ff r = -1074 := by unfold FM.plc; rw [ff_bin, if_pos h1, ff_least]
    rw [e1, e2]
    rw [Nat.mod_eq_of_lt h1] at a6
    rw [Nat.div_eq_of_lt h1] at a5
    exact apart_sub0 x _ _ _ _ _ _ a1 a2 a3 a4 a5 a6 rfl w
  · have e1 : FM.mag ff r = 4503599627370496 + r % 4503599627370496 := by unfold FM.mag; rw [ff_bin, if_neg h1]
    have e2 : FM.plc ff r = -1074 + ((r / 4503599627370496 : Nat) : Int) - 1 := by unfold FM.plc; rw [ff_bin, if_neg h1, ff_least]; omega
    rw [e1, e2]
    refine apart_norm0 x _ _ _ _ _ _ a1 a2 a3 a4 a5 a6 _ _ ?_ ?_ (by omega) (by omega) ?_ rfl w
    · rw [beq_eq_false_iff_ne]; omega
    · rw [beq_eq_false_iff_ne]; omega
    · have := FM.or_u (r % 4503599627370496) 4503599627370496 (by simp only [W64]; omega) (by decide)
      have e := FM.or_add 1 (r % 4503599627370496) 52 (by omega)
      rw [show 1 * 2 ^ 52 = 4503599627370496 from by decide, Nat.or_comm] at e
      rw [e] at this
      exact this
theorem apart_inf (x : Nat) (hx : x < 18446744073709551616) (h : FM.rg ff x = ff.infRung) (w : World) :
    RW Tryz.prog 119 #[fm, .int .u64 (x : Nat)] w (fv (FM.sg ff x) true false 0 0) := by
  obtain ⟨a1, a2, a3, a4, a5, a6⟩ := ap_parts x hx
  rw [ff_inf] at h
  rw [h] at a5 a6
  exact apart_inf0 x _ _ _ _ _ _ a1 a2 a3 a4 a5 a6 (by decide) (by decide) w
theorem apart_nan (x : Nat) (hx : x < 18446744073709551616) (h : isN ff x) (w : World) :
    RW Tryz.prog 119 #[fm, .int .u64 (x : Nat)] w (fv (FM.sg ff x) false true ((FM.rg ff x % 4503599627370496 : Nat) : Int) 0) := by
  obtain ⟨a1, a2, a3, a4, a5, a6⟩ := ap_parts x hx
  unfold isN at h
  rw [ff_inf] at h
  have hl := FM.rg_lt ff x
  rw [ff_sw] at hl
  exact apart_nan0 x _ _ _ _ _ _ a1 a2 a3 a4 a5 a6 (by omega) (by omega) w
end Go.Proofs.YtdfgcagbpndabaaGreatDoor.D
