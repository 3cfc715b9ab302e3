/- Contract of the document's rounding (pelorusref4), over this seat's translation: it gives the nearest float. -/
import Derived.Test.YtibfjlibkaejnaaSRoundM
namespace Go.Proofs.Ytibfjlibkaejnaa.S
open Go.RowKit
open Go.FM (W64 two bl lost byOf kept)
set_option linter.unusedVariables false

/-- the format, in the model's words -/
abbrev ff : Ieee.Format := Ieee.single
theorem truth_false (w : World) :
    Calls Try.prog 45 #[.bool false] w fun e w' => e = .returned (.int .i64 0) ∧ w' = w := by
  go_enter Try.func45, Try.ntmps45
  go_wp2
  go_ret
  exact ⟨rfl, rfl⟩
set_option maxRecDepth 100000 in
set_option maxHeartbeats 4000000 in
theorem down_far (hi lo : Nat) (k : Int) (hk : 128 < k) (hz : ¬ bits .or .u64 (hi : Int) (lo : Int) = 0) (w : World) :
    Calls Try.prog 38 #[.int .u64 (hi : Nat), .int .u64 (lo : Nat), .int .i64 k] w fun e w' => e = .returned (.tuple #[.int .u64 0, .int .u64 0, .int .i64 (-1)]) ∧ Later w w' := by
  have hz' : (bits .or .u64 (hi : Int) (lo : Int) == 0) = false := by simpa using hz
  go_enter Try.func38, Try.ntmps38
  go_wp2_with (go_at_call 45; refine (truth_false _).mono ?_; rintro e w' ⟨rfl, rfl⟩)
  first
    | (go_ret3; exact ⟨rfl, Later.refl _⟩)
    | (refine wp_region_quiet_far (by kernel_rfl) (by kernel_rfl) ?_
       repeat (quiet_step ((go_at_call 45; exact Calls.far_of_same (truth_false _))))
       refine wpQuiet_nil ?_
       rintro _ ⟨⟨bs, n⟩, rfl⟩
       go_wp2
       go_ret3
       exact ⟨rfl, (Later.refl _).far⟩)
theorem sgn_word (neg : Bool) (r : Nat) : sgn neg + (r : Int) = ((ff.word neg r : Nat) : Int) := by
  cases neg
  · show (0 : Int) + r = r; omega
  · show (2147483648 : Int) + r = ((2147483648 + r : Nat) : Int); omega
theorem or_sgn (neg : Bool) (r : Nat) (h : r < 2147483648) : bits .or .u64 (sgn neg) (r : Int) = ((ff.word neg r : Nat) : Int) := by
  cases neg
  · have := FM.or_u 0 r (by decide) (by simp only [W64]; omega)
    rw [Nat.zero_or] at this
    exact this
  · have := FM.or_u 2147483648 r (by decide) (by simp only [W64]; omega)
    have e := FM.or_add 1 r 31 (by simpa using h)
    rw [show 1 * 2 ^ 31 = 2147483648 from by decide] at e
    rw [e] at this
    exact this
theorem or_word (neg : Bool) (x f : Nat) (hx : x < 255) (hf : f < 8388608) : bits .or .u64 ((ff.word neg (x * 8388608) : Nat) : Int) (f : Int) = ((ff.word neg (x * 8388608 + f) : Nat) : Int) := by
  have hb : ff.word neg (x * 8388608) < W64 := by cases neg; (show x * 8388608 < _; simp only [W64]; omega); (show 2147483648 + x * 8388608 < _; simp only [W64]; omega)
  have h := FM.or_u (ff.word neg (x * 8388608)) f hb (by simp only [W64]; omega)
  rw [h]
  congr 1
  cases neg
  · show x * 8388608 ||| f = x * 8388608 + f
    exact FM.or_add x f 23 hf
  · show (2147483648 + x * 8388608) ||| f = 2147483648 + (x * 8388608 + f)
    have e := FM.or_add (256 + x) f 23 hf
    rw [show (256 + x) * 2 ^ 23 = 2147483648 + x * 8388608 from by omega] at e
    rw [e]; omega
theorem low_frac (K : Nat) (h : 8388608 ≤ K) (h1 : K < 16777216) : bits .and .u64 (K : Int) 8388607 = ((K - 8388608 : Nat) : Int) := by
  have := FM.mask_u K 23 (by simp only [W64]; omega) (by decide)
  rw [show K % 2 ^ 23 = K - 8388608 from by omega] at this
  exact this
theorem cast_eq {a b : Nat} (h : a = b) : (Ending.returned (.int .u64 (a : Int)) : Ending) = .returned (.int .u64 (b : Int)) := by rw [h]
/-- the word, by what is kept -/
theorem word_inf (neg : Bool) (M : Nat) (e E : Int) (h : M ≠ 0) (hE : e + byOf ff M e = E) (hX : 255 * 8388608 ≤ (E + 149).toNat * 8388608 + kept ff M e) : sgn neg + 2139095040 = ((ff.nearest neg M e : Nat) : Int) := by
  rw [FM.nearest_kept ff neg M e h, hE, show ff.leastPlace = -149 from by decide +kernel, show ff.binade = 8388608 from by decide +kernel, show ff.infRung = 2139095040 from by decide +kernel, show E - -149 = E + 149 from by omega, Nat.min_eq_right (by omega)]
  exact sgn_word neg 2139095040
theorem word_fin (neg : Bool) (M : Nat) (e E : Int) (r : Nat) (h : M ≠ 0) (hE : e + byOf ff M e = E) (hr : (E + 149).toNat * 8388608 + kept ff M e = r) (hX : r < 2139095040) : ff.nearest neg M e = ff.word neg r := by
  rw [FM.nearest_kept ff neg M e h, hE, show ff.leastPlace = -149 from by decide +kernel, show ff.binade = 8388608 from by decide +kernel, show ff.infRung = 2139095040 from by decide +kernel, show E - -149 = E + 149 from by omega, hr, Nat.min_eq_left (by omega)]
theorem or_ne (hi lo : Nat) (hhi : hi < W64) (hlo : lo < W64) (h : two hi lo ≠ 0) : ¬ bits .or .u64 (hi : Int) (lo : Int) = 0 := by
  rw [FM.or_u hi lo hhi hlo]
  intro h0
  have h1 : hi ||| lo = 0 := by omega
  rw [Nat.or_eq_zero_iff] at h1
  unfold two at h
  rw [h1.1, h1.2] at h
  exact h rfl
theorem wr1 (n : Nat) (h : n ≤ 128) : IntKind.i64.wrap ((n : Int) - 23) = (n : Int) - 23 := by rw [IntKind.wrap_i64]; omega
theorem wr2 (n : Nat) (h : n ≤ 128) : IntKind.i64.wrap ((n : Int) - 23 - 1) = (n : Int) - 23 - 1 := by rw [IntKind.wrap_i64]; omega
theorem wr3 (x : Int) (h : -10000 ≤ x) (h1 : x ≤ 10000) : IntKind.i64.wrap (-149 - x) = -149 - x := by rw [IntKind.wrap_i64]; omega
theorem wr4 (n : Nat) (x b : Int) (h : b = max ((n : Int) - 23 - 1) (-149 - x)) : (if (n : Int) - 23 - 1 < -149 - x then -149 - x else (n : Int) - 23 - 1) = b := by rw [h]; split <;> omega
theorem wr5 (n : Nat) (x b E : Int) (hn : n ≤ 128) (he : -10000 ≤ x) (he1 : x ≤ 10000) (h : b = max ((n : Int) - 23 - 1) (-149 - x)) (hE : x + b = E) : -149 ≤ E ∧ E ≤ 20000 ∧ b ≤ 20000 := by omega
theorem wr6 (X : Nat) (h : (X : Int) < 255) : IntKind.u64.wrap ((X : Int) * 8388608) = ((X * 8388608 : Nat) : Int) ∧ IntKind.u64.wrap (X : Int) = (X : Int) ∧ X * 8388608 < 2147483648 := by rw [IntKind.wrap_u64, IntKind.wrap_u64]; omega
set_option maxHeartbeats 2000000 in
theorem round_up (neg : Bool) (hi lo A m : Nat) (x b c : Int) (hhi : hi < W64) (hlo : lo < W64) (he : -10000 ≤ x) (he1 : x ≤ 10000) (h : two hi lo ≠ 0) (hb : byOf ff (two hi lo) x = b) (hb0 : 0 ≤ b) (hm : two hi lo / 2 ^ b.toNat = m) (hc : lost (two hi lo) b.toNat = c)
    (hd : ∀ w : World, Calls Try.prog 38 #[.int .u64 (hi : Nat), .int .u64 (lo : Nat), .int .i64 b] w fun e w' => e = .returned (.tuple #[.int .u64 (A : Nat), .int .u64 (m : Nat), .int .i64 c]) ∧ Later w w') (w : World) :
    Calls Try.prog 39 #[fm, .bool neg, .int .u64 (hi : Nat), .int .u64 (lo : Nat), .int .i64 x] w fun e w' => e = .returned (.int .u64 (ff.nearest neg (two hi lo) x : Nat)) ∧ Later w w' := by
  have hz := or_ne hi lo hhi hlo h
  have hn : bl (two hi lo) ≤ 128 := FM.bl_le _ _ (FM.two_lt hi lo hhi hlo)
  have hfb : ff.fractionBits = 23 := rfl
  have hlp : ff.leastPlace = -149 := by decide +kernel
  have hbd : byOf ff (two hi lo) x = max ((bl (two hi lo) : Int) - 23 - 1) (-149 - x) := by unfold byOf; rw [hfb, hlp]; rfl
  have hkl := FM.kept_le ff (two hi lo) x h
  have hks := FM.kept_small ff (two hi lo) x h
  rw [hfb] at hkl hks
  rw [hlp] at hks
  have hK : kept ff (two hi lo) x = m + (if c = 1 ∨ (c = 0 ∧ m % 2 = 1) then 1 else 0) := by
    unfold kept
    rw [hb, show (-b).toNat = 0 from by omega, Nat.pow_zero, Nat.mul_one, FM.keep_lost, hm, hc]
  have hcc : c = 1 ∨ c = 0 ∨ c = -1 ∨ c = 2 := by
    rw [← hc]; unfold lost; split; exact Or.inr (Or.inr (Or.inr rfl)); split; exact Or.inr (Or.inr (Or.inl rfl)); split; exact Or.inr (Or.inl rfl); exact Or.inl rfl
  have hu : (c = 1 ∧ (m : Int) + 1 = (kept ff (two hi lo) x : Nat)) ∨ (c = 0 ∧ m % 2 = 1 ∧ (m : Int) + 1 = (kept ff (two hi lo) x : Nat)) ∨ (c = 0 ∧ m % 2 = 0 ∧ (m : Int) = (kept ff (two hi lo) x : Nat)) ∨ (c = -1 ∧ (m : Int) = (kept ff (two hi lo) x : Nat)) ∨ (c = 2 ∧ (m : Int) = (kept ff (two hi lo) x : Nat)) := by
    rw [hK]
    rcases hcc with h1 | h1 | h1 | h1
    · rw [if_pos (Or.inl h1)]; left; exact ⟨h1, by omega⟩
    · rcases Nat.mod_two_eq_zero_or_one m with h2 | h2
      · rw [if_neg (by omega)]; right; right; left; exact ⟨h1, h2, by omega⟩
      · rw [if_pos (Or.inr ⟨h1, h2⟩)]; right; left; exact ⟨h1, h2, by omega⟩
    · rw [if_neg (by omega)]; right; right; right; left; exact ⟨h1, by omega⟩
    · rw [if_neg (by omega)]; right; right; right; right; exact ⟨h1, by omega⟩
  rw [hb] at hbd hks
  have hml : m ≤ 16777216 := by
    have := hkl
    rw [hK] at this
    have e1 : (2 : Nat) ^ (23 + 1) = 16777216 := by decide
    omega
  have hmw : m < W64 := by simp only [W64]; omega
  have hkl' : kept ff (two hi lo) x ≤ 16777216 := hkl
  have p0 : (2 : Nat) ^ 23 = 8388608 := by decide
  rw [p0] at hks
  generalize hKK : kept ff (two hi lo) x = K at *
  clear hK hcc hkl
  have e1 := wr1 (bl (two hi lo)) hn
  have e2 := wr2 (bl (two hi lo)) hn
  have e3 := wr3 x he he1
  have eb := wr4 (bl (two hi lo)) x b hbd
  obtain ⟨E, hE⟩ : ∃ E, x + b = E := ⟨_, rfl⟩
  obtain ⟨hE0, hE1, hb1⟩ := wr5 (bl (two hi lo)) x b E hn he he1 hbd hE
  clear hbd hlp hfb p0
  have hmm := FM.and1_u m hmw
  have hEb : x + byOf ff (two hi lo) x = E := by rw [hb]; exact hE
  by_cases k1 : K = 16777216
  · rcases Int.lt_or_le (E + 1 + 149 + 1) 255 with hX | hX
    · obtain ⟨X, hXe⟩ : ∃ X : Nat, E + 1 + 149 + 1 = (X : Int) := ⟨(E + 1 + 149 + 1).toNat, by omega⟩
      have Hw := word_fin neg (two hi lo) x E (X * 8388608) h hEb (by rw [hKK, k1]; omega) (by omega)
      rw [Hw]
      refine round_pos2 neg hi lo _ A m _ x b _ _ _ E c (K : Int) (E + 1) (X : Int) (X * 8388608) 0 (ff.word neg (X * 8388608)) (ff.word neg (X * 8388608)) hhi hlo hz rfl e1 e2 e3 eb hb0 hb1 hE hd he he1 hE0 hE1 hmm (by omega) hu (by omega) rfl hXe (by omega) (by omega) (wr6 X (by rw [← hXe]; exact hX)).1 (wr6 X (by rw [← hXe]; exact hX)).2.1 (by decide +kernel) (or_sgn neg _ (wr6 X (by rw [← hXe]; exact hX)).2.2) ?_ w
      have := or_word neg X 0 (by omega) (by decide)
      rw [Nat.add_zero] at this
      exact this
    · rw [← word_inf neg (two hi lo) x E h hEb (by rw [hKK, k1]; omega)]
      exact round_pos1 neg hi lo _ A m _ x b _ _ _ E c (K : Int) (E + 1) _ hhi hlo hz rfl e1 e2 e3 eb hb0 hb1 hE hd he he1 hE0 hE1 hmm (by omega) hu (by omega) rfl rfl hX w
  by_cases k2 : K < 8388608
  · have hEl := hks k2
    have Hw := word_fin neg (two hi lo) x E K h hEb (by rw [hKK]; omega) (by omega)
    rw [Hw]
    exact round_pos3 neg hi lo _ A m _ x b _ _ _ E c (K : Int) _ hhi hlo hz rfl e1 e2 e3 eb hb0 hb1 hE hd he he1 hE0 hE1 hmm (by omega) hu (by omega) (or_sgn neg K (by omega)) (by omega) w
  · rcases Int.lt_or_le (E + 149 + 1) 255 with hX | hX
    · obtain ⟨X, hXe⟩ : ∃ X : Nat, E + 149 + 1 = (X : Int) := ⟨(E + 149 + 1).toNat, by omega⟩
      have Hw := word_fin neg (two hi lo) x E (X * 8388608 + (K - 8388608)) h hEb (by rw [hKK]; omega) (by omega)
      rw [Hw]
      exact round_pos5 neg hi lo _ A m _ x b _ _ _ E c (K : Int) (X : Int) (X * 8388608) (K - 8388608) (ff.word neg (X * 8388608)) _ hhi hlo hz rfl e1 e2 e3 eb hb0 hb1 hE hd he he1 hE0 hE1 hmm (by omega) hu (by omega) (by omega) hXe (by omega) (by omega) (wr6 X (by rw [← hXe]; exact hX)).1 (wr6 X (by rw [← hXe]; exact hX)).2.1 (low_frac K (by omega) (by omega)) (or_sgn neg _ (wr6 X (by rw [← hXe]; exact hX)).2.2) (or_word neg X (K - 8388608) (by omega) (by omega)) w
    · rw [← word_inf neg (two hi lo) x E h hEb (by rw [hKK]; omega)]
      exact round_pos4 neg hi lo _ A m _ x b _ _ _ E c (K : Int) _ hhi hlo hz rfl e1 e2 e3 eb hb0 hb1 hE hd he he1 hE0 hE1 hmm (by omega) hu (by omega) (by omega) rfl hX w
end Go.Proofs.Ytibfjlibkaejnaa.S
