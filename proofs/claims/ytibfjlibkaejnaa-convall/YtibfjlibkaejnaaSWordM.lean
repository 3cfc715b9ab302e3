/- Contracts of the document's work on words (pelorusref4), over this seat's translation. -/
import Derived.Test.YtibfjlibkaejnaaSRef
import Derived.Test.YtibfjlibkaejnaaFW
import Derived.Test.YtibfjlibkaejnaaFW2
namespace Go.Proofs.Ytibfjlibkaejnaa.S
open Go.RowKit
open Go.FM (W64 two bl)
set_option linter.unusedVariables false

theorem ret_u {a b : Int} (h : a = b) : (Ending.returned (.int .u64 a) : Ending) = .returned (.int .u64 b) := by rw [h]
theorem ret_uu {a b c d : Int} (h : a = b) (h' : c = d) : (Ending.returned (.tuple #[.int .u64 a, .int .u64 c]) : Ending) = .returned (.tuple #[.int .u64 b, .int .u64 d]) := by rw [h, h']
theorem ret_b {a b : Bool} (h : a = b) : (Ending.returned (.bool a) : Ending) = .returned (.bool b) := by rw [h]
theorem len_any (x : Nat) (hx : x < W64) (w : World) :
    Calls Try.prog 37 #[.int .u64 (x : Nat)] w fun e w' => e = .returned (.int .i64 (bl x : Nat)) ∧ w' = w := by
  have hx' : (x : Int) ≤ 18446744073709551615 := by simp only [W64] at hx; omega
  go_enter Try.func37, Try.ntmps37
  go_wp2
  go_loop [0, 3] (fun a c => ∃ y j : Nat, y < W64 ∧ j ≤ 64 ∧ a = .int .u64 (y : Nat) ∧ c = .int .i64 (j : Nat) ∧ Hid (bl y + j = bl x)) (fun a _ => (intOf a).toNat)
  case atStart => exact ⟨x, 0, hx, Nat.zero_le _, rfl, rfl, rfl⟩
  case round =>
    obtain ⟨y, j, hy, hj, rfl, rfl, H⟩ := hrel
    have hy' : (y : Int) ≤ 18446744073709551615 := by simp only [W64] at hy; omega
    by_cases h0 : y = 0
    · subst h0
      have e : j = bl x := by have := H.out; rw [FM.bl_zero] at this; omega
      go_wp2
      go_ret
      exact ⟨by first | rfl | rw [e], rfl⟩
    · have hp : (0 : Int) < (y : Int) := by omega
      have hb := FM.bl_half y h0
      have hl : bl x ≤ 64 := FM.bl_le x 64 (by simpa [W64] using hx)
      have H' : bl (y / 2) + (j + 1) = bl x := by have := H.out; omega
      have hj' : j + 1 ≤ 64 := by omega
      clear hb hl
      go_wp2
      go_round
      case rel => exact ⟨y / 2, j + 1, by simp only [W64] at *; omega, hj', by simp, by go_num, H'⟩
      case measure => simp [intOf]; omega
theorem long_any (hi lo : Nat) (hhi : hi < W64) (hlo : lo < W64) (w : World) :
    Calls Try.prog 48 #[.int .u64 (hi : Nat), .int .u64 (lo : Nat)] w fun e w' => e = .returned (.int .i64 (bl (two hi lo) : Nat)) ∧ w' = w := by
  have hl : bl hi ≤ 64 := FM.bl_le hi 64 (by simpa [W64] using hhi)
  by_cases h : hi = 0
  · subst h
    have e : two 0 lo = lo := by unfold two; omega
    rw [e]
    go_enter Try.func48, Try.ntmps48
    go_wp2_with (go_at_call 37; refine (len_any lo hlo _).mono ?_; rintro e w' ⟨rfl, rfl⟩)
    go_ret
    exact ⟨rfl, rfl⟩
  · have hp : (0 : Int) < (hi : Int) := by omega
    have e : bl (two hi lo) = 64 + bl hi := FM.bl_two hi lo h hlo
    rw [e]
    go_enter Try.func48, Try.ntmps48
    go_wp2_with (go_at_call 37; refine (len_any hi hhi _).mono ?_; rintro e w' ⟨rfl, rfl⟩)
    go_ret
    exact ⟨by simp, rfl⟩
theorem word_any (hi lo k : Nat) (hhi : hi < W64) (hlo : lo < W64) (hk : k < 128) (w : World) :
    Calls Try.prog 46 #[.int .u64 (hi : Nat), .int .u64 (lo : Nat), .int .i64 (k : Nat)] w fun e w' => e = .returned (.bool (decide (two hi lo / 2 ^ k % 2 = 1))) ∧ w' = w := by
  have hhi' : (hi : Int) ≤ 18446744073709551615 := by simp only [W64] at hhi; omega
  have hlo' : (lo : Int) ≤ 18446744073709551615 := by simp only [W64] at hlo; omega
  by_cases h : k < 64
  · have e := FM.two_bit_low hi lo k hlo h
    have hb := FM.and1_u (lo / 2 ^ k) (Nat.lt_of_le_of_lt (Nat.div_le_self _ _) hlo)
    rw [e]
    have hb' : bits .and .u64 ((lo : Int) / 2 ^ k) 1 = ((lo / 2 ^ k % 2 : Nat) : Int) := by rw [← hb]; simp
    clear e hb
    generalize lo / 2 ^ k % 2 = z at *
    go_enter Try.func46, Try.ntmps46
    go_wp2
    go_ret
    exact ⟨ret_b (by rw [Bool.eq_iff_iff]; simp; omega), rfl⟩
  · obtain ⟨j, rfl⟩ : ∃ j, k = 64 + j := ⟨k - 64, by omega⟩
    have e := FM.two_div_high hi lo (64 + j) hlo (by omega)
    rw [e, show 64 + j - 64 = j from by omega]
    have hb := FM.and1_u (hi / 2 ^ j) (Nat.lt_of_le_of_lt (Nat.div_le_self _ _) hhi)
    have hb' : bits .and .u64 ((hi : Int) / 2 ^ j) 1 = ((hi / 2 ^ j % 2 : Nat) : Int) := by rw [← hb]; simp
    clear e hb
    generalize hi / 2 ^ j % 2 = z at *
    go_enter Try.func46, Try.ntmps46
    go_wp2
    go_ret
    exact ⟨ret_b (by rw [Bool.eq_iff_iff]; simp; omega), rfl⟩
end Go.Proofs.Ytibfjlibkaejnaa.S
namespace Go.Proofs.Ytibfjlibkaejnaa.S
open Go.RowKit
open Go.FM (W64 two bl)
set_option linter.unusedVariables false

end Go.Proofs.Ytibfjlibkaejnaa.S
namespace Go.Proofs.Ytibfjlibkaejnaa.S
open Go.RowKit
open Go.FM (W64 two bl lost)
set_option linter.unusedVariables false

/-- the dividend's digits down to place j -/
def dd (hi lo j : Nat) : Nat := hi * 2 ^ (64 - j) + lo / 2 ^ j
theorem dd_step (hi lo k : Nat) (hk : k < 64) : dd hi lo k = 2 * dd hi lo (k + 1) + lo / 2 ^ k % 2 := by
  unfold dd
  have e1 : 2 ^ (64 - k) = 2 * 2 ^ (64 - (k + 1)) := by rw [Nat.mul_comm, ← Nat.pow_succ]; congr 1; omega
  have e2 : lo / 2 ^ (k + 1) = lo / 2 ^ k / 2 := by rw [Nat.pow_succ, Nat.div_div_eq_div_mul]
  rw [e1, e2, Nat.mul_left_comm]
  generalize hi * 2 ^ (64 - (k + 1)) = z
  generalize lo / 2 ^ k = t
  omega
theorem dd_lt (hi lo y j : Nat) (hlo : lo < W64) (h : hi < y) (hj : j ≤ 64) : dd hi lo j / y < 2 ^ (64 - j) := by
  have hp := Nat.two_pow_pos (64 - j)
  have e : W64 = 2 ^ j * 2 ^ (64 - j) := by rw [← Nat.pow_add, show j + (64 - j) = 64 from by omega]
  have h1 : lo / 2 ^ j < 2 ^ (64 - j) := by rw [Nat.div_lt_iff_lt_mul (Nat.two_pow_pos j), Nat.mul_comm, ← e]; exact hlo
  rw [Nat.div_lt_iff_lt_mul (by omega)]
  unfold dd
  have h2 : (hi + 1) * 2 ^ (64 - j) ≤ y * 2 ^ (64 - j) := Nat.mul_le_mul_right _ h
  rw [Nat.add_mul, Nat.one_mul] at h2
  rw [Nat.mul_comm (2 ^ (64 - j)) y]
  omega
end Go.Proofs.Ytibfjlibkaejnaa.S
namespace Go.Proofs.Ytibfjlibkaejnaa.S
open Go.RowKit
open Go.FM (W64 two bl lost)
set_option linter.unusedVariables false

theorem ret_uui {a b c d e f : Int} (h : a = b) (h' : c = d) (h'' : e = f) : (Ending.returned (.tuple #[.int .u64 a, .int .u64 c, .int .i64 e]) : Ending) = .returned (.tuple #[.int .u64 b, .int .u64 d, .int .i64 f]) := by rw [h, h', h'']
theorem down_none (hi lo : Nat) (k : Int) (hk : k ≤ 0) (hk' : -1000000 ≤ k) (w : World) :
    Calls Try.prog 38 #[.int .u64 (hi : Nat), .int .u64 (lo : Nat), .int .i64 k] w fun e w' => e = .returned (.tuple #[.int .u64 (hi : Nat), .int .u64 (lo : Nat), .int .i64 2]) ∧ w' = w := by
  go_enter Try.func38, Try.ntmps38
  go_wp2
  go_ret3
  exact ⟨rfl, rfl⟩
/-- whether anything lies below place i -/
def below (M i : Nat) : Bool := !(M % 2 ^ i == 0)
theorem below_step (M i : Nat) : below M (i + 1) = (below M i || decide (M / 2 ^ i % 2 = 1)) := by
  have h := FM.low_some M i
  have hb : M / 2 ^ i % 2 = 0 ∨ M / 2 ^ i % 2 = 1 := by omega
  unfold below
  rw [Bool.eq_iff_iff]
  simp only [Bool.not_eq_true', beq_eq_false_iff_ne, ne_eq, Bool.or_eq_true, decide_eq_true_eq]
  rw [h]
  omega
theorem lost_by (M k : Nat) (b r : Bool) (hb : decide (M / 2 ^ k % 2 = 1) = b) (hr : below M k = r) : lost M (k + 1) = (if b then (if r then 1 else 0) else (if r then -1 else 2)) := by
  rw [FM.lost_at]
  unfold below at hr
  subst hb hr
  by_cases h1 : M / 2 ^ k % 2 = 1
  · by_cases h2 : M % 2 ^ k = 0
    · simp [h1, h2]
    · simp [h1, h2]
  · by_cases h2 : M % 2 ^ k = 0
    · simp [h1, h2]
    · simp [h1, h2]
set_option maxRecDepth 100000 in
set_option maxHeartbeats 4000000 in
theorem down_some (hi lo k A B : Nat) (L : Int) (b : Bool) (hhi : hi < W64) (hlo : lo < W64) (hk : k < 128) (hb : Hid (decide (two hi lo / 2 ^ k % 2 = 1) = b)) (hA : Hid (two hi lo / 2 ^ (k + 1) / W64 = A)) (hB : Hid (two hi lo / 2 ^ (k + 1) % W64 = B)) (hL : Hid (lost (two hi lo) (k + 1) = L)) (w : World) :
    Calls Try.prog 38 #[.int .u64 (hi : Nat), .int .u64 (lo : Nat), .int .i64 ((k + 1 : Nat) : Int)] w fun e w' => e = .returned (.tuple #[.int .u64 (A : Nat), .int .u64 (B : Nat), .int .i64 L]) ∧ Later w w' := by
  have ek : ((k + 1 : Nat) : Int) - 1 = (k : Int) := by omega
  have hhi' : hi ≤ 18446744073709551615 := by simp only [W64] at hhi; omega
  have hlo' : lo ≤ 18446744073709551615 := by simp only [W64] at hlo; omega
  go_enter Try.func38, Try.ntmps38
  go_wp2_with (go_at_call 46; refine (word_any hi lo k hhi hlo hk _).mono ?_; rintro e w' ⟨rfl, rfl⟩; rw [hb.out])
  go_loop [10, 11] (fun r i => ∃ j : Nat, j ≤ k ∧ i = .int .i64 (j : Nat) ∧ r = .bool (below (two hi lo) j)) (fun _ i => k - (intOf i).toNat)
  case atStart => exact ⟨0, Nat.zero_le _, rfl, by unfold below; rw [Nat.pow_zero, Nat.mod_one]; rfl⟩
  case round =>
    obtain ⟨j, hj, rfl, rfl⟩ := hrel
    by_cases hlt : j < k
    · have HS : Hid (below (two hi lo) (j + 1) = (below (two hi lo) j || decide (two hi lo / 2 ^ j % 2 = 1))) := below_step _ _
      cases hr : below (two hi lo) j
      · have HS' : Hid (below (two hi lo) (j + 1) = decide (two hi lo / 2 ^ j % 2 = 1)) := by show _ = _; rw [HS.out, hr]; simp
        clear HS
        go_wp2_with (go_at_call 46; refine (word_any hi lo j hhi hlo (by omega) _).mono ?_; rintro e w' ⟨rfl, rfl⟩)
        go_round
        case rel => exact ⟨j + 1, by omega, by go_num, by rw [HS'.out]⟩
        case measure => simp [intOf]; omega
      · have HS' : Hid (below (two hi lo) (j + 1) = true) := by show _ = _; rw [HS.out, hr]; rfl
        clear HS
        go_wp2
        go_round
        case rel => exact ⟨j + 1, by omega, by go_num, by rw [HS'.out]⟩
        case measure => simp [intOf]; omega
    · have hjk : j = k := by omega
      subst hjk
      have HL := lost_by (two hi lo) j b _ hb.out rfl
      rw [hL.out] at HL
      clear hb hL
      generalize below (two hi lo) j = r at *
      by_cases h128 : j = 127
      · subst h128
        have eM : two hi lo / 2 ^ (127 + 1) = 0 := Nat.div_eq_of_lt (FM.two_lt hi lo hhi hlo)
        have eA : A = 0 := by rw [← hA.out, eM]; rfl
        have eB : B = 0 := by rw [← hB.out, eM]; rfl
        subst eA eB
        clear eM hA hB
        cases b <;> cases r
        all_goals
          simp only [if_true, Bool.false_eq_true, if_false] at HL
          subst HL
          go_wp2
          go_ret3
          exact ⟨rfl, Later.refl _⟩
      by_cases h64 : 63 ≤ j
      · have eM := FM.two_div_high hi lo (j + 1) hlo (by omega)
        obtain ⟨i, hi64⟩ : ∃ i, j + 1 - 64 = i := ⟨_, rfl⟩
        rw [hi64] at eM
        have hil : hi / 2 ^ i < W64 := Nat.lt_of_le_of_lt (Nat.div_le_self _ _) hhi
        have eA : A = 0 := by rw [← hA.out, eM, Nat.div_eq_of_lt hil]
        have eB : Hid (((hi : Int) / 2 ^ i) = (B : Int)) := by show _ = _; rw [← hB.out, eM, Nat.mod_eq_of_lt hil]; simp
        subst eA
        have ei : ((j + 1 : Nat) : Int) - 64 = (i : Int) := by omega
        have ei' : (j : Int) + 1 - 64 = (i : Int) := by omega
        have ei2 : IntKind.i64.wrap ((j : Int) + 1 - 64) = (i : Int) := by rw [ei', IntKind.wrap_i64]; omega
        have ei5 : IntKind.i64.wrap (i : Int) = (i : Int) := by rw [IntKind.wrap_i64]; omega
        have hc1 : ¬ (j : Int) + 1 = 128 := by omega
        have hc2 : (64 : Int) ≤ (j : Int) + 1 := by omega
        clear eM hA hB hil ek hi64
        cases b <;> cases r
        all_goals
          simp only [if_true, Bool.false_eq_true, if_false] at HL
          subst HL
          go_wp2
          first
            | (go_ret3; exact ⟨ret_uui rfl eB.out rfl, Later.refl _⟩)
            | (refine wp_region_quiet_far (by kernel_rfl) (by kernel_rfl) ?_
               repeat (quiet_step (fail))
               refine wpQuiet_nil ?_
               rintro _ ⟨⟨bs, n⟩, rfl⟩
               go_wp2
               go_ret3
               exact ⟨ret_uui rfl eB.out rfl, (Later.refl _).far⟩)
      · obtain ⟨e1, e2, e3, e4⟩ := FM.two_down hi lo (j + 1) hhi hlo (by omega) (by omega)
        obtain ⟨i, hi64⟩ : ∃ i, 64 - (j + 1) = i := ⟨_, rfl⟩
        obtain ⟨c, hc⟩ : ∃ c, j + 1 = c := ⟨_, rfl⟩
        rw [hi64] at e2 e3 e4
        have eA : Hid (((hi : Int) / 2 ^ c) = (A : Int)) := by show _ = _; rw [← hA.out, e1, hc]; simp
        have eo : bits .or .u64 ((lo : Int) / 2 ^ c) (IntKind.u64.wrap ((hi : Int) * 2 ^ i)) = (B : Int) := by
          have w1 : IntKind.u64.wrap ((hi : Int) * 2 ^ i) = ((hi * 2 ^ i % W64 : Nat) : Int) := by
            rw [IntKind.wrap_u64, show ((hi : Int) * 2 ^ i) = ((hi * 2 ^ i : Nat) : Int) from by simp]
            simp only [W64]; generalize hi * 2 ^ i = z at *; omega
          have w2 : ((lo : Int) / 2 ^ c) = ((lo / 2 ^ c : Nat) : Int) := by simp
          rw [w1, w2, FM.or_u _ _ (Nat.lt_of_le_of_lt (Nat.div_le_self _ _) hlo) (Nat.mod_lt _ (by decide)), Nat.or_comm, e4, FM.or_add _ _ _ (by rw [← hc]; exact e3), ← e4, ← hB.out, e2, hc]
        have ei' : (64 : Int) - ((j : Int) + 1) = (i : Int) := by omega
        have ei2 : IntKind.i64.wrap (64 - ((j : Int) + 1)) = (i : Int) := by rw [ei', IntKind.wrap_i64]; omega
        have ei3 : (j : Int) + 1 = (c : Int) := by omega
        have ei4 : IntKind.i64.wrap (64 - (c : Int)) = (i : Int) := by rw [← ei3]; exact ei2
        have ec : ((j + 1 : Nat) : Int) = (c : Int) := by omega
        have hc1 : ¬ (c : Int) = 128 := by omega
        have hc2 : ¬ (64 : Int) ≤ (c : Int) := by omega
        have hc3 : c < 64 := by omega
        have hi3 : i < 64 := by omega
        have ei5 : IntKind.i64.wrap (i : Int) = (i : Int) := by rw [IntKind.wrap_i64]; omega
        have ei6 : (64 : Int) - (c : Int) = (i : Int) := by omega
        have ec1 : (c : Int) - 1 = (j : Int) := by omega
        rw [ei3]
        clear e1 e2 e3 e4 hA hB ek hi64 ei' ei2 ei3 ec hc
        cases b <;> cases r
        all_goals
          simp only [if_true, Bool.false_eq_true, if_false] at HL
          subst HL
          go_wp2
          refine wp_region_quiet_far (by kernel_rfl) (by kernel_rfl) ?_
          repeat (quiet_step (fail))
          refine wpQuiet_nil ?_
          rintro _ ⟨⟨bs, n⟩, rfl⟩
          go_wp2
          go_ret3
          exact ⟨ret_uui eA.out rfl rfl, (Later.refl _).far⟩
end Go.Proofs.Ytibfjlibkaejnaa.S
