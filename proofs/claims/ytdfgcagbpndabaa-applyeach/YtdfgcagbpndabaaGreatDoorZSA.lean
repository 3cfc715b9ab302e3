/- Contracts of the document's own floats (pelorusref4) at 32 bits, over this seat's translation. -/
import Derived.Test.YtdfgcagbpndabaaGreatDoorRows
import Derived.WalkKit
import Derived.ProofKit
import Derived.Deep.QuietTactic
import Derived.BigQuiet
import Derived.LoopN
import Derived.LoopTactic
import Derived.Test.YtdfgcagbpndabaaGreatDoorZA
import Derived.Test.YtdfgcagbpndabaaGreatDoorZB
set_option linter.unusedVariables false
set_option maxHeartbeats 4000000
set_option maxRecDepth 100000
namespace Go.Proofs.YtdfgcagbpndabaaGreatDoor.S
open Go.RowKit
abbrev fm : Value := .agg #[.int .i64 32, .int .i64 23]
theorem single_any (w : World) :
    RW Tryz.prog 67 #[] w fm := by
  go_enter Tryz.func67, Tryz.ntmps67
  go_wp2
  refine bodyPost_ret (v := fm) (by simp [results, Tryz.results67, go_sem]) rfl ⟨rfl, (by repeat first | exact Lz _ | apply La | apply Lv | apply Ln | apply Ld)⟩
theorem bias_any (w : World) :
    RW Tryz.prog 170 #[fm] w (.int .i64 127) := by
  go_enter Tryz.func170, Tryz.ntmps170
  go_wp2
  go_ret
  exact ⟨rfl, (by repeat first | exact Lz _ | apply La | apply Lv | apply Ln | apply Ld)⟩
theorem top_any (w : World) :
    RW Tryz.prog 150 #[fm] w (.int .u64 255) := by
  go_enter Tryz.func150, Tryz.ntmps150
  go_wp2
  go_ret
  exact ⟨rfl, (by repeat first | exact Lz _ | apply La | apply Lv | apply Ln | apply Ld)⟩
theorem least_any (w : World) :
    RW Tryz.prog 151 #[fm] w (.int .i64 (-149)) := by
  go_enter Tryz.func151, Tryz.ntmps151
  go_wp2_with fail
  refine wp_region_quiet_far (by kernel_rfl) (by kernel_rfl) ?_
  repeat (quiet_step ((go_at_call 170; exact Calls.far_of (bias_any _))))
  refine wpQuiet_nil ?_
  rintro _ ⟨⟨bs, n⟩, rfl⟩
  go_wp2
  go_ret
  exact ⟨rfl, (by repeat first | exact Lz _ | apply La | apply Lv | apply Ln | apply Ld)⟩
theorem signed_true (w : World) :
    RW Tryz.prog 127 #[fm, .bool true] w (.int .u64 2147483648) := by
  go_enter Tryz.func127, Tryz.ntmps127
  go_wp2
  go_ret
  exact ⟨rfl, (by repeat first | exact Lz _ | apply La | apply Lv | apply Ln | apply Ld)⟩
theorem signed_false (w : World) :
    RW Tryz.prog 127 #[fm, .bool false] w (.int .u64 0) := by
  go_enter Tryz.func127, Tryz.ntmps127
  go_wp2
  go_ret
  exact ⟨rfl, (by repeat first | exact Lz _ | apply La | apply Lv | apply Ln | apply Ld)⟩
def sgn (neg : Bool) : Int := if neg then 2147483648 else 0
theorem signed_any (neg : Bool) (w : World) :
    RW Tryz.prog 127 #[fm, .bool neg] w (.int .u64 (sgn neg)) := by
  cases neg
  · exact signed_false w
  · exact signed_true w
theorem nan_any (w : World) :
    RW Tryz.prog 123 #[fm] w (.int .u64 2143289344) := by
  go_enter Tryz.func123, Tryz.ntmps123
  go_wp2_with fail
  refine wp_region_quiet_far (by kernel_rfl) (by kernel_rfl) ?_
  repeat (quiet_step ((go_at_call 150; exact Calls.far_of (top_any _))))
  refine wpQuiet_nil ?_
  rintro _ ⟨⟨bs, n⟩, rfl⟩
  go_wp2
  go_ret
  exact ⟨rfl, (by repeat first | exact Lz _ | apply La | apply Lv | apply Ln | apply Ld)⟩
theorem inf_true (w : World) :
    RW Tryz.prog 124 #[fm, .bool true] w (.int .u64 4286578688) := by
  go_enter Tryz.func124, Tryz.ntmps124
  go_wp2_with fail
  refine wp_region_quiet_far (by kernel_rfl) (by kernel_rfl) ?_
  repeat (quiet_step (first | (go_at_call 150; exact Calls.far_of (top_any _)) | (go_at_call 127; exact Calls.far_of (signed_true _))))
  refine wpQuiet_nil ?_
  rintro _ ⟨⟨bs, n⟩, rfl⟩
  go_wp2
  go_ret
  exact ⟨rfl, (by repeat first | exact Lz _ | apply La | apply Lv | apply Ln | apply Ld)⟩
theorem inf_false (w : World) :
    RW Tryz.prog 124 #[fm, .bool false] w (.int .u64 2139095040) := by
  go_enter Tryz.func124, Tryz.ntmps124
  go_wp2_with fail
  refine wp_region_quiet_far (by kernel_rfl) (by kernel_rfl) ?_
  repeat (quiet_step (first | (go_at_call 150; exact Calls.far_of (top_any _)) | (go_at_call 127; exact Calls.far_of (signed_false _))))
  refine wpQuiet_nil ?_
  rintro _ ⟨⟨bs, n⟩, rfl⟩
  go_wp2
  go_ret
  exact ⟨rfl, (by repeat first | exact Lz _ | apply La | apply Lv | apply Ln | apply Ld)⟩
end Go.Proofs.YtdfgcagbpndabaaGreatDoor.S
namespace Go.Proofs.YtdfgcagbpndabaaGreatDoor.S
open Go.RowKit
open Go.FM (W64 two bl)
theorem ret_uu {a b c d : Int} (h : a = b) (h' : c = d) : (Ending.returned (.tuple #[.int .u64 a, .int .u64 c]) : Ending) = .returned (.tuple #[.int .u64 b, .int .u64 d]) := by rw [h, h']
theorem ret_b {a b : Bool} (h : a = b) : (Ending.returned (.bool a) : Ending) = .returned (.bool b) := by rw [h]
theorem len_any (x : Nat) (hx : x < W64) (w : World) :
    Calls Tryz.prog 120 #[.int .u64 (x : Nat)] w fun e w' => e = .returned (.int .i64 (bl x : Nat)) ∧ w' = w := by
  have hx' : (x : Int) ≤ 18446744073709551615 := by simp only [W64] at hx; omega
  go_enter Tryz.func120, Tryz.ntmps120
  go_wp2
  go_loop [0, 3] (fun a c => ∃ y j : Nat, y < W64 ∧ j ≤ 64 ∧ a = .int .u64 (y : Nat) ∧ c = .int .i64 (j : Nat) ∧ Hid (bl y + j = bl x)) (fun a _ => (intOf a).toNat)
  case atStart => exact ⟨x, 0, hx, Nat.zero_le _, rfl, rfl, rfl⟩
  case round =>
    obtain ⟨y, j, hy, hj, rfl, rfl, H⟩ := hrel
    have hy' : (y : Int) ≤ 18446744073709551615 := by simp only [W64] at hy; omega
    by_cases h0 : y = 0
    · subst h0
      have e : j = bl x := by have := H.out; rw [FM.bl_zero] at this; omega
      go_wp2
      go_ret
      exact ⟨by first | rfl | rw [e], rfl⟩
    · have hp : (0 : Int) < (y : Int) := by omega
      have hb := FM.bl_half y h0
      have hl : bl x ≤ 64 := FM.bl_le x 64 (by simpa [W64] using hx)
      have H' : bl (y / 2) + (j + 1) = bl x := by have := H.out; omega
      have hj' : j + 1 ≤ 64 := by omega
      clear hb hl
      go_wp2
      go_round
      case rel => exact ⟨y / 2, j + 1, by simp only [W64] at *; omega, hj', by simp, by go_num, H'⟩
      case measure => simp [intOf]; omega
theorem lead_any (x : Nat) (hx : x < W64) (w : World) :
    Calls Tryz.prog 154 #[.int .u64 (x : Nat)] w fun e w' => e = .returned (.int .i64 (64 - (bl x : Nat))) ∧ w' = w := by
  have hl : bl x ≤ 64 := FM.bl_le x 64 (by simpa [W64] using hx)
  go_enter Tryz.func154, Tryz.ntmps154
  go_wp2_with (go_at_call 120; refine (len_any x hx _).mono ?_; rintro e w' ⟨rfl, rfl⟩)
  go_ret
  exact ⟨rfl, rfl⟩
theorem long_any (hi lo : Nat) (hhi : hi < W64) (hlo : lo < W64) (w : World) :
    Calls Tryz.prog 153 #[.int .u64 (hi : Nat), .int .u64 (lo : Nat)] w fun e w' => e = .returned (.int .i64 (bl (two hi lo) : Nat)) ∧ w' = w := by
  have hl : bl hi ≤ 64 := FM.bl_le hi 64 (by simpa [W64] using hhi)
  by_cases h : hi = 0
  · subst h
    have e : two 0 lo = lo := by unfold two; omega
    rw [e]
    go_enter Tryz.func153, Tryz.ntmps153
    go_wp2_with (go_at_call 120; refine (len_any lo hlo _).mono ?_; rintro e w' ⟨rfl, rfl⟩)
    go_ret
    exact ⟨rfl, rfl⟩
  · have hp : (0 : Int) < (hi : Int) := by omega
    have e : bl (two hi lo) = 64 + bl hi := FM.bl_two hi lo h hlo
    rw [e]
    go_enter Tryz.func153, Tryz.ntmps153
    go_wp2_with (go_at_call 120; refine (len_any hi hhi _).mono ?_; rintro e w' ⟨rfl, rfl⟩)
    go_ret
    exact ⟨by simp, rfl⟩
theorem word_any (hi lo k : Nat) (hhi : hi < W64) (hlo : lo < W64) (hk : k < 128) (w : World) :
    Calls Tryz.prog 152 #[.int .u64 (hi : Nat), .int .u64 (lo : Nat), .int .i64 (k : Nat)] w fun e w' => e = .returned (.bool (decide (two hi lo / 2 ^ k % 2 = 1))) ∧ w' = w := by
  have hhi' : (hi : Int) ≤ 18446744073709551615 := by simp only [W64] at hhi; omega
  have hlo' : (lo : Int) ≤ 18446744073709551615 := by simp only [W64] at hlo; omega
  by_cases h : k < 64
  · have e := FM.two_bit_low hi lo k hlo h
    have hb := FM.and1_u (lo / 2 ^ k) (Nat.lt_of_le_of_lt (Nat.div_le_self _ _) hlo)
    rw [e]
    have hb' : bits .and .u64 ((lo : Int) / 2 ^ k) 1 = ((lo / 2 ^ k % 2 : Nat) : Int) := by rw [← hb]; simp
    clear e hb
    generalize lo / 2 ^ k % 2 = z at *
    go_enter Tryz.func152, Tryz.ntmps152
    go_wp2
    go_ret
    exact ⟨ret_b (by rw [Bool.eq_iff_iff]; simp; omega), rfl⟩
  · obtain ⟨j, rfl⟩ : ∃ j, k = 64 + j := ⟨k - 64, by omega⟩
    have e := FM.two_div_high hi lo (64 + j) hlo (by omega)
    rw [e, show 64 + j - 64 = j from by omega]
    have hb := FM.and1_u (hi / 2 ^ j) (Nat.lt_of_le_of_lt (Nat.div_le_self _ _) hhi)
    have hb' : bits .and .u64 ((hi : Int) / 2 ^ j) 1 = ((hi / 2 ^ j % 2 : Nat) : Int) := by rw [← hb]; simp
    clear e hb
    generalize hi / 2 ^ j % 2 = z at *
    go_enter Tryz.func152, Tryz.ntmps152
    go_wp2
    go_ret
    exact ⟨ret_b (by rw [Bool.eq_iff_iff]; simp; omega), rfl⟩
end Go.Proofs.YtdfgcagbpndabaaGreatDoor.S
namespace Go.Proofs.YtdfgcagbpndabaaGreatDoor.S
open Go.RowKit
open Go.FM (W64 two bl)
theorem up_any (m k : Nat) (hm : m < W64) (hk : k < 128) (h : m * 2 ^ k < 2 ^ 128) (w : World) :
    RW Tryz.prog 155 #[.int .u64 (m : Nat), .int .i64 (k : Nat)] w (.tuple #[.int .u64 (m * 2 ^ k / W64 : Nat), .int .u64 (m * 2 ^ k % W64 : Nat)]) := by
  have hm' : (m : Int) ≤ 18446744073709551615 := by simp only [W64] at hm; omega
  by_cases h64 : 64 ≤ k
  · obtain ⟨j, rfl⟩ : ∃ j, k = 64 + j := ⟨k - 64, by omega⟩
    have e : m * 2 ^ (64 + j) = m * 2 ^ j * W64 := by rw [Nat.add_comm, Nat.pow_add, Nat.mul_assoc]
    have lt : m * 2 ^ j < W64 := by
      rw [e] at h
      rcases Nat.lt_or_ge (m * 2 ^ j) W64 with h' | h'
      · exact h'
      · have := Nat.mul_le_mul_right W64 h'
        have e2 : (2 : Nat) ^ 128 = W64 * W64 := by decide
        omega
    rw [e, Nat.mul_div_cancel _ (by decide : 0 < W64), Nat.mul_mod_left]
    have hw : Hid (IntKind.u64.wrap ((m : Int) * 2 ^ j) = ((m * 2 ^ j : Nat) : Int)) := by
      show _ = _
      rw [IntKind.wrap_u64, show ((m : Int) * 2 ^ j) = ((m * 2 ^ j : Nat) : Int) from by simp]
      generalize m * 2 ^ j = z at *
      simp only [W64] at lt; omega
    have hj : j < 64 := by omega
    clear e h h64
    go_enter Tryz.func155, Tryz.ntmps155
    go_wp2
    go_ret2
    exact ⟨ret_uu (by first | exact hw.out | (rw [show 64 + j - 64 = j from by omega]; exact hw.out)) rfl, Later.refl _⟩
  by_cases h0 : k = 0
  · subst h0
    rw [Nat.pow_zero, Nat.mul_one, Nat.div_eq_of_lt hm, Nat.mod_eq_of_lt hm]
    go_enter Tryz.func155, Tryz.ntmps155
    go_wp2
    go_ret2
    exact ⟨rfl, Later.refl _⟩
  · have e1 : Hid (((m * 2 ^ k / W64 : Nat) : Int) = (m : Int) / 2 ^ (64 - k)) := by
      show _ = _
      have e : W64 = 2 ^ (64 - k) * 2 ^ k := by rw [← Nat.pow_add, show 64 - k + k = 64 from by omega]
      rw [e, Nat.mul_div_mul_right _ _ (Nat.two_pow_pos k)]; simp
    have e2 : Hid (IntKind.u64.wrap ((m : Int) * 2 ^ k) = ((m * 2 ^ k % W64 : Nat) : Int)) := by
      show _ = _
      rw [IntKind.wrap_u64, show ((m : Int) * 2 ^ k) = ((m * 2 ^ k : Nat) : Int) from by simp]
      simp only [W64]; generalize m * 2 ^ k = z at *; omega
    have ek : IntKind.i64.wrap (64 - (k : Int)) = ((64 - k : Nat) : Int) := by rw [IntKind.wrap_i64]; omega
    have hk0 : ¬ (k : Int) = 0 := by omega
    clear h hk
    go_enter Tryz.func155, Tryz.ntmps155
    go_wp2
    refine wp_region_quiet_far (by kernel_rfl) (by kernel_rfl) ?_
    repeat (quiet_step (fail))
    refine wpQuiet_nil ?_
    rintro _ ⟨⟨bs, n⟩, rfl⟩
    go_wp2
    go_ret2
    exact ⟨ret_uu e1.out.symm e2.out, (Later.refl _).far⟩
theorem add_any (x y : Nat) (hx : x < W64) (hy : y < W64) (w : World) :
    Calls Tryz.prog 171 #[.int .u64 (x : Nat), .int .u64 (y : Nat), .int .u64 0] w fun e w' => e = .returned (.tuple #[.int .u64 ((x + y) % W64 : Nat), .int .u64 ((x + y) / W64 : Nat)]) ∧ w' = w := by
  simp only [W64] at *
  have hx' : (x : Int) ≤ 18446744073709551615 := by omega
  have hy' : (y : Int) ≤ 18446744073709551615 := by omega
  by_cases h : x + y ≤ 18446744073709551615
  · rw [Nat.mod_eq_of_lt (by omega), Nat.div_eq_of_lt (by omega)]
    have e : Hid (IntKind.u64.wrap ((x : Int) + y) = (x : Int) + y) := by show _ = _; rw [IntKind.wrap_u64]; omega
    have h1 : ¬ (x : Int) + y < x := by omega
    have h2 : (x : Int) + y ≤ 18446744073709551615 := by omega
    go_enter Tryz.func171, Tryz.ntmps171
    go_wp2
    go_ret2
    exact ⟨ret_uu (by simp) (by simp), rfl⟩
  · have e1 : (x + y) % 18446744073709551616 = x + y - 18446744073709551616 := by omega
    have e2 : (x + y) / 18446744073709551616 = 1 := by omega
    rw [e1, e2]
    have e : IntKind.u64.wrap ((x : Int) + y) = ((x + y - 18446744073709551616 : Nat) : Int) := by rw [IntKind.wrap_u64]; omega
    have h1 : x + y - 18446744073709551616 < x := by omega
    generalize x + y - 18446744073709551616 = z at *
    go_enter Tryz.func171, Tryz.ntmps171
    go_wp2
    go_ret2
    exact ⟨ret_uu (by first | rfl | simp) (by first | rfl | simp), rfl⟩
theorem sub_any (x y b : Nat) (hx : x < W64) (hy : y < W64) (hb : b < 2) (w : World) :
    Calls Tryz.prog 172 #[.int .u64 (x : Nat), .int .u64 (y : Nat), .int .u64 (b : Nat)] w fun e w' => e = .returned (.tuple #[.int .u64 ((x + W64 + W64 - y - b) % W64 : Nat), .int .u64 (if x < y + b then 1 else 0 : Nat)]) ∧ w' = w := by
  simp only [W64] at *
  have hx' : (x : Int) ≤ 18446744073709551615 := by omega
  have hy' : (y : Int) ≤ 18446744073709551615 := by omega
  obtain ⟨d, hd⟩ : ∃ d : Nat, IntKind.u64.wrap ((x : Int) - y) = (d : Int) := ⟨((x : Int) - y).toNat + (if x < y then (18446744073709551616 - (y - x)) else 0), by rw [IntKind.wrap_u64]; split <;> omega⟩
  obtain ⟨z, hz⟩ : ∃ z : Nat, IntKind.u64.wrap ((d : Int) - b) = (z : Int) := ⟨((d : Int) - b).toNat + (if d < b then (18446744073709551616 - (b - d)) else 0), by rw [IntKind.wrap_u64]; rw [IntKind.wrap_u64] at hd; split <;> omega⟩
  have ez : (x + 18446744073709551616 + 18446744073709551616 - y - b) % 18446744073709551616 = z := by rw [IntKind.wrap_u64] at hz hd; omega
  have hdm : d ≤ 18446744073709551615 := by rw [IntKind.wrap_u64] at hd; omega
  have key : (x < y ∨ d < b) ↔ x < y + b := by rw [IntKind.wrap_u64] at hd; omega
  rw [ez]
  by_cases h1 : x < y
  · rw [if_pos (key.1 (Or.inl h1))]
    clear key ez
    go_enter Tryz.func172, Tryz.ntmps172
    go_wp2
    go_ret2
    exact ⟨ret_uu (by first | rfl | simp) (by first | rfl | simp), rfl⟩
  by_cases h2 : d < b
  · rw [if_pos (key.1 (Or.inr h2))]
    clear key ez
    go_enter Tryz.func172, Tryz.ntmps172
    go_wp2
    go_ret2
    exact ⟨ret_uu (by first | rfl | simp) (by first | rfl | simp), rfl⟩
  · rw [if_neg (fun h => (key.2 h).elim h1 h2)]
    clear key ez
    go_enter Tryz.func172, Tryz.ntmps172
    go_wp2
    go_ret2
    exact ⟨ret_uu (by first | rfl | simp) (by first | rfl | simp), rfl⟩
theorem mul_core (x y a b c d p ad q bc r ac z p1 q1 r1 p0 q0 r0 lo : Nat) (ea : (x : Int) / 4294967296 = (a : Int)) (eb : bits .and .u64 (x : Int) 4294967295 = (b : Int)) (ec : (y : Int) / 4294967296 = (c : Int)) (ed : bits .and .u64 (y : Int) 4294967295 = (d : Int))
    (ep : (b : Int) * (d : Int) = (p : Int)) (hp : p ≤ 18446744073709551615) (ep1 : (p : Int) / 4294967296 = (p1 : Int)) (ead : (a : Int) * (d : Int) = (ad : Int)) (eq : (ad : Int) + (p1 : Int) = (q : Int)) (hq : q ≤ 18446744073709551615) (had : ad ≤ 18446744073709551615)
    (eq0 : bits .and .u64 (q : Int) 4294967295 = (q0 : Int)) (ebc : (b : Int) * (c : Int) = (bc : Int)) (hbc : bc ≤ 18446744073709551615) (er : (bc : Int) + (q0 : Int) = (r : Int)) (hr : r ≤ 18446744073709551615)
    (eac : (a : Int) * (c : Int) = (ac : Int)) (hac : ac ≤ 18446744073709551615) (eq1 : (q : Int) / 4294967296 = (q1 : Int)) (er1 : (r : Int) / 4294967296 = (r1 : Int)) (hs : ac + q1 ≤ 18446744073709551615) (hz : ac + q1 + r1 ≤ 18446744073709551615) (ez : (ac : Int) + (q1 : Int) + (r1 : Int) = (z : Int))
    (er0 : IntKind.u64.wrap ((r : Int) * 4294967296) = (r0 : Int)) (ep0 : bits .and .u64 (p : Int) 4294967295 = (p0 : Int)) (elo : bits .or .u64 (r0 : Int) (p0 : Int) = (lo : Int)) (w : World) :
    Calls Tryz.prog 156 #[.int .u64 (x : Nat), .int .u64 (y : Nat)] w fun e w' => e = .returned (.tuple #[.int .u64 (z : Nat), .int .u64 (lo : Nat)]) ∧ w' = w := by
  go_enter Tryz.func156, Tryz.ntmps156
  go_wp2
  go_ret2
  exact ⟨ret_uu (by first | rfl | simp) (by first | rfl | simp), rfl⟩
end Go.Proofs.YtdfgcagbpndabaaGreatDoor.S
namespace Go.Proofs.YtdfgcagbpndabaaGreatDoor.S
open Go.RowKit
open Go.FM (W64 two bl lost)
theorem mul_any (x y : Nat) (hx : x < W64) (hy : y < W64) (w : World) :
    Calls Tryz.prog 156 #[.int .u64 (x : Nat), .int .u64 (y : Nat)] w fun e w' => e = .returned (.tuple #[.int .u64 (x * y / W64 : Nat), .int .u64 (x * y % W64 : Nat)]) ∧ w' = w := by
  obtain ⟨a, ea⟩ : ∃ a, x / 4294967296 = a := ⟨_, rfl⟩
  obtain ⟨b, eb⟩ : ∃ b, x % 4294967296 = b := ⟨_, rfl⟩
  obtain ⟨c, ec⟩ : ∃ c, y / 4294967296 = c := ⟨_, rfl⟩
  obtain ⟨d, ed⟩ : ∃ d, y % 4294967296 = d := ⟨_, rfl⟩
  have ha : a < 4294967296 := by simp only [W64] at hx; omega
  have hc : c < 4294967296 := by simp only [W64] at hy; omega
  have hb : b < 4294967296 := by omega
  have hd : d < 4294967296 := by omega
  have key := FM.mul_parts a b c d _ _ _ rfl rfl rfl
  rw [show a * 4294967296 + b = x from by omega, show c * 4294967296 + d = y from by omega] at key
  have b1 := FM.mul_bound a d ha hd
  have b2 := FM.mul_bound b c hb hc
  have b3 := FM.mul_bound a c ha hc
  have b4 := FM.mul_bound b d hb hd
  have m32 : ∀ z : Nat, z < W64 → bits .and .u64 (z : Int) 4294967295 = ((z % 4294967296 : Nat) : Int) := fun z hz => FM.mask_u z 32 hz (by decide)
  have hxy : x * y < W64 * W64 := Nat.mul_lt_mul'' hx hy
  have hz : a * c + (a * d + b * d / 4294967296) / 4294967296 + (b * c + (a * d + b * d / 4294967296) % 4294967296) / 4294967296 = x * y / W64 ∧ (b * c + (a * d + b * d / 4294967296) % 4294967296) % 4294967296 * 4294967296 + b * d % 4294967296 = x * y % W64 := by
    rw [key]
    clear key hxy m32
    simp only [W64] at *
    generalize a * c = ac at *
    generalize a * d = ad at *
    generalize b * c = bc at *
    generalize b * d = bd at *
    omega
  have hlt : x * y / W64 < W64 := Nat.div_lt_of_lt_mul hxy
  have hlo := FM.or_add ((b * c + (a * d + b * d / 4294967296) % 4294967296) % 4294967296) (b * d % 4294967296) 32 (Nat.mod_lt _ (by decide))
  have e32 : (2 : Nat) ^ 32 = 4294967296 := by decide
  rw [e32] at hlo
  rw [← hz.1, ← hz.2]
  rw [← hz.1] at hlt
  clear key hxy hz
  have cd : ∀ z : Nat, ((z : Int) / 4294967296) = ((z / 4294967296 : Nat) : Int) := fun z => by omega
  generalize eac : a * c = ac at *
  generalize ead : a * d = ad at *
  generalize ebc : b * c = bc at *
  generalize ebd : b * d = bd at *
  generalize eq : ad + bd / 4294967296 = q at *
  generalize er : bc + q % 4294967296 = r at *
  simp only [W64] at hx hy hlt m32
  refine mul_core x y a b c d bd ad q bc r ac _ (bd / 4294967296) (q / 4294967296) (r / 4294967296) (bd % 4294967296) (q % 4294967296) (r % 4294967296 * 4294967296) _ (by omega) (by rw [m32 x hx, eb]) (by omega) (by rw [m32 y hy, ed])
    (by rw [← ebd]; simp) (by omega) (cd _) (by rw [← ead]; simp) (by omega) (by omega) (by omega) (m32 q (by omega)) (by rw [← ebc]; simp) (by omega) (by omega) (by omega)
    (by rw [← eac]; simp) (by omega) (cd _) (cd _) (by omega) (by omega) (by omega) (by rw [IntKind.wrap_u64]; omega) (m32 bd (by omega)) ?_ w
  rw [← hlo]
  exact FM.or_u _ _ (by simp only [W64]; omega) (by simp only [W64]; omega)
def dd (hi lo j : Nat) : Nat := hi * 2 ^ (64 - j) + lo / 2 ^ j
theorem dd_step (hi lo k : Nat) (hk : k < 64) : dd hi lo k = 2 * dd hi lo (k + 1) + lo / 2 ^ k % 2 := by
  unfold dd
  have e1 : 2 ^ (64 - k) = 2 * 2 ^ (64 - (k + 1)) := by rw [Nat.mul_comm, ← Nat.pow_succ]; congr 1; omega
  have e2 : lo / 2 ^ (k + 1) = lo / 2 ^ k / 2 := by rw [Nat.pow_succ, Nat.div_div_eq_div_mul]
  rw [e1, e2, Nat.mul_left_comm]
  generalize hi * 2 ^ (64 - (k + 1)) = z
  generalize lo / 2 ^ k = t
  omega
theorem dd_lt (hi lo y j : Nat) (hlo : lo < W64) (h : hi < y) (hj : j ≤ 64) : dd hi lo j / y < 2 ^ (64 - j) := by
  have hp := Nat.two_pow_pos (64 - j)
  have e : W64 = 2 ^ j * 2 ^ (64 - j) := by rw [← Nat.pow_add, show j + (64 - j) = 64 from by omega]
  have h1 : lo / 2 ^ j < 2 ^ (64 - j) := by rw [Nat.div_lt_iff_lt_mul (Nat.two_pow_pos j), Nat.mul_comm, ← e]; exact hlo
  rw [Nat.div_lt_iff_lt_mul (by omega)]
  unfold dd
  have h2 : (hi + 1) * 2 ^ (64 - j) ≤ y * 2 ^ (64 - j) := Nat.mul_le_mul_right _ h
  rw [Nat.add_mul, Nat.one_mul] at h2
  rw [Nat.mul_comm (2 ^ (64 - j)) y]
  omega
theorem div_any (hi lo y Q R : Nat) (hlo : lo < W64) (hy : y < W64) (h : hi < y) (hQ : Hid (two hi lo / y = Q)) (hR : Hid (two hi lo % y = R)) (w : World) :
    Calls Tryz.prog 158 #[.int .u64 (hi : Nat), .int .u64 (lo : Nat), .int .u64 (y : Nat)] w fun e w' => e = .returned (.tuple #[.int .u64 (Q : Nat), .int .u64 (R : Nat)]) ∧ w' = w := by
  have hlo' : lo ≤ 18446744073709551615 := by simp only [W64] at hlo; omega
  have hy' : y ≤ 18446744073709551615 := by simp only [W64] at hy; omega
  go_enter Tryz.func158, Tryz.ntmps158
  go_wp2
  go_loop [0, 8, 9] (fun a q i => ∃ j r t : Nat, j ≤ 64 ∧ i = .int .i64 ((j : Int) - 1) ∧ a = .int .u64 (r : Nat) ∧ q = .int .u64 (t : Nat) ∧ Hid (dd hi lo j % y = r) ∧ Hid (dd hi lo j / y * 2 ^ j = t)) (fun _ _ i => (intOf i + 1).toNat)
  case atStart =>
    have e : dd hi lo 64 = hi := by unfold dd; rw [Nat.div_eq_of_lt hlo]; simp
    exact ⟨64, hi, 0, Nat.le_refl _, rfl, rfl, rfl, by show _ = _; rw [e, Nat.mod_eq_of_lt h], by show _ = _; rw [e, Nat.div_eq_of_lt h, Nat.zero_mul]⟩
  case round =>
    obtain ⟨j, r, q, hj, rfl, rfl, rfl, Hr, Hq⟩ := hrel
    rcases Nat.eq_zero_or_pos j with h0 | h0
    · subst h0
      have e : dd hi lo 0 = two hi lo := by unfold dd two; simp
      have e1 : r = R := by rw [← Hr.out, ← hR.out, e]
      have e2 : q = Q := by rw [← Hq.out, ← hQ.out, e]; simp
      subst e1 e2
      clear e
      go_wp2
      go_ret2
      exact ⟨rfl, rfl⟩
    · obtain ⟨k, rfl⟩ : ∃ k, j = k + 1 := ⟨j - 1, by omega⟩
      obtain ⟨b, hbz⟩ : ∃ b, lo / 2 ^ k % 2 = b := ⟨_, rfl⟩
      obtain ⟨P, hP⟩ : ∃ P, 2 ^ k = P := ⟨_, rfl⟩
      have hP0 : 0 < P := by rw [← hP]; exact Nat.two_pow_pos k
      have hs := dd_step hi lo k (by omega)
      rw [hbz] at hs
      have hb : b < 2 := by omega
      obtain ⟨d1, d2⟩ := FM.div_step (dd hi lo (k + 1)) y b hb (by omega)
      rw [← hs, Hr.out] at d1 d2
      have hr : r < y := by rw [← Hr.out]; exact Nat.mod_lt _ (by omega)
      have hqP : q + P ≤ 18446744073709551615 := by
        have hq := dd_lt hi lo y (k + 1) hlo h hj
        have e1 : 2 ^ (64 - (k + 1)) * 2 ^ (k + 1) = 2 ^ 64 := by rw [← Nat.pow_add]; congr 1; omega
        have e2 : (dd hi lo (k + 1) / y + 1) * 2 ^ (k + 1) ≤ 2 ^ (64 - (k + 1)) * 2 ^ (k + 1) := Nat.mul_le_mul_right _ hq
        rw [e1, Nat.add_mul, Nat.one_mul, Hq.out] at e2
        have e3 : 2 ^ (k + 1) = 2 * P := by rw [Nat.pow_succ, Nat.mul_comm, hP]
        omega
      have eb' : bits .and .u64 ((lo : Int) / (P : Int)) 1 = (b : Int) := by
        have eb := FM.and1_u (lo / 2 ^ k) (Nat.lt_of_le_of_lt (Nat.div_le_self _ _) hlo)
        rw [← hbz, ← eb, ← hP]; simp
      have e0 : dd hi lo (k + 1) / y * 2 ^ (k + 1) = (2 * (dd hi lo (k + 1) / y)) * 2 ^ k := by rw [Nat.pow_succ, Nat.mul_comm 2 (dd hi lo (k + 1) / y), Nat.mul_assoc, Nat.mul_comm 2 (2 ^ k)]
      have eo : bits .or .u64 (q : Int) (P : Int) = ((q + P : Nat) : Int) := by
        have a1 := FM.or_u q P (by simp only [W64]; omega) (by simp only [W64]; omega)
        have a2 := FM.or_add (dd hi lo (k + 1) / y) P (k + 1) (by rw [← hP, Nat.pow_succ]; have := Nat.two_pow_pos k; omega)
        rw [Hq.out] at a2
        rw [a2] at a1
        exact a1
      have n1 : (2 * (dd hi lo (k + 1) / y) + 1) * 2 ^ k = q + P := by rw [Nat.add_mul, Nat.one_mul, ← e0, Hq.out, hP]
      have n0 : 2 * (dd hi lo (k + 1) / y) * 2 ^ k = q := by rw [← e0, Hq.out]
      have ep : (2 : Int) ^ k = (P : Int) := by rw [← hP]; simp
      have ek : ((k + 1 : Nat) : Int) - 1 = (k : Int) := by omega
      rw [ek]
      have hk64 : k < 64 := by omega
      have D1 : Hid (dd hi lo k / y = 2 * (dd hi lo (k + 1) / y) + (if y ≤ 2 * r + b then 1 else 0)) := d1
      have D2 : Hid (dd hi lo k % y = 2 * r + b - (if y ≤ 2 * r + b then y else 0)) := d2
      have N1 : Hid ((2 * (dd hi lo (k + 1) / y) + 1) * 2 ^ k = q + P) := n1
      have N0 : Hid (2 * (dd hi lo (k + 1) / y) * 2 ^ k = q) := n0
      clear d1 d2 n1 n0 hs e0 hP hbz Hr Hq hQ hR
      by_cases hc : y ≤ 2 * r + b
      · have D1' : Hid (dd hi lo k / y * 2 ^ k = q + P) := by show _ = _; rw [D1.out, if_pos hc, N1.out]
        have D2' : Hid (dd hi lo k % y = 2 * r + b - y) := by show _ = _; rw [D2.out, if_pos hc]
        clear D1 D2 N1 N0
        obtain ⟨z, hz⟩ : ∃ z, 2 * r + b - y = z := ⟨_, rfl⟩
        rw [hz] at D2'
        by_cases ht : 9223372036854775808 ≤ r
        · have t1 : (r : Int) / 9223372036854775808 = 1 := by omega
          obtain ⟨g, hg⟩ : ∃ g, 2 * r - 18446744073709551616 = g := ⟨_, rfl⟩
          have t2 : IntKind.u64.wrap ((r : Int) * 2) = (g : Int) := by rw [IntKind.wrap_u64]; omega
          have t3 : bits .or .u64 (g : Int) (b : Int) = ((g + b : Nat) : Int) := by
            have a1 := FM.or_u g b (by simp only [W64]; omega) (by simp only [W64]; omega)
            have a2 := FM.or_add (g / 2) b 1 (by omega)
            rw [show g / 2 * 2 ^ 1 = g from by omega] at a2
            rw [a1, a2]
          have t4 : IntKind.u64.wrap (((g + b : Nat) : Int) - (y : Int)) = (z : Int) := by rw [IntKind.wrap_u64]; omega
          generalize g + b = gb at *
          go_wp2
          go_round
          case rel => exact ⟨k, z, q + P, by omega, by go_num, rfl, rfl, D2', D1'⟩
          case measure => simp [intOf]
        · have t1 : (r : Int) / 9223372036854775808 = 0 := by omega
          obtain ⟨g, hg⟩ : ∃ g, 2 * r = g := ⟨_, rfl⟩
          have t2 : IntKind.u64.wrap ((r : Int) * 2) = (g : Int) := by rw [IntKind.wrap_u64]; omega
          have t3 : bits .or .u64 (g : Int) (b : Int) = ((g + b : Nat) : Int) := by
            have a1 := FM.or_u g b (by simp only [W64]; omega) (by simp only [W64]; omega)
            have a2 := FM.or_add (g / 2) b 1 (by omega)
            rw [show g / 2 * 2 ^ 1 = g from by omega] at a2
            rw [a1, a2]
          have t4 : IntKind.u64.wrap (((g + b : Nat) : Int) - (y : Int)) = (z : Int) := by rw [IntKind.wrap_u64]; omega
          have t5 : y ≤ g + b := by omega
          generalize g + b = gb at *
          go_wp2
          go_round
          case rel => exact ⟨k, z, q + P, by omega, by go_num, rfl, rfl, D2', D1'⟩
          case measure => simp [intOf]
      · have D1' : Hid (dd hi lo k / y * 2 ^ k = q) := by show _ = _; rw [D1.out, if_neg hc, Nat.add_zero, N0.out]
        have D2' : Hid (dd hi lo k % y = 2 * r + b) := by show _ = _; rw [D2.out, if_neg hc]; omega
        clear D1 D2 N1 N0
        obtain ⟨z, hz⟩ : ∃ z, 2 * r + b = z := ⟨_, rfl⟩
        rw [hz] at D2'
        have t1 : (r : Int) / 9223372036854775808 = 0 := by omega
        obtain ⟨g, hg⟩ : ∃ g, 2 * r = g := ⟨_, rfl⟩
        have t2 : IntKind.u64.wrap ((r : Int) * 2) = (g : Int) := by rw [IntKind.wrap_u64]; omega
        have t3 : bits .or .u64 (g : Int) (b : Int) = (z : Int) := by
          have a1 := FM.or_u g b (by simp only [W64]; omega) (by simp only [W64]; omega)
          have a2 := FM.or_add (g / 2) b 1 (by omega)
          rw [show g / 2 * 2 ^ 1 = g from by omega] at a2
          rw [a1, a2]; omega
        have t5 : ¬ y ≤ z := by omega
        go_wp2
        go_round
        case rel => exact ⟨k, z, q, by omega, by go_num, rfl, rfl, D2', D1'⟩
        case measure => simp [intOf]
end Go.Proofs.YtdfgcagbpndabaaGreatDoor.S
namespace Go.Proofs.YtdfgcagbpndabaaGreatDoor.S
open Go.RowKit
open Go.FM (W64 two bl lost)
theorem ret_uui {a b c d e f : Int} (h : a = b) (h' : c = d) (h'' : e = f) : (Ending.returned (.tuple #[.int .u64 a, .int .u64 c, .int .i64 e]) : Ending) = .returned (.tuple #[.int .u64 b, .int .u64 d, .int .i64 f]) := by rw [h, h', h'']
theorem down_none (hi lo : Nat) (k : Int) (hk : k ≤ 0) (hk' : -1000000 ≤ k) (w : World) :
    Calls Tryz.prog 121 #[.int .u64 (hi : Nat), .int .u64 (lo : Nat), .int .i64 k] w fun e w' => e = .returned (.tuple #[.int .u64 (hi : Nat), .int .u64 (lo : Nat), .int .i64 2]) ∧ w' = w := by
  go_enter Tryz.func121, Tryz.ntmps121
  go_wp2
  go_ret3
  exact ⟨rfl, rfl⟩
def below (M i : Nat) : Bool := !(M % 2 ^ i == 0)
theorem below_step (M i : Nat) : below M (i + 1) = (below M i || decide (M / 2 ^ i % 2 = 1)) := by
  have h := FM.low_some M i
  have hb : M / 2 ^ i % 2 = 0 ∨ M / 2 ^ i % 2 = 1 := by omega
  unfold below
  rw [Bool.eq_iff_iff]
  simp only [Bool.not_eq_true', beq_eq_false_iff_ne, ne_eq, Bool.or_eq_true, decide_eq_true_eq]
  rw [h]
  omega
theorem lost_by (M k : Nat) (b r : Bool) (hb : decide (M / 2 ^ k % 2 = 1) = b) (hr : below M k = r) : lost M (k + 1) = (if b then (if r then 1 else 0) else (if r then -1 else 2)) := by
  rw [FM.lost_at]
  unfold below at hr
  subst hb hr
  by_cases h1 : M / 2 ^ k % 2 = 1
  · by_cases h2 : M % 2 ^ k = 0
    · simp [h1, h2]
    · simp [h1, h2]
  · by_cases h2 : M % 2 ^ k = 0
    · simp [h1, h2]
    · simp [h1, h2]
theorem down_some (hi lo k A B : Nat) (L : Int) (b : Bool) (hhi : hi < W64) (hlo : lo < W64) (hk : k < 128) (hb : Hid (decide (two hi lo / 2 ^ k % 2 = 1) = b)) (hA : Hid (two hi lo / 2 ^ (k + 1) / W64 = A)) (hB : Hid (two hi lo / 2 ^ (k + 1) % W64 = B)) (hL : Hid (lost (two hi lo) (k + 1) = L)) (w : World) :
    RW Tryz.prog 121 #[.int .u64 (hi : Nat), .int .u64 (lo : Nat), .int .i64 ((k + 1 : Nat) : Int)] w (.tuple #[.int .u64 (A : Nat), .int .u64 (B : Nat), .int .i64 L]) := by
  have ek : ((k + 1 : Nat) : Int) - 1 = (k : Int) := by omega
  have hhi' : hi ≤ 18446744073709551615 := by simp only [W64] at hhi; omega
  have hlo' : lo ≤ 18446744073709551615 := by simp only [W64] at hlo; omega
  go_enter Tryz.func121, Tryz.ntmps121
  go_wp2_with (go_at_call 152; refine (word_any hi lo k hhi hlo hk _).mono ?_; rintro e w' ⟨rfl, rfl⟩; rw [hb.out])
  go_loop [10, 11] (fun r i => ∃ j : Nat, j ≤ k ∧ i = .int .i64 (j : Nat) ∧ r = .bool (below (two hi lo) j)) (fun _ i => k - (intOf i).toNat)
  case atStart => exact ⟨0, Nat.zero_le _, rfl, by unfold below; rw [Nat.pow_zero, Nat.mod_one]; rfl⟩
  case round =>
    obtain ⟨j, hj, rfl, rfl⟩ := hrel
    by_cases hlt : j < k
    · have HS : Hid (below (two hi lo) (j + 1) = (below (two hi lo) j || decide (two hi lo / 2 ^ j % 2 = 1))) := below_step _ _
      cases hr : below (two hi lo) j
      · have HS' : Hid (below (two hi lo) (j + 1) = decide (two hi lo / 2 ^ j % 2 = 1)) := by show _ = _; rw [HS.out, hr]; simp
        clear HS
        go_wp2_with (go_at_call 152; refine (word_any hi lo j hhi hlo (by omega) _).mono ?_; rintro e w' ⟨rfl, rfl⟩)
        go_round
        case rel => exact ⟨j + 1, by omega, by go_num, by rw [HS'.out]⟩
        case measure => simp [intOf]; omega
      · have HS' : Hid (below (two hi lo) (j + 1) = true) := by show _ = _; rw [HS.out, hr]; rfl
        clear HS
        go_wp2
        go_round
        case rel => exact ⟨j + 1, by omega, by go_num, by rw [HS'.out]⟩
        case measure => simp [intOf]; omega
    · have hjk : j = k := by omega
      subst hjk
      have HL := lost_by (two hi lo) j b _ hb.out rfl
      rw [hL.out] at HL
      clear hb hL
      generalize below (two hi lo) j = r at *
      by_cases h128 : j = 127
      · subst h128
        have eM : two hi lo / 2 ^ (127 + 1) = 0 := Nat.div_eq_of_lt (FM.two_lt hi lo hhi hlo)
        have eA : A = 0 := by rw [← hA.out, eM]; rfl
        have eB : B = 0 := by rw [← hB.out, eM]; rfl
        subst eA eB
        clear eM hA hB
        cases b <;> cases r
        all_goals
          simp only [if_true, Bool.false_eq_true, if_false] at HL
          subst HL
          go_wp2
          go_ret3
          exact ⟨rfl, Later.refl _⟩
      by_cases h64 : 63 ≤ j
      · have eM := FM.two_div_high hi lo (j + 1) hlo (by omega)
        obtain ⟨i, hi64⟩ : ∃ i, j + 1 - 64 = i := ⟨_, rfl⟩
        rw [hi64] at eM
        have hil : hi / 2 ^ i < W64 := Nat.lt_of_le_of_lt (Nat.div_le_self _ _) hhi
        have eA : A = 0 := by rw [← hA.out, eM, Nat.div_eq_of_lt hil]
        have eB : Hid (((hi : Int) / 2 ^ i) = (B : Int)) := by show _ = _; rw [← hB.out, eM, Nat.mod_eq_of_lt hil]; simp
        subst eA
        have ei : ((j + 1 : Nat) : Int) - 64 = (i : Int) := by omega
        have ei' : (j : Int) + 1 - 64 = (i : Int) := by omega
        have ei2 : IntKind.i64.wrap ((j : Int) + 1 - 64) = (i : Int) := by rw [ei', IntKind.wrap_i64]; omega
        have ei5 : IntKind.i64.wrap (i : Int) = (i : Int) := by rw [IntKind.wrap_i64]; omega
        have hc1 : ¬ (j : Int) + 1 = 128 := by omega
        have hc2 : (64 : Int) ≤ (j : Int) + 1 := by omega
        clear eM hA hB hil ek hi64
        cases b <;> cases r
        all_goals
          simp only [if_true, Bool.false_eq_true, if_false] at HL
          subst HL
          go_wp2
          first
            | (go_ret3; exact ⟨ret_uui rfl eB.out rfl, Later.refl _⟩)
            | (refine wp_region_quiet_far (by kernel_rfl) (by kernel_rfl) ?_
               repeat (quiet_step (fail))
               refine wpQuiet_nil ?_
               rintro _ ⟨⟨bs, n⟩, rfl⟩
               go_wp2
               go_ret3
               exact ⟨ret_uui rfl eB.out rfl, (Later.refl _).far⟩)
      · obtain ⟨e1, e2, e3, e4⟩ := FM.two_down hi lo (j + 1) hhi hlo (by omega) (by omega)
        obtain ⟨i, hi64⟩ : ∃ i, 64 - (j + 1) = i := ⟨_, rfl⟩
        obtain ⟨c, hc⟩ : ∃ c, j + 1 = c := ⟨_, rfl⟩
        rw [hi64] at e2 e3 e4
        have eA : Hid (((hi : Int) / 2 ^ c) = (A : Int)) := by show _ = _; rw [← hA.out, e1, hc]; simp
        have eo : bits .or .u64 ((lo : Int) / 2 ^ c) (IntKind.u64.wrap ((hi : Int) * 2 ^ i)) = (B : Int) := by
          have w1 : IntKind.u64.wrap ((hi : Int) * 2 ^ i) = ((hi * 2 ^ i % W64 : Nat) : Int) := by
            rw [IntKind.wrap_u64, show ((hi : Int) * 2 ^ i) = ((hi * 2 ^ i : Nat) : Int) from by simp]
            simp only [W64]; generalize hi * 2 ^ i = z at *; omega
          have w2 : ((lo : Int) / 2 ^ c) = ((lo / 2 ^ c : Nat) : Int) := by simp
          rw [w1, w2, FM.or_u _ _ (Nat.lt_of_le_of_lt (Nat.div_le_self _ _) hlo) (Nat.mod_lt _ (by decide)), Nat.or_comm, e4, FM.or_add _ _ _ (by rw [← hc]; exact e3), ← e4, ← hB.out, e2, hc]
        have ei' : (64 : Int) - ((j : Int) + 1) = (i : Int) := by omega
        have ei2 : IntKind.i64.wrap (64 - ((j : Int) + 1)) = (i : Int) := by rw [ei', IntKind.wrap_i64]; omega
        have ei3 : (j : Int) + 1 = (c : Int) := by omega
        have ei4 : IntKind.i64.wrap (64 - (c : Int)) = (i : Int) := by rw [← ei3]; exact ei2
        have ec : ((j + 1 : Nat) : Int) = (c : Int) := by omega
        have hc1 : ¬ (c : Int) = 128 := by omega
        have hc2 : ¬ (64 : Int) ≤ (c : Int) := by omega
        have hc3 : c < 64 := by omega
        have hi3 : i < 64 := by omega
        have ei5 : IntKind.i64.wrap (i : Int) = (i : Int) := by rw [IntKind.wrap_i64]; omega
        have ei6 : (64 : Int) - (c : Int) = (i : Int) := by omega
        have ec1 : (c : Int) - 1 = (j : Int) := by omega
        rw [ei3]
        clear e1 e2 e3 e4 hA hB ek hi64 ei' ei2 ei3 ec hc
        cases b <;> cases r
        all_goals
          simp only [if_true, Bool.false_eq_true, if_false] at HL
          subst HL
          go_wp2
          refine wp_region_quiet_far (by kernel_rfl) (by kernel_rfl) ?_
          repeat (quiet_step (fail))
          refine wpQuiet_nil ?_
          rintro _ ⟨⟨bs, n⟩, rfl⟩
          go_wp2
          go_ret3
          exact ⟨ret_uui eA.out rfl rfl, (Later.refl _).far⟩
end Go.Proofs.YtdfgcagbpndabaaGreatDoor.S
