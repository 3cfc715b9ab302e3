/- Contracts of the document's own answers for package bits (pelorusref1) over this seat's translation. -/
import Derived.Test.YtdfgcagbpndabaaGreatDoorZL
import Derived.Test.YtdfgcagbpndabaaGreatDoorZI
import Derived.LoopTactic
set_option linter.unusedVariables false
namespace Go.Proofs.YtdfgcagbpndabaaGreatDoor
open Go.RowKit
def bitB (x : Int) (k : Nat) : Bool := x / 2 ^ k % 2 == 1
theorem bit_any (x : Int) (k : Nat) (hk : k ≤ 63) (w : World) :
    Calls Tryz.prog 125 #[.int .i64 x, .int .i64 k] w fun e w' => e = .returned (.bool (bitB x k)) ∧ w' = w := by
  have hb := BM.and1 (x / 2 ^ k)
  go_enter Tryz.func125, Tryz.ntmps125
  go_wp2
  go_ret
  exact ⟨rfl, rfl⟩
def cnt (x : Int) : Nat → Nat
  | 0 => 0
  | j + 1 => cnt x j + if bitB x j then 1 else 0
theorem cnt_le (x : Int) : ∀ j, cnt x j ≤ j
  | 0 => Nat.le_refl _
  | j + 1 => by have := cnt_le x j; simp only [cnt]; split <;> omega
theorem rpop_any (x : Int) (W : Nat) (hW : W ≤ 64) (w : World) :
    Calls Tryz.prog 75 #[.int .i64 x, .int .i64 W] w fun e w' => e = .returned (.int .i64 (cnt x W)) ∧ w' = w := by
  go_enter Tryz.func75, Tryz.ntmps75
  go_wp2
  go_loop [5, 6] (fun c i => ∃ j : Nat, j ≤ W ∧ i = .int .i64 j ∧ c = .int .i64 (cnt x j)) (fun _ i => W - (intOf i).toNat)
  case atStart => exact ⟨0, Nat.zero_le _, rfl, rfl⟩
  case round =>
    obtain ⟨j, hj, rfl, rfl⟩ := hrel
    have hc := cnt_le x j
    by_cases hlt : j < W
    · have HS : Hid (cnt x (j + 1) = cnt x j + if bitB x j then 1 else 0) := rfl
      cases hb : bitB x j
      all_goals
        go_wp2_with (go_at_call 125; refine (bit_any x j (by omega) _).mono ?_; rintro e w' ⟨rfl, rfl⟩)
        go_round
        case rel => exact ⟨j + 1, by omega, by go_num, by rw [HS.out, hb]; simp⟩
        case measure => simp [intOf]; omega
    · have hjw : j = W := by omega
      subst hjw
      go_wp2
      go_ret
      exact ⟨rfl, rfl⟩
theorem rclz_any (x : Int) (W : Nat) (hW : W ≤ 64) (w : World) :
    Calls Tryz.prog 73 #[.int .i64 x, .int .i64 W] w fun e w' => ∃ j : Nat, e = .returned (.int .i64 j) ∧ j ≤ W ∧ (∀ i, i < j → bitB x (W - 1 - i) = false) ∧ (j = W ∨ bitB x (W - 1 - j) = true) ∧ w' = w := by
  go_enter Tryz.func73, Tryz.ntmps73
  go_wp2
  go_loop [5] (fun c => ∃ j : Nat, j ≤ W ∧ c = .int .i64 j ∧ Hid (∀ i, i < j → bitB x (W - 1 - i) = false)) (fun c => W - (intOf c).toNat)
  case atStart => exact ⟨0, Nat.zero_le _, rfl, fun i hi => absurd hi (by omega)⟩
  case round =>
    obtain ⟨j, hj, rfl, H⟩ := hrel
    by_cases hlt : j < W
    · have ej : ((W : Int) - 1 - (j : Int)) = ((W - 1 - j : Nat) : Int) := by omega
      cases hb : bitB x (W - 1 - j)
      · go_wp2_with (go_at_call 125; refine (bit_any x (W - 1 - j) (by omega) _).mono ?_; rintro e w' ⟨rfl, rfl⟩)
        go_round
        case rel => exact ⟨j + 1, by omega, by go_num, fun i hi => by
          by_cases h : i = j
          · rw [h]; exact hb
          · exact H.out i (by omega)⟩
        case measure => simp [intOf]; omega
      · go_wp2_with (go_at_call 125; refine (bit_any x (W - 1 - j) (by omega) _).mono ?_; rintro e w' ⟨rfl, rfl⟩)
        go_ret
        exact ⟨j, rfl, hj, H.out, Or.inr hb, rfl⟩
    · have hjw : j = W := by omega
      subst hjw
      go_wp2
      go_ret
      exact ⟨j, rfl, hj, H.out, Or.inl rfl, rfl⟩
theorem rctz_any (x : Int) (W : Nat) (hW : W ≤ 64) (w : World) :
    Calls Tryz.prog 74 #[.int .i64 x, .int .i64 W] w fun e w' => ∃ j : Nat, e = .returned (.int .i64 j) ∧ j ≤ W ∧ (∀ i, i < j → bitB x i = false) ∧ (j = W ∨ bitB x j = true) ∧ w' = w := by
  go_enter Tryz.func74, Tryz.ntmps74
  go_wp2
  go_loop [5] (fun c => ∃ j : Nat, j ≤ W ∧ c = .int .i64 j ∧ Hid (∀ i, i < j → bitB x i = false)) (fun c => W - (intOf c).toNat)
  case atStart => exact ⟨0, Nat.zero_le _, rfl, fun i hi => absurd hi (by omega)⟩
  case round =>
    obtain ⟨j, hj, rfl, H⟩ := hrel
    by_cases hlt : j < W
    · cases hb : bitB x j
      · go_wp2_with (go_at_call 125; refine (bit_any x j (by omega) _).mono ?_; rintro e w' ⟨rfl, rfl⟩)
        go_round
        case rel => exact ⟨j + 1, by omega, by go_num, fun i hi => by
          by_cases h : i = j
          · rw [h]; exact hb
          · exact H.out i (by omega)⟩
        case measure => simp [intOf]; omega
      · go_wp2_with (go_at_call 125; refine (bit_any x j (by omega) _).mono ?_; rintro e w' ⟨rfl, rfl⟩)
        go_ret
        exact ⟨j, rfl, hj, H.out, Or.inr hb, rfl⟩
    · have hjw : j = W := by omega
      subst hjw
      go_wp2
      go_ret
      exact ⟨j, rfl, hj, H.out, Or.inl rfl, rfl⟩
theorem may_ok (n : Int) (w : World) (h : n = 32 ∨ n = 64) :
    Calls Tryz.prog 126 #[.int .i64 n] w fun e w' => e = .returned (.bool true) ∧ w' = w := by
  rcases h with rfl | rfl
  all_goals
    go_enter Tryz.func126, Tryz.ntmps126
    go_wp2
    go_ret
    exact ⟨rfl, rfl⟩
def rollI (x : Int) (d W : Nat) : Nat → Int
  | 0 => 0
  | j + 1 => if bitB x j then bits .or .i64 (rollI x d W j) (wrap64 (2 ^ ((j + d) % W))) else rollI x d W j
theorem rrot_32 (x b : Int) (w : World) :
    Calls Tryz.prog 77 #[.int .i64 x, .int .i64 b, .int .i64 32] w fun e w' => e = .returned (.tuple #[.int .i64 (rollI x (b % 32).toNat 32 32), .int .i64 0]) ∧ w' = w := by
  obtain ⟨d, hd, hdd, hdt⟩ : ∃ d : Nat, d < 32 ∧ bits .and .i64 b 31 = (d : Int) ∧ (b % 32).toNat = d := ⟨(b % 32).toNat, by omega, by rw [BM.and31]; omega, rfl⟩
  rw [hdt]
  clear hdt
  go_enter Tryz.func77, Tryz.ntmps77
  go_wp2_with (go_at_call 126; refine (may_ok _ _ (Or.inl rfl)).mono ?_; rintro e w' ⟨rfl, rfl⟩)
  go_loop [8, 9] (fun c i => ∃ j : Nat, j ≤ 32 ∧ i = .int .i64 j ∧ c = .int .i64 (rollI x d 32 j)) (fun _ i => 32 - (intOf i).toNat)
  case atStart => exact ⟨0, Nat.zero_le _, rfl, rfl⟩
  case round =>
    obtain ⟨j, hj, rfl, rfl⟩ := hrel
    by_cases hlt : j < 32
    · have HS : Hid (rollI x d 32 (j + 1) = if bitB x j then bits .or .i64 (rollI x d 32 j) (wrap64 (2 ^ ((j + d) % 32))) else rollI x d 32 j) := rfl
      have em : bits .and .i64 ((j : Int) + (d : Int)) 31 = (((j + d) % 32 : Nat) : Int) := by rw [BM.and31]; omega
      generalize hE : (j + d) % 32 = E at *
      have hE2 : E < 32 := by omega
      clear hE
      cases hb : bitB x j
      · go_wp2_with (go_at_call 125; refine (bit_any x j (by omega) _).mono ?_; rintro e w' ⟨rfl, rfl⟩)
        go_round
        case rel => exact ⟨j + 1, by omega, by go_num, by rw [HS.out, hb]; rfl⟩
        case measure => simp [intOf]; omega
      · go_wp2_with (go_at_call 125; refine (bit_any x j (by omega) _).mono ?_; rintro e w' ⟨rfl, rfl⟩)
        go_round
        case rel => exact ⟨j + 1, by omega, by go_num, by rw [HS.out, hb]; rfl⟩
        case measure => simp [intOf]; omega
    · have hjw : j = 32 := by omega
      subst hjw
      go_wp2
      go_ret2
      exact ⟨rfl, rfl⟩
theorem rrot_64 (x b : Int) (w : World) :
    Calls Tryz.prog 77 #[.int .i64 x, .int .i64 b, .int .i64 64] w fun e w' => e = .returned (.tuple #[.int .i64 (rollI x (b % 64).toNat 64 64), .int .i64 0]) ∧ w' = w := by
  obtain ⟨d, hd, hdd, hdt⟩ : ∃ d : Nat, d < 64 ∧ bits .and .i64 b 63 = (d : Int) ∧ (b % 64).toNat = d := ⟨(b % 64).toNat, by omega, by rw [BM.and63]; omega, rfl⟩
  rw [hdt]
  clear hdt
  go_enter Tryz.func77, Tryz.ntmps77
  go_wp2_with (go_at_call 126; refine (may_ok _ _ (Or.inr rfl)).mono ?_; rintro e w' ⟨rfl, rfl⟩)
  go_loop [8, 9] (fun c i => ∃ j : Nat, j ≤ 64 ∧ i = .int .i64 j ∧ c = .int .i64 (rollI x d 64 j)) (fun _ i => 64 - (intOf i).toNat)
  case atStart => exact ⟨0, Nat.zero_le _, rfl, rfl⟩
  case round =>
    obtain ⟨j, hj, rfl, rfl⟩ := hrel
    by_cases hlt : j < 64
    · have HS : Hid (rollI x d 64 (j + 1) = if bitB x j then bits .or .i64 (rollI x d 64 j) (wrap64 (2 ^ ((j + d) % 64))) else rollI x d 64 j) := rfl
      have em : bits .and .i64 ((j : Int) + (d : Int)) 63 = (((j + d) % 64 : Nat) : Int) := by rw [BM.and63]; omega
      generalize hE : (j + d) % 64 = E at *
      have hE2 : E < 64 := by omega
      clear hE
      cases hb : bitB x j
      · go_wp2_with (go_at_call 125; refine (bit_any x j (by omega) _).mono ?_; rintro e w' ⟨rfl, rfl⟩)
        go_round
        case rel => exact ⟨j + 1, by omega, by go_num, by rw [HS.out, hb]; rfl⟩
        case measure => simp [intOf]; omega
      · go_wp2_with (go_at_call 125; refine (bit_any x j (by omega) _).mono ?_; rintro e w' ⟨rfl, rfl⟩)
        go_round
        case rel => exact ⟨j + 1, by omega, by go_num, by rw [HS.out, hb]; rfl⟩
        case measure => simp [intOf]; omega
    · have hjw : j = 64 := by omega
      subst hjw
      go_wp2
      go_ret2
      exact ⟨rfl, rfl⟩
theorem bit_of (x : Int) (u W k : Nat) (hu : x % ((2 ^ W : Nat) : Int) = (u : Int)) (hk : k < W) : bitB x k = decide (u / 2 ^ k % 2 = 1) := by
  unfold bitB
  rw [BM.div_pow_modW x u k W hu hk, Bool.eq_iff_iff]
  simp only [beq_iff_eq, decide_eq_true_eq]
  omega
theorem bit_no {x : Int} {u W k : Nat} (hu : x % ((2 ^ W : Nat) : Int) = (u : Int)) (hk : k < W) (h : bitB x k = false) : u / 2 ^ k % 2 = 0 := by
  rw [bit_of x u W k hu hk] at h
  have := of_decide_eq_false h
  omega
theorem bit_yes {x : Int} {u W k : Nat} (hu : x % ((2 ^ W : Nat) : Int) = (u : Int)) (hk : k < W) (h : bitB x k = true) : u / 2 ^ k % 2 = 1 := by
  rw [bit_of x u W k hu hk] at h
  exact of_decide_eq_true h
theorem cnt_pop (x : Int) (u W : Nat) (hu : x % ((2 ^ W : Nat) : Int) = (u : Int)) : ∀ j, j ≤ W → cnt x j = Lib.popAux j u
  | 0, _ => rfl
  | j + 1, hj => by
    rw [BM.popAux_snoc]
    simp only [cnt]
    rw [cnt_pop x u W hu j (by omega), bit_of x u W j hu (by omega)]
    by_cases h : u / 2 ^ j % 2 = 1
    · simp [h]
    · have : u / 2 ^ j % 2 = 0 := by omega
      simp [this]
theorem rollI_of (x : Int) (u d W : Nat) (hW : W ≤ 64) (h0 : 0 < W) (hu : x % ((2 ^ W : Nat) : Int) = (u : Int)) (j : Nat) (hj : j ≤ W) : rollI x d W j = wrap64 (BM.rollN u d W j : Int) := by
  induction j with
  | zero => exact BM.wrap_nil.symm
  | succ j ih =>
    have ih := ih (by omega)
    have hb := bit_of x u W j hu (by omega)
    have hlt := Nat.lt_of_lt_of_le (BM.rollN_lt u d W h0 j) (Nat.pow_le_pow_right (by decide) hW)
    have he : (j + d) % W < 64 := Nat.lt_of_lt_of_le (Nat.mod_lt _ h0) hW
    unfold rollI BM.rollN
    rw [hb, ih]
    clear hb ih
    generalize BM.rollN u d W j = a at *
    generalize (j + d) % W = e at *
    by_cases h : u / 2 ^ j % 2 = 1
    · rw [if_pos h, if_pos (decide_eq_true h)]
      exact BM.or_step a e hlt he
    · rw [if_neg h, if_neg (by simpa using h)]
theorem u32_of (x : Int) : x % ((2 ^ 32 : Nat) : Int) = ((x % 4294967296).toNat : Int) ∧ (x % 4294967296).toNat < 2 ^ 32 := by
  have e : ((2 ^ 32 : Nat) : Int) = 4294967296 := by decide
  rw [e]; omega
theorem u64_of (x : Int) : x % ((2 ^ 64 : Nat) : Int) = ((IntKind.u64.wrap x).toNat : Int) ∧ (IntKind.u64.wrap x).toNat < 2 ^ 64 := by
  have e : ((2 ^ 64 : Nat) : Int) = 18446744073709551616 := by decide
  rw [e, IntKind.wrap_u64]; omega
theorem rclz_32 (x : Int) (w : World) :
    Calls Tryz.prog 73 #[.int .i64 x, .int .i64 32] w fun e w' => e = .returned (.int .i64 (32 - (Lib.bitLen (x % 4294967296).toNat : Int))) ∧ w' = w := by
  refine (rclz_any x 32 (by decide) w).mono ?_
  rintro e w' ⟨j, rfl, hj, h1, h2, rfl⟩
  obtain ⟨hu, hl⟩ := u32_of x
  refine ⟨ret_int (BM.clz_of _ 32 j (by decide) hl hj (fun i hi => bit_no hu (by omega) (h1 i hi)) ?_).symm, rfl⟩
  by_cases hjW : j = 32
  · exact Or.inl hjW
  · rcases h2 with h2 | h2
    · exact Or.inl h2
    · exact Or.inr (bit_yes hu (by omega) h2)
theorem rctz_32 (x : Int) (w : World) :
    Calls Tryz.prog 74 #[.int .i64 x, .int .i64 32] w fun e w' => e = .returned (.int .i64 (Lib.ctz 32 (x % 4294967296).toNat)) ∧ w' = w := by
  refine (rctz_any x 32 (by decide) w).mono ?_
  rintro e w' ⟨j, rfl, hj, h1, h2, rfl⟩
  obtain ⟨hu, hl⟩ := u32_of x
  refine ⟨ret_int (congrArg _ (BM.ctz_of _ 32 j hl hj (fun i hi => bit_no hu (by omega) (h1 i hi)) ?_)).symm, rfl⟩
  by_cases hjW : j = 32
  · exact Or.inl hjW
  · rcases h2 with h2 | h2
    · exact Or.inl h2
    · exact Or.inr (bit_yes hu (by omega) h2)
theorem rpop_32 (x : Int) (w : World) :
    Calls Tryz.prog 75 #[.int .i64 x, .int .i64 32] w fun e w' => e = .returned (.int .i64 (Lib.popAux 32 (x % 4294967296).toNat)) ∧ w' = w := by
  refine (rpop_any x 32 (by decide) w).mono ?_
  rintro e w' ⟨rfl, rfl⟩
  exact ⟨ret_int (congrArg _ (cnt_pop x _ 32 (u32_of x).1 32 (Nat.le_refl _))), rfl⟩
theorem rclz_64 (x : Int) (w : World) :
    Calls Tryz.prog 73 #[.int .i64 x, .int .i64 64] w fun e w' => e = .returned (.int .i64 (64 - (Lib.bitLen (IntKind.u64.wrap x).toNat : Int))) ∧ w' = w := by
  refine (rclz_any x 64 (by decide) w).mono ?_
  rintro e w' ⟨j, rfl, hj, h1, h2, rfl⟩
  obtain ⟨hu, hl⟩ := u64_of x
  refine ⟨ret_int (BM.clz_of _ 64 j (by decide) hl hj (fun i hi => bit_no hu (by omega) (h1 i hi)) ?_).symm, rfl⟩
  by_cases hjW : j = 64
  · exact Or.inl hjW
  · rcases h2 with h2 | h2
    · exact Or.inl h2
    · exact Or.inr (bit_yes hu (by omega) h2)
theorem rctz_64 (x : Int) (w : World) :
    Calls Tryz.prog 74 #[.int .i64 x, .int .i64 64] w fun e w' => e = .returned (.int .i64 (Lib.ctz 64 (IntKind.u64.wrap x).toNat)) ∧ w' = w := by
  refine (rctz_any x 64 (by decide) w).mono ?_
  rintro e w' ⟨j, rfl, hj, h1, h2, rfl⟩
  obtain ⟨hu, hl⟩ := u64_of x
  refine ⟨ret_int (congrArg _ (BM.ctz_of _ 64 j hl hj (fun i hi => bit_no hu (by omega) (h1 i hi)) ?_)).symm, rfl⟩
  by_cases hjW : j = 64
  · exact Or.inl hjW
  · rcases h2 with h2 | h2
    · exact Or.inl h2
    · exact Or.inr (bit_yes hu (by omega) h2)
theorem rpop_64 (x : Int) (w : World) :
    Calls Tryz.prog 75 #[.int .i64 x, .int .i64 64] w fun e w' => e = .returned (.int .i64 (Lib.popAux 64 (IntKind.u64.wrap x).toNat)) ∧ w' = w := by
  refine (rpop_any x 64 (by decide) w).mono ?_
  rintro e w' ⟨rfl, rfl⟩
  exact ⟨ret_int (congrArg _ (cnt_pop x _ 64 (u64_of x).1 64 (Nat.le_refl _))), rfl⟩
theorem roll_32 (x b : Int) (w : World) :
    Calls Tryz.prog 77 #[.int .i64 x, .int .i64 b, .int .i64 32] w fun e w' => e = .returned (.tuple #[.int .i64 (BM.rotl 32 (x % 4294967296).toNat (b % 32).toNat), .int .i64 0]) ∧ w' = w := by
  obtain ⟨hu, hl⟩ := u32_of x
  have hd : (b % 32).toNat < 32 := by omega
  have h := rrot_32 x b w
  rw [rollI_of x _ _ 32 (by decide) (by decide) hu 32 (Nat.le_refl _), BM.rollN_rotl _ _ 32 hd hl, BM.wrap_small _ (BM.rotl_lt 32 _ _ (Nat.le_of_lt hd) hl)] at h
  exact h
theorem roll_64 (x b : Int) (w : World) :
    Calls Tryz.prog 77 #[.int .i64 x, .int .i64 b, .int .i64 64] w fun e w' => e = .returned (.tuple #[.int .i64 (wrap64 (BM.rotl 64 (IntKind.u64.wrap x).toNat (b % 64).toNat)), .int .i64 0]) ∧ w' = w := by
  obtain ⟨hu, hl⟩ := u64_of x
  have hd : (b % 64).toNat < 64 := by omega
  have h := rrot_64 x b w
  rw [rollI_of x _ _ 64 (by decide) (by decide) hu 64 (Nat.le_refl _), BM.rollN_rotl _ _ 64 hd hl] at h
  exact h
theorem rlow_any (x : Int) (w : World) :
    Calls Tryz.prog 65 #[.int .i64 x] w fun e w' => e = .returned (.int .i64 (x % 4294967296)) ∧ w' = w := by
  have h := BM.and32 x
  go_enter Tryz.func65, Tryz.ntmps65
  go_wp2
  go_ret
  exact ⟨rfl, rfl⟩
theorem rsign_any (x : Int) (w : World) :
    Calls Tryz.prog 69 #[.int .i64 x] w fun e w' => e = .returned (.int .i64 (wrap32 (x % 4294967296))) ∧ w' = w := by
  have hd : x % 4294967296 < 2147483648 ∨ 2147483648 ≤ x % 4294967296 := by omega
  have hb : 0 ≤ x % 4294967296 ∧ x % 4294967296 < 4294967296 := by omega
  have hs : ∀ y : Int, 0 ≤ y → y < 2147483648 → y = wrap32 y := by intro y _ _; simp only [wrap32]; omega
  have hs' : ∀ y : Int, 2147483648 ≤ y → y < 4294967296 → y - 4294967296 = wrap32 y := by intro y _ _; simp only [wrap32]; omega
  have H1 : Hid (∀ y : Int, 0 ≤ y → y < 2147483648 → y = wrap32 y) := hs
  have H2 : Hid (∀ y : Int, 2147483648 ≤ y → y < 4294967296 → y - 4294967296 = wrap32 y) := hs'
  clear hs hs'
  rcases hd with hd | hd
  · go_enter Tryz.func69, Tryz.ntmps69
    go_wp2_with (go_at_call 65; refine (rlow_any _ _).mono ?_; rintro e w' ⟨rfl, rfl⟩)
    go_ret
    exact ⟨ret_int (H1.out _ hb.1 hd), rfl⟩
  · go_enter Tryz.func69, Tryz.ntmps69
    go_wp2_with (go_at_call 65; refine (rlow_any _ _).mono ?_; rintro e w' ⟨rfl, rfl⟩)
    go_ret
    exact ⟨ret_int (H2.out _ hd hb.2), rfl⟩
theorem rbelow_any (a b : Int) (w : World) :
    Calls Tryz.prog 78 #[.int .i64 a, .int .i64 b] w fun e w' => e = .returned (.bool (decide (IntKind.u64.wrap a < IntKind.u64.wrap b))) ∧ w' = w := by
  go_enter Tryz.func78, Tryz.ntmps78
  go_wp2
  go_ret
  exact ⟨rfl, rfl⟩
end Go.Proofs.YtdfgcagbpndabaaGreatDoor
