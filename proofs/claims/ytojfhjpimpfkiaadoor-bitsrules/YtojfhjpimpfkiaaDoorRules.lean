/- 'BitsRules' of package peloruslaw1 returns true at every input: rolled there and back, ones kept, the noughts at both ends. -/
import Derived.Test.YtojfhjpimpfkiaaDoorLaid
import Derived.Test.YtojfhjpimpfkiaaDoorLow
import Derived.Test.YtojfhjpimpfkiaaDoorTie
import Derived.Test.YtojfhjpimpfkiaaDoorCards
import Derived.SevenTiedAt
namespace Go.Proofs.YtojfhjpimpfkiaaDoor.bitsRules
open Go.ChangeShapes Go.WideShapes Go.ChangeAt Go.RowKit
set_option linter.unusedVariables false

set_option maxRecDepth 100000 in
set_option maxHeartbeats 2000000 in
theorem core32 (x b Y A B c d p q k : Int) (eY : Hid (x % 4294967296 = Y)) (r1 : Hid (((BM.rotl 32 (Y % 4294967296).toNat (b % 32).toNat : Nat) : Int) = A)) (r2 : Hid (((BM.rotl 32 (A % 4294967296).toNat ((wrap64 (-b)) % 32).toNat : Nat) : Int) = B)) (r3 : Hid ((Lib.popAux 32 (Y % 4294967296).toNat : Int) = c)) (r4 : Hid ((Lib.popAux 32 (A % 4294967296).toNat : Int) = d))
    (r5 : Hid (32 - (Lib.bitLen (Y % 4294967296).toNat : Int) = p)) (r6 : Hid ((Lib.ctz 32 (Y % 4294967296).toNat : Int) = q)) (r7 : Hid ((Lib.popAux 32 ((bits .and .i64 Y (wrap64 (-Y))) % 4294967296).toNat : Int) = k))
    (hY : (Y == 0) = false) (t1 : (B == Y) = true) (t2 : (c == d) = true) (t3 : (k == 1) = true) (p0 : 0 ≤ p) (q0 : 0 ≤ q) (q1 : q ≤ 31) (t4 : p + q < 32) (t5 : c ≤ 32 - p - q)
    (t6 : bits .and .i64 (Y / 2 ^ q.toNat) 1 = 1) (t7 : (wrap32 (Y % 4294967296) % 4294967296 == Y % 4294967296) = true) (w : World) (hT : Tab 0 Lib.deBruijn32tab w) :
    Calls Tryd.prog 4 #[.int .i64 x, .int .i64 b, .bool false] w fun e w' => e = .returned (.bool true) ∧ Grown w w' := by
  have C : Hid (Tab 0 Lib.deBruijn32tab w) := hT
  clear hT
  go_enter Tryd.func4, Tryd.ntmps4
  go_wp2_with fail
  refine (awake_any _).mono ?_
  rintro e w' ⟨rfl, n0, rfl⟩
  go_wp2_with fail
  refine (low_any x _).mono ?_
  rintro e w' ⟨rfl, rfl⟩
  rw [eY.out]
  go_wp2_with fail
  refine (rot_32 Y b _).mono ?_
  rintro e w' ⟨rfl, rfl⟩
  rw [r1.out]
  go_wp2_with fail
  refine (rot_32 A _ _).mono ?_
  rintro e w' ⟨rfl, rfl⟩
  rw [r2.out]
  go_wp2_with fail
  refine (pop_32 Y _).mono ?_
  rintro e w' ⟨rfl, n1, rfl⟩
  rw [r3.out]
  go_wp2_with fail
  refine (pop_32 A _).mono ?_
  rintro e w' ⟨rfl, n2, rfl⟩
  rw [r4.out]
  go_wp2_with fail
  refine (clz_32 Y _).mono ?_
  rintro e w' ⟨rfl, rfl⟩
  rw [r5.out]
  go_wp2_with fail
  refine (ctz_32 Y _ (C.out.drew _)).mono ?_
  rintro e w' ⟨rfl, rfl⟩
  rw [r6.out]
  go_wp2_with fail
  refine (pop_32 _ _).mono ?_
  rintro e w' ⟨rfl, n3, rfl⟩
  rw [r7.out]
  go_wp2_with (first | (go_at_call 18; refine (num_any _ _).mono ?_; rintro e w' ⟨rfl, rfl⟩) | (go_at_call 14; refine (low_any _ _).mono ?_; rintro e w' ⟨rfl, rfl⟩) | (go_at_call 16; refine (sign_any _ _).mono ?_; rintro e w' ⟨rfl, rfl⟩))
  go_ret
  exact ⟨rfl, grown_drewN _ _⟩
set_option maxRecDepth 100000 in
set_option maxHeartbeats 2000000 in
theorem nil32 (x b Y A B c d p q k : Int) (eY : Hid (x % 4294967296 = Y)) (r1 : Hid (((BM.rotl 32 (Y % 4294967296).toNat (b % 32).toNat : Nat) : Int) = A)) (r2 : Hid (((BM.rotl 32 (A % 4294967296).toNat ((wrap64 (-b)) % 32).toNat : Nat) : Int) = B)) (r3 : Hid ((Lib.popAux 32 (Y % 4294967296).toNat : Int) = c)) (r4 : Hid ((Lib.popAux 32 (A % 4294967296).toNat : Int) = d))
    (r5 : Hid (32 - (Lib.bitLen (Y % 4294967296).toNat : Int) = p)) (r6 : Hid ((Lib.ctz 32 (Y % 4294967296).toNat : Int) = q)) (r7 : Hid ((Lib.popAux 32 ((bits .and .i64 Y (wrap64 (-Y))) % 4294967296).toNat : Int) = k))
    (hY : (Y == 0) = true) (t1 : (A == 0) = true) (t2 : (c == 0) = true) (t3 : (p == 32) = true) (t4 : (q == 32) = true) (t5 : (k == 0) = true) (w : World) (hT : Tab 0 Lib.deBruijn32tab w) :
    Calls Tryd.prog 4 #[.int .i64 x, .int .i64 b, .bool false] w fun e w' => e = .returned (.bool true) ∧ Grown w w' := by
  have C : Hid (Tab 0 Lib.deBruijn32tab w) := hT
  clear hT
  go_enter Tryd.func4, Tryd.ntmps4
  go_wp2_with fail
  refine (awake_any _).mono ?_
  rintro e w' ⟨rfl, n0, rfl⟩
  go_wp2_with fail
  refine (low_any x _).mono ?_
  rintro e w' ⟨rfl, rfl⟩
  rw [eY.out]
  go_wp2_with fail
  refine (rot_32 Y b _).mono ?_
  rintro e w' ⟨rfl, rfl⟩
  rw [r1.out]
  go_wp2_with fail
  refine (rot_32 A _ _).mono ?_
  rintro e w' ⟨rfl, rfl⟩
  rw [r2.out]
  go_wp2_with fail
  refine (pop_32 Y _).mono ?_
  rintro e w' ⟨rfl, n1, rfl⟩
  rw [r3.out]
  go_wp2_with fail
  refine (pop_32 A _).mono ?_
  rintro e w' ⟨rfl, n2, rfl⟩
  rw [r4.out]
  go_wp2_with fail
  refine (clz_32 Y _).mono ?_
  rintro e w' ⟨rfl, rfl⟩
  rw [r5.out]
  go_wp2_with fail
  refine (ctz_32 Y _ (C.out.drew _)).mono ?_
  rintro e w' ⟨rfl, rfl⟩
  rw [r6.out]
  go_wp2_with fail
  refine (pop_32 _ _).mono ?_
  rintro e w' ⟨rfl, n3, rfl⟩
  rw [r7.out]
  go_wp2_with (first | (go_at_call 18; refine (num_any _ _).mono ?_; rintro e w' ⟨rfl, rfl⟩))
  go_ret
  exact ⟨rfl, grown_drewN _ _⟩

set_option maxRecDepth 100000 in
set_option maxHeartbeats 2000000 in
theorem core64 (b Y A B c d p q k : Int) (r1 : Hid (wrap64 ((BM.rotl 64 (IntKind.u64.wrap Y).toNat (b % 64).toNat : Nat) : Int) = A)) (r2 : Hid (wrap64 ((BM.rotl 64 (IntKind.u64.wrap A).toNat ((wrap64 (-b)) % 64).toNat : Nat) : Int) = B)) (r3 : Hid ((Lib.popAux 64 (IntKind.u64.wrap Y).toNat : Int) = c)) (r4 : Hid ((Lib.popAux 64 (IntKind.u64.wrap A).toNat : Int) = d))
    (r5 : Hid (64 - (Lib.bitLen (IntKind.u64.wrap Y).toNat : Int) = p)) (r6 : Hid ((Lib.ctz 64 (IntKind.u64.wrap Y).toNat : Int) = q)) (r7 : Hid ((Lib.popAux 64 (IntKind.u64.wrap (bits .and .i64 Y (wrap64 (-Y)))).toNat : Int) = k))
    (hY : (Y == 0) = false) (t1 : (B == Y) = true) (t2 : (c == d) = true) (t3 : (k == 1) = true) (p0 : 0 ≤ p) (q0 : 0 ≤ q) (q1 : q ≤ 63) (t4 : p + q < 64) (t5 : c ≤ 64 - p - q)
    (t6 : bits .and .i64 (Y / 2 ^ q.toNat) 1 = 1) (t7 : (wrap32 (Y % 4294967296) % 4294967296 == Y % 4294967296) = true) (w : World) (hT : Tab 1 Lib.deBruijn64tab w) :
    Calls Tryd.prog 4 #[.int .i64 Y, .int .i64 b, .bool true] w fun e w' => e = .returned (.bool true) ∧ Grown w w' := by
  have C : Hid (Tab 1 Lib.deBruijn64tab w) := hT
  clear hT
  go_enter Tryd.func4, Tryd.ntmps4
  go_wp2_with fail
  refine (awake_any _).mono ?_
  rintro e w' ⟨rfl, n0, rfl⟩
  go_wp2_with fail
  refine (low_any Y _).mono ?_
  rintro e w' ⟨rfl, rfl⟩
  go_wp2_with fail
  refine (rot_64 Y b _).mono ?_
  rintro e w' ⟨rfl, rfl⟩
  rw [r1.out]
  go_wp2_with fail
  refine (rot_64 A _ _).mono ?_
  rintro e w' ⟨rfl, rfl⟩
  rw [r2.out]
  go_wp2_with fail
  refine (pop_64 Y _).mono ?_
  rintro e w' ⟨rfl, rfl⟩
  rw [r3.out]
  go_wp2_with fail
  refine (pop_64 A _).mono ?_
  rintro e w' ⟨rfl, rfl⟩
  rw [r4.out]
  go_wp2_with fail
  refine (clz_64 Y _).mono ?_
  rintro e w' ⟨rfl, rfl⟩
  rw [r5.out]
  go_wp2_with fail
  refine (ctz_64 Y _ (C.out.drew _)).mono ?_
  rintro e w' ⟨rfl, rfl⟩
  rw [r6.out]
  go_wp2_with fail
  refine (pop_64 _ _).mono ?_
  rintro e w' ⟨rfl, rfl⟩
  rw [r7.out]
  go_wp2_with (first | (go_at_call 18; refine (num_any _ _).mono ?_; rintro e w' ⟨rfl, rfl⟩) | (go_at_call 14; refine (low_any _ _).mono ?_; rintro e w' ⟨rfl, rfl⟩) | (go_at_call 16; refine (sign_any _ _).mono ?_; rintro e w' ⟨rfl, rfl⟩))
  go_ret
  exact ⟨rfl, grown_drewN _ _⟩
set_option maxRecDepth 100000 in
set_option maxHeartbeats 2000000 in
theorem nil64 (b Y A B c d p q k : Int) (r1 : Hid (wrap64 ((BM.rotl 64 (IntKind.u64.wrap Y).toNat (b % 64).toNat : Nat) : Int) = A)) (r2 : Hid (wrap64 ((BM.rotl 64 (IntKind.u64.wrap A).toNat ((wrap64 (-b)) % 64).toNat : Nat) : Int) = B)) (r3 : Hid ((Lib.popAux 64 (IntKind.u64.wrap Y).toNat : Int) = c)) (r4 : Hid ((Lib.popAux 64 (IntKind.u64.wrap A).toNat : Int) = d))
    (r5 : Hid (64 - (Lib.bitLen (IntKind.u64.wrap Y).toNat : Int) = p)) (r6 : Hid ((Lib.ctz 64 (IntKind.u64.wrap Y).toNat : Int) = q)) (r7 : Hid ((Lib.popAux 64 (IntKind.u64.wrap (bits .and .i64 Y (wrap64 (-Y)))).toNat : Int) = k))
    (hY : (Y == 0) = true) (t1 : (A == 0) = true) (t2 : (c == 0) = true) (t3 : (p == 64) = true) (t4 : (q == 64) = true) (t5 : (k == 0) = true) (w : World) (hT : Tab 1 Lib.deBruijn64tab w) :
    Calls Tryd.prog 4 #[.int .i64 Y, .int .i64 b, .bool true] w fun e w' => e = .returned (.bool true) ∧ Grown w w' := by
  have C : Hid (Tab 1 Lib.deBruijn64tab w) := hT
  clear hT
  go_enter Tryd.func4, Tryd.ntmps4
  go_wp2_with fail
  refine (awake_any _).mono ?_
  rintro e w' ⟨rfl, n0, rfl⟩
  go_wp2_with fail
  refine (low_any Y _).mono ?_
  rintro e w' ⟨rfl, rfl⟩
  go_wp2_with fail
  refine (rot_64 Y b _).mono ?_
  rintro e w' ⟨rfl, rfl⟩
  rw [r1.out]
  go_wp2_with fail
  refine (rot_64 A _ _).mono ?_
  rintro e w' ⟨rfl, rfl⟩
  rw [r2.out]
  go_wp2_with fail
  refine (pop_64 Y _).mono ?_
  rintro e w' ⟨rfl, rfl⟩
  rw [r3.out]
  go_wp2_with fail
  refine (pop_64 A _).mono ?_
  rintro e w' ⟨rfl, rfl⟩
  rw [r4.out]
  go_wp2_with fail
  refine (clz_64 Y _).mono ?_
  rintro e w' ⟨rfl, rfl⟩
  rw [r5.out]
  go_wp2_with fail
  refine (ctz_64 Y _ (C.out.drew _)).mono ?_
  rintro e w' ⟨rfl, rfl⟩
  rw [r6.out]
  go_wp2_with fail
  refine (pop_64 _ _).mono ?_
  rintro e w' ⟨rfl, rfl⟩
  rw [r7.out]
  go_wp2_with (first | (go_at_call 18; refine (num_any _ _).mono ?_; rintro e w' ⟨rfl, rfl⟩))
  go_ret
  exact ⟨rfl, grown_drewN _ _⟩

theorem walk32 (x b : Int) (w : World) (hT : Tab 0 Lib.deBruijn32tab w) :
    Calls Tryd.prog 4 #[.int .i64 x, .int .i64 b, .bool false] w fun e w' => e = .returned (.bool true) ∧ Grown w w' := by
  obtain ⟨u, hu, hl⟩ : ∃ u : Nat, x % 4294967296 = (u : Int) ∧ u < 2 ^ 32 := ⟨(x % 4294967296).toNat, by omega, by omega⟩
  have hm : ((u : Int) % 4294967296).toNat = u := by omega
  by_cases hz : u = 0
  · subst hz
    refine nil32 x b 0 0 _ _ _ _ _ _ hu (by rw [show (((0 : Int)) % 4294967296).toNat = 0 from rfl, BM.rotl_nil]; rfl) rfl rfl rfl rfl rfl rfl rfl rfl ?_ ?_ ?_ ?_ w hT
    · rw [show (((0 : Int)) % 4294967296).toNat = 0 from rfl, BM.popAux_zero]; rfl
    · decide +kernel
    · decide +kernel
    · decide +kernel
  · have hk : (b % 32).toNat < 32 := by omega
    obtain ⟨hj, hjk⟩ := BM.back32 b
    have hr := BM.rotl_lt 32 u (b % 32).toNat (Nat.le_of_lt hk) hl
    obtain ⟨_, _, hq⟩ := BM.low_one 32 u hz hl
    obtain ⟨p0, q0, q1, t4, t5⟩ := BM.ends 32 u (by decide) hz hl _ _ _ rfl rfl rfl
    have hlo := BM.low_bit 32 u hz hl
    have hA : (((BM.rotl 32 u (b % 32).toNat : Nat) : Int) % 4294967296).toNat = BM.rotl 32 u (b % 32).toNat := by
      clear hjk hj t5 t4 q1 q0 p0 hlo; generalize BM.rotl 32 u (b % 32).toNat = r at *; omega
    have hand : ((bits .and .i64 (u : Int) (wrap64 (-(u : Int)))) % 4294967296).toNat = 2 ^ Lib.ctz 32 u := by
      rw [BM.and_minus 32 (by decide) (u : Int) u (by clear hjk hj t5 t4 q1 q0 p0 hlo; omega) hz hl, BM.wrap_low _ (Nat.pow_lt_pow_right (by decide) hq)]
    have e6 : ((u : Int) / 2 ^ Lib.ctz 32 u) = ((u / 2 ^ Lib.ctz 32 u : Nat) : Int) := by simp
    exact core32 x b (u : Int) (BM.rotl 32 u (b % 32).toNat : Nat) u (Lib.popAux 32 u) (Lib.popAux 32 u) _ (Lib.ctz 32 u) 1 hu (by rw [hm]; rfl)
      (by rw [hA, BM.rot_back 32 u _ _ hk hj hjk hl]; rfl) (by rw [hm]; rfl) (by rw [hA, BM.rotl_pop 32 u _ (Nat.le_of_lt hk) hl]; rfl) (by rw [hm]; rfl) (by rw [hm]; rfl)
      (by rw [hand, BM.pop_pow ⟨_, hq⟩]; rfl) (by simpa using hz) (by simp) (by simp) (by simp) p0 q0 q1 t4 t5
      (by rw [Int.toNat_natCast, BM.and1, e6]; clear hjk hj t5 t4 q1 q0 p0; omega) (by rw [BM.low_sign]; simp) w hT

theorem walk64 (y b : Int) (hy : -9223372036854775808 ≤ y ∧ y ≤ 9223372036854775807) (w : World) (hT : Tab 1 Lib.deBruijn64tab w) :
    Calls Tryd.prog 4 #[.int .i64 y, .int .i64 b, .bool true] w fun e w' => e = .returned (.bool true) ∧ Grown w w' := by
  obtain ⟨u, hl, hu, hm, _⟩ := BM.u_nat y
  by_cases hz : u = 0
  · have hy0 : y = 0 := by clear hm; omega
    subst hy0
    refine nil64 b 0 0 _ _ _ _ _ _ (show wrap64 ((BM.rotl 64 (IntKind.u64.wrap 0).toNat (b % 64).toNat : Nat) : Int) = 0 by rw [show (IntKind.u64.wrap 0).toNat = 0 from by decide +kernel, BM.rotl_nil]; decide +kernel) rfl rfl rfl rfl rfl rfl rfl rfl ?_ ?_ ?_ ?_ w hT
    · rw [show (IntKind.u64.wrap 0).toNat = 0 from by decide +kernel, BM.popAux_zero]; rfl
    · decide +kernel
    · decide +kernel
    · decide +kernel
  · have hk : (b % 64).toNat < 64 := by clear hm; omega
    obtain ⟨hj, hjk⟩ := BM.back64 b
    have hr := BM.rotl_lt 64 u (b % 64).toNat (Nat.le_of_lt hk) hl
    obtain ⟨_, _, hq⟩ := BM.low_one 64 u hz hl
    obtain ⟨p0, q0, q1, t4, t5⟩ := BM.ends 64 u (by decide) hz hl _ _ _ rfl rfl rfl
    have hlo := BM.low_bit 64 u hz hl
    have hA := BM.wrap_u _ hr
    have hand : (IntKind.u64.wrap (bits .and .i64 y (wrap64 (-y)))).toNat = 2 ^ Lib.ctz 64 u := by
      rw [BM.and_minus 64 (by decide) y u hu hz hl, BM.wrap_u _ (Nat.pow_lt_pow_right (by decide) hq)]
    have hy0 : y ≠ 0 := by intro h; subst h; apply hz; clear hm hand hA hjk hj t5 t4 q1 q0 p0 hlo hr; omega
    exact core64 b y (wrap64 (BM.rotl 64 u (b % 64).toNat : Nat)) y (Lib.popAux 64 u) (Lib.popAux 64 u) _ (Lib.ctz 64 u) 1 (by rw [hm]; rfl)
      (by rw [hA, BM.rot_back 64 u _ _ hk hj hjk hl]; exact BM.u_back y u hu hy) (by rw [hm]; rfl) (by rw [hA, BM.rotl_pop 64 u _ (Nat.le_of_lt hk) hl]; rfl) (by rw [hm]; rfl) (by rw [hm]; rfl)
      (by rw [hand, BM.pop_pow' ⟨_, hq⟩]; rfl) (by simpa using hy0) (by simp) (by simp) (by simp) p0 q0 q1 t4 t5
      (by rw [Int.toNat_natCast, BM.and1, BM.div_pow_mod y u _ hu hq, hlo]; rfl) (by rw [BM.low_sign]; simp) w hT

theorem walk (a0 : Int) (a1 : Int) (a2 : Bool) (w0 : (Lit.int .i64 a0).wf = true) (w1 : (Lit.int .i64 a1).wf = true) (w : World) (hT : Tab 0 Lib.deBruijn32tab w ∧ Tab 1 Lib.deBruijn64tab w) :
    Calls Tryd.prog 4 #[.int .i64 a0, .int .i64 a1, .bool a2] w fun e w' => e = .returned (.bool true) ∧ Grown w w' := by
  cases a2
  · exact walk32 a0 a1 w hT.1
  · exact walk64 a0 a1 (bounds_i64 w0) w hT.2

set_option maxRecDepth 100000 in
theorem lifted (os : Os) (started : os.Started) (H : Type) (enc : TypeId × Value → H) :
    ReturnsInHanded {} Tryd.checked os 4 .any (fun w args => (Rows.bitsRulesSpec.pre enc Tryd.prog Tryd.f4 [] false w args ∧ laidMetH Tryd.prog tabs w) ∧ sizedMet enc Tryd.prog Tryd.f4 (OpenSpec.ofChange Rows.bitsRulesSpec) false w args)
      (Rows.bitsRulesSpec.post enc Tryd.prog Tryd.f4 false true false false) := by
  refine returnsInHanded_of_change_and (C := Tryd.checked) (X := fun w _ => laidMetH Tryd.prog tabs w) (fun _ _ _ hh h => h.of_heap hh) own started (by kernel_rfl) Tryd.func4
    (ChangeSpec.witness_shaped (enc := enc) (C := Tryd.checked) (os := os) (X := fun w _ => laidMetH Tryd.prog tabs w) false (World.doorLaid Tryd.prog 400 os) #[.int .i64 0, .int .i64 0, .bool false] 8 rfl (World.shaped_of_RefB (by kernel_rfl) (by kernel_rfl)) (by kernel_rfl) (by kernel_rfl) (by kernel_rfl) (door_met os _)) ?_
  intro W base args ds gs before hval0 hW _ _ hL _
  have hval : ∀ (j : Nat) t v, Tryd.f4.params[j]? = some t → args[j]? = some v → Value.okWide Tryd.prog W .any base t v := hval0
  have hW' := hW
  obtain ⟨p, q, hA0, hV, rfl, hfz, hnd⟩ := hW
  have hA : DataW.TrodAll enc Tryd.prog W 0 (fun _ => true) true Tryd.f4.params.toList args.toList ds p := hA0
  rw [Tryd.params4] at hA hval
  obtain ⟨v0, vs0, d0, ds0, p0, q0, hargs, rfl, rfl, h0, r0⟩ := trodAll_cons hA
  obtain ⟨v1, vs1, d1, ds1, p1, q1, rfl, rfl, rfl, h1, r1⟩ := trodAll_cons r0
  obtain ⟨v2, vs2, d2, ds2, p2, q2, rfl, rfl, rfl, h2, r2⟩ := trodAll_cons r1
  obtain ⟨rfl, rfl, rfl⟩ := trodAll_nil r2
  obtain rfl : args = #[v0, v1, v2] := by cases args; simp_all
  obtain ⟨rfl, rfl⟩ := trodVars_none hV
  obtain ⟨a0, rfl, rfl, rfl, w0⟩ := open_int Tryd.underlying3 (hval 0 3 v0 rfl rfl) h0
  obtain ⟨a1, rfl, rfl, rfl, w1⟩ := open_int Tryd.underlying3 (hval 1 3 v1 rfl rfl) h1
  obtain ⟨a2, rfl, rfl, rfl⟩ := open_bool Tryd.underlying4 (hval 2 4 v2 rfl rfl) h2
  clear hA0 hval0
  simp only [List.append_nil] at hW'
  refine (walk a0 a1 a2 w0 w1 W (of_laid hL)).mono fun e W' ⟨he, hg⟩ => ?_
  subst he
  exact ⟨_, rfl, post_of_same (pa := []) (pv := []) hW' (fun _ _ _ => (trodAll_cons_mk (shut_bool Tryd.underlying4 _) trodAll_mk0)) (fun sp _ => (trodAll_cons_mk (shut_int Tryd.underlying3 w0) (trodAll_cons_mk (shut_int Tryd.underlying3 w1) (trodAll_cons_mk (shut_bool Tryd.underlying4 _) trodAll_mk0)))) (fun _ _ => rfl) rfl
    (hg.frame _) hg.2.1 (ok_one (by kernel_rfl) rfl (okWide_bool_mk Tryd.underlying4 _))⟩

theorem over : Rows.bitsRulesRow.holds Tryd.pinned (OpenSpec.ofChange Rows.bitsRulesSpec) :=
  OpenClaim.holds_of_wide 4 Tryd.f4 rfl rfl rfl rfl rfl rfl rfl ⟨rfl, rfl, rfl, rfl, rfl⟩ rfl rfl rfl rfl rfl (by kernel_rfl) Tryd.func4 (by kernel_rfl)
    (of_decide_eq_true (by kernel_rfl)) (by unfold Func.isWrapper; first | (rw [if_pos (by decide +kernel)]; kernel_rfl) | (rw [if_neg (by decide +kernel)]; exact ⟨rfl, rfl⟩))
    (fun os started H enc _ => lifted os started H enc)

theorem row_holds : Rows.BitsRulesSaid := over

theorem card_holds : Rows.BitsRulesCardSaid :=
  Claim7.holds_tied_plain_at .later [] [.data, .data] true (true, "8a9db70321aaf070d5e9b4a6db6bee6f3ba930786013acb7dcb2f39f3288ac9d") false
    row_holds (fun _ h => by cases h) (by kernel_rfl) (fun _ h => by cases h) bitsRules_row_tie rfl ⟨rfl, rfl⟩ (by kernel_rfl) rfl
    (fun f fn hf hfn => by
      obtain rfl : f = 4 := Option.some.inj ((show Tryd.prog.funcNamed Rows.bitsRulesRow.func = some 4 by kernel_rfl).symm.trans hf) |>.symm
      obtain rfl : fn = Tryd.f4 := (Option.some.inj (Tryd.func4.symm.trans hfn)).symm
      exact ⟨by kernel_rfl, fun j t ht => by
        rw [Tryd.params4] at ht
        have hm : t ∈ [3, 3, 4] := by simpa using Array.mem_of_getElem? ht
        have hall : ([3, 3, 4].all fun u => !Tryd.prog.wantsStandIn u) = true := by kernel_rfl
        exact (show Tryd.prog.wantsStandIn t = false by simpa using List.all_eq_true.1 hall t hm)⟩)
    (by kernel_rfl)
end Go.Proofs.YtojfhjpimpfkiaaDoor.bitsRules
namespace Go.Proofs.YtojfhjpimpfkiaaDoor
theorem bitsRules_holds : Rows.BitsRulesCardSaid := bitsRules.card_holds
#print axioms bitsRules_holds
end Go.Proofs.YtojfhjpimpfkiaaDoor

