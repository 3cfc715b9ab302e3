/- Contracts of the document's floats (pelorusref4), over this seat's translation: whole numbers made floats, floats cut to whole numbers. -/
import Derived.Test.YtibfjlibkaejnaaSApart2
import Derived.Test.YtibfjlibkaejnaaSRound2
import Derived.Test.YtibfjlibkaejnaaFFar2
import Derived.Test.YtibfjlibkaejnaaFFar3
import Derived.Test.YtibfjlibkaejnaaCCut
import Derived.WalkLawsBesides
import Derived.RegionCalls
import Derived.Deep.RegionWith
namespace Go.Proofs.Ytibfjlibkaejnaa.S
open Go.RowKit
open Go.FM (W64 two bl lost isN qn sw otherW fromW truncI tcut tval fits bitsI ofI)
set_option linter.unusedVariables false

theorem two_one (m : Nat) : two 0 m = m := by unfold two; rw [Nat.zero_mul, Nat.zero_add]
theorem round_one (neg : Bool) (m : Nat) (x : Int) (hm : m < W64) (he : -10000 ≤ x) (he1 : x ≤ 10000) (w : World) :
    Calls Try.prog 39 #[fm, .bool neg, .int .u64 0, .int .u64 (m : Nat), .int .i64 x] w fun e w' => e = .returned (.int .u64 (ff.nearest neg m x : Nat)) ∧ Later w w' := by
  have := round_any neg 0 m x (by decide) hm he he1 w
  rw [two_one] at this
  exact this
set_option maxRecDepth 100000 in
set_option maxHeartbeats 4000000 in
theorem from_neg (x : Int) (m : Nat) (z : Nat) (v : Int) (h : x < 0) (nx : Int) (h0 : IntKind.i64.wrap (-x) = nx) (h1 : IntKind.u64.wrap nx = (m : Int)) (hv : IntKind.i64.wrap (z : Int) = v) (hr : Hid (∀ w : World, Calls Try.prog 39 #[fm, .bool true, .int .u64 0, .int .u64 (m : Nat), .int .i64 0] w fun e w' => e = .returned (.int .u64 (z : Nat)) ∧ Later w w')) (w : World) :
    Calls Try.prog 29 #[fm, .int .i64 x, .bool true] w fun e w' => e = .returned (.int .i64 v) ∧ Later w w' := by
  go_enter Try.func29, Try.ntmps29
  go_wp2_with fail
  refine (hr.out _).mono ?_
  rintro e w' ⟨rfl, bs1, n1, rfl⟩
  go_wp2
  go_ret
  exact ⟨rfl, (by repeat (first | exact Later.refl _ | refine Later.alloc ?_ | refine Later.far ?_ | refine Later.drewN ?_ | refine Later.drew ?_))⟩
set_option maxRecDepth 100000 in
set_option maxHeartbeats 4000000 in
theorem from_pos (x : Int) (sgd : Bool) (m : Nat) (z : Nat) (v : Int) (h : sgd = false ∨ ¬ x < 0) (h1 : IntKind.u64.wrap x = (m : Int)) (hv : IntKind.i64.wrap (z : Int) = v) (hr : Hid (∀ w : World, Calls Try.prog 39 #[fm, .bool false, .int .u64 0, .int .u64 (m : Nat), .int .i64 0] w fun e w' => e = .returned (.int .u64 (z : Nat)) ∧ Later w w')) (w : World) :
    Calls Try.prog 29 #[fm, .int .i64 x, .bool sgd] w fun e w' => e = .returned (.int .i64 v) ∧ Later w w' := by
  rcases h with rfl | h
  · go_enter Try.func29, Try.ntmps29
    go_wp2_with fail
    refine (hr.out _).mono ?_
    rintro e w' ⟨rfl, bs2, n2, rfl⟩
    go_wp2
    go_ret
    exact ⟨rfl, (by repeat (first | exact Later.refl _ | refine Later.alloc ?_ | refine Later.far ?_ | refine Later.drewN ?_ | refine Later.drew ?_))⟩
  · cases sgd
    all_goals
      go_enter Try.func29, Try.ntmps29
      go_wp2_with fail
      refine (hr.out _).mono ?_
      rintro e w' ⟨rfl, bs2, n2, rfl⟩
      go_wp2
      go_ret
      exact ⟨rfl, (by repeat (first | exact Later.refl _ | refine Later.alloc ?_ | refine Later.far ?_ | refine Later.drewN ?_ | refine Later.drew ?_))⟩
theorem keep_word (v : Int) : IntKind.i64.wrap ((fromW ff v : Nat) : Int) = ((fromW ff v : Nat) : Int) := by
  have := FM.from_lt32 v
  rw [IntKind.wrap_i64]
  have h2 : fromW ff v < 4294967296 := this
  omega
/-- a whole number with its sign -/
theorem from_s (x : Int) (h1 : -9223372036854775808 ≤ x) (h2 : x ≤ 9223372036854775807) (w : World) :
    Calls Try.prog 29 #[fm, .int .i64 x, .bool true] w fun e w' => e = .returned (.int .i64 ((fromW ff x : Nat) : Int)) ∧ Later w w' := by
  by_cases h : x < 0
  · have e : fromW ff x = ff.nearest true x.natAbs 0 := by unfold FM.fromW; rw [decide_eq_true h]
    refine from_neg x x.natAbs _ _ h _ rfl ?_ (keep_word x) ?_ w
    · rw [IntKind.wrap_i64, IntKind.wrap_u64]; omega
    · intro w; rw [e]; exact round_one true x.natAbs 0 (by simp only [W64]; omega) (by decide) (by decide) w
  · have e : fromW ff x = ff.nearest false x.natAbs 0 := by unfold FM.fromW; rw [decide_eq_false h]
    refine from_pos x true x.natAbs _ _ (Or.inr h) ?_ (keep_word x) ?_ w
    · rw [IntKind.wrap_u64]; omega
    · intro w; rw [e]; exact round_one false x.natAbs 0 (by simp only [W64]; omega) (by decide) (by decide) w
/-- a whole number without sign -/
theorem from_u (x : Int) (n : Nat) (h : x % 18446744073709551616 = (n : Int)) (w : World) :
    Calls Try.prog 29 #[fm, .int .i64 x, .bool false] w fun e w' => e = .returned (.int .i64 ((fromW ff (n : Int) : Nat) : Int)) ∧ Later w w' := by
  have e : fromW ff (n : Int) = ff.nearest false n 0 := by unfold FM.fromW; rw [decide_eq_false (by omega)]; rfl
  refine from_pos x false n _ _ (Or.inl rfl) (by rw [IntKind.wrap_u64]; exact h) (keep_word n) ?_ w
  intro w; rw [e]; exact round_one false n 0 (by simp only [W64]; omega) (by decide) (by decide) w
set_option maxRecDepth 100000 in
set_option maxHeartbeats 4000000 in
theorem trunc_nan0 (x wd m E : Int) (sgd s i : Bool) (ha : Hid (∀ w : World, Calls Try.prog 36 #[fm, .int .u64 x] w fun e w' => e = .returned (fv s i true m E) ∧ Later w w')) (w : World) :
    Calls Try.prog 25 #[fm, .int .u64 x, .int .i64 wd, .bool sgd] w fun e w' => e = .returned (.tuple #[.int .i64 0, .int .i64 600]) ∧ Later w w' := by
  go_enter Try.func25, Try.ntmps25
  go_wp2_with fail
  refine (ha.out _).mono ?_
  rintro e w' ⟨rfl, bs3, n3, rfl⟩
  go_wp2
  go_ret2
  exact ⟨rfl, (by repeat (first | exact Later.refl _ | refine Later.alloc ?_ | refine Later.far ?_ | refine Later.drewN ?_ | refine Later.drew ?_))⟩
set_option maxRecDepth 100000 in
set_option maxHeartbeats 4000000 in
theorem trunc_inf0 (x wd m E : Int) (sgd s : Bool) (ha : Hid (∀ w : World, Calls Try.prog 36 #[fm, .int .u64 x] w fun e w' => e = .returned (fv s true false m E) ∧ Later w w')) (w : World) :
    Calls Try.prog 25 #[fm, .int .u64 x, .int .i64 wd, .bool sgd] w fun e w' => e = .returned (.tuple #[.int .i64 0, .int .i64 601]) ∧ Later w w' := by
  go_enter Try.func25, Try.ntmps25
  go_wp2_with fail
  refine (ha.out _).mono ?_
  rintro e w' ⟨rfl, bs4, n4, rfl⟩
  go_wp2
  go_ret2
  exact ⟨rfl, (by repeat (first | exact Later.refl _ | refine Later.alloc ?_ | refine Later.far ?_ | refine Later.drewN ?_ | refine Later.drew ?_))⟩
set_option maxRecDepth 100000 in
set_option maxHeartbeats 4000000 in
theorem trunc_far (x wd l : Int) (m k : Nat) (sgd s : Bool) (ha : Hid (∀ w : World, Calls Try.prog 36 #[fm, .int .u64 x] w fun e w' => e = .returned (fv s false false m (k : Int)) ∧ Later w w')) (hl : Hid (∀ w : World, Calls Try.prog 37 #[.int .u64 (m : Int)] w fun e w' => e = .returned (.int .i64 l) ∧ w' = w)) (t : Int) (hs : IntKind.i64.wrap (l + (k : Int)) = t) (ht : ¬ t ≤ 64) (w : World) :
    Calls Try.prog 25 #[fm, .int .u64 x, .int .i64 wd, .bool sgd] w fun e w' => e = .returned (.tuple #[.int .i64 0, .int .i64 601]) ∧ Later w w' := by
  go_enter Try.func25, Try.ntmps25
  go_wp2_with fail
  refine (ha.out _).mono ?_
  rintro e w' ⟨rfl, bs5, n5, rfl⟩
  go_wp2_with fail
  refine wp_region_quiet_far (by kernel_rfl) (by kernel_rfl) ?_
  repeat (quiet_step (first | (go_at_call 37; exact Calls.far_of_same (hl.out _))))
  refine wpQuiet_nil ?_
  rintro _ ⟨⟨bq6, nq6⟩, rfl⟩
  go_wp2
  go_ret2
  exact ⟨rfl, (by repeat (first | exact Later.refl _ | refine Later.alloc ?_ | refine Later.far ?_ | refine Later.drewN ?_ | refine Later.drew ?_))⟩
set_option maxRecDepth 100000 in
set_option maxHeartbeats 4000000 in
theorem trunc_up_32sp_in (x l t : Int) (m k : Nat) (M : Int) (ha : Hid (∀ w : World, Calls Try.prog 36 #[fm, .int .u64 x] w fun e w' => e = .returned (fv false false false m (k : Int)) ∧ Later w w')) (hl : Hid (∀ w : World, Calls Try.prog 37 #[.int .u64 (m : Int)] w fun e w' => e = .returned (.int .i64 l) ∧ w' = w)) (hs : IntKind.i64.wrap (l + (k : Int)) = t) (ht : t ≤ 64) (hk : k ≤ 64) (hw : IntKind.u64.wrap ((m : Int) * 2 ^ k) = M) (hM : M ≤ 2147483647) (o1 : Int) (ho1 : IntKind.i64.wrap M = o1) (o3 : Int) (hlow : Hid (∀ w : World, Calls Try.prog 24 #[.int .i64 o1] w fun e w' => e = .returned (.int .i64 o3) ∧ w' = w)) (w : World) :
    Calls Try.prog 25 #[fm, .int .u64 x, .int .i64 32, .bool true] w fun e w' => e = .returned (.tuple #[.int .i64 o3, .int .i64 0]) ∧ Later w w' := by
  go_enter Try.func25, Try.ntmps25
  go_wp2_with fail
  refine (ha.out _).mono ?_
  rintro e w' ⟨rfl, bs8, n8, rfl⟩
  go_wp2_with fail
  refine wp_region_quiet_far (by kernel_rfl) (by kernel_rfl) ?_
  repeat (quiet_step (first | (go_at_call 37; exact Calls.far_of_same (hl.out _))))
  refine wpQuiet_nil ?_
  rintro _ ⟨⟨bq7, nq7⟩, rfl⟩
  go_wp2_with fail
  refine (hlow.out _).mono ?_
  rintro e w' ⟨rfl, rfl⟩
  go_wp2
  go_ret2
  exact ⟨rfl, (by repeat (first | exact Later.refl _ | refine Later.alloc ?_ | refine Later.far ?_ | refine Later.drewN ?_ | refine Later.drew ?_))⟩
set_option maxRecDepth 100000 in
set_option maxHeartbeats 4000000 in
theorem trunc_up_32sp_out (x l t : Int) (m k : Nat) (M : Int) (ha : Hid (∀ w : World, Calls Try.prog 36 #[fm, .int .u64 x] w fun e w' => e = .returned (fv false false false m (k : Int)) ∧ Later w w')) (hl : Hid (∀ w : World, Calls Try.prog 37 #[.int .u64 (m : Int)] w fun e w' => e = .returned (.int .i64 l) ∧ w' = w)) (hs : IntKind.i64.wrap (l + (k : Int)) = t) (ht : t ≤ 64) (hk : k ≤ 64) (hw : IntKind.u64.wrap ((m : Int) * 2 ^ k) = M) (hM : ¬ M ≤ 2147483647) (w : World) :
    Calls Try.prog 25 #[fm, .int .u64 x, .int .i64 32, .bool true] w fun e w' => e = .returned (.tuple #[.int .i64 0, .int .i64 601]) ∧ Later w w' := by
  go_enter Try.func25, Try.ntmps25
  go_wp2_with fail
  refine (ha.out _).mono ?_
  rintro e w' ⟨rfl, bs10, n10, rfl⟩
  go_wp2_with fail
  refine wp_region_quiet_far (by kernel_rfl) (by kernel_rfl) ?_
  repeat (quiet_step (first | (go_at_call 37; exact Calls.far_of_same (hl.out _))))
  refine wpQuiet_nil ?_
  rintro _ ⟨⟨bq7, nq7⟩, rfl⟩
  go_wp2
  go_ret2
  exact ⟨rfl, (by repeat (first | exact Later.refl _ | refine Later.alloc ?_ | refine Later.far ?_ | refine Later.drewN ?_ | refine Later.drew ?_))⟩
set_option maxRecDepth 100000 in
set_option maxHeartbeats 4000000 in
theorem trunc_up_32sn_in (x l t : Int) (m k : Nat) (M : Int) (ha : Hid (∀ w : World, Calls Try.prog 36 #[fm, .int .u64 x] w fun e w' => e = .returned (fv true false false m (k : Int)) ∧ Later w w')) (hl : Hid (∀ w : World, Calls Try.prog 37 #[.int .u64 (m : Int)] w fun e w' => e = .returned (.int .i64 l) ∧ w' = w)) (hs : IntKind.i64.wrap (l + (k : Int)) = t) (ht : t ≤ 64) (hk : k ≤ 64) (hw : IntKind.u64.wrap ((m : Int) * 2 ^ k) = M) (hM : M ≤ 2147483648) (o1 : Int) (ho1 : IntKind.i64.wrap M = o1) (o2 : Int) (ho2 : IntKind.i64.wrap (-o1) = o2) (o3 : Int) (hlow : Hid (∀ w : World, Calls Try.prog 24 #[.int .i64 o2] w fun e w' => e = .returned (.int .i64 o3) ∧ w' = w)) (w : World) :
    Calls Try.prog 25 #[fm, .int .u64 x, .int .i64 32, .bool true] w fun e w' => e = .returned (.tuple #[.int .i64 o3, .int .i64 0]) ∧ Later w w' := by
  go_enter Try.func25, Try.ntmps25
  go_wp2_with fail
  refine (ha.out _).mono ?_
  rintro e w' ⟨rfl, bs11, n11, rfl⟩
  go_wp2_with fail
  refine wp_region_quiet_far (by kernel_rfl) (by kernel_rfl) ?_
  repeat (quiet_step (first | (go_at_call 37; exact Calls.far_of_same (hl.out _))))
  refine wpQuiet_nil ?_
  rintro _ ⟨⟨bq7, nq7⟩, rfl⟩
  go_wp2_with fail
  refine (hlow.out _).mono ?_
  rintro e w' ⟨rfl, rfl⟩
  go_wp2
  go_ret2
  exact ⟨rfl, (by repeat (first | exact Later.refl _ | refine Later.alloc ?_ | refine Later.far ?_ | refine Later.drewN ?_ | refine Later.drew ?_))⟩
set_option maxRecDepth 100000 in
set_option maxHeartbeats 4000000 in
theorem trunc_up_32sn_out (x l t : Int) (m k : Nat) (M : Int) (ha : Hid (∀ w : World, Calls Try.prog 36 #[fm, .int .u64 x] w fun e w' => e = .returned (fv true false false m (k : Int)) ∧ Later w w')) (hl : Hid (∀ w : World, Calls Try.prog 37 #[.int .u64 (m : Int)] w fun e w' => e = .returned (.int .i64 l) ∧ w' = w)) (hs : IntKind.i64.wrap (l + (k : Int)) = t) (ht : t ≤ 64) (hk : k ≤ 64) (hw : IntKind.u64.wrap ((m : Int) * 2 ^ k) = M) (hM : ¬ M ≤ 2147483648) (w : World) :
    Calls Try.prog 25 #[fm, .int .u64 x, .int .i64 32, .bool true] w fun e w' => e = .returned (.tuple #[.int .i64 0, .int .i64 601]) ∧ Later w w' := by
  go_enter Try.func25, Try.ntmps25
  go_wp2_with fail
  refine (ha.out _).mono ?_
  rintro e w' ⟨rfl, bs13, n13, rfl⟩
  go_wp2_with fail
  refine wp_region_quiet_far (by kernel_rfl) (by kernel_rfl) ?_
  repeat (quiet_step (first | (go_at_call 37; exact Calls.far_of_same (hl.out _))))
  refine wpQuiet_nil ?_
  rintro _ ⟨⟨bq7, nq7⟩, rfl⟩
  go_wp2
  go_ret2
  exact ⟨rfl, (by repeat (first | exact Later.refl _ | refine Later.alloc ?_ | refine Later.far ?_ | refine Later.drewN ?_ | refine Later.drew ?_))⟩
set_option maxRecDepth 100000 in
set_option maxHeartbeats 4000000 in
theorem trunc_up_32up_in (x l t : Int) (m k : Nat) (M : Int) (ha : Hid (∀ w : World, Calls Try.prog 36 #[fm, .int .u64 x] w fun e w' => e = .returned (fv false false false m (k : Int)) ∧ Later w w')) (hl : Hid (∀ w : World, Calls Try.prog 37 #[.int .u64 (m : Int)] w fun e w' => e = .returned (.int .i64 l) ∧ w' = w)) (hs : IntKind.i64.wrap (l + (k : Int)) = t) (ht : t ≤ 64) (hk : k ≤ 64) (hw : IntKind.u64.wrap ((m : Int) * 2 ^ k) = M) (hM : M ≤ 4294967295) (o1 : Int) (ho1 : IntKind.i64.wrap M = o1) (o3 : Int) (hlow : Hid (∀ w : World, Calls Try.prog 24 #[.int .i64 o1] w fun e w' => e = .returned (.int .i64 o3) ∧ w' = w)) (w : World) :
    Calls Try.prog 25 #[fm, .int .u64 x, .int .i64 32, .bool false] w fun e w' => e = .returned (.tuple #[.int .i64 o3, .int .i64 0]) ∧ Later w w' := by
  go_enter Try.func25, Try.ntmps25
  go_wp2_with fail
  refine (ha.out _).mono ?_
  rintro e w' ⟨rfl, bs14, n14, rfl⟩
  go_wp2_with fail
  refine wp_region_quiet_far (by kernel_rfl) (by kernel_rfl) ?_
  repeat (quiet_step (first | (go_at_call 37; exact Calls.far_of_same (hl.out _))))
  refine wpQuiet_nil ?_
  rintro _ ⟨⟨bq7, nq7⟩, rfl⟩
  go_wp2_with fail
  refine (hlow.out _).mono ?_
  rintro e w' ⟨rfl, rfl⟩
  go_wp2
  go_ret2
  exact ⟨rfl, (by repeat (first | exact Later.refl _ | refine Later.alloc ?_ | refine Later.far ?_ | refine Later.drewN ?_ | refine Later.drew ?_))⟩
set_option maxRecDepth 100000 in
set_option maxHeartbeats 4000000 in
theorem trunc_up_32up_out (x l t : Int) (m k : Nat) (M : Int) (ha : Hid (∀ w : World, Calls Try.prog 36 #[fm, .int .u64 x] w fun e w' => e = .returned (fv false false false m (k : Int)) ∧ Later w w')) (hl : Hid (∀ w : World, Calls Try.prog 37 #[.int .u64 (m : Int)] w fun e w' => e = .returned (.int .i64 l) ∧ w' = w)) (hs : IntKind.i64.wrap (l + (k : Int)) = t) (ht : t ≤ 64) (hk : k ≤ 64) (hw : IntKind.u64.wrap ((m : Int) * 2 ^ k) = M) (hM : ¬ M ≤ 4294967295) (w : World) :
    Calls Try.prog 25 #[fm, .int .u64 x, .int .i64 32, .bool false] w fun e w' => e = .returned (.tuple #[.int .i64 0, .int .i64 601]) ∧ Later w w' := by
  go_enter Try.func25, Try.ntmps25
  go_wp2_with fail
  refine (ha.out _).mono ?_
  rintro e w' ⟨rfl, bs16, n16, rfl⟩
  go_wp2_with fail
  refine wp_region_quiet_far (by kernel_rfl) (by kernel_rfl) ?_
  repeat (quiet_step (first | (go_at_call 37; exact Calls.far_of_same (hl.out _))))
  refine wpQuiet_nil ?_
  rintro _ ⟨⟨bq7, nq7⟩, rfl⟩
  go_wp2
  go_ret2
  exact ⟨rfl, (by repeat (first | exact Later.refl _ | refine Later.alloc ?_ | refine Later.far ?_ | refine Later.drewN ?_ | refine Later.drew ?_))⟩
set_option maxRecDepth 100000 in
set_option maxHeartbeats 4000000 in
theorem trunc_up_32un_in (x l t : Int) (m k : Nat) (ha : Hid (∀ w : World, Calls Try.prog 36 #[fm, .int .u64 x] w fun e w' => e = .returned (fv true false false m (k : Int)) ∧ Later w w')) (hl : Hid (∀ w : World, Calls Try.prog 37 #[.int .u64 (m : Int)] w fun e w' => e = .returned (.int .i64 l) ∧ w' = w)) (hs : IntKind.i64.wrap (l + (k : Int)) = t) (ht : t ≤ 64) (hk : k ≤ 64) (hw : IntKind.u64.wrap ((m : Int) * 2 ^ k) = 0) (hlow : Hid (∀ w : World, Calls Try.prog 24 #[.int .i64 0] w fun e w' => e = .returned (.int .i64 0) ∧ w' = w)) (w : World) :
    Calls Try.prog 25 #[fm, .int .u64 x, .int .i64 32, .bool false] w fun e w' => e = .returned (.tuple #[.int .i64 0, .int .i64 0]) ∧ Later w w' := by
  go_enter Try.func25, Try.ntmps25
  go_wp2_with fail
  refine (ha.out _).mono ?_
  rintro e w' ⟨rfl, bs17, n17, rfl⟩
  go_wp2_with fail
  refine wp_region_quiet_far (by kernel_rfl) (by kernel_rfl) ?_
  repeat (quiet_step (first | (go_at_call 37; exact Calls.far_of_same (hl.out _))))
  refine wpQuiet_nil ?_
  rintro _ ⟨⟨bq7, nq7⟩, rfl⟩
  go_wp2_with fail
  refine (hlow.out _).mono ?_
  rintro e w' ⟨rfl, rfl⟩
  go_wp2
  go_ret2
  exact ⟨rfl, (by repeat (first | exact Later.refl _ | refine Later.alloc ?_ | refine Later.far ?_ | refine Later.drewN ?_ | refine Later.drew ?_))⟩
set_option maxRecDepth 100000 in
set_option maxHeartbeats 4000000 in
theorem trunc_up_32un_out (x l t : Int) (m k : Nat) (M : Int) (ha : Hid (∀ w : World, Calls Try.prog 36 #[fm, .int .u64 x] w fun e w' => e = .returned (fv true false false m (k : Int)) ∧ Later w w')) (hl : Hid (∀ w : World, Calls Try.prog 37 #[.int .u64 (m : Int)] w fun e w' => e = .returned (.int .i64 l) ∧ w' = w)) (hs : IntKind.i64.wrap (l + (k : Int)) = t) (ht : t ≤ 64) (hk : k ≤ 64) (hw : IntKind.u64.wrap ((m : Int) * 2 ^ k) = M) (hM : (M == 0) = false) (hM2 : ¬ M = 0) (w : World) :
    Calls Try.prog 25 #[fm, .int .u64 x, .int .i64 32, .bool false] w fun e w' => e = .returned (.tuple #[.int .i64 0, .int .i64 601]) ∧ Later w w' := by
  go_enter Try.func25, Try.ntmps25
  go_wp2_with fail
  refine (ha.out _).mono ?_
  rintro e w' ⟨rfl, bs19, n19, rfl⟩
  go_wp2_with fail
  refine wp_region_quiet_far (by kernel_rfl) (by kernel_rfl) ?_
  repeat (quiet_step (first | (go_at_call 37; exact Calls.far_of_same (hl.out _))))
  refine wpQuiet_nil ?_
  rintro _ ⟨⟨bq7, nq7⟩, rfl⟩
  go_wp2
  go_ret2
  exact ⟨rfl, (by repeat (first | exact Later.refl _ | refine Later.alloc ?_ | refine Later.far ?_ | refine Later.drewN ?_ | refine Later.drew ?_))⟩
set_option maxRecDepth 100000 in
set_option maxHeartbeats 4000000 in
theorem trunc_up_64sp_in (x l t : Int) (m k : Nat) (M : Int) (ha : Hid (∀ w : World, Calls Try.prog 36 #[fm, .int .u64 x] w fun e w' => e = .returned (fv false false false m (k : Int)) ∧ Later w w')) (hl : Hid (∀ w : World, Calls Try.prog 37 #[.int .u64 (m : Int)] w fun e w' => e = .returned (.int .i64 l) ∧ w' = w)) (hs : IntKind.i64.wrap (l + (k : Int)) = t) (ht : t ≤ 64) (hk : k ≤ 64) (hw : IntKind.u64.wrap ((m : Int) * 2 ^ k) = M) (hM : M ≤ 9223372036854775807) (o1 : Int) (ho1 : IntKind.i64.wrap M = o1) (w : World) :
    Calls Try.prog 25 #[fm, .int .u64 x, .int .i64 64, .bool true] w fun e w' => e = .returned (.tuple #[.int .i64 o1, .int .i64 0]) ∧ Later w w' := by
  go_enter Try.func25, Try.ntmps25
  go_wp2_with fail
  refine (ha.out _).mono ?_
  rintro e w' ⟨rfl, bs20, n20, rfl⟩
  go_wp2_with fail
  refine wp_region_quiet_far (by kernel_rfl) (by kernel_rfl) ?_
  repeat (quiet_step (first | (go_at_call 37; exact Calls.far_of_same (hl.out _))))
  refine wpQuiet_nil ?_
  rintro _ ⟨⟨bq7, nq7⟩, rfl⟩
  go_wp2
  go_ret2
  exact ⟨rfl, (by repeat (first | exact Later.refl _ | refine Later.alloc ?_ | refine Later.far ?_ | refine Later.drewN ?_ | refine Later.drew ?_))⟩
set_option maxRecDepth 100000 in
set_option maxHeartbeats 4000000 in
theorem trunc_up_64sp_out (x l t : Int) (m k : Nat) (M : Int) (ha : Hid (∀ w : World, Calls Try.prog 36 #[fm, .int .u64 x] w fun e w' => e = .returned (fv false false false m (k : Int)) ∧ Later w w')) (hl : Hid (∀ w : World, Calls Try.prog 37 #[.int .u64 (m : Int)] w fun e w' => e = .returned (.int .i64 l) ∧ w' = w)) (hs : IntKind.i64.wrap (l + (k : Int)) = t) (ht : t ≤ 64) (hk : k ≤ 64) (hw : IntKind.u64.wrap ((m : Int) * 2 ^ k) = M) (hM : ¬ M ≤ 9223372036854775807) (w : World) :
    Calls Try.prog 25 #[fm, .int .u64 x, .int .i64 64, .bool true] w fun e w' => e = .returned (.tuple #[.int .i64 0, .int .i64 601]) ∧ Later w w' := by
  go_enter Try.func25, Try.ntmps25
  go_wp2_with fail
  refine (ha.out _).mono ?_
  rintro e w' ⟨rfl, bs21, n21, rfl⟩
  go_wp2_with fail
  refine wp_region_quiet_far (by kernel_rfl) (by kernel_rfl) ?_
  repeat (quiet_step (first | (go_at_call 37; exact Calls.far_of_same (hl.out _))))
  refine wpQuiet_nil ?_
  rintro _ ⟨⟨bq7, nq7⟩, rfl⟩
  go_wp2
  go_ret2
  exact ⟨rfl, (by repeat (first | exact Later.refl _ | refine Later.alloc ?_ | refine Later.far ?_ | refine Later.drewN ?_ | refine Later.drew ?_))⟩
set_option maxRecDepth 100000 in
set_option maxHeartbeats 4000000 in
theorem trunc_up_64sn_in (x l t : Int) (m k : Nat) (M : Int) (ha : Hid (∀ w : World, Calls Try.prog 36 #[fm, .int .u64 x] w fun e w' => e = .returned (fv true false false m (k : Int)) ∧ Later w w')) (hl : Hid (∀ w : World, Calls Try.prog 37 #[.int .u64 (m : Int)] w fun e w' => e = .returned (.int .i64 l) ∧ w' = w)) (hs : IntKind.i64.wrap (l + (k : Int)) = t) (ht : t ≤ 64) (hk : k ≤ 64) (hw : IntKind.u64.wrap ((m : Int) * 2 ^ k) = M) (hM : M ≤ 9223372036854775808) (o1 : Int) (ho1 : IntKind.i64.wrap M = o1) (o2 : Int) (ho2 : IntKind.i64.wrap (-o1) = o2) (w : World) :
    Calls Try.prog 25 #[fm, .int .u64 x, .int .i64 64, .bool true] w fun e w' => e = .returned (.tuple #[.int .i64 o2, .int .i64 0]) ∧ Later w w' := by
  go_enter Try.func25, Try.ntmps25
  go_wp2_with fail
  refine (ha.out _).mono ?_
  rintro e w' ⟨rfl, bs22, n22, rfl⟩
  go_wp2_with fail
  refine wp_region_quiet_far (by kernel_rfl) (by kernel_rfl) ?_
  repeat (quiet_step (first | (go_at_call 37; exact Calls.far_of_same (hl.out _))))
  refine wpQuiet_nil ?_
  rintro _ ⟨⟨bq7, nq7⟩, rfl⟩
  go_wp2
  go_ret2
  exact ⟨rfl, (by repeat (first | exact Later.refl _ | refine Later.alloc ?_ | refine Later.far ?_ | refine Later.drewN ?_ | refine Later.drew ?_))⟩
set_option maxRecDepth 100000 in
set_option maxHeartbeats 4000000 in
theorem trunc_up_64sn_out (x l t : Int) (m k : Nat) (M : Int) (ha : Hid (∀ w : World, Calls Try.prog 36 #[fm, .int .u64 x] w fun e w' => e = .returned (fv true false false m (k : Int)) ∧ Later w w')) (hl : Hid (∀ w : World, Calls Try.prog 37 #[.int .u64 (m : Int)] w fun e w' => e = .returned (.int .i64 l) ∧ w' = w)) (hs : IntKind.i64.wrap (l + (k : Int)) = t) (ht : t ≤ 64) (hk : k ≤ 64) (hw : IntKind.u64.wrap ((m : Int) * 2 ^ k) = M) (hM : ¬ M ≤ 9223372036854775808) (w : World) :
    Calls Try.prog 25 #[fm, .int .u64 x, .int .i64 64, .bool true] w fun e w' => e = .returned (.tuple #[.int .i64 0, .int .i64 601]) ∧ Later w w' := by
  go_enter Try.func25, Try.ntmps25
  go_wp2_with fail
  refine (ha.out _).mono ?_
  rintro e w' ⟨rfl, bs23, n23, rfl⟩
  go_wp2_with fail
  refine wp_region_quiet_far (by kernel_rfl) (by kernel_rfl) ?_
  repeat (quiet_step (first | (go_at_call 37; exact Calls.far_of_same (hl.out _))))
  refine wpQuiet_nil ?_
  rintro _ ⟨⟨bq7, nq7⟩, rfl⟩
  go_wp2
  go_ret2
  exact ⟨rfl, (by repeat (first | exact Later.refl _ | refine Later.alloc ?_ | refine Later.far ?_ | refine Later.drewN ?_ | refine Later.drew ?_))⟩
set_option maxRecDepth 100000 in
set_option maxHeartbeats 4000000 in
theorem trunc_up_64up_in (x l t : Int) (m k : Nat) (M : Int) (ha : Hid (∀ w : World, Calls Try.prog 36 #[fm, .int .u64 x] w fun e w' => e = .returned (fv false false false m (k : Int)) ∧ Later w w')) (hl : Hid (∀ w : World, Calls Try.prog 37 #[.int .u64 (m : Int)] w fun e w' => e = .returned (.int .i64 l) ∧ w' = w)) (hs : IntKind.i64.wrap (l + (k : Int)) = t) (ht : t ≤ 64) (hk : k ≤ 64) (hw : IntKind.u64.wrap ((m : Int) * 2 ^ k) = M) (o1 : Int) (ho1 : IntKind.i64.wrap M = o1) (w : World) :
    Calls Try.prog 25 #[fm, .int .u64 x, .int .i64 64, .bool false] w fun e w' => e = .returned (.tuple #[.int .i64 o1, .int .i64 0]) ∧ Later w w' := by
  go_enter Try.func25, Try.ntmps25
  go_wp2_with fail
  refine (ha.out _).mono ?_
  rintro e w' ⟨rfl, bs24, n24, rfl⟩
  go_wp2_with fail
  refine wp_region_quiet_far (by kernel_rfl) (by kernel_rfl) ?_
  repeat (quiet_step (first | (go_at_call 37; exact Calls.far_of_same (hl.out _))))
  refine wpQuiet_nil ?_
  rintro _ ⟨⟨bq7, nq7⟩, rfl⟩
  go_wp2
  go_ret2
  exact ⟨rfl, (by repeat (first | exact Later.refl _ | refine Later.alloc ?_ | refine Later.far ?_ | refine Later.drewN ?_ | refine Later.drew ?_))⟩
set_option maxRecDepth 100000 in
set_option maxHeartbeats 4000000 in
theorem trunc_up_64un_in (x l t : Int) (m k : Nat) (ha : Hid (∀ w : World, Calls Try.prog 36 #[fm, .int .u64 x] w fun e w' => e = .returned (fv true false false m (k : Int)) ∧ Later w w')) (hl : Hid (∀ w : World, Calls Try.prog 37 #[.int .u64 (m : Int)] w fun e w' => e = .returned (.int .i64 l) ∧ w' = w)) (hs : IntKind.i64.wrap (l + (k : Int)) = t) (ht : t ≤ 64) (hk : k ≤ 64) (hw : IntKind.u64.wrap ((m : Int) * 2 ^ k) = 0) (w : World) :
    Calls Try.prog 25 #[fm, .int .u64 x, .int .i64 64, .bool false] w fun e w' => e = .returned (.tuple #[.int .i64 0, .int .i64 0]) ∧ Later w w' := by
  go_enter Try.func25, Try.ntmps25
  go_wp2_with fail
  refine (ha.out _).mono ?_
  rintro e w' ⟨rfl, bs25, n25, rfl⟩
  go_wp2_with fail
  refine wp_region_quiet_far (by kernel_rfl) (by kernel_rfl) ?_
  repeat (quiet_step (first | (go_at_call 37; exact Calls.far_of_same (hl.out _))))
  refine wpQuiet_nil ?_
  rintro _ ⟨⟨bq7, nq7⟩, rfl⟩
  go_wp2
  go_ret2
  exact ⟨rfl, (by repeat (first | exact Later.refl _ | refine Later.alloc ?_ | refine Later.far ?_ | refine Later.drewN ?_ | refine Later.drew ?_))⟩
set_option maxRecDepth 100000 in
set_option maxHeartbeats 4000000 in
theorem trunc_up_64un_out (x l t : Int) (m k : Nat) (M : Int) (ha : Hid (∀ w : World, Calls Try.prog 36 #[fm, .int .u64 x] w fun e w' => e = .returned (fv true false false m (k : Int)) ∧ Later w w')) (hl : Hid (∀ w : World, Calls Try.prog 37 #[.int .u64 (m : Int)] w fun e w' => e = .returned (.int .i64 l) ∧ w' = w)) (hs : IntKind.i64.wrap (l + (k : Int)) = t) (ht : t ≤ 64) (hk : k ≤ 64) (hw : IntKind.u64.wrap ((m : Int) * 2 ^ k) = M) (hM : (M == 0) = false) (hM2 : ¬ M = 0) (w : World) :
    Calls Try.prog 25 #[fm, .int .u64 x, .int .i64 64, .bool false] w fun e w' => e = .returned (.tuple #[.int .i64 0, .int .i64 601]) ∧ Later w w' := by
  go_enter Try.func25, Try.ntmps25
  go_wp2_with fail
  refine (ha.out _).mono ?_
  rintro e w' ⟨rfl, bs26, n26, rfl⟩
  go_wp2_with fail
  refine wp_region_quiet_far (by kernel_rfl) (by kernel_rfl) ?_
  repeat (quiet_step (first | (go_at_call 37; exact Calls.far_of_same (hl.out _))))
  refine wpQuiet_nil ?_
  rintro _ ⟨⟨bq7, nq7⟩, rfl⟩
  go_wp2
  go_ret2
  exact ⟨rfl, (by repeat (first | exact Later.refl _ | refine Later.alloc ?_ | refine Later.far ?_ | refine Later.drewN ?_ | refine Later.drew ?_))⟩
set_option maxRecDepth 100000 in
set_option maxHeartbeats 4000000 in
theorem trunc_dn_32sp_in (x l t : Int) (m k : Nat) (M : Int) (p nb A c : Int) (ha : Hid (∀ w : World, Calls Try.prog 36 #[fm, .int .u64 x] w fun e w' => e = .returned (fv false false false m p) ∧ Later w w')) (hp : ¬ 0 ≤ p) (hnb : IntKind.i64.wrap (-p) = nb) (hd : Hid (∀ w : World, Calls Try.prog 38 #[.int .u64 0, .int .u64 (m : Int), .int .i64 nb] w fun e w' => e = .returned (.tuple #[.int .u64 A, .int .u64 M, .int .i64 c]) ∧ Later w w')) (hM : M ≤ 2147483647) (o1 : Int) (ho1 : IntKind.i64.wrap M = o1) (o3 : Int) (hlow : Hid (∀ w : World, Calls Try.prog 24 #[.int .i64 o1] w fun e w' => e = .returned (.int .i64 o3) ∧ w' = w)) (w : World) :
    Calls Try.prog 25 #[fm, .int .u64 x, .int .i64 32, .bool true] w fun e w' => e = .returned (.tuple #[.int .i64 o3, .int .i64 0]) ∧ Later w w' := by
  go_enter Try.func25, Try.ntmps25
  go_wp2_with fail
  refine (ha.out _).mono ?_
  rintro e w' ⟨rfl, bs27, n27, rfl⟩
  go_wp2_with fail
  refine (hd.out _).mono ?_
  rintro e w' ⟨rfl, bs28, n28, rfl⟩
  go_wp2_with fail
  refine (hlow.out _).mono ?_
  rintro e w' ⟨rfl, rfl⟩
  go_wp2
  go_ret2
  exact ⟨rfl, (by repeat (first | exact Later.refl _ | refine Later.alloc ?_ | refine Later.far ?_ | refine Later.drewN ?_ | refine Later.drew ?_))⟩
set_option maxRecDepth 100000 in
set_option maxHeartbeats 4000000 in
theorem trunc_dn_32sp_out (x l t : Int) (m k : Nat) (M : Int) (p nb A c : Int) (ha : Hid (∀ w : World, Calls Try.prog 36 #[fm, .int .u64 x] w fun e w' => e = .returned (fv false false false m p) ∧ Later w w')) (hp : ¬ 0 ≤ p) (hnb : IntKind.i64.wrap (-p) = nb) (hd : Hid (∀ w : World, Calls Try.prog 38 #[.int .u64 0, .int .u64 (m : Int), .int .i64 nb] w fun e w' => e = .returned (.tuple #[.int .u64 A, .int .u64 M, .int .i64 c]) ∧ Later w w')) (hM : ¬ M ≤ 2147483647) (w : World) :
    Calls Try.prog 25 #[fm, .int .u64 x, .int .i64 32, .bool true] w fun e w' => e = .returned (.tuple #[.int .i64 0, .int .i64 601]) ∧ Later w w' := by
  go_enter Try.func25, Try.ntmps25
  go_wp2_with fail
  refine (ha.out _).mono ?_
  rintro e w' ⟨rfl, bs30, n30, rfl⟩
  go_wp2_with fail
  refine (hd.out _).mono ?_
  rintro e w' ⟨rfl, bs31, n31, rfl⟩
  go_wp2
  go_ret2
  exact ⟨rfl, (by repeat (first | exact Later.refl _ | refine Later.alloc ?_ | refine Later.far ?_ | refine Later.drewN ?_ | refine Later.drew ?_))⟩
set_option maxRecDepth 100000 in
set_option maxHeartbeats 4000000 in
theorem trunc_dn_32sn_in (x l t : Int) (m k : Nat) (M : Int) (p nb A c : Int) (ha : Hid (∀ w : World, Calls Try.prog 36 #[fm, .int .u64 x] w fun e w' => e = .returned (fv true false false m p) ∧ Later w w')) (hp : ¬ 0 ≤ p) (hnb : IntKind.i64.wrap (-p) = nb) (hd : Hid (∀ w : World, Calls Try.prog 38 #[.int .u64 0, .int .u64 (m : Int), .int .i64 nb] w fun e w' => e = .returned (.tuple #[.int .u64 A, .int .u64 M, .int .i64 c]) ∧ Later w w')) (hM : M ≤ 2147483648) (o1 : Int) (ho1 : IntKind.i64.wrap M = o1) (o2 : Int) (ho2 : IntKind.i64.wrap (-o1) = o2) (o3 : Int) (hlow : Hid (∀ w : World, Calls Try.prog 24 #[.int .i64 o2] w fun e w' => e = .returned (.int .i64 o3) ∧ w' = w)) (w : World) :
    Calls Try.prog 25 #[fm, .int .u64 x, .int .i64 32, .bool true] w fun e w' => e = .returned (.tuple #[.int .i64 o3, .int .i64 0]) ∧ Later w w' := by
  go_enter Try.func25, Try.ntmps25
  go_wp2_with fail
  refine (ha.out _).mono ?_
  rintro e w' ⟨rfl, bs32, n32, rfl⟩
  go_wp2_with fail
  refine (hd.out _).mono ?_
  rintro e w' ⟨rfl, bs33, n33, rfl⟩
  go_wp2_with fail
  refine (hlow.out _).mono ?_
  rintro e w' ⟨rfl, rfl⟩
  go_wp2
  go_ret2
  exact ⟨rfl, (by repeat (first | exact Later.refl _ | refine Later.alloc ?_ | refine Later.far ?_ | refine Later.drewN ?_ | refine Later.drew ?_))⟩
set_option maxRecDepth 100000 in
set_option maxHeartbeats 4000000 in
theorem trunc_dn_32sn_out (x l t : Int) (m k : Nat) (M : Int) (p nb A c : Int) (ha : Hid (∀ w : World, Calls Try.prog 36 #[fm, .int .u64 x] w fun e w' => e = .returned (fv true false false m p) ∧ Later w w')) (hp : ¬ 0 ≤ p) (hnb : IntKind.i64.wrap (-p) = nb) (hd : Hid (∀ w : World, Calls Try.prog 38 #[.int .u64 0, .int .u64 (m : Int), .int .i64 nb] w fun e w' => e = .returned (.tuple #[.int .u64 A, .int .u64 M, .int .i64 c]) ∧ Later w w')) (hM : ¬ M ≤ 2147483648) (w : World) :
    Calls Try.prog 25 #[fm, .int .u64 x, .int .i64 32, .bool true] w fun e w' => e = .returned (.tuple #[.int .i64 0, .int .i64 601]) ∧ Later w w' := by
  go_enter Try.func25, Try.ntmps25
  go_wp2_with fail
  refine (ha.out _).mono ?_
  rintro e w' ⟨rfl, bs35, n35, rfl⟩
  go_wp2_with fail
  refine (hd.out _).mono ?_
  rintro e w' ⟨rfl, bs36, n36, rfl⟩
  go_wp2
  go_ret2
  exact ⟨rfl, (by repeat (first | exact Later.refl _ | refine Later.alloc ?_ | refine Later.far ?_ | refine Later.drewN ?_ | refine Later.drew ?_))⟩
set_option maxRecDepth 100000 in
set_option maxHeartbeats 4000000 in
theorem trunc_dn_32up_in (x l t : Int) (m k : Nat) (M : Int) (p nb A c : Int) (ha : Hid (∀ w : World, Calls Try.prog 36 #[fm, .int .u64 x] w fun e w' => e = .returned (fv false false false m p) ∧ Later w w')) (hp : ¬ 0 ≤ p) (hnb : IntKind.i64.wrap (-p) = nb) (hd : Hid (∀ w : World, Calls Try.prog 38 #[.int .u64 0, .int .u64 (m : Int), .int .i64 nb] w fun e w' => e = .returned (.tuple #[.int .u64 A, .int .u64 M, .int .i64 c]) ∧ Later w w')) (hM : M ≤ 4294967295) (o1 : Int) (ho1 : IntKind.i64.wrap M = o1) (o3 : Int) (hlow : Hid (∀ w : World, Calls Try.prog 24 #[.int .i64 o1] w fun e w' => e = .returned (.int .i64 o3) ∧ w' = w)) (w : World) :
    Calls Try.prog 25 #[fm, .int .u64 x, .int .i64 32, .bool false] w fun e w' => e = .returned (.tuple #[.int .i64 o3, .int .i64 0]) ∧ Later w w' := by
  go_enter Try.func25, Try.ntmps25
  go_wp2_with fail
  refine (ha.out _).mono ?_
  rintro e w' ⟨rfl, bs37, n37, rfl⟩
  go_wp2_with fail
  refine (hd.out _).mono ?_
  rintro e w' ⟨rfl, bs38, n38, rfl⟩
  go_wp2_with fail
  refine (hlow.out _).mono ?_
  rintro e w' ⟨rfl, rfl⟩
  go_wp2
  go_ret2
  exact ⟨rfl, (by repeat (first | exact Later.refl _ | refine Later.alloc ?_ | refine Later.far ?_ | refine Later.drewN ?_ | refine Later.drew ?_))⟩
set_option maxRecDepth 100000 in
set_option maxHeartbeats 4000000 in
theorem trunc_dn_32up_out (x l t : Int) (m k : Nat) (M : Int) (p nb A c : Int) (ha : Hid (∀ w : World, Calls Try.prog 36 #[fm, .int .u64 x] w fun e w' => e = .returned (fv false false false m p) ∧ Later w w')) (hp : ¬ 0 ≤ p) (hnb : IntKind.i64.wrap (-p) = nb) (hd : Hid (∀ w : World, Calls Try.prog 38 #[.int .u64 0, .int .u64 (m : Int), .int .i64 nb] w fun e w' => e = .returned (.tuple #[.int .u64 A, .int .u64 M, .int .i64 c]) ∧ Later w w')) (hM : ¬ M ≤ 4294967295) (w : World) :
    Calls Try.prog 25 #[fm, .int .u64 x, .int .i64 32, .bool false] w fun e w' => e = .returned (.tuple #[.int .i64 0, .int .i64 601]) ∧ Later w w' := by
  go_enter Try.func25, Try.ntmps25
  go_wp2_with fail
  refine (ha.out _).mono ?_
  rintro e w' ⟨rfl, bs40, n40, rfl⟩
  go_wp2_with fail
  refine (hd.out _).mono ?_
  rintro e w' ⟨rfl, bs41, n41, rfl⟩
  go_wp2
  go_ret2
  exact ⟨rfl, (by repeat (first | exact Later.refl _ | refine Later.alloc ?_ | refine Later.far ?_ | refine Later.drewN ?_ | refine Later.drew ?_))⟩
set_option maxRecDepth 100000 in
set_option maxHeartbeats 4000000 in
theorem trunc_dn_32un_in (x l t : Int) (m k : Nat) (p nb A c : Int) (ha : Hid (∀ w : World, Calls Try.prog 36 #[fm, .int .u64 x] w fun e w' => e = .returned (fv true false false m p) ∧ Later w w')) (hp : ¬ 0 ≤ p) (hnb : IntKind.i64.wrap (-p) = nb) (hd : Hid (∀ w : World, Calls Try.prog 38 #[.int .u64 0, .int .u64 (m : Int), .int .i64 nb] w fun e w' => e = .returned (.tuple #[.int .u64 A, .int .u64 0, .int .i64 c]) ∧ Later w w')) (hlow : Hid (∀ w : World, Calls Try.prog 24 #[.int .i64 0] w fun e w' => e = .returned (.int .i64 0) ∧ w' = w)) (w : World) :
    Calls Try.prog 25 #[fm, .int .u64 x, .int .i64 32, .bool false] w fun e w' => e = .returned (.tuple #[.int .i64 0, .int .i64 0]) ∧ Later w w' := by
  go_enter Try.func25, Try.ntmps25
  go_wp2_with fail
  refine (ha.out _).mono ?_
  rintro e w' ⟨rfl, bs42, n42, rfl⟩
  go_wp2_with fail
  refine (hd.out _).mono ?_
  rintro e w' ⟨rfl, bs43, n43, rfl⟩
  go_wp2_with fail
  refine (hlow.out _).mono ?_
  rintro e w' ⟨rfl, rfl⟩
  go_wp2
  go_ret2
  exact ⟨rfl, (by repeat (first | exact Later.refl _ | refine Later.alloc ?_ | refine Later.far ?_ | refine Later.drewN ?_ | refine Later.drew ?_))⟩
set_option maxRecDepth 100000 in
set_option maxHeartbeats 4000000 in
theorem trunc_dn_32un_out (x l t : Int) (m k : Nat) (M : Int) (p nb A c : Int) (ha : Hid (∀ w : World, Calls Try.prog 36 #[fm, .int .u64 x] w fun e w' => e = .returned (fv true false false m p) ∧ Later w w')) (hp : ¬ 0 ≤ p) (hnb : IntKind.i64.wrap (-p) = nb) (hd : Hid (∀ w : World, Calls Try.prog 38 #[.int .u64 0, .int .u64 (m : Int), .int .i64 nb] w fun e w' => e = .returned (.tuple #[.int .u64 A, .int .u64 M, .int .i64 c]) ∧ Later w w')) (hM : (M == 0) = false) (hM2 : ¬ M = 0) (w : World) :
    Calls Try.prog 25 #[fm, .int .u64 x, .int .i64 32, .bool false] w fun e w' => e = .returned (.tuple #[.int .i64 0, .int .i64 601]) ∧ Later w w' := by
  go_enter Try.func25, Try.ntmps25
  go_wp2_with fail
  refine (ha.out _).mono ?_
  rintro e w' ⟨rfl, bs45, n45, rfl⟩
  go_wp2_with fail
  refine (hd.out _).mono ?_
  rintro e w' ⟨rfl, bs46, n46, rfl⟩
  go_wp2
  go_ret2
  exact ⟨rfl, (by repeat (first | exact Later.refl _ | refine Later.alloc ?_ | refine Later.far ?_ | refine Later.drewN ?_ | refine Later.drew ?_))⟩
set_option maxRecDepth 100000 in
set_option maxHeartbeats 4000000 in
theorem trunc_dn_64sp_in (x l t : Int) (m k : Nat) (M : Int) (p nb A c : Int) (ha : Hid (∀ w : World, Calls Try.prog 36 #[fm, .int .u64 x] w fun e w' => e = .returned (fv false false false m p) ∧ Later w w')) (hp : ¬ 0 ≤ p) (hnb : IntKind.i64.wrap (-p) = nb) (hd : Hid (∀ w : World, Calls Try.prog 38 #[.int .u64 0, .int .u64 (m : Int), .int .i64 nb] w fun e w' => e = .returned (.tuple #[.int .u64 A, .int .u64 M, .int .i64 c]) ∧ Later w w')) (hM : M ≤ 9223372036854775807) (o1 : Int) (ho1 : IntKind.i64.wrap M = o1) (w : World) :
    Calls Try.prog 25 #[fm, .int .u64 x, .int .i64 64, .bool true] w fun e w' => e = .returned (.tuple #[.int .i64 o1, .int .i64 0]) ∧ Later w w' := by
  go_enter Try.func25, Try.ntmps25
  go_wp2_with fail
  refine (ha.out _).mono ?_
  rintro e w' ⟨rfl, bs47, n47, rfl⟩
  go_wp2_with fail
  refine (hd.out _).mono ?_
  rintro e w' ⟨rfl, bs48, n48, rfl⟩
  go_wp2
  go_ret2
  exact ⟨rfl, (by repeat (first | exact Later.refl _ | refine Later.alloc ?_ | refine Later.far ?_ | refine Later.drewN ?_ | refine Later.drew ?_))⟩
set_option maxRecDepth 100000 in
set_option maxHeartbeats 4000000 in
theorem trunc_dn_64sp_out (x l t : Int) (m k : Nat) (M : Int) (p nb A c : Int) (ha : Hid (∀ w : World, Calls Try.prog 36 #[fm, .int .u64 x] w fun e w' => e = .returned (fv false false false m p) ∧ Later w w')) (hp : ¬ 0 ≤ p) (hnb : IntKind.i64.wrap (-p) = nb) (hd : Hid (∀ w : World, Calls Try.prog 38 #[.int .u64 0, .int .u64 (m : Int), .int .i64 nb] w fun e w' => e = .returned (.tuple #[.int .u64 A, .int .u64 M, .int .i64 c]) ∧ Later w w')) (hM : ¬ M ≤ 9223372036854775807) (w : World) :
    Calls Try.prog 25 #[fm, .int .u64 x, .int .i64 64, .bool true] w fun e w' => e = .returned (.tuple #[.int .i64 0, .int .i64 601]) ∧ Later w w' := by
  go_enter Try.func25, Try.ntmps25
  go_wp2_with fail
  refine (ha.out _).mono ?_
  rintro e w' ⟨rfl, bs49, n49, rfl⟩
  go_wp2_with fail
  refine (hd.out _).mono ?_
  rintro e w' ⟨rfl, bs50, n50, rfl⟩
  go_wp2
  go_ret2
  exact ⟨rfl, (by repeat (first | exact Later.refl _ | refine Later.alloc ?_ | refine Later.far ?_ | refine Later.drewN ?_ | refine Later.drew ?_))⟩
set_option maxRecDepth 100000 in
set_option maxHeartbeats 4000000 in
theorem trunc_dn_64sn_in (x l t : Int) (m k : Nat) (M : Int) (p nb A c : Int) (ha : Hid (∀ w : World, Calls Try.prog 36 #[fm, .int .u64 x] w fun e w' => e = .returned (fv true false false m p) ∧ Later w w')) (hp : ¬ 0 ≤ p) (hnb : IntKind.i64.wrap (-p) = nb) (hd : Hid (∀ w : World, Calls Try.prog 38 #[.int .u64 0, .int .u64 (m : Int), .int .i64 nb] w fun e w' => e = .returned (.tuple #[.int .u64 A, .int .u64 M, .int .i64 c]) ∧ Later w w')) (hM : M ≤ 9223372036854775808) (o1 : Int) (ho1 : IntKind.i64.wrap M = o1) (o2 : Int) (ho2 : IntKind.i64.wrap (-o1) = o2) (w : World) :
    Calls Try.prog 25 #[fm, .int .u64 x, .int .i64 64, .bool true] w fun e w' => e = .returned (.tuple #[.int .i64 o2, .int .i64 0]) ∧ Later w w' := by
  go_enter Try.func25, Try.ntmps25
  go_wp2_with fail
  refine (ha.out _).mono ?_
  rintro e w' ⟨rfl, bs51, n51, rfl⟩
  go_wp2_with fail
  refine (hd.out _).mono ?_
  rintro e w' ⟨rfl, bs52, n52, rfl⟩
  go_wp2
  go_ret2
  exact ⟨rfl, (by repeat (first | exact Later.refl _ | refine Later.alloc ?_ | refine Later.far ?_ | refine Later.drewN ?_ | refine Later.drew ?_))⟩
set_option maxRecDepth 100000 in
set_option maxHeartbeats 4000000 in
theorem trunc_dn_64sn_out (x l t : Int) (m k : Nat) (M : Int) (p nb A c : Int) (ha : Hid (∀ w : World, Calls Try.prog 36 #[fm, .int .u64 x] w fun e w' => e = .returned (fv true false false m p) ∧ Later w w')) (hp : ¬ 0 ≤ p) (hnb : IntKind.i64.wrap (-p) = nb) (hd : Hid (∀ w : World, Calls Try.prog 38 #[.int .u64 0, .int .u64 (m : Int), .int .i64 nb] w fun e w' => e = .returned (.tuple #[.int .u64 A, .int .u64 M, .int .i64 c]) ∧ Later w w')) (hM : ¬ M ≤ 9223372036854775808) (w : World) :
    Calls Try.prog 25 #[fm, .int .u64 x, .int .i64 64, .bool true] w fun e w' => e = .returned (.tuple #[.int .i64 0, .int .i64 601]) ∧ Later w w' := by
  go_enter Try.func25, Try.ntmps25
  go_wp2_with fail
  refine (ha.out _).mono ?_
  rintro e w' ⟨rfl, bs53, n53, rfl⟩
  go_wp2_with fail
  refine (hd.out _).mono ?_
  rintro e w' ⟨rfl, bs54, n54, rfl⟩
  go_wp2
  go_ret2
  exact ⟨rfl, (by repeat (first | exact Later.refl _ | refine Later.alloc ?_ | refine Later.far ?_ | refine Later.drewN ?_ | refine Later.drew ?_))⟩
set_option maxRecDepth 100000 in
set_option maxHeartbeats 4000000 in
theorem trunc_dn_64up_in (x l t : Int) (m k : Nat) (M : Int) (p nb A c : Int) (ha : Hid (∀ w : World, Calls Try.prog 36 #[fm, .int .u64 x] w fun e w' => e = .returned (fv false false false m p) ∧ Later w w')) (hp : ¬ 0 ≤ p) (hnb : IntKind.i64.wrap (-p) = nb) (hd : Hid (∀ w : World, Calls Try.prog 38 #[.int .u64 0, .int .u64 (m : Int), .int .i64 nb] w fun e w' => e = .returned (.tuple #[.int .u64 A, .int .u64 M, .int .i64 c]) ∧ Later w w')) (o1 : Int) (ho1 : IntKind.i64.wrap M = o1) (w : World) :
    Calls Try.prog 25 #[fm, .int .u64 x, .int .i64 64, .bool false] w fun e w' => e = .returned (.tuple #[.int .i64 o1, .int .i64 0]) ∧ Later w w' := by
  go_enter Try.func25, Try.ntmps25
  go_wp2_with fail
  refine (ha.out _).mono ?_
  rintro e w' ⟨rfl, bs55, n55, rfl⟩
  go_wp2_with fail
  refine (hd.out _).mono ?_
  rintro e w' ⟨rfl, bs56, n56, rfl⟩
  go_wp2
  go_ret2
  exact ⟨rfl, (by repeat (first | exact Later.refl _ | refine Later.alloc ?_ | refine Later.far ?_ | refine Later.drewN ?_ | refine Later.drew ?_))⟩
set_option maxRecDepth 100000 in
set_option maxHeartbeats 4000000 in
theorem trunc_dn_64un_in (x l t : Int) (m k : Nat) (p nb A c : Int) (ha : Hid (∀ w : World, Calls Try.prog 36 #[fm, .int .u64 x] w fun e w' => e = .returned (fv true false false m p) ∧ Later w w')) (hp : ¬ 0 ≤ p) (hnb : IntKind.i64.wrap (-p) = nb) (hd : Hid (∀ w : World, Calls Try.prog 38 #[.int .u64 0, .int .u64 (m : Int), .int .i64 nb] w fun e w' => e = .returned (.tuple #[.int .u64 A, .int .u64 0, .int .i64 c]) ∧ Later w w')) (w : World) :
    Calls Try.prog 25 #[fm, .int .u64 x, .int .i64 64, .bool false] w fun e w' => e = .returned (.tuple #[.int .i64 0, .int .i64 0]) ∧ Later w w' := by
  go_enter Try.func25, Try.ntmps25
  go_wp2_with fail
  refine (ha.out _).mono ?_
  rintro e w' ⟨rfl, bs57, n57, rfl⟩
  go_wp2_with fail
  refine (hd.out _).mono ?_
  rintro e w' ⟨rfl, bs58, n58, rfl⟩
  go_wp2
  go_ret2
  exact ⟨rfl, (by repeat (first | exact Later.refl _ | refine Later.alloc ?_ | refine Later.far ?_ | refine Later.drewN ?_ | refine Later.drew ?_))⟩
set_option maxRecDepth 100000 in
set_option maxHeartbeats 4000000 in
theorem trunc_dn_64un_out (x l t : Int) (m k : Nat) (M : Int) (p nb A c : Int) (ha : Hid (∀ w : World, Calls Try.prog 36 #[fm, .int .u64 x] w fun e w' => e = .returned (fv true false false m p) ∧ Later w w')) (hp : ¬ 0 ≤ p) (hnb : IntKind.i64.wrap (-p) = nb) (hd : Hid (∀ w : World, Calls Try.prog 38 #[.int .u64 0, .int .u64 (m : Int), .int .i64 nb] w fun e w' => e = .returned (.tuple #[.int .u64 A, .int .u64 M, .int .i64 c]) ∧ Later w w')) (hM : (M == 0) = false) (hM2 : ¬ M = 0) (w : World) :
    Calls Try.prog 25 #[fm, .int .u64 x, .int .i64 64, .bool false] w fun e w' => e = .returned (.tuple #[.int .i64 0, .int .i64 601]) ∧ Later w w' := by
  go_enter Try.func25, Try.ntmps25
  go_wp2_with fail
  refine (ha.out _).mono ?_
  rintro e w' ⟨rfl, bs59, n59, rfl⟩
  go_wp2_with fail
  refine (hd.out _).mono ?_
  rintro e w' ⟨rfl, bs60, n60, rfl⟩
  go_wp2
  go_ret2
  exact ⟨rfl, (by repeat (first | exact Later.refl _ | refine Later.alloc ?_ | refine Later.far ?_ | refine Later.drewN ?_ | refine Later.drew ?_))⟩
end Go.Proofs.Ytibfjlibkaejnaa.S
