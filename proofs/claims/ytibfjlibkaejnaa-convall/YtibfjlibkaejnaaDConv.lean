/- Contracts of the document's floats (pelorusref4), over this seat's translation: whole numbers made floats, floats cut to whole numbers. -/
import Derived.Test.YtibfjlibkaejnaaDApart2
import Derived.Test.YtibfjlibkaejnaaDRound2
import Derived.Test.YtibfjlibkaejnaaFFar2
import Derived.Test.YtibfjlibkaejnaaFFar3
import Derived.Test.YtibfjlibkaejnaaCCut
import Derived.WalkLawsBesides
import Derived.RegionCalls
import Derived.Deep.RegionWith
namespace Go.Proofs.Ytibfjlibkaejnaa.D
open Go.RowKit
open Go.FM (W64 two bl lost isN qn sw otherW fromW truncI tcut tval fits bitsI ofI)
set_option linter.unusedVariables false

theorem two_one (m : Nat) : two 0 m = m := by unfold two; rw [Nat.zero_mul, Nat.zero_add]
theorem round_one (neg : Bool) (m : Nat) (x : Int) (hm : m < W64) (he : -10000 ≤ x) (he1 : x ≤ 10000) (w : World) :
    Calls Try.prog 39 #[fm, .bool neg, .int .u64 0, .int .u64 (m : Nat), .int .i64 x] w fun e w' => e = .returned (.int .u64 (ff.nearest neg m x : Nat)) ∧ Later w w' := by
  have := round_any neg 0 m x (by decide) hm he he1 w
  rw [two_one] at this
  exact this
set_option maxRecDepth 100000 in
set_option maxHeartbeats 4000000 in
theorem from_neg (x : Int) (m : Nat) (z : Nat) (v : Int) (h : x < 0) (nx : Int) (h0 : IntKind.i64.wrap (-x) = nx) (h1 : IntKind.u64.wrap nx = (m : Int)) (hv : IntKind.i64.wrap (z : Int) = v) (hr : Hid (∀ w : World, Calls Try.prog 39 #[fm, .bool true, .int .u64 0, .int .u64 (m : Nat), .int .i64 0] w fun e w' => e = .returned (.int .u64 (z : Nat)) ∧ Later w w')) (w : World) :
    Calls Try.prog 29 #[fm, .int .i64 x, .bool true] w fun e w' => e = .returned (.int .i64 v) ∧ Later w w' := by
  go_enter Try.func29, Try.ntmps29
  go_wp2_with fail
  refine (hr.out _).mono ?_
  rintro e w' ⟨rfl, bs61, n61, rfl⟩
  go_wp2
  go_ret
  exact ⟨rfl, (by repeat (first | exact Later.refl _ | refine Later.alloc ?_ | refine Later.far ?_ | refine Later.drewN ?_ | refine Later.drew ?_))⟩
set_option maxRecDepth 100000 in
set_option maxHeartbeats 4000000 in
theorem from_pos (x : Int) (sgd : Bool) (m : Nat) (z : Nat) (v : Int) (h : sgd = false ∨ ¬ x < 0) (h1 : IntKind.u64.wrap x = (m : Int)) (hv : IntKind.i64.wrap (z : Int) = v) (hr : Hid (∀ w : World, Calls Try.prog 39 #[fm, .bool false, .int .u64 0, .int .u64 (m : Nat), .int .i64 0] w fun e w' => e = .returned (.int .u64 (z : Nat)) ∧ Later w w')) (w : World) :
    Calls Try.prog 29 #[fm, .int .i64 x, .bool sgd] w fun e w' => e = .returned (.int .i64 v) ∧ Later w w' := by
  rcases h with rfl | h
  · go_enter Try.func29, Try.ntmps29
    go_wp2_with fail
    refine (hr.out _).mono ?_
    rintro e w' ⟨rfl, bs62, n62, rfl⟩
    go_wp2
    go_ret
    exact ⟨rfl, (by repeat (first | exact Later.refl _ | refine Later.alloc ?_ | refine Later.far ?_ | refine Later.drewN ?_ | refine Later.drew ?_))⟩
  · cases sgd
    all_goals
      go_enter Try.func29, Try.ntmps29
      go_wp2_with fail
      refine (hr.out _).mono ?_
      rintro e w' ⟨rfl, bs62, n62, rfl⟩
      go_wp2
      go_ret
      exact ⟨rfl, (by repeat (first | exact Later.refl _ | refine Later.alloc ?_ | refine Later.far ?_ | refine Later.drewN ?_ | refine Later.drew ?_))⟩
theorem keep_word (v : Int) : IntKind.i64.wrap ((fromW ff v : Nat) : Int) = (sw (fromW ff v)) := by
  rfl
/-- a whole number with its sign -/
theorem from_s (x : Int) (h1 : -9223372036854775808 ≤ x) (h2 : x ≤ 9223372036854775807) (w : World) :
    Calls Try.prog 29 #[fm, .int .i64 x, .bool true] w fun e w' => e = .returned (.int .i64 (sw (fromW ff x))) ∧ Later w w' := by
  by_cases h : x < 0
  · have e : fromW ff x = ff.nearest true x.natAbs 0 := by unfold FM.fromW; rw [decide_eq_true h]
    refine from_neg x x.natAbs _ _ h _ rfl ?_ (keep_word x) ?_ w
    · rw [IntKind.wrap_i64, IntKind.wrap_u64]; omega
    · intro w; rw [e]; exact round_one true x.natAbs 0 (by simp only [W64]; omega) (by decide) (by decide) w
  · have e : fromW ff x = ff.nearest false x.natAbs 0 := by unfold FM.fromW; rw [decide_eq_false h]
    refine from_pos x true x.natAbs _ _ (Or.inr h) ?_ (keep_word x) ?_ w
    · rw [IntKind.wrap_u64]; omega
    · intro w; rw [e]; exact round_one false x.natAbs 0 (by simp only [W64]; omega) (by decide) (by decide) w
/-- a whole number without sign -/
theorem from_u (x : Int) (n : Nat) (h : x % 18446744073709551616 = (n : Int)) (w : World) :
    Calls Try.prog 29 #[fm, .int .i64 x, .bool false] w fun e w' => e = .returned (.int .i64 (sw (fromW ff (n : Int)))) ∧ Later w w' := by
  have e : fromW ff (n : Int) = ff.nearest false n 0 := by unfold FM.fromW; rw [decide_eq_false (by omega)]; rfl
  refine from_pos x false n _ _ (Or.inl rfl) (by rw [IntKind.wrap_u64]; exact h) (keep_word n) ?_ w
  intro w; rw [e]; exact round_one false n 0 (by simp only [W64]; omega) (by decide) (by decide) w
set_option maxRecDepth 100000 in
set_option maxHeartbeats 4000000 in
theorem trunc_nan0 (x wd m E : Int) (sgd s i : Bool) (ha : Hid (∀ w : World, Calls Try.prog 36 #[fm, .int .u64 x] w fun e w' => e = .returned (fv s i true m E) ∧ Later w w')) (w : World) :
    Calls Try.prog 25 #[fm, .int .u64 x, .int .i64 wd, .bool sgd] w fun e w' => e = .returned (.tuple #[.int .i64 0, .int .i64 600]) ∧ Later w w' := by
  go_enter Try.func25, Try.ntmps25
  go_wp2_with fail
  refine (ha.out _).mono ?_
  rintro e w' ⟨rfl, bs63, n63, rfl⟩
  go_wp2
  go_ret2
  exact ⟨rfl, (by repeat (first | exact Later.refl _ | refine Later.alloc ?_ | refine Later.far ?_ | refine Later.drewN ?_ | refine Later.drew ?_))⟩
set_option maxRecDepth 100000 in
set_option maxHeartbeats 4000000 in
theorem trunc_inf0 (x wd m E : Int) (sgd s : Bool) (ha : Hid (∀ w : World, Calls Try.prog 36 #[fm, .int .u64 x] w fun e w' => e = .returned (fv s true false m E) ∧ Later w w')) (w : World) :
    Calls Try.prog 25 #[fm, .int .u64 x, .int .i64 wd, .bool sgd] w fun e w' => e = .returned (.tuple #[.int .i64 0, .int .i64 601]) ∧ Later w w' := by
  go_enter Try.func25, Try.ntmps25
  go_wp2_with fail
  refine (ha.out _).mono ?_
  rintro e w' ⟨rfl, bs64, n64, rfl⟩
  go_wp2
  go_ret2
  exact ⟨rfl, (by repeat (first | exact Later.refl _ | refine Later.alloc ?_ | refine Later.far ?_ | refine Later.drewN ?_ | refine Later.drew ?_))⟩
set_option maxRecDepth 100000 in
set_option maxHeartbeats 4000000 in
theorem trunc_far (x wd l : Int) (m k : Nat) (sgd s : Bool) (ha : Hid (∀ w : World, Calls Try.prog 36 #[fm, .int .u64 x] w fun e w' => e = .returned (fv s false false m (k : Int)) ∧ Later w w')) (hl : Hid (∀ w : World, Calls Try.prog 37 #[.int .u64 (m : Int)] w fun e w' => e = .returned (.int .i64 l) ∧ w' = w)) (t : Int) (hs : IntKind.i64.wrap (l + (k : Int)) = t) (ht : ¬ t ≤ 64) (w : World) :
    Calls Try.prog 25 #[fm, .int .u64 x, .int .i64 wd, .bool sgd] w fun e w' => e = .returned (.tuple #[.int .i64 0, .int .i64 601]) ∧ Later w w' := by
  go_enter Try.func25, Try.ntmps25
  go_wp2_with fail
  refine (ha.out _).mono ?_
  rintro e w' ⟨rfl, bs65, n65, rfl⟩
  go_wp2_with fail
  refine wp_region_quiet_far (by kernel_rfl) (by kernel_rfl) ?_
  repeat (quiet_step (first | (go_at_call 37; exact Calls.far_of_same (hl.out _))))
  refine wpQuiet_nil ?_
  rintro _ ⟨⟨bq66, nq66⟩, rfl⟩
  go_wp2
  go_ret2
  exact ⟨rfl, (by repeat (first | exact Later.refl _ | refine Later.alloc ?_ | refine Later.far ?_ | refine Later.drewN ?_ | refine Later.drew ?_))⟩
set_option maxRecDepth 100000 in
set_option maxHeartbeats 4000000 in
theorem trunc_up_32sp_in (x l t : Int) (m k : Nat) (M : Int) (ha : Hid (∀ w : World, Calls Try.prog 36 #[fm, .int .u64 x] w fun e w' => e = .returned (fv false false false m (k : Int)) ∧ Later w w')) (hl : Hid (∀ w : World, Calls Try.prog 37 #[.int .u64 (m : Int)] w fun e w' => e = .returned (.int .i64 l) ∧ w' = w)) (hs : IntKind.i64.wrap (l + (k : Int)) = t) (ht : t ≤ 64) (hk : k ≤ 64) (hw : IntKind.u64.wrap ((m : Int) * 2 ^ k) = M) (hM : M ≤ 2147483647) (o1 : Int) (ho1 : IntKind.i64.wrap M = o1) (o3 : Int) (hlow : Hid (∀ w : World, Calls Try.prog 24 #[.int .i64 o1] w fun e w' => e = .returned (.int .i64 o3) ∧ w' = w)) (w : World) :
    Calls Try.prog 25 #[fm, .int .u64 x, .int .i64 32, .bool true] w fun e w' => e = .returned (.tuple #[.int .i64 o3, .int .i64 0]) ∧ Later w w' := by
  go_enter Try.func25, Try.ntmps25
  go_wp2_with fail
  refine (ha.out _).mono ?_
  rintro e w' ⟨rfl, bs68, n68, rfl⟩
  go_wp2_with fail
  refine wp_region_quiet_far (by kernel_rfl) (by kernel_rfl) ?_
  repeat (quiet_step (first | (go_at_call 37; exact Calls.far_of_same (hl.out _))))
  refine wpQuiet_nil ?_
  rintro _ ⟨⟨bq67, nq67⟩, rfl⟩
  go_wp2_with fail
  refine (hlow.out _).mono ?_
  rintro e w' ⟨rfl, rfl⟩
  go_wp2
  go_ret2
  exact ⟨rfl, (by repeat (first | exact Later.refl _ | refine Later.alloc ?_ | refine Later.far ?_ | refine Later.drewN ?_ | refine Later.drew ?_))⟩
set_option maxRecDepth 100000 in
set_option maxHeartbeats 4000000 in
theorem trunc_up_32sp_out (x l t : Int) (m k : Nat) (M : Int) (ha : Hid (∀ w : World, Calls Try.prog 36 #[fm, .int .u64 x] w fun e w' => e = .returned (fv false false false m (k : Int)) ∧ Later w w')) (hl : Hid (∀ w : World, Calls Try.prog 37 #[.int .u64 (m : Int)] w fun e w' => e = .returned (.int .i64 l) ∧ w' = w)) (hs : IntKind.i64.wrap (l + (k : Int)) = t) (ht : t ≤ 64) (hk : k ≤ 64) (hw : IntKind.u64.wrap ((m : Int) * 2 ^ k) = M) (hM : ¬ M ≤ 2147483647) (w : World) :
    Calls Try.prog 25 #[fm, .int .u64 x, .int .i64 32, .bool true] w fun e w' => e = .returned (.tuple #[.int .i64 0, .int .i64 601]) ∧ Later w w' := by
  go_enter Try.func25, Try.ntmps25
  go_wp2_with fail
  refine (ha.out _).mono ?_
  rintro e w' ⟨rfl, bs70, n70, rfl⟩
  go_wp2_with fail
  refine wp_region_quiet_far (by kernel_rfl) (by kernel_rfl) ?_
  repeat (quiet_step (first | (go_at_call 37; exact Calls.far_of_same (hl.out _))))
  refine wpQuiet_nil ?_
  rintro _ ⟨⟨bq67, nq67⟩, rfl⟩
  go_wp2
  go_ret2
  exact ⟨rfl, (by repeat (first | exact Later.refl _ | refine Later.alloc ?_ | refine Later.far ?_ | refine Later.drewN ?_ | refine Later.drew ?_))⟩
set_option maxRecDepth 100000 in
set_option maxHeartbeats 4000000 in
theorem trunc_up_32sn_in (x l t : Int) (m k : Nat) (M : Int) (ha : Hid (∀ w : World, Calls Try.prog 36 #[fm, .int .u64 x] w fun e w' => e = .returned (fv true false false m (k : Int)) ∧ Later w w')) (hl : Hid (∀ w : World, Calls Try.prog 37 #[.int .u64 (m : Int)] w fun e w' => e = .returned (.int .i64 l) ∧ w' = w)) (hs : IntKind.i64.wrap (l + (k : Int)) = t) (ht : t ≤ 64) (hk : k ≤ 64) (hw : IntKind.u64.wrap ((m : Int) * 2 ^ k) = M) (hM : M ≤ 2147483648) (o1 : Int) (ho1 : IntKind.i64.wrap M = o1) (o2 : Int) (ho2 : IntKind.i64.wrap (-o1) = o2) (o3 : Int) (hlow : Hid (∀ w : World, Calls Try.prog 24 #[.int .i64 o2] w fun e w' => e = .returned (.int .i64 o3) ∧ w' = w)) (w : World) :
    Calls Try.prog 25 #[fm, .int .u64 x, .int .i64 32, .bool true] w fun e w' => e = .returned (.tuple #[.int .i64 o3, .int .i64 0]) ∧ Later w w' := by
  go_enter Try.func25, Try.ntmps25
  go_wp2_with fail
  refine (ha.out _).mono ?_
  rintro e w' ⟨rfl, bs71, n71, rfl⟩
  go_wp2_with fail
  refine wp_region_quiet_far (by kernel_rfl) (by kernel_rfl) ?_
  repeat (quiet_step (first | (go_at_call 37; exact Calls.far_of_same (hl.out _))))
  refine wpQuiet_nil ?_
  rintro _ ⟨⟨bq67, nq67⟩, rfl⟩
  go_wp2_with fail
  refine (hlow.out _).mono ?_
  rintro e w' ⟨rfl, rfl⟩
  go_wp2
  go_ret2
  exact ⟨rfl, (by repeat (first | exact Later.refl _ | refine Later.alloc ?_ | refine Later.far ?_ | refine Later.drewN ?_ | refine Later.drew ?_))⟩
set_option maxRecDepth 100000 in
set_option maxHeartbeats 4000000 in
theorem trunc_up_32sn_out (x l t : Int) (m k : Nat) (M : Int) (ha : Hid (∀ w : World, Calls Try.prog 36 #[fm, .int .u64 x] w fun e w' => e = .returned (fv true false false m (k : Int)) ∧ Later w w')) (hl : Hid (∀ w : World, Calls Try.prog 37 #[.int .u64 (m : Int)] w fun e w' => e = .returned (.int .i64 l) ∧ w' = w)) (hs : IntKind.i64.wrap (l + (k : Int)) = t) (ht : t ≤ 64) (hk : k ≤ 64) (hw : IntKind.u64.wrap ((m : Int) * 2 ^ k) = M) (hM : ¬ M ≤ 2147483648) (w : World) :
    Calls Try.prog 25 #[fm, .int .u64 x, .int .i64 32, .bool true] w fun e w' => e = .returned (.tuple #[.int .i64 0, .int .i64 601]) ∧ Later w w' := by
  go_enter Try.func25, Try.ntmps25
  go_wp2_with fail
  refine (ha.out _).mono ?_
  rintro e w' ⟨rfl, bs73, n73, rfl⟩
  go_wp2_with fail
  refine wp_region_quiet_far (by kernel_rfl) (by kernel_rfl) ?_
  repeat (quiet_step (first | (go_at_call 37; exact Calls.far_of_same (hl.out _))))
  refine wpQuiet_nil ?_
  rintro _ ⟨⟨bq67, nq67⟩, rfl⟩
  go_wp2
  go_ret2
  exact ⟨rfl, (by repeat (first | exact Later.refl _ | refine Later.alloc ?_ | refine Later.far ?_ | refine Later.drewN ?_ | refine Later.drew ?_))⟩
set_option maxRecDepth 100000 in
set_option maxHeartbeats 4000000 in
theorem trunc_up_32up_in (x l t : Int) (m k : Nat) (M : Int) (ha : Hid (∀ w : World, Calls Try.prog 36 #[fm, .int .u64 x] w fun e w' => e = .returned (fv false false false m (k : Int)) ∧ Later w w')) (hl : Hid (∀ w : World, Calls Try.prog 37 #[.int .u64 (m : Int)] w fun e w' => e = .returned (.int .i64 l) ∧ w' = w)) (hs : IntKind.i64.wrap (l + (k : Int)) = t) (ht : t ≤ 64) (hk : k ≤ 64) (hw : IntKind.u64.wrap ((m : Int) * 2 ^ k) = M) (hM : M ≤ 4294967295) (o1 : Int) (ho1 : IntKind.i64.wrap M = o1) (o3 : Int) (hlow : Hid (∀ w : World, Calls Try.prog 24 #[.int .i64 o1] w fun e w' => e = .returned (.int .i64 o3) ∧ w' = w)) (w : World) :
    Calls Try.prog 25 #[fm, .int .u64 x, .int .i64 32, .bool false] w fun e w' => e = .returned (.tuple #[.int .i64 o3, .int .i64 0]) ∧ Later w w' := by
  go_enter Try.func25, Try.ntmps25
  go_wp2_with fail
  refine (ha.out _).mono ?_
  rintro e w' ⟨rfl, bs74, n74, rfl⟩
  go_wp2_with fail
  refine wp_region_quiet_far (by kernel_rfl) (by kernel_rfl) ?_
  repeat (quiet_step (first | (go_at_call 37; exact Calls.far_of_same (hl.out _))))
  refine wpQuiet_nil ?_
  rintro _ ⟨⟨bq67, nq67⟩, rfl⟩
  go_wp2_with fail
  refine (hlow.out _).mono ?_
  rintro e w' ⟨rfl, rfl⟩
  go_wp2
  go_ret2
  exact ⟨rfl, (by repeat (first | exact Later.refl _ | refine Later.alloc ?_ | refine Later.far ?_ | refine Later.drewN ?_ | refine Later.drew ?_))⟩
set_option maxRecDepth 100000 in
set_option maxHeartbeats 4000000 in
theorem trunc_up_32up_out (x l t : Int) (m k : Nat) (M : Int) (ha : Hid (∀ w : World, Calls Try.prog 36 #[fm, .int .u64 x] w fun e w' => e = .returned (fv false false false m (k : Int)) ∧ Later w w')) (hl : Hid (∀ w : World, Calls Try.prog 37 #[.int .u64 (m : Int)] w fun e w' => e = .returned (.int .i64 l) ∧ w' = w)) (hs : IntKind.i64.wrap (l + (k : Int)) = t) (ht : t ≤ 64) (hk : k ≤ 64) (hw : IntKind.u64.wrap ((m : Int) * 2 ^ k) = M) (hM : ¬ M ≤ 4294967295) (w : World) :
    Calls Try.prog 25 #[fm, .int .u64 x, .int .i64 32, .bool false] w fun e w' => e = .returned (.tuple #[.int .i64 0, .int .i64 601]) ∧ Later w w' := by
  go_enter Try.func25, Try.ntmps25
  go_wp2_with fail
  refine (ha.out _).mono ?_
  rintro e w' ⟨rfl, bs76, n76, rfl⟩
  go_wp2_with fail
  refine wp_region_quiet_far (by kernel_rfl) (by kernel_rfl) ?_
  repeat (quiet_step (first | (go_at_call 37; exact Calls.far_of_same (hl.out _))))
  refine wpQuiet_nil ?_
  rintro _ ⟨⟨bq67, nq67⟩, rfl⟩
  go_wp2
  go_ret2
  exact ⟨rfl, (by repeat (first | exact Later.refl _ | refine Later.alloc ?_ | refine Later.far ?_ | refine Later.drewN ?_ | refine Later.drew ?_))⟩
set_option maxRecDepth 100000 in
set_option maxHeartbeats 4000000 in
theorem trunc_up_32un_in (x l t : Int) (m k : Nat) (ha : Hid (∀ w : World, Calls Try.prog 36 #[fm, .int .u64 x] w fun e w' => e = .returned (fv true false false m (k : Int)) ∧ Later w w')) (hl : Hid (∀ w : World, Calls Try.prog 37 #[.int .u64 (m : Int)] w fun e w' => e = .returned (.int .i64 l) ∧ w' = w)) (hs : IntKind.i64.wrap (l + (k : Int)) = t) (ht : t ≤ 64) (hk : k ≤ 64) (hw : IntKind.u64.wrap ((m : Int) * 2 ^ k) = 0) (hlow : Hid (∀ w : World, Calls Try.prog 24 #[.int .i64 0] w fun e w' => e = .returned (.int .i64 0) ∧ w' = w)) (w : World) :
    Calls Try.prog 25 #[fm, .int .u64 x, .int .i64 32, .bool false] w fun e w' => e = .returned (.tuple #[.int .i64 0, .int .i64 0]) ∧ Later w w' := by
  go_enter Try.func25, Try.ntmps25
  go_wp2_with fail
  refine (ha.out _).mono ?_
  rintro e w' ⟨rfl, bs77, n77, rfl⟩
  go_wp2_with fail
  refine wp_region_quiet_far (by kernel_rfl) (by kernel_rfl) ?_
  repeat (quiet_step (first | (go_at_call 37; exact Calls.far_of_same (hl.out _))))
  refine wpQuiet_nil ?_
  rintro _ ⟨⟨bq67, nq67⟩, rfl⟩
  go_wp2_with fail
  refine (hlow.out _).mono ?_
  rintro e w' ⟨rfl, rfl⟩
  go_wp2
  go_ret2
  exact ⟨rfl, (by repeat (first | exact Later.refl _ | refine Later.alloc ?_ | refine Later.far ?_ | refine Later.drewN ?_ | refine Later.drew ?_))⟩
set_option maxRecDepth 100000 in
set_option maxHeartbeats 4000000 in
theorem trunc_up_32un_out (x l t : Int) (m k : Nat) (M : Int) (ha : Hid (∀ w : World, Calls Try.prog 36 #[fm, .int .u64 x] w fun e w' => e = .returned (fv true false false m (k : Int)) ∧ Later w w')) (hl : Hid (∀ w : World, Calls Try.prog 37 #[.int .u64 (m : Int)] w fun e w' => e = .returned (.int .i64 l) ∧ w' = w)) (hs : IntKind.i64.wrap (l + (k : Int)) = t) (ht : t ≤ 64) (hk : k ≤ 64) (hw : IntKind.u64.wrap ((m : Int) * 2 ^ k) = M) (hM : (M == 0) = false) (hM2 : ¬ M = 0) (w : World) :
    Calls Try.prog 25 #[fm, .int .u64 x, .int .i64 32, .bool false] w fun e w' => e = .returned (.tuple #[.int .i64 0, .int .i64 601]) ∧ Later w w' := by
  go_enter Try.func25, Try.ntmps25
  go_wp2_with fail
  refine (ha.out _).mono ?_
  rintro e w' ⟨rfl, bs79, n79, rfl⟩
  go_wp2_with fail
  refine wp_region_quiet_far (by kernel_rfl) (by kernel_rfl) ?_
  repeat (quiet_step (first | (go_at_call 37; exact Calls.far_of_same (hl.out _))))
  refine wpQuiet_nil ?_
  rintro _ ⟨⟨bq67, nq67⟩, rfl⟩
  go_wp2
  go_ret2
  exact ⟨rfl, (by repeat (first | exact Later.refl _ | refine Later.alloc ?_ | refine Later.far ?_ | refine Later.drewN ?_ | refine Later.drew ?_))⟩
set_option maxRecDepth 100000 in
set_option maxHeartbeats 4000000 in
theorem trunc_up_64sp_in (x l t : Int) (m k : Nat) (M : Int) (ha : Hid (∀ w : World, Calls Try.prog 36 #[fm, .int .u64 x] w fun e w' => e = .returned (fv false false false m (k : Int)) ∧ Later w w')) (hl : Hid (∀ w : World, Calls Try.prog 37 #[.int .u64 (m : Int)] w fun e w' => e = .returned (.int .i64 l) ∧ w' = w)) (hs : IntKind.i64.wrap (l + (k : Int)) = t) (ht : t ≤ 64) (hk : k ≤ 64) (hw : IntKind.u64.wrap ((m : Int) * 2 ^ k) = M) (hM : M ≤ 9223372036854775807) (o1 : Int) (ho1 : IntKind.i64.wrap M = o1) (w : World) :
    Calls Try.prog 25 #[fm, .int .u64 x, .int .i64 64, .bool true] w fun e w' => e = .returned (.tuple #[.int .i64 o1, .int .i64 0]) ∧ Later w w' := by
  go_enter Try.func25, Try.ntmps25
  go_wp2_with fail
  refine (ha.out _).mono ?_
  rintro e w' ⟨rfl, bs80, n80, rfl⟩
  go_wp2_with fail
  refine wp_region_quiet_far (by kernel_rfl) (by kernel_rfl) ?_
  repeat (quiet_step (first | (go_at_call 37; exact Calls.far_of_same (hl.out _))))
  refine wpQuiet_nil ?_
  rintro _ ⟨⟨bq67, nq67⟩, rfl⟩
  go_wp2
  go_ret2
  exact ⟨rfl, (by repeat (first | exact Later.refl _ | refine Later.alloc ?_ | refine Later.far ?_ | refine Later.drewN ?_ | refine Later.drew ?_))⟩
set_option maxRecDepth 100000 in
set_option maxHeartbeats 4000000 in
theorem trunc_up_64sp_out (x l t : Int) (m k : Nat) (M : Int) (ha : Hid (∀ w : World, Calls Try.prog 36 #[fm, .int .u64 x] w fun e w' => e = .returned (fv false false false m (k : Int)) ∧ Later w w')) (hl : Hid (∀ w : World, Calls Try.prog 37 #[.int .u64 (m : Int)] w fun e w' => e = .returned (.int .i64 l) ∧ w' = w)) (hs : IntKind.i64.wrap (l + (k : Int)) = t) (ht : t ≤ 64) (hk : k ≤ 64) (hw : IntKind.u64.wrap ((m : Int) * 2 ^ k) = M) (hM : ¬ M ≤ 9223372036854775807) (w : World) :
    Calls Try.prog 25 #[fm, .int .u64 x, .int .i64 64, .bool true] w fun e w' => e = .returned (.tuple #[.int .i64 0, .int .i64 601]) ∧ Later w w' := by
  go_enter Try.func25, Try.ntmps25
  go_wp2_with fail
  refine (ha.out _).mono ?_
  rintro e w' ⟨rfl, bs81, n81, rfl⟩
  go_wp2_with fail
  refine wp_region_quiet_far (by kernel_rfl) (by kernel_rfl) ?_
  repeat (quiet_step (first | (go_at_call 37; exact Calls.far_of_same (hl.out _))))
  refine wpQuiet_nil ?_
  rintro _ ⟨⟨bq67, nq67⟩, rfl⟩
  go_wp2
  go_ret2
  exact ⟨rfl, (by repeat (first | exact Later.refl _ | refine Later.alloc ?_ | refine Later.far ?_ | refine Later.drewN ?_ | refine Later.drew ?_))⟩
set_option maxRecDepth 100000 in
set_option maxHeartbeats 4000000 in
theorem trunc_up_64sn_in (x l t : Int) (m k : Nat) (M : Int) (ha : Hid (∀ w : World, Calls Try.prog 36 #[fm, .int .u64 x] w fun e w' => e = .returned (fv true false false m (k : Int)) ∧ Later w w')) (hl : Hid (∀ w : World, Calls Try.prog 37 #[.int .u64 (m : Int)] w fun e w' => e = .returned (.int .i64 l) ∧ w' = w)) (hs : IntKind.i64.wrap (l + (k : Int)) = t) (ht : t ≤ 64) (hk : k ≤ 64) (hw : IntKind.u64.wrap ((m : Int) * 2 ^ k) = M) (hM : M ≤ 9223372036854775808) (o1 : Int) (ho1 : IntKind.i64.wrap M = o1) (o2 : Int) (ho2 : IntKind.i64.wrap (-o1) = o2) (w : World) :
    Calls Try.prog 25 #[fm, .int .u64 x, .int .i64 64, .bool true] w fun e w' => e = .returned (.tuple #[.int .i64 o2, .int .i64 0]) ∧ Later w w' := by
  go_enter Try.func25, Try.ntmps25
  go_wp2_with fail
  refine (ha.out _).mono ?_
  rintro e w' ⟨rfl, bs82, n82, rfl⟩
  go_wp2_with fail
  refine wp_region_quiet_far (by kernel_rfl) (by kernel_rfl) ?_
  repeat (quiet_step (first | (go_at_call 37; exact Calls.far_of_same (hl.out _))))
  refine wpQuiet_nil ?_
  rintro _ ⟨⟨bq67, nq67⟩, rfl⟩
  go_wp2
  go_ret2
  exact ⟨rfl, (by repeat (first | exact Later.refl _ | refine Later.alloc ?_ | refine Later.far ?_ | refine Later.drewN ?_ | refine Later.drew ?_))⟩
set_option maxRecDepth 100000 in
set_option maxHeartbeats 4000000 in
theorem trunc_up_64sn_out (x l t : Int) (m k : Nat) (M : Int) (ha : Hid (∀ w : World, Calls Try.prog 36 #[fm, .int .u64 x] w fun e w' => e = .returned (fv true false false m (k : Int)) ∧ Later w w')) (hl : Hid (∀ w : World, Calls Try.prog 37 #[.int .u64 (m : Int)] w fun e w' => e = .returned (.int .i64 l) ∧ w' = w)) (hs : IntKind.i64.wrap (l + (k : Int)) = t) (ht : t ≤ 64) (hk : k ≤ 64) (hw : IntKind.u64.wrap ((m : Int) * 2 ^ k) = M) (hM : ¬ M ≤ 9223372036854775808) (w : World) :
    Calls Try.prog 25 #[fm, .int .u64 x, .int .i64 64, .bool true] w fun e w' => e = .returned (.tuple #[.int .i64 0, .int .i64 601]) ∧ Later w w' := by
  go_enter Try.func25, Try.ntmps25
  go_wp2_with fail
  refine (ha.out _).mono ?_
  rintro e w' ⟨rfl, bs83, n83, rfl⟩
  go_wp2_with fail
  refine wp_region_quiet_far (by kernel_rfl) (by kernel_rfl) ?_
  repeat (quiet_step (first | (go_at_call 37; exact Calls.far_of_same (hl.out _))))
  refine wpQuiet_nil ?_
  rintro _ ⟨⟨bq67, nq67⟩, rfl⟩
  go_wp2
  go_ret2
  exact ⟨rfl, (by repeat (first | exact Later.refl _ | refine Later.alloc ?_ | refine Later.far ?_ | refine Later.drewN ?_ | refine Later.drew ?_))⟩
set_option maxRecDepth 100000 in
set_option maxHeartbeats 4000000 in
theorem trunc_up_64up_in (x l t : Int) (m k : Nat) (M : Int) (ha : Hid (∀ w : World, Calls Try.prog 36 #[fm, .int .u64 x] w fun e w' => e = .returned (fv false false false m (k : Int)) ∧ Later w w')) (hl : Hid (∀ w : World, Calls Try.prog 37 #[.int .u64 (m : Int)] w fun e w' => e = .returned (.int .i64 l) ∧ w' = w)) (hs : IntKind.i64.wrap (l + (k : Int)) = t) (ht : t ≤ 64) (hk : k ≤ 64) (hw : IntKind.u64.wrap ((m : Int) * 2 ^ k) = M) (o1 : Int) (ho1 : IntKind.i64.wrap M = o1) (w : World) :
    Calls Try.prog 25 #[fm, .int .u64 x, .int .i64 64, .bool false] w fun e w' => e = .returned (.tuple #[.int .i64 o1, .int .i64 0]) ∧ Later w w' := by
  go_enter Try.func25, Try.ntmps25
  go_wp2_with fail
  refine (ha.out _).mono ?_
  rintro e w' ⟨rfl, bs84, n84, rfl⟩
  go_wp2_with fail
  refine wp_region_quiet_far (by kernel_rfl) (by kernel_rfl) ?_
  repeat (quiet_step (first | (go_at_call 37; exact Calls.far_of_same (hl.out _))))
  refine wpQuiet_nil ?_
  rintro _ ⟨⟨bq67, nq67⟩, rfl⟩
  go_wp2
  go_ret2
  exact ⟨rfl, (by repeat (first | exact Later.refl _ | refine Later.alloc ?_ | refine Later.far ?_ | refine Later.drewN ?_ | refine Later.drew ?_))⟩
set_option maxRecDepth 100000 in
set_option maxHeartbeats 4000000 in
theorem trunc_up_64un_in (x l t : Int) (m k : Nat) (ha : Hid (∀ w : World, Calls Try.prog 36 #[fm, .int .u64 x] w fun e w' => e = .returned (fv true false false m (k : Int)) ∧ Later w w')) (hl : Hid (∀ w : World, Calls Try.prog 37 #[.int .u64 (m : Int)] w fun e w' => e = .returned (.int .i64 l) ∧ w' = w)) (hs : IntKind.i64.wrap (l + (k : Int)) = t) (ht : t ≤ 64) (hk : k ≤ 64) (hw : IntKind.u64.wrap ((m : Int) * 2 ^ k) = 0) (w : World) :
    Calls Try.prog 25 #[fm, .int .u64 x, .int .i64 64, .bool false] w fun e w' => e = .returned (.tuple #[.int .i64 0, .int .i64 0]) ∧ Later w w' := by
  go_enter Try.func25, Try.ntmps25
  go_wp2_with fail
  refine (ha.out _).mono ?_
  rintro e w' ⟨rfl, bs85, n85, rfl⟩
  go_wp2_with fail
  refine wp_region_quiet_far (by kernel_rfl) (by kernel_rfl) ?_
  repeat (quiet_step (first | (go_at_call 37; exact Calls.far_of_same (hl.out _))))
  refine wpQuiet_nil ?_
  rintro _ ⟨⟨bq67, nq67⟩, rfl⟩
  go_wp2
  go_ret2
  exact ⟨rfl, (by repeat (first | exact Later.refl _ | refine Later.alloc ?_ | refine Later.far ?_ | refine Later.drewN ?_ | refine Later.drew ?_))⟩
set_option maxRecDepth 100000 in
set_option maxHeartbeats 4000000 in
theorem trunc_up_64un_out (x l t : Int) (m k : Nat) (M : Int) (ha : Hid (∀ w : World, Calls Try.prog 36 #[fm, .int .u64 x] w fun e w' => e = .returned (fv true false false m (k : Int)) ∧ Later w w')) (hl : Hid (∀ w : World, Calls Try.prog 37 #[.int .u64 (m : Int)] w fun e w' => e = .returned (.int .i64 l) ∧ w' = w)) (hs : IntKind.i64.wrap (l + (k : Int)) = t) (ht : t ≤ 64) (hk : k ≤ 64) (hw : IntKind.u64.wrap ((m : Int) * 2 ^ k) = M) (hM : (M == 0) = false) (hM2 : ¬ M = 0) (w : World) :
    Calls Try.prog 25 #[fm, .int .u64 x, .int .i64 64, .bool false] w fun e w' => e = .returned (.tuple #[.int .i64 0, .int .i64 601]) ∧ Later w w' := by
  go_enter Try.func25, Try.ntmps25
  go_wp2_with fail
  refine (ha.out _).mono ?_
  rintro e w' ⟨rfl, bs86, n86, rfl⟩
  go_wp2_with fail
  refine wp_region_quiet_far (by kernel_rfl) (by kernel_rfl) ?_
  repeat (quiet_step (first | (go_at_call 37; exact Calls.far_of_same (hl.out _))))
  refine wpQuiet_nil ?_
  rintro _ ⟨⟨bq67, nq67⟩, rfl⟩
  go_wp2
  go_ret2
  exact ⟨rfl, (by repeat (first | exact Later.refl _ | refine Later.alloc ?_ | refine Later.far ?_ | refine Later.drewN ?_ | refine Later.drew ?_))⟩
set_option maxRecDepth 100000 in
set_option maxHeartbeats 4000000 in
theorem trunc_dn_32sp_in (x l t : Int) (m k : Nat) (M : Int) (p nb A c : Int) (ha : Hid (∀ w : World, Calls Try.prog 36 #[fm, .int .u64 x] w fun e w' => e = .returned (fv false false false m p) ∧ Later w w')) (hp : ¬ 0 ≤ p) (hnb : IntKind.i64.wrap (-p) = nb) (hd : Hid (∀ w : World, Calls Try.prog 38 #[.int .u64 0, .int .u64 (m : Int), .int .i64 nb] w fun e w' => e = .returned (.tuple #[.int .u64 A, .int .u64 M, .int .i64 c]) ∧ Later w w')) (hM : M ≤ 2147483647) (o1 : Int) (ho1 : IntKind.i64.wrap M = o1) (o3 : Int) (hlow : Hid (∀ w : World, Calls Try.prog 24 #[.int .i64 o1] w fun e w' => e = .returned (.int .i64 o3) ∧ w' = w)) (w : World) :
    Calls Try.prog 25 #[fm, .int .u64 x, .int .i64 32, .bool true] w fun e w' => e = .returned (.tuple #[.int .i64 o3, .int .i64 0]) ∧ Later w w' := by
  go_enter Try.func25, Try.ntmps25
  go_wp2_with fail
  refine (ha.out _).mono ?_
  rintro e w' ⟨rfl, bs87, n87, rfl⟩
  go_wp2_with fail
  refine (hd.out _).mono ?_
  rintro e w' ⟨rfl, bs88, n88, rfl⟩
  go_wp2_with fail
  refine (hlow.out _).mono ?_
  rintro e w' ⟨rfl, rfl⟩
  go_wp2
  go_ret2
  exact ⟨rfl, (by repeat (first | exact Later.refl _ | refine Later.alloc ?_ | refine Later.far ?_ | refine Later.drewN ?_ | refine Later.drew ?_))⟩
set_option maxRecDepth 100000 in
set_option maxHeartbeats 4000000 in
theorem trunc_dn_32sp_out (x l t : Int) (m k : Nat) (M : Int) (p nb A c : Int) (ha : Hid (∀ w : World, Calls Try.prog 36 #[fm, .int .u64 x] w fun e w' => e = .returned (fv false false false m p) ∧ Later w w')) (hp : ¬ 0 ≤ p) (hnb : IntKind.i64.wrap (-p) = nb) (hd : Hid (∀ w : World, Calls Try.prog 38 #[.int .u64 0, .int .u64 (m : Int), .int .i64 nb] w fun e w' => e = .returned (.tuple #[.int .u64 A, .int .u64 M, .int .i64 c]) ∧ Later w w')) (hM : ¬ M ≤ 2147483647) (w : World) :
    Calls Try.prog 25 #[fm, .int .u64 x, .int .i64 32, .bool true] w fun e w' => e = .returned (.tuple #[.int .i64 0, .int .i64 601]) ∧ Later w w' := by
  go_enter Try.func25, Try.ntmps25
  go_wp2_with fail
  refine (ha.out _).mono ?_
  rintro e w' ⟨rfl, bs90, n90, rfl⟩
  go_wp2_with fail
  refine (hd.out _).mono ?_
  rintro e w' ⟨rfl, bs91, n91, rfl⟩
  go_wp2
  go_ret2
  exact ⟨rfl, (by repeat (first | exact Later.refl _ | refine Later.alloc ?_ | refine Later.far ?_ | refine Later.drewN ?_ | refine Later.drew ?_))⟩
set_option maxRecDepth 100000 in
set_option maxHeartbeats 4000000 in
theorem trunc_dn_32sn_in (x l t : Int) (m k : Nat) (M : Int) (p nb A c : Int) (ha : Hid (∀ w : World, Calls Try.prog 36 #[fm, .int .u64 x] w fun e w' => e = .returned (fv true false false m p) ∧ Later w w')) (hp : ¬ 0 ≤ p) (hnb : IntKind.i64.wrap (-p) = nb) (hd : Hid (∀ w : World, Calls Try.prog 38 #[.int .u64 0, .int .u64 (m : Int), .int .i64 nb] w fun e w' => e = .returned (.tuple #[.int .u64 A, .int .u64 M, .int .i64 c]) ∧ Later w w')) (hM : M ≤ 2147483648) (o1 : Int) (ho1 : IntKind.i64.wrap M = o1) (o2 : Int) (ho2 : IntKind.i64.wrap (-o1) = o2) (o3 : Int) (hlow : Hid (∀ w : World, Calls Try.prog 24 #[.int .i64 o2] w fun e w' => e = .returned (.int .i64 o3) ∧ w' = w)) (w : World) :
    Calls Try.prog 25 #[fm, .int .u64 x, .int .i64 32, .bool true] w fun e w' => e = .returned (.tuple #[.int .i64 o3, .int .i64 0]) ∧ Later w w' := by
  go_enter Try.func25, Try.ntmps25
  go_wp2_with fail
  refine (ha.out _).mono ?_
  rintro e w' ⟨rfl, bs92, n92, rfl⟩
  go_wp2_with fail
  refine (hd.out _).mono ?_
  rintro e w' ⟨rfl, bs93, n93, rfl⟩
  go_wp2_with fail
  refine (hlow.out _).mono ?_
  rintro e w' ⟨rfl, rfl⟩
  go_wp2
  go_ret2
  exact ⟨rfl, (by repeat (first | exact Later.refl _ | refine Later.alloc ?_ | refine Later.far ?_ | refine Later.drewN ?_ | refine Later.drew ?_))⟩
set_option maxRecDepth 100000 in
set_option maxHeartbeats 4000000 in
theorem trunc_dn_32sn_out (x l t : Int) (m k : Nat) (M : Int) (p nb A c : Int) (ha : Hid (∀ w : World, Calls Try.prog 36 #[fm, .int .u64 x] w fun e w' => e = .returned (fv true false false m p) ∧ Later w w')) (hp : ¬ 0 ≤ p) (hnb : IntKind.i64.wrap (-p) = nb) (hd : Hid (∀ w : World, Calls Try.prog 38 #[.int .u64 0, .int .u64 (m : Int), .int .i64 nb] w fun e w' => e = .returned (.tuple #[.int .u64 A, .int .u64 M, .int .i64 c]) ∧ Later w w')) (hM : ¬ M ≤ 2147483648) (w : World) :
    Calls Try.prog 25 #[fm, .int .u64 x, .int .i64 32, .bool true] w fun e w' => e = .returned (.tuple #[.int .i64 0, .int .i64 601]) ∧ Later w w' := by
  go_enter Try.func25, Try.ntmps25
  go_wp2_with fail
  refine (ha.out _).mono ?_
  rintro e w' ⟨rfl, bs95, n95, rfl⟩
  go_wp2_with fail
  refine (hd.out _).mono ?_
  rintro e w' ⟨rfl, bs96, n96, rfl⟩
  go_wp2
  go_ret2
  exact ⟨rfl, (by repeat (first | exact Later.refl _ | refine Later.alloc ?_ | refine Later.far ?_ | refine Later.drewN ?_ | refine Later.drew ?_))⟩
set_option maxRecDepth 100000 in
set_option maxHeartbeats 4000000 in
theorem trunc_dn_32up_in (x l t : Int) (m k : Nat) (M : Int) (p nb A c : Int) (ha : Hid (∀ w : World, Calls Try.prog 36 #[fm, .int .u64 x] w fun e w' => e = .returned (fv false false false m p) ∧ Later w w')) (hp : ¬ 0 ≤ p) (hnb : IntKind.i64.wrap (-p) = nb) (hd : Hid (∀ w : World, Calls Try.prog 38 #[.int .u64 0, .int .u64 (m : Int), .int .i64 nb] w fun e w' => e = .returned (.tuple #[.int .u64 A, .int .u64 M, .int .i64 c]) ∧ Later w w')) (hM : M ≤ 4294967295) (o1 : Int) (ho1 : IntKind.i64.wrap M = o1) (o3 : Int) (hlow : Hid (∀ w : World, Calls Try.prog 24 #[.int .i64 o1] w fun e w' => e = .returned (.int .i64 o3) ∧ w' = w)) (w : World) :
    Calls Try.prog 25 #[fm, .int .u64 x, .int .i64 32, .bool false] w fun e w' => e = .returned (.tuple #[.int .i64 o3, .int .i64 0]) ∧ Later w w' := by
  go_enter Try.func25, Try.ntmps25
  go_wp2_with fail
  refine (ha.out _).mono ?_
  rintro e w' ⟨rfl, bs97, n97, rfl⟩
  go_wp2_with fail
  refine (hd.out _).mono ?_
  rintro e w' ⟨rfl, bs98, n98, rfl⟩
  go_wp2_with fail
  refine (hlow.out _).mono ?_
  rintro e w' ⟨rfl, rfl⟩
  go_wp2
  go_ret2
  exact ⟨rfl, (by repeat (first | exact Later.refl _ | refine Later.alloc ?_ | refine Later.far ?_ | refine Later.drewN ?_ | refine Later.drew ?_))⟩
set_option maxRecDepth 100000 in
set_option maxHeartbeats 4000000 in
theorem trunc_dn_32up_out (x l t : Int) (m k : Nat) (M : Int) (p nb A c : Int) (ha : Hid (∀ w : World, Calls Try.prog 36 #[fm, .int .u64 x] w fun e w' => e = .returned (fv false false false m p) ∧ Later w w')) (hp : ¬ 0 ≤ p) (hnb : IntKind.i64.wrap (-p) = nb) (hd : Hid (∀ w : World, Calls Try.prog 38 #[.int .u64 0, .int .u64 (m : Int), .int .i64 nb] w fun e w' => e = .returned (.tuple #[.int .u64 A, .int .u64 M, .int .i64 c]) ∧ Later w w')) (hM : ¬ M ≤ 4294967295) (w : World) :
    Calls Try.prog 25 #[fm, .int .u64 x, .int .i64 32, .bool false] w fun e w' => e = .returned (.tuple #[.int .i64 0, .int .i64 601]) ∧ Later w w' := by
  go_enter Try.func25, Try.ntmps25
  go_wp2_with fail
  refine (ha.out _).mono ?_
  rintro e w' ⟨rfl, bs100, n100, rfl⟩
  go_wp2_with fail
  refine (hd.out _).mono ?_
  rintro e w' ⟨rfl, bs101, n101, rfl⟩
  go_wp2
  go_ret2
  exact ⟨rfl, (by repeat (first | exact Later.refl _ | refine Later.alloc ?_ | refine Later.far ?_ | refine Later.drewN ?_ | refine Later.drew ?_))⟩
set_option maxRecDepth 100000 in
set_option maxHeartbeats 4000000 in
theorem trunc_dn_32un_in (x l t : Int) (m k : Nat) (p nb A c : Int) (ha : Hid (∀ w : World, Calls Try.prog 36 #[fm, .int .u64 x] w fun e w' => e = .returned (fv true false false m p) ∧ Later w w')) (hp : ¬ 0 ≤ p) (hnb : IntKind.i64.wrap (-p) = nb) (hd : Hid (∀ w : World, Calls Try.prog 38 #[.int .u64 0, .int .u64 (m : Int), .int .i64 nb] w fun e w' => e = .returned (.tuple #[.int .u64 A, .int .u64 0, .int .i64 c]) ∧ Later w w')) (hlow : Hid (∀ w : World, Calls Try.prog 24 #[.int .i64 0] w fun e w' => e = .returned (.int .i64 0) ∧ w' = w)) (w : World) :
    Calls Try.prog 25 #[fm, .int .u64 x, .int .i64 32, .bool false] w fun e w' => e = .returned (.tuple #[.int .i64 0, .int .i64 0]) ∧ Later w w' := by
  go_enter Try.func25, Try.ntmps25
  go_wp2_with fail
  refine (ha.out _).mono ?_
  rintro e w' ⟨rfl, bs102, n102, rfl⟩
  go_wp2_with fail
  refine (hd.out _).mono ?_
  rintro e w' ⟨rfl, bs103, n103, rfl⟩
  go_wp2_with fail
  refine (hlow.out _).mono ?_
  rintro e w' ⟨rfl, rfl⟩
  go_wp2
  go_ret2
  exact ⟨rfl, (by repeat (first | exact Later.refl _ | refine Later.alloc ?_ | refine Later.far ?_ | refine Later.drewN ?_ | refine Later.drew ?_))⟩
set_option maxRecDepth 100000 in
set_option maxHeartbeats 4000000 in
theorem trunc_dn_32un_out (x l t : Int) (m k : Nat) (M : Int) (p nb A c : Int) (ha : Hid (∀ w : World, Calls Try.prog 36 #[fm, .int .u64 x] w fun e w' => e = .returned (fv true false false m p) ∧ Later w w')) (hp : ¬ 0 ≤ p) (hnb : IntKind.i64.wrap (-p) = nb) (hd : Hid (∀ w : World, Calls Try.prog 38 #[.int .u64 0, .int .u64 (m : Int), .int .i64 nb] w fun e w' => e = .returned (.tuple #[.int .u64 A, .int .u64 M, .int .i64 c]) ∧ Later w w')) (hM : (M == 0) = false) (hM2 : ¬ M = 0) (w : World) :
    Calls Try.prog 25 #[fm, .int .u64 x, .int .i64 32, .bool false] w fun e w' => e = .returned (.tuple #[.int .i64 0, .int .i64 601]) ∧ Later w w' := by
  go_enter Try.func25, Try.ntmps25
  go_wp2_with fail
  refine (ha.out _).mono ?_
  rintro e w' ⟨rfl, bs105, n105, rfl⟩
  go_wp2_with fail
  refine (hd.out _).mono ?_
  rintro e w' ⟨rfl, bs106, n106, rfl⟩
  go_wp2
  go_ret2
  exact ⟨rfl, (by repeat (first | exact Later.refl _ | refine Later.alloc ?_ | refine Later.far ?_ | refine Later.drewN ?_ | refine Later.drew ?_))⟩
set_option maxRecDepth 100000 in
set_option maxHeartbeats 4000000 in
theorem trunc_dn_64sp_in (x l t : Int) (m k : Nat) (M : Int) (p nb A c : Int) (ha : Hid (∀ w : World, Calls Try.prog 36 #[fm, .int .u64 x] w fun e w' => e = .returned (fv false false false m p) ∧ Later w w')) (hp : ¬ 0 ≤ p) (hnb : IntKind.i64.wrap (-p) = nb) (hd : Hid (∀ w : World, Calls Try.prog 38 #[.int .u64 0, .int .u64 (m : Int), .int .i64 nb] w fun e w' => e = .returned (.tuple #[.int .u64 A, .int .u64 M, .int .i64 c]) ∧ Later w w')) (hM : M ≤ 9223372036854775807) (o1 : Int) (ho1 : IntKind.i64.wrap M = o1) (w : World) :
    Calls Try.prog 25 #[fm, .int .u64 x, .int .i64 64, .bool true] w fun e w' => e = .returned (.tuple #[.int .i64 o1, .int .i64 0]) ∧ Later w w' := by
  go_enter Try.func25, Try.ntmps25
  go_wp2_with fail
  refine (ha.out _).mono ?_
  rintro e w' ⟨rfl, bs107, n107, rfl⟩
  go_wp2_with fail
  refine (hd.out _).mono ?_
  rintro e w' ⟨rfl, bs108, n108, rfl⟩
  go_wp2
  go_ret2
  exact ⟨rfl, (by repeat (first | exact Later.refl _ | refine Later.alloc ?_ | refine Later.far ?_ | refine Later.drewN ?_ | refine Later.drew ?_))⟩
set_option maxRecDepth 100000 in
set_option maxHeartbeats 4000000 in
theorem trunc_dn_64sp_out (x l t : Int) (m k : Nat) (M : Int) (p nb A c : Int) (ha : Hid (∀ w : World, Calls Try.prog 36 #[fm, .int .u64 x] w fun e w' => e = .returned (fv false false false m p) ∧ Later w w')) (hp : ¬ 0 ≤ p) (hnb : IntKind.i64.wrap (-p) = nb) (hd : Hid (∀ w : World, Calls Try.prog 38 #[.int .u64 0, .int .u64 (m : Int), .int .i64 nb] w fun e w' => e = .returned (.tuple #[.int .u64 A, .int .u64 M, .int .i64 c]) ∧ Later w w')) (hM : ¬ M ≤ 9223372036854775807) (w : World) :
    Calls Try.prog 25 #[fm, .int .u64 x, .int .i64 64, .bool true] w fun e w' => e = .returned (.tuple #[.int .i64 0, .int .i64 601]) ∧ Later w w' := by
  go_enter Try.func25, Try.ntmps25
  go_wp2_with fail
  refine (ha.out _).mono ?_
  rintro e w' ⟨rfl, bs109, n109, rfl⟩
  go_wp2_with fail
  refine (hd.out _).mono ?_
  rintro e w' ⟨rfl, bs110, n110, rfl⟩
  go_wp2
  go_ret2
  exact ⟨rfl, (by repeat (first | exact Later.refl _ | refine Later.alloc ?_ | refine Later.far ?_ | refine Later.drewN ?_ | refine Later.drew ?_))⟩
set_option maxRecDepth 100000 in
set_option maxHeartbeats 4000000 in
theorem trunc_dn_64sn_in (x l t : Int) (m k : Nat) (M : Int) (p nb A c : Int) (ha : Hid (∀ w : World, Calls Try.prog 36 #[fm, .int .u64 x] w fun e w' => e = .returned (fv true false false m p) ∧ Later w w')) (hp : ¬ 0 ≤ p) (hnb : IntKind.i64.wrap (-p) = nb) (hd : Hid (∀ w : World, Calls Try.prog 38 #[.int .u64 0, .int .u64 (m : Int), .int .i64 nb] w fun e w' => e = .returned (.tuple #[.int .u64 A, .int .u64 M, .int .i64 c]) ∧ Later w w')) (hM : M ≤ 9223372036854775808) (o1 : Int) (ho1 : IntKind.i64.wrap M = o1) (o2 : Int) (ho2 : IntKind.i64.wrap (-o1) = o2) (w : World) :
    Calls Try.prog 25 #[fm, .int .u64 x, .int .i64 64, .bool true] w fun e w' => e = .returned (.tuple #[.int .i64 o2, .int .i64 0]) ∧ Later w w' := by
  go_enter Try.func25, Try.ntmps25
  go_wp2_with fail
  refine (ha.out _).mono ?_
  rintro e w' ⟨rfl, bs111, n111, rfl⟩
  go_wp2_with fail
  refine (hd.out _).mono ?_
  rintro e w' ⟨rfl, bs112, n112, rfl⟩
  go_wp2
  go_ret2
  exact ⟨rfl, (by repeat (first | exact Later.refl _ | refine Later.alloc ?_ | refine Later.far ?_ | refine Later.drewN ?_ | refine Later.drew ?_))⟩
set_option maxRecDepth 100000 in
set_option maxHeartbeats 4000000 in
theorem trunc_dn_64sn_out (x l t : Int) (m k : Nat) (M : Int) (p nb A c : Int) (ha : Hid (∀ w : World, Calls Try.prog 36 #[fm, .int .u64 x] w fun e w' => e = .returned (fv true false false m p) ∧ Later w w')) (hp : ¬ 0 ≤ p) (hnb : IntKind.i64.wrap (-p) = nb) (hd : Hid (∀ w : World, Calls Try.prog 38 #[.int .u64 0, .int .u64 (m : Int), .int .i64 nb] w fun e w' => e = .returned (.tuple #[.int .u64 A, .int .u64 M, .int .i64 c]) ∧ Later w w')) (hM : ¬ M ≤ 9223372036854775808) (w : World) :
    Calls Try.prog 25 #[fm, .int .u64 x, .int .i64 64, .bool true] w fun e w' => e = .returned (.tuple #[.int .i64 0, .int .i64 601]) ∧ Later w w' := by
  go_enter Try.func25, Try.ntmps25
  go_wp2_with fail
  refine (ha.out _).mono ?_
  rintro e w' ⟨rfl, bs113, n113, rfl⟩
  go_wp2_with fail
  refine (hd.out _).mono ?_
  rintro e w' ⟨rfl, bs114, n114, rfl⟩
  go_wp2
  go_ret2
  exact ⟨rfl, (by repeat (first | exact Later.refl _ | refine Later.alloc ?_ | refine Later.far ?_ | refine Later.drewN ?_ | refine Later.drew ?_))⟩
set_option maxRecDepth 100000 in
set_option maxHeartbeats 4000000 in
theorem trunc_dn_64up_in (x l t : Int) (m k : Nat) (M : Int) (p nb A c : Int) (ha : Hid (∀ w : World, Calls Try.prog 36 #[fm, .int .u64 x] w fun e w' => e = .returned (fv false false false m p) ∧ Later w w')) (hp : ¬ 0 ≤ p) (hnb : IntKind.i64.wrap (-p) = nb) (hd : Hid (∀ w : World, Calls Try.prog 38 #[.int .u64 0, .int .u64 (m : Int), .int .i64 nb] w fun e w' => e = .returned (.tuple #[.int .u64 A, .int .u64 M, .int .i64 c]) ∧ Later w w')) (o1 : Int) (ho1 : IntKind.i64.wrap M = o1) (w : World) :
    Calls Try.prog 25 #[fm, .int .u64 x, .int .i64 64, .bool false] w fun e w' => e = .returned (.tuple #[.int .i64 o1, .int .i64 0]) ∧ Later w w' := by
  go_enter Try.func25, Try.ntmps25
  go_wp2_with fail
  refine (ha.out _).mono ?_
  rintro e w' ⟨rfl, bs115, n115, rfl⟩
  go_wp2_with fail
  refine (hd.out _).mono ?_
  rintro e w' ⟨rfl, bs116, n116, rfl⟩
  go_wp2
  go_ret2
  exact ⟨rfl, (by repeat (first | exact Later.refl _ | refine Later.alloc ?_ | refine Later.far ?_ | refine Later.drewN ?_ | refine Later.drew ?_))⟩
set_option maxRecDepth 100000 in
set_option maxHeartbeats 4000000 in
theorem trunc_dn_64un_in (x l t : Int) (m k : Nat) (p nb A c : Int) (ha : Hid (∀ w : World, Calls Try.prog 36 #[fm, .int .u64 x] w fun e w' => e = .returned (fv true false false m p) ∧ Later w w')) (hp : ¬ 0 ≤ p) (hnb : IntKind.i64.wrap (-p) = nb) (hd : Hid (∀ w : World, Calls Try.prog 38 #[.int .u64 0, .int .u64 (m : Int), .int .i64 nb] w fun e w' => e = .returned (.tuple #[.int .u64 A, .int .u64 0, .int .i64 c]) ∧ Later w w')) (w : World) :
    Calls Try.prog 25 #[fm, .int .u64 x, .int .i64 64, .bool false] w fun e w' => e = .returned (.tuple #[.int .i64 0, .int .i64 0]) ∧ Later w w' := by
  go_enter Try.func25, Try.ntmps25
  go_wp2_with fail
  refine (ha.out _).mono ?_
  rintro e w' ⟨rfl, bs117, n117, rfl⟩
  go_wp2_with fail
  refine (hd.out _).mono ?_
  rintro e w' ⟨rfl, bs118, n118, rfl⟩
  go_wp2
  go_ret2
  exact ⟨rfl, (by repeat (first | exact Later.refl _ | refine Later.alloc ?_ | refine Later.far ?_ | refine Later.drewN ?_ | refine Later.drew ?_))⟩
set_option maxRecDepth 100000 in
set_option maxHeartbeats 4000000 in
theorem trunc_dn_64un_out (x l t : Int) (m k : Nat) (M : Int) (p nb A c : Int) (ha : Hid (∀ w : World, Calls Try.prog 36 #[fm, .int .u64 x] w fun e w' => e = .returned (fv true false false m p) ∧ Later w w')) (hp : ¬ 0 ≤ p) (hnb : IntKind.i64.wrap (-p) = nb) (hd : Hid (∀ w : World, Calls Try.prog 38 #[.int .u64 0, .int .u64 (m : Int), .int .i64 nb] w fun e w' => e = .returned (.tuple #[.int .u64 A, .int .u64 M, .int .i64 c]) ∧ Later w w')) (hM : (M == 0) = false) (hM2 : ¬ M = 0) (w : World) :
    Calls Try.prog 25 #[fm, .int .u64 x, .int .i64 64, .bool false] w fun e w' => e = .returned (.tuple #[.int .i64 0, .int .i64 601]) ∧ Later w w' := by
  go_enter Try.func25, Try.ntmps25
  go_wp2_with fail
  refine (ha.out _).mono ?_
  rintro e w' ⟨rfl, bs119, n119, rfl⟩
  go_wp2_with fail
  refine (hd.out _).mono ?_
  rintro e w' ⟨rfl, bs120, n120, rfl⟩
  go_wp2
  go_ret2
  exact ⟨rfl, (by repeat (first | exact Later.refl _ | refine Later.alloc ?_ | refine Later.far ?_ | refine Later.drewN ?_ | refine Later.drew ?_))⟩
end Go.Proofs.Ytibfjlibkaejnaa.D
