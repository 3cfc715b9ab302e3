/- Contracts of the document's floats (pelorusref4), over this seat's translation: whole numbers made floats, floats cut to whole numbers. -/
import Derived.Test.YtdfgcagbpndabaaGreatDoorZSC
import Derived.Test.YtdfgcagbpndabaaGreatDoorZA
import Derived.Test.YtdfgcagbpndabaaGreatDoorZE
import Derived.WalkLawsBesides
import Derived.RegionCalls
import Derived.Deep.RegionWith
set_option linter.unusedVariables false
set_option maxHeartbeats 4000000
set_option maxRecDepth 100000
namespace Go.Proofs.YtdfgcagbpndabaaGreatDoor.S
open Go.RowKit
open Go.FM (W64 two bl lost isN qn sw otherW fromW truncI tcut tval fits bitsI ofI)
theorem two_one (m : Nat) : two 0 m = m := by unfold two; rw [Nat.zero_mul, Nat.zero_add]
theorem round_one (neg : Bool) (m : Nat) (x : Int) (hm : m < W64) (he : -10000 ≤ x) (he1 : x ≤ 10000) (w : World) :
    RW Tryz.prog 122 #[fm, .bool neg, .int .u64 0, .int .u64 (m : Nat), .int .i64 x] w (.int .u64 (ff.nearest neg m x : Nat)) := by
  have := round_any neg 0 m x (by decide) hm he he1 w
  rw [two_one] at this
  exact this
theorem from_neg (x : Int) (m : Nat) (z : Nat) (v : Int) (h : x < 0) (nx : Int) (h0 : IntKind.i64.wrap (-x) = nx) (h1 : IntKind.u64.wrap nx = (m : Int)) (hv : IntKind.i64.wrap (z : Int) = v) (hr : RL Tryz.prog 122 #[fm, .bool true, .int .u64 0, .int .u64 (m : Nat), .int .i64 0] (.int .u64 (z : Nat))) (w : World) :
    RW Tryz.prog 70 #[fm, .int .i64 x, .bool true] w (.int .i64 v) := by
  go_enter Tryz.func70, Tryz.ntmps70
  go_wp2_with fail
  refine (hr.out _).mono ?_
  rintro e w' ⟨rfl, bs1, n1, rfl⟩
  go_wp2
  go_ret
  exact ⟨rfl, (by repeat first | exact Lz _ | apply La | apply Lv | apply Ln | apply Ld)⟩
theorem from_pos (x : Int) (sgd : Bool) (m : Nat) (z : Nat) (v : Int) (h : sgd = false ∨ ¬ x < 0) (h1 : IntKind.u64.wrap x = (m : Int)) (hv : IntKind.i64.wrap (z : Int) = v) (hr : RL Tryz.prog 122 #[fm, .bool false, .int .u64 0, .int .u64 (m : Nat), .int .i64 0] (.int .u64 (z : Nat))) (w : World) :
    RW Tryz.prog 70 #[fm, .int .i64 x, .bool sgd] w (.int .i64 v) := by
  rcases h with rfl | h
  · go_enter Tryz.func70, Tryz.ntmps70
    go_wp2_with fail
    refine (hr.out _).mono ?_
    rintro e w' ⟨rfl, bs2, n2, rfl⟩
    go_wp2
    go_ret
    exact ⟨rfl, (by repeat first | exact Lz _ | apply La | apply Lv | apply Ln | apply Ld)⟩
  · cases sgd
    all_goals
      go_enter Tryz.func70, Tryz.ntmps70
      go_wp2_with fail
      refine (hr.out _).mono ?_
      rintro e w' ⟨rfl, bs2, n2, rfl⟩
      go_wp2
      go_ret
      exact ⟨rfl, (by repeat first | exact Lz _ | apply La | apply Lv | apply Ln | apply Ld)⟩
theorem keep_word (v : Int) : IntKind.i64.wrap ((fromW ff v : Nat) : Int) = ((fromW ff v : Nat) : Int) := by
  have := FM.from_lt32 v
  rw [IntKind.wrap_i64]
  have h2 : fromW ff v < 4294967296 := this
  omega
theorem from_s (x : Int) (h1 : -9223372036854775808 ≤ x) (h2 : x ≤ 9223372036854775807) (w : World) :
    RW Tryz.prog 70 #[fm, .int .i64 x, .bool true] w (.int .i64 ((fromW ff x : Nat) : Int)) := by
  by_cases h : x < 0
  · have e : fromW ff x = ff.nearest true x.natAbs 0 := by unfold FM.fromW; rw [decide_eq_true h]
    refine from_neg x x.natAbs _ _ h _ rfl ?_ (keep_word x) ?_ w
    · rw [IntKind.wrap_i64, IntKind.wrap_u64]; omega
    · intro w; rw [e]; exact round_one true x.natAbs 0 (by simp only [W64]; omega) (by decide) (by decide) w
  · have e : fromW ff x = ff.nearest false x.natAbs 0 := by unfold FM.fromW; rw [decide_eq_false h]
    refine from_pos x true x.natAbs _ _ (Or.inr h) ?_ (keep_word x) ?_ w
    · rw [IntKind.wrap_u64]; omega
    · intro w; rw [e]; exact round_one false x.natAbs 0 (by simp only [W64]; omega) (by decide) (by decide) w
theorem from_u (x : Int) (n : Nat) (h : x % 18446744073709551616 = (n : Int)) (w : World) :
    RW Tryz.prog 70 #[fm, .int .i64 x, .bool false] w (.int .i64 ((fromW ff (n : Int) : Nat) : Int)) := by
  have e : fromW ff (n : Int) = ff.nearest false n 0 := by unfold FM.fromW; rw [decide_eq_false (by omega)]; rfl
  refine from_pos x false n _ _ (Or.inl rfl) (by rw [IntKind.wrap_u64]; exact h) (keep_word n) ?_ w
  intro w; rw [e]; exact round_one false n 0 (by simp only [W64]; omega) (by decide) (by decide) w
theorem trunc_nan0 (x wd m E : Int) (sgd s i : Bool) (ha : RL Tryz.prog 119 #[fm, .int .u64 x] (fv s i true m E)) (w : World) :
    RW Tryz.prog 66 #[fm, .int .u64 x, .int .i64 wd, .bool sgd] w (.tuple #[.int .i64 0, .int .i64 600]) := by
  go_enter Tryz.func66, Tryz.ntmps66
  go_wp2_with fail
  refine (ha.out _).mono ?_
  rintro e w' ⟨rfl, bs3, n3, rfl⟩
  go_wp2
  go_ret2
  exact ⟨rfl, (by repeat first | exact Lz _ | apply La | apply Lv | apply Ln | apply Ld)⟩
theorem trunc_inf0 (x wd m E : Int) (sgd s : Bool) (ha : RL Tryz.prog 119 #[fm, .int .u64 x] (fv s true false m E)) (w : World) :
    RW Tryz.prog 66 #[fm, .int .u64 x, .int .i64 wd, .bool sgd] w (.tuple #[.int .i64 0, .int .i64 601]) := by
  go_enter Tryz.func66, Tryz.ntmps66
  go_wp2_with fail
  refine (ha.out _).mono ?_
  rintro e w' ⟨rfl, bs4, n4, rfl⟩
  go_wp2
  go_ret2
  exact ⟨rfl, (by repeat first | exact Lz _ | apply La | apply Lv | apply Ln | apply Ld)⟩
theorem trunc_far (x wd l : Int) (m k : Nat) (sgd s : Bool) (ha : RL Tryz.prog 119 #[fm, .int .u64 x] (fv s false false m (k : Int))) (hl : Hid (∀ w : World, Calls Tryz.prog 120 #[.int .u64 (m : Int)] w fun e w' => e = .returned (.int .i64 l) ∧ w' = w)) (t : Int) (hs : IntKind.i64.wrap (l + (k : Int)) = t) (ht : ¬ t ≤ 64) (w : World) :
    RW Tryz.prog 66 #[fm, .int .u64 x, .int .i64 wd, .bool sgd] w (.tuple #[.int .i64 0, .int .i64 601]) := by
  go_enter Tryz.func66, Tryz.ntmps66
  go_wp2_with fail
  refine (ha.out _).mono ?_
  rintro e w' ⟨rfl, bs5, n5, rfl⟩
  go_wp2_with fail
  refine wp_region_quiet_far (by kernel_rfl) (by kernel_rfl) ?_
  repeat (quiet_step (first | (go_at_call 120; exact Calls.far_of_same (hl.out _))))
  refine wpQuiet_nil ?_
  rintro _ ⟨⟨bq6, nq6⟩, rfl⟩
  go_wp2
  go_ret2
  exact ⟨rfl, (by repeat first | exact Lz _ | apply La | apply Lv | apply Ln | apply Ld)⟩
theorem trunc_up_32sp_in (x l t : Int) (m k : Nat) (M : Int) (ha : RL Tryz.prog 119 #[fm, .int .u64 x] (fv false false false m (k : Int))) (hl : Hid (∀ w : World, Calls Tryz.prog 120 #[.int .u64 (m : Int)] w fun e w' => e = .returned (.int .i64 l) ∧ w' = w)) (hs : IntKind.i64.wrap (l + (k : Int)) = t) (ht : t ≤ 64) (hk : k ≤ 64) (hw : IntKind.u64.wrap ((m : Int) * 2 ^ k) = M) (hM : M ≤ 2147483647) (o1 : Int) (ho1 : IntKind.i64.wrap M = o1) (o3 : Int) (hlow : Hid (∀ w : World, Calls Tryz.prog 65 #[.int .i64 o1] w fun e w' => e = .returned (.int .i64 o3) ∧ w' = w)) (w : World) :
    RW Tryz.prog 66 #[fm, .int .u64 x, .int .i64 32, .bool true] w (.tuple #[.int .i64 o3, .int .i64 0]) := by
  go_enter Tryz.func66, Tryz.ntmps66
  go_wp2_with fail
  refine (ha.out _).mono ?_
  rintro e w' ⟨rfl, bs8, n8, rfl⟩
  go_wp2_with fail
  refine wp_region_quiet_far (by kernel_rfl) (by kernel_rfl) ?_
  repeat (quiet_step (first | (go_at_call 120; exact Calls.far_of_same (hl.out _))))
  refine wpQuiet_nil ?_
  rintro _ ⟨⟨bq7, nq7⟩, rfl⟩
  go_wp2_with fail
  refine (hlow.out _).mono ?_
  rintro e w' ⟨rfl, rfl⟩
  go_wp2
  go_ret2
  exact ⟨rfl, (by repeat first | exact Lz _ | apply La | apply Lv | apply Ln | apply Ld)⟩
theorem trunc_up_32sp_out (x l t : Int) (m k : Nat) (M : Int) (ha : RL Tryz.prog 119 #[fm, .int .u64 x] (fv false false false m (k : Int))) (hl : Hid (∀ w : World, Calls Tryz.prog 120 #[.int .u64 (m : Int)] w fun e w' => e = .returned (.int .i64 l) ∧ w' = w)) (hs : IntKind.i64.wrap (l + (k : Int)) = t) (ht : t ≤ 64) (hk : k ≤ 64) (hw : IntKind.u64.wrap ((m : Int) * 2 ^ k) = M) (hM : ¬ M ≤ 2147483647) (w : World) :
    RW Tryz.prog 66 #[fm, .int .u64 x, .int .i64 32, .bool true] w (.tuple #[.int .i64 0, .int .i64 601]) := by
  go_enter Tryz.func66, Tryz.ntmps66
  go_wp2_with fail
  refine (ha.out _).mono ?_
  rintro e w' ⟨rfl, bs10, n10, rfl⟩
  go_wp2_with fail
  refine wp_region_quiet_far (by kernel_rfl) (by kernel_rfl) ?_
  repeat (quiet_step (first | (go_at_call 120; exact Calls.far_of_same (hl.out _))))
  refine wpQuiet_nil ?_
  rintro _ ⟨⟨bq7, nq7⟩, rfl⟩
  go_wp2
  go_ret2
  exact ⟨rfl, (by repeat first | exact Lz _ | apply La | apply Lv | apply Ln | apply Ld)⟩
theorem trunc_up_32sn_in (x l t : Int) (m k : Nat) (M : Int) (ha : RL Tryz.prog 119 #[fm, .int .u64 x] (fv true false false m (k : Int))) (hl : Hid (∀ w : World, Calls Tryz.prog 120 #[.int .u64 (m : Int)] w fun e w' => e = .returned (.int .i64 l) ∧ w' = w)) (hs : IntKind.i64.wrap (l + (k : Int)) = t) (ht : t ≤ 64) (hk : k ≤ 64) (hw : IntKind.u64.wrap ((m : Int) * 2 ^ k) = M) (hM : M ≤ 2147483648) (o1 : Int) (ho1 : IntKind.i64.wrap M = o1) (o2 : Int) (ho2 : IntKind.i64.wrap (-o1) = o2) (o3 : Int) (hlow : Hid (∀ w : World, Calls Tryz.prog 65 #[.int .i64 o2] w fun e w' => e = .returned (.int .i64 o3) ∧ w' = w)) (w : World) :
    RW Tryz.prog 66 #[fm, .int .u64 x, .int .i64 32, .bool true] w (.tuple #[.int .i64 o3, .int .i64 0]) := by
  go_enter Tryz.func66, Tryz.ntmps66
  go_wp2_with fail
  refine (ha.out _).mono ?_
  rintro e w' ⟨rfl, bs11, n11, rfl⟩
  go_wp2_with fail
  refine wp_region_quiet_far (by kernel_rfl) (by kernel_rfl) ?_
  repeat (quiet_step (first | (go_at_call 120; exact Calls.far_of_same (hl.out _))))
  refine wpQuiet_nil ?_
  rintro _ ⟨⟨bq7, nq7⟩, rfl⟩
  go_wp2_with fail
  refine (hlow.out _).mono ?_
  rintro e w' ⟨rfl, rfl⟩
  go_wp2
  go_ret2
  exact ⟨rfl, (by repeat first | exact Lz _ | apply La | apply Lv | apply Ln | apply Ld)⟩
theorem trunc_up_32sn_out (x l t : Int) (m k : Nat) (M : Int) (ha : RL Tryz.prog 119 #[fm, .int .u64 x] (fv true false false m (k : Int))) (hl : Hid (∀ w : World, Calls Tryz.prog 120 #[.int .u64 (m : Int)] w fun e w' => e = .returned (.int .i64 l) ∧ w' = w)) (hs : IntKind.i64.wrap (l + (k : Int)) = t) (ht : t ≤ 64) (hk : k ≤ 64) (hw : IntKind.u64.wrap ((m : Int) * 2 ^ k) = M) (hM : ¬ M ≤ 2147483648) (w : World) :
    RW Tryz.prog 66 #[fm, .int .u64 x, .int .i64 32, .bool true] w (.tuple #[.int .i64 0, .int .i64 601]) := by
  go_enter Tryz.func66, Tryz.ntmps66
  go_wp2_with fail
  refine (ha.out _).mono ?_
  rintro e w' ⟨rfl, bs13, n13, rfl⟩
  go_wp2_with fail
  refine wp_region_quiet_far (by kernel_rfl) (by kernel_rfl) ?_
  repeat (quiet_step (first | (go_at_call 120; exact Calls.far_of_same (hl.out _))))
  refine wpQuiet_nil ?_
  rintro _ ⟨⟨bq7, nq7⟩, rfl⟩
  go_wp2
  go_ret2
  exact ⟨rfl, (by repeat first | exact Lz _ | apply La | apply Lv | apply Ln | apply Ld)⟩
theorem trunc_up_32up_in (x l t : Int) (m k : Nat) (M : Int) (ha : RL Tryz.prog 119 #[fm, .int .u64 x] (fv false false false m (k : Int))) (hl : Hid (∀ w : World, Calls Tryz.prog 120 #[.int .u64 (m : Int)] w fun e w' => e = .returned (.int .i64 l) ∧ w' = w)) (hs : IntKind.i64.wrap (l + (k : Int)) = t) (ht : t ≤ 64) (hk : k ≤ 64) (hw : IntKind.u64.wrap ((m : Int) * 2 ^ k) = M) (hM : M ≤ 4294967295) (o1 : Int) (ho1 : IntKind.i64.wrap M = o1) (o3 : Int) (hlow : Hid (∀ w : World, Calls Tryz.prog 65 #[.int .i64 o1] w fun e w' => e = .returned (.int .i64 o3) ∧ w' = w)) (w : World) :
    RW Tryz.prog 66 #[fm, .int .u64 x, .int .i64 32, .bool false] w (.tuple #[.int .i64 o3, .int .i64 0]) := by
  go_enter Tryz.func66, Tryz.ntmps66
  go_wp2_with fail
  refine (ha.out _).mono ?_
  rintro e w' ⟨rfl, bs14, n14, rfl⟩
  go_wp2_with fail
  refine wp_region_quiet_far (by kernel_rfl) (by kernel_rfl) ?_
  repeat (quiet_step (first | (go_at_call 120; exact Calls.far_of_same (hl.out _))))
  refine wpQuiet_nil ?_
  rintro _ ⟨⟨bq7, nq7⟩, rfl⟩
  go_wp2_with fail
  refine (hlow.out _).mono ?_
  rintro e w' ⟨rfl, rfl⟩
  go_wp2
  go_ret2
  exact ⟨rfl, (by repeat first | exact Lz _ | apply La | apply Lv | apply Ln | apply Ld)⟩
theorem trunc_up_32up_out (x l t : Int) (m k : Nat) (M : Int) (ha : RL Tryz.prog 119 #[fm, .int .u64 x] (fv false false false m (k : Int))) (hl : Hid (∀ w : World, Calls Tryz.prog 120 #[.int .u64 (m : Int)] w fun e w' => e = .returned (.int .i64 l) ∧ w' = w)) (hs : IntKind.i64.wrap (l + (k : Int)) = t) (ht : t ≤ 64) (hk : k ≤ 64) (hw : IntKind.u64.wrap ((m : Int) * 2 ^ k) = M) (hM : ¬ M ≤ 4294967295) (w : World) :
    RW Tryz.prog 66 #[fm, .int .u64 x, .int .i64 32, .bool false] w (.tuple #[.int .i64 0, .int .i64 601]) := by
  go_enter Tryz.func66, Tryz.ntmps66
  go_wp2_with fail
  refine (ha.out _).mono ?_
  rintro e w' ⟨rfl, bs16, n16, rfl⟩
  go_wp2_with fail
  refine wp_region_quiet_far (by kernel_rfl) (by kernel_rfl) ?_
  repeat (quiet_step (first | (go_at_call 120; exact Calls.far_of_same (hl.out _))))
  refine wpQuiet_nil ?_
  rintro _ ⟨⟨bq7, nq7⟩, rfl⟩
  go_wp2
  go_ret2
  exact ⟨rfl, (by repeat first | exact Lz _ | apply La | apply Lv | apply Ln | apply Ld)⟩
theorem trunc_up_32un_in (x l t : Int) (m k : Nat) (ha : RL Tryz.prog 119 #[fm, .int .u64 x] (fv true false false m (k : Int))) (hl : Hid (∀ w : World, Calls Tryz.prog 120 #[.int .u64 (m : Int)] w fun e w' => e = .returned (.int .i64 l) ∧ w' = w)) (hs : IntKind.i64.wrap (l + (k : Int)) = t) (ht : t ≤ 64) (hk : k ≤ 64) (hw : IntKind.u64.wrap ((m : Int) * 2 ^ k) = 0) (hlow : Hid (∀ w : World, Calls Tryz.prog 65 #[.int .i64 0] w fun e w' => e = .returned (.int .i64 0) ∧ w' = w)) (w : World) :
    RW Tryz.prog 66 #[fm, .int .u64 x, .int .i64 32, .bool false] w (.tuple #[.int .i64 0, .int .i64 0]) := by
  go_enter Tryz.func66, Tryz.ntmps66
  go_wp2_with fail
  refine (ha.out _).mono ?_
  rintro e w' ⟨rfl, bs17, n17, rfl⟩
  go_wp2_with fail
  refine wp_region_quiet_far (by kernel_rfl) (by kernel_rfl) ?_
  repeat (quiet_step (first | (go_at_call 120; exact Calls.far_of_same (hl.out _))))
  refine wpQuiet_nil ?_
  rintro _ ⟨⟨bq7, nq7⟩, rfl⟩
  go_wp2_with fail
  refine (hlow.out _).mono ?_
  rintro e w' ⟨rfl, rfl⟩
  go_wp2
  go_ret2
  exact ⟨rfl, (by repeat first | exact Lz _ | apply La | apply Lv | apply Ln | apply Ld)⟩
theorem trunc_up_32un_out (x l t : Int) (m k : Nat) (M : Int) (ha : RL Tryz.prog 119 #[fm, .int .u64 x] (fv true false false m (k : Int))) (hl : Hid (∀ w : World, Calls Tryz.prog 120 #[.int .u64 (m : Int)] w fun e w' => e = .returned (.int .i64 l) ∧ w' = w)) (hs : IntKind.i64.wrap (l + (k : Int)) = t) (ht : t ≤ 64) (hk : k ≤ 64) (hw : IntKind.u64.wrap ((m : Int) * 2 ^ k) = M) (hM : (M == 0) = false) (hM2 : ¬ M = 0) (w : World) :
    RW Tryz.prog 66 #[fm, .int .u64 x, .int .i64 32, .bool false] w (.tuple #[.int .i64 0, .int .i64 601]) := by
  go_enter Tryz.func66, Tryz.ntmps66
  go_wp2_with fail
  refine (ha.out _).mono ?_
  rintro e w' ⟨rfl, bs19, n19, rfl⟩
  go_wp2_with fail
  refine wp_region_quiet_far (by kernel_rfl) (by kernel_rfl) ?_
  repeat (quiet_step (first | (go_at_call 120; exact Calls.far_of_same (hl.out _))))
  refine wpQuiet_nil ?_
  rintro _ ⟨⟨bq7, nq7⟩, rfl⟩
  go_wp2
  go_ret2
  exact ⟨rfl, (by repeat first | exact Lz _ | apply La | apply Lv | apply Ln | apply Ld)⟩
theorem trunc_up_64sp_in (x l t : Int) (m k : Nat) (M : Int) (ha : RL Tryz.prog 119 #[fm, .int .u64 x] (fv false false false m (k : Int))) (hl : Hid (∀ w : World, Calls Tryz.prog 120 #[.int .u64 (m : Int)] w fun e w' => e = .returned (.int .i64 l) ∧ w' = w)) (hs : IntKind.i64.wrap (l + (k : Int)) = t) (ht : t ≤ 64) (hk : k ≤ 64) (hw : IntKind.u64.wrap ((m : Int) * 2 ^ k) = M) (hM : M ≤ 9223372036854775807) (o1 : Int) (ho1 : IntKind.i64.wrap M = o1) (w : World) :
    RW Tryz.prog 66 #[fm, .int .u64 x, .int .i64 64, .bool true] w (.tuple #[.int .i64 o1, .int .i64 0]) := by
  go_enter Tryz.func66, Tryz.ntmps66
  go_wp2_with fail
  refine (ha.out _).mono ?_
  rintro e w' ⟨rfl, bs20, n20, rfl⟩
  go_wp2_with fail
  refine wp_region_quiet_far (by kernel_rfl) (by kernel_rfl) ?_
  repeat (quiet_step (first | (go_at_call 120; exact Calls.far_of_same (hl.out _))))
  refine wpQuiet_nil ?_
  rintro _ ⟨⟨bq7, nq7⟩, rfl⟩
  go_wp2
  go_ret2
  exact ⟨rfl, (by repeat first | exact Lz _ | apply La | apply Lv | apply Ln | apply Ld)⟩
theorem trunc_up_64sp_out (x l t : Int) (m k : Nat) (M : Int) (ha : RL Tryz.prog 119 #[fm, .int .u64 x] (fv false false false m (k : Int))) (hl : Hid (∀ w : World, Calls Tryz.prog 120 #[.int .u64 (m : Int)] w fun e w' => e = .returned (.int .i64 l) ∧ w' = w)) (hs : IntKind.i64.wrap (l + (k : Int)) = t) (ht : t ≤ 64) (hk : k ≤ 64) (hw : IntKind.u64.wrap ((m : Int) * 2 ^ k) = M) (hM : ¬ M ≤ 9223372036854775807) (w : World) :
    RW Tryz.prog 66 #[fm, .int .u64 x, .int .i64 64, .bool true] w (.tuple #[.int .i64 0, .int .i64 601]) := by
  go_enter Tryz.func66, Tryz.ntmps66
  go_wp2_with fail
  refine (ha.out _).mono ?_
  rintro e w' ⟨rfl, bs21, n21, rfl⟩
  go_wp2_with fail
  refine wp_region_quiet_far (by kernel_rfl) (by kernel_rfl) ?_
  repeat (quiet_step (first | (go_at_call 120; exact Calls.far_of_same (hl.out _))))
  refine wpQuiet_nil ?_
  rintro _ ⟨⟨bq7, nq7⟩, rfl⟩
  go_wp2
  go_ret2
  exact ⟨rfl, (by repeat first | exact Lz _ | apply La | apply Lv | apply Ln | apply Ld)⟩
theorem trunc_up_64sn_in (x l t : Int) (m k : Nat) (M : Int) (ha : RL Tryz.prog 119 #[fm, .int .u64 x] (fv true false false m (k : Int))) (hl : Hid (∀ w : World, Calls Tryz.prog 120 #[.int .u64 (m : Int)] w fun e w' => e = .returned (.int .i64 l) ∧ w' = w)) (hs : IntKind.i64.wrap (l + (k : Int)) = t) (ht : t ≤ 64) (hk : k ≤ 64) (hw : IntKind.u64.wrap ((m : Int) * 2 ^ k) = M) (hM : M ≤ 9223372036854775808) (o1 : Int) (ho1 : IntKind.i64.wrap M = o1) (o2 : Int) (ho2 : IntKind.i64.wrap (-o1) = o2) (w : World) :
    RW Tryz.prog 66 #[fm, .int .u64 x, .int .i64 64, .bool true] w (.tuple #[.int .i64 o2, .int .i64 0]) := by
  go_enter Tryz.func66, Tryz.ntmps66
  go_wp2_with fail
  refine (ha.out _).mono ?_
  rintro e w' ⟨rfl, bs22, n22, rfl⟩
  go_wp2_with fail
  refine wp_region_quiet_far (by kernel_rfl) (by kernel_rfl) ?_
  repeat (quiet_step (first | (go_at_call 120; exact Calls.far_of_same (hl.out _))))
  refine wpQuiet_nil ?_
  rintro _ ⟨⟨bq7, nq7⟩, rfl⟩
  go_wp2
  go_ret2
  exact ⟨rfl, (by repeat first | exact Lz _ | apply La | apply Lv | apply Ln | apply Ld)⟩
theorem trunc_up_64sn_out (x l t : Int) (m k : Nat) (M : Int) (ha : RL Tryz.prog 119 #[fm, .int .u64 x] (fv true false false m (k : Int))) (hl : Hid (∀ w : World, Calls Tryz.prog 120 #[.int .u64 (m : Int)] w fun e w' => e = .returned (.int .i64 l) ∧ w' = w)) (hs : IntKind.i64.wrap (l + (k : Int)) = t) (ht : t ≤ 64) (hk : k ≤ 64) (hw : IntKind.u64.wrap ((m : Int) * 2 ^ k) = M) (hM : ¬ M ≤ 9223372036854775808) (w : World) :
    RW Tryz.prog 66 #[fm, .int .u64 x, .int .i64 64, .bool true] w (.tuple #[.int .i64 0, .int .i64 601]) := by
  go_enter Tryz.func66, Tryz.ntmps66
  go_wp2_with fail
  refine (ha.out _).mono ?_
  rintro e w' ⟨rfl, bs23, n23, rfl⟩
  go_wp2_with fail
  refine wp_region_quiet_far (by kernel_rfl) (by kernel_rfl) ?_
  repeat (quiet_step (first | (go_at_call 120; exact Calls.far_of_same (hl.out _))))
  refine wpQuiet_nil ?_
  rintro _ ⟨⟨bq7, nq7⟩, rfl⟩
  go_wp2
  go_ret2
  exact ⟨rfl, (by repeat first | exact Lz _ | apply La | apply Lv | apply Ln | apply Ld)⟩
theorem trunc_up_64up_in (x l t : Int) (m k : Nat) (M : Int) (ha : RL Tryz.prog 119 #[fm, .int .u64 x] (fv false false false m (k : Int))) (hl : Hid (∀ w : World, Calls Tryz.prog 120 #[.int .u64 (m : Int)] w fun e w' => e = .returned (.int .i64 l) ∧ w' = w)) (hs : IntKind.i64.wrap (l + (k : Int)) = t) (ht : t ≤ 64) (hk : k ≤ 64) (hw : IntKind.u64.wrap ((m : Int) * 2 ^ k) = M) (o1 : Int) (ho1 : IntKind.i64.wrap M = o1) (w : World) :
    RW Tryz.prog 66 #[fm, .int .u64 x, .int .i64 64, .bool false] w (.tuple #[.int .i64 o1, .int .i64 0]) := by
  go_enter Tryz.func66, Tryz.ntmps66
  go_wp2_with fail
  refine (ha.out _).mono ?_
  rintro e w' ⟨rfl, bs24, n24, rfl⟩
  go_wp2_with fail
  refine wp_region_quiet_far (by kernel_rfl) (by kernel_rfl) ?_
  repeat (quiet_step (first | (go_at_call 120; exact Calls.far_of_same (hl.out _))))
  refine wpQuiet_nil ?_
  rintro _ ⟨⟨bq7, nq7⟩, rfl⟩
  go_wp2
  go_ret2
  exact ⟨rfl, (by repeat first | exact Lz _ | apply La | apply Lv | apply Ln | apply Ld)⟩
theorem trunc_up_64un_in (x l t : Int) (m k : Nat) (ha : RL Tryz.prog 119 #[fm, .int .u64 x] (fv true false false m (k : Int))) (hl : Hid (∀ w : World, Calls Tryz.prog 120 #[.int .u64 (m : Int)] w fun e w' => e = .returned (.int .i64 l) ∧ w' = w)) (hs : IntKind.i64.wrap (l + (k : Int)) = t) (ht : t ≤ 64) (hk : k ≤ 64) (hw : IntKind.u64.wrap ((m : Int) * 2 ^ k) = 0) (w : World) :
    RW Tryz.prog 66 #[fm, .int .u64 x, .int .i64 64, .bool false] w (.tuple #[.int .i64 0, .int .i64 0]) := by
  go_enter Tryz.func66, Tryz.ntmps66
  go_wp2_with fail
  refine (ha.out _).mono ?_
  rintro e w' ⟨rfl, bs25, n25, rfl⟩
  go_wp2_with fail
  refine wp_region_quiet_far (by kernel_rfl) (by kernel_rfl) ?_
  repeat (quiet_step (first | (go_at_call 120; exact Calls.far_of_same (hl.out _))))
  refine wpQuiet_nil ?_
  rintro _ ⟨⟨bq7, nq7⟩, rfl⟩
  go_wp2
  go_ret2
  exact ⟨rfl, (by repeat first | exact Lz _ | apply La | apply Lv | apply Ln | apply Ld)⟩
theorem trunc_up_64un_out (x l t : Int) (m k : Nat) (M : Int) (ha : RL Tryz.prog 119 #[fm, .int .u64 x] (fv true false false m (k : Int))) (hl : Hid (∀ w : World, Calls Tryz.prog 120 #[.int .u64 (m : Int)] w fun e w' => e = .returned (.int .i64 l) ∧ w' = w)) (hs : IntKind.i64.wrap (l + (k : Int)) = t) (ht : t ≤ 64) (hk : k ≤ 64) (hw : IntKind.u64.wrap ((m : Int) * 2 ^ k) = M) (hM : (M == 0) = false) (hM2 : ¬ M = 0) (w : World) :
    RW Tryz.prog 66 #[fm, .int .u64 x, .int .i64 64, .bool false] w (.tuple #[.int .i64 0, .int .i64 601]) := by
  go_enter Tryz.func66, Tryz.ntmps66
  go_wp2_with fail
  refine (ha.out _).mono ?_
  rintro e w' ⟨rfl, bs26, n26, rfl⟩
  go_wp2_with fail
  refine wp_region_quiet_far (by kernel_rfl) (by kernel_rfl) ?_
  repeat (quiet_step (first | (go_at_call 120; exact Calls.far_of_same (hl.out _))))
  refine wpQuiet_nil ?_
  rintro _ ⟨⟨bq7, nq7⟩, rfl⟩
  go_wp2
  go_ret2
  exact ⟨rfl, (by repeat first | exact Lz _ | apply La | apply Lv | apply Ln | apply Ld)⟩
theorem trunc_dn_32sp_in (x l t : Int) (m k : Nat) (M : Int) (p nb A c : Int) (ha : RL Tryz.prog 119 #[fm, .int .u64 x] (fv false false false m p)) (hp : ¬ 0 ≤ p) (hnb : IntKind.i64.wrap (-p) = nb) (hd : RL Tryz.prog 121 #[.int .u64 0, .int .u64 (m : Int), .int .i64 nb] (.tuple #[.int .u64 A, .int .u64 M, .int .i64 c])) (hM : M ≤ 2147483647) (o1 : Int) (ho1 : IntKind.i64.wrap M = o1) (o3 : Int) (hlow : Hid (∀ w : World, Calls Tryz.prog 65 #[.int .i64 o1] w fun e w' => e = .returned (.int .i64 o3) ∧ w' = w)) (w : World) :
    RW Tryz.prog 66 #[fm, .int .u64 x, .int .i64 32, .bool true] w (.tuple #[.int .i64 o3, .int .i64 0]) := by
  go_enter Tryz.func66, Tryz.ntmps66
  go_wp2_with fail
  refine (ha.out _).mono ?_
  rintro e w' ⟨rfl, bs27, n27, rfl⟩
  go_wp2_with fail
  refine (hd.out _).mono ?_
  rintro e w' ⟨rfl, bs28, n28, rfl⟩
  go_wp2_with fail
  refine (hlow.out _).mono ?_
  rintro e w' ⟨rfl, rfl⟩
  go_wp2
  go_ret2
  exact ⟨rfl, (by repeat first | exact Lz _ | apply La | apply Lv | apply Ln | apply Ld)⟩
theorem trunc_dn_32sp_out (x l t : Int) (m k : Nat) (M : Int) (p nb A c : Int) (ha : RL Tryz.prog 119 #[fm, .int .u64 x] (fv false false false m p)) (hp : ¬ 0 ≤ p) (hnb : IntKind.i64.wrap (-p) = nb) (hd : RL Tryz.prog 121 #[.int .u64 0, .int .u64 (m : Int), .int .i64 nb] (.tuple #[.int .u64 A, .int .u64 M, .int .i64 c])) (hM : ¬ M ≤ 2147483647) (w : World) :
    RW Tryz.prog 66 #[fm, .int .u64 x, .int .i64 32, .bool true] w (.tuple #[.int .i64 0, .int .i64 601]) := by
  go_enter Tryz.func66, Tryz.ntmps66
  go_wp2_with fail
  refine (ha.out _).mono ?_
  rintro e w' ⟨rfl, bs30, n30, rfl⟩
  go_wp2_with fail
  refine (hd.out _).mono ?_
  rintro e w' ⟨rfl, bs31, n31, rfl⟩
  go_wp2
  go_ret2
  exact ⟨rfl, (by repeat first | exact Lz _ | apply La | apply Lv | apply Ln | apply Ld)⟩
theorem trunc_dn_32sn_in (x l t : Int) (m k : Nat) (M : Int) (p nb A c : Int) (ha : RL Tryz.prog 119 #[fm, .int .u64 x] (fv true false false m p)) (hp : ¬ 0 ≤ p) (hnb : IntKind.i64.wrap (-p) = nb) (hd : RL Tryz.prog 121 #[.int .u64 0, .int .u64 (m : Int), .int .i64 nb] (.tuple #[.int .u64 A, .int .u64 M, .int .i64 c])) (hM : M ≤ 2147483648) (o1 : Int) (ho1 : IntKind.i64.wrap M = o1) (o2 : Int) (ho2 : IntKind.i64.wrap (-o1) = o2) (o3 : Int) (hlow : Hid (∀ w : World, Calls Tryz.prog 65 #[.int .i64 o2] w fun e w' => e = .returned (.int .i64 o3) ∧ w' = w)) (w : World) :
    RW Tryz.prog 66 #[fm, .int .u64 x, .int .i64 32, .bool true] w (.tuple #[.int .i64 o3, .int .i64 0]) := by
  go_enter Tryz.func66, Tryz.ntmps66
  go_wp2_with fail
  refine (ha.out _).mono ?_
  rintro e w' ⟨rfl, bs32, n32, rfl⟩
  go_wp2_with fail
  refine (hd.out _).mono ?_
  rintro e w' ⟨rfl, bs33, n33, rfl⟩
  go_wp2_with fail
  refine (hlow.out _).mono ?_
  rintro e w' ⟨rfl, rfl⟩
  go_wp2
  go_ret2
  exact ⟨rfl, (by repeat first | exact Lz _ | apply La | apply Lv | apply Ln | apply Ld)⟩
theorem trunc_dn_32sn_out (x l t : Int) (m k : Nat) (M : Int) (p nb A c : Int) (ha : RL Tryz.prog 119 #[fm, .int .u64 x] (fv true false false m p)) (hp : ¬ 0 ≤ p) (hnb : IntKind.i64.wrap (-p) = nb) (hd : RL Tryz.prog 121 #[.int .u64 0, .int .u64 (m : Int), .int .i64 nb] (.tuple #[.int .u64 A, .int .u64 M, .int .i64 c])) (hM : ¬ M ≤ 2147483648) (w : World) :
    RW Tryz.prog 66 #[fm, .int .u64 x, .int .i64 32, .bool true] w (.tuple #[.int .i64 0, .int .i64 601]) := by
  go_enter Tryz.func66, Tryz.ntmps66
  go_wp2_with fail
  refine (ha.out _).mono ?_
  rintro e w' ⟨rfl, bs35, n35, rfl⟩
  go_wp2_with fail
  refine (hd.out _).mono ?_
  rintro e w' ⟨rfl, bs36, n36, rfl⟩
  go_wp2
  go_ret2
  exact ⟨rfl, (by repeat first | exact Lz _ | apply La | apply Lv | apply Ln | apply Ld)⟩
theorem trunc_dn_32up_in (x l t : Int) (m k : Nat) (M : Int) (p nb A c : Int) (ha : RL Tryz.prog 119 #[fm, .int .u64 x] (fv false false false m p)) (hp : ¬ 0 ≤ p) (hnb : IntKind.i64.wrap (-p) = nb) (hd : RL Tryz.prog 121 #[.int .u64 0, .int .u64 (m : Int), .int .i64 nb] (.tuple #[.int .u64 A, .int .u64 M, .int .i64 c])) (hM : M ≤ 4294967295) (o1 : Int) (ho1 : IntKind.i64.wrap M = o1) (o3 : Int) (hlow : Hid (∀ w : World, Calls Tryz.prog 65 #[.int .i64 o1] w fun e w' => e = .returned (.int .i64 o3) ∧ w' = w)) (w : World) :
    RW Tryz.prog 66 #[fm, .int .u64 x, .int .i64 32, .bool false] w (.tuple #[.int .i64 o3, .int .i64 0]) := by
  go_enter Tryz.func66, Tryz.ntmps66
  go_wp2_with fail
  refine (ha.out _).mono ?_
  rintro e w' ⟨rfl, bs37, n37, rfl⟩
  go_wp2_with fail
  refine (hd.out _).mono ?_
  rintro e w' ⟨rfl, bs38, n38, rfl⟩
  go_wp2_with fail
  refine (hlow.out _).mono ?_
  rintro e w' ⟨rfl, rfl⟩
  go_wp2
  go_ret2
  exact ⟨rfl, (by repeat first | exact Lz _ | apply La | apply Lv | apply Ln | apply Ld)⟩
theorem trunc_dn_32up_out (x l t : Int) (m k : Nat) (M : Int) (p nb A c : Int) (ha : RL Tryz.prog 119 #[fm, .int .u64 x] (fv false false false m p)) (hp : ¬ 0 ≤ p) (hnb : IntKind.i64.wrap (-p) = nb) (hd : RL Tryz.prog 121 #[.int .u64 0, .int .u64 (m : Int), .int .i64 nb] (.tuple #[.int .u64 A, .int .u64 M, .int .i64 c])) (hM : ¬ M ≤ 4294967295) (w : World) :
    RW Tryz.prog 66 #[fm, .int .u64 x, .int .i64 32, .bool false] w (.tuple #[.int .i64 0, .int .i64 601]) := by
  go_enter Tryz.func66, Tryz.ntmps66
  go_wp2_with fail
  refine (ha.out _).mono ?_
  rintro e w' ⟨rfl, bs40, n40, rfl⟩
  go_wp2_with fail
  refine (hd.out _).mono ?_
  rintro e w' ⟨rfl, bs41, n41, rfl⟩
  go_wp2
  go_ret2
  exact ⟨rfl, (by repeat first | exact Lz _ | apply La | apply Lv | apply Ln | apply Ld)⟩
theorem trunc_dn_32un_in (x l t : Int) (m k : Nat) (p nb A c : Int) (ha : RL Tryz.prog 119 #[fm, .int .u64 x] (fv true false false m p)) (hp : ¬ 0 ≤ p) (hnb : IntKind.i64.wrap (-p) = nb) (hd : RL Tryz.prog 121 #[.int .u64 0, .int .u64 (m : Int), .int .i64 nb] (.tuple #[.int .u64 A, .int .u64 0, .int .i64 c])) (hlow : Hid (∀ w : World, Calls Tryz.prog 65 #[.int .i64 0] w fun e w' => e = .returned (.int .i64 0) ∧ w' = w)) (w : World) :
    RW Tryz.prog 66 #[fm, .int .u64 x, .int .i64 32, .bool false] w (.tuple #[.int .i64 0, .int .i64 0]) := by
  go_enter Tryz.func66, Tryz.ntmps66
  go_wp2_with fail
  refine (ha.out _).mono ?_
  rintro e w' ⟨rfl, bs42, n42, rfl⟩
  go_wp2_with fail
  refine (hd.out _).mono ?_
  rintro e w' ⟨rfl, bs43, n43, rfl⟩
  go_wp2_with fail
  refine (hlow.out _).mono ?_
  rintro e w' ⟨rfl, rfl⟩
  go_wp2
  go_ret2
  exact ⟨rfl, (by repeat first | exact Lz _ | apply La | apply Lv | apply Ln | apply Ld)⟩
theorem trunc_dn_32un_out (x l t : Int) (m k : Nat) (M : Int) (p nb A c : Int) (ha : RL Tryz.prog 119 #[fm, .int .u64 x] (fv true false false m p)) (hp : ¬ 0 ≤ p) (hnb : IntKind.i64.wrap (-p) = nb) (hd : RL Tryz.prog 121 #[.int .u64 0, .int .u64 (m : Int), .int .i64 nb] (.tuple #[.int .u64 A, .int .u64 M, .int .i64 c])) (hM : (M == 0) = false) (hM2 : ¬ M = 0) (w : World) :
    RW Tryz.prog 66 #[fm, .int .u64 x, .int .i64 32, .bool false] w (.tuple #[.int .i64 0, .int .i64 601]) := by
  go_enter Tryz.func66, Tryz.ntmps66
  go_wp2_with fail
  refine (ha.out _).mono ?_
  rintro e w' ⟨rfl, bs45, n45, rfl⟩
  go_wp2_with fail
  refine (hd.out _).mono ?_
  rintro e w' ⟨rfl, bs46, n46, rfl⟩
  go_wp2
  go_ret2
  exact ⟨rfl, (by repeat first | exact Lz _ | apply La | apply Lv | apply Ln | apply Ld)⟩
theorem trunc_dn_64sp_in (x l t : Int) (m k : Nat) (M : Int) (p nb A c : Int) (ha : RL Tryz.prog 119 #[fm, .int .u64 x] (fv false false false m p)) (hp : ¬ 0 ≤ p) (hnb : IntKind.i64.wrap (-p) = nb) (hd : RL Tryz.prog 121 #[.int .u64 0, .int .u64 (m : Int), .int .i64 nb] (.tuple #[.int .u64 A, .int .u64 M, .int .i64 c])) (hM : M ≤ 9223372036854775807) (o1 : Int) (ho1 : IntKind.i64.wrap M = o1) (w : World) :
    RW Tryz.prog 66 #[fm, .int .u64 x, .int .i64 64, .bool true] w (.tuple #[.int .i64 o1, .int .i64 0]) := by
  go_enter Tryz.func66, Tryz.ntmps66
  go_wp2_with fail
  refine (ha.out _).mono ?_
  rintro e w' ⟨rfl, bs47, n47, rfl⟩
  go_wp2_with fail
  refine (hd.out _).mono ?_
  rintro e w' ⟨rfl, bs48, n48, rfl⟩
  go_wp2
  go_ret2
  exact ⟨rfl, (by repeat first | exact Lz _ | apply La | apply Lv | apply Ln | apply Ld)⟩
theorem trunc_dn_64sp_out (x l t : Int) (m k : Nat) (M : Int) (p nb A c : Int) (ha : RL Tryz.prog 119 #[fm, .int .u64 x] (fv false false false m p)) (hp : ¬ 0 ≤ p) (hnb : IntKind.i64.wrap (-p) = nb) (hd : RL Tryz.prog 121 #[.int .u64 0, .int .u64 (m : Int), .int .i64 nb] (.tuple #[.int .u64 A, .int .u64 M, .int .i64 c])) (hM : ¬ M ≤ 9223372036854775807) (w : World) :
    RW Tryz.prog 66 #[fm, .int .u64 x, .int .i64 64, .bool true] w (.tuple #[.int .i64 0, .int .i64 601]) := by
  go_enter Tryz.func66, Tryz.ntmps66
  go_wp2_with fail
  refine (ha.out _).mono ?_
  rintro e w' ⟨rfl, bs49, n49, rfl⟩
  go_wp2_with fail
  refine (hd.out _).mono ?_
  rintro e w' ⟨rfl, bs50, n50, rfl⟩
  go_wp2
  go_ret2
  exact ⟨rfl, (by repeat first | exact Lz _ | apply La | apply Lv | apply Ln | apply Ld)⟩
theorem trunc_dn_64sn_in (x l t : Int) (m k : Nat) (M : Int) (p nb A c : Int) (ha : RL Tryz.prog 119 #[fm, .int .u64 x] (fv true false false m p)) (hp : ¬ 0 ≤ p) (hnb : IntKind.i64.wrap (-p) = nb) (hd : RL Tryz.prog 121 #[.int .u64 0, .int .u64 (m : Int), .int .i64 nb] (.tuple #[.int .u64 A, .int .u64 M, .int .i64 c])) (hM : M ≤ 9223372036854775808) (o1 : Int) (ho1 : IntKind.i64.wrap M = o1) (o2 : Int) (ho2 : IntKind.i64.wrap (-o1) = o2) (w : World) :
    RW Tryz.prog 66 #[fm, .int .u64 x, .int .i64 64, .bool true] w (.tuple #[.int .i64 o2, .int .i64 0]) := by
  go_enter Tryz.func66, Tryz.ntmps66
  go_wp2_with fail
  refine (ha.out _).mono ?_
  rintro e w' ⟨rfl, bs51, n51, rfl⟩
  go_wp2_with fail
  refine (hd.out _).mono ?_
  rintro e w' ⟨rfl, bs52, n52, rfl⟩
  go_wp2
  go_ret2
  exact ⟨rfl, (by repeat first | exact Lz _ | apply La | apply Lv | apply Ln | apply Ld)⟩
theorem trunc_dn_64sn_out (x l t : Int) (m k : Nat) (M : Int) (p nb A c : Int) (ha : RL Tryz.prog 119 #[fm, .int .u64 x] (fv true false false m p)) (hp : ¬ 0 ≤ p) (hnb : IntKind.i64.wrap (-p) = nb) (hd : RL Tryz.prog 121 #[.int .u64 0, .int .u64 (m : Int), .int .i64 nb] (.tuple #[.int .u64 A, .int .u64 M, .int .i64 c])) (hM : ¬ M ≤ 9223372036854775808) (w : World) :
    RW Tryz.prog 66 #[fm, .int .u64 x, .int .i64 64, .bool true] w (.tuple #[.int .i64 0, .int .i64 601]) := by
  go_enter Tryz.func66, Tryz.ntmps66
  go_wp2_with fail
  refine (ha.out _).mono ?_
  rintro e w' ⟨rfl, bs53, n53, rfl⟩
  go_wp2_with fail
  refine (hd.out _).mono ?_
  rintro e w' ⟨rfl, bs54, n54, rfl⟩
  go_wp2
  go_ret2
  exact ⟨rfl, (by repeat first | exact Lz _ | apply La | apply Lv | apply Ln | apply Ld)⟩
theorem trunc_dn_64up_in (x l t : Int) (m k : Nat) (M : Int) (p nb A c : Int) (ha : RL Tryz.prog 119 #[fm, .int .u64 x] (fv false false false m p)) (hp : ¬ 0 ≤ p) (hnb : IntKind.i64.wrap (-p) = nb) (hd : RL Tryz.prog 121 #[.int .u64 0, .int .u64 (m : Int), .int .i64 nb] (.tuple #[.int .u64 A, .int .u64 M, .int .i64 c])) (o1 : Int) (ho1 : IntKind.i64.wrap M = o1) (w : World) :
    RW Tryz.prog 66 #[fm, .int .u64 x, .int .i64 64, .bool false] w (.tuple #[.int .i64 o1, .int .i64 0]) := by
  go_enter Tryz.func66, Tryz.ntmps66
  go_wp2_with fail
  refine (ha.out _).mono ?_
  rintro e w' ⟨rfl, bs55, n55, rfl⟩
  go_wp2_with fail
  refine (hd.out _).mono ?_
  rintro e w' ⟨rfl, bs56, n56, rfl⟩
  go_wp2
  go_ret2
  exact ⟨rfl, (by repeat first | exact Lz _ | apply La | apply Lv | apply Ln | apply Ld)⟩
theorem trunc_dn_64un_in (x l t : Int) (m k : Nat) (p nb A c : Int) (ha : RL Tryz.prog 119 #[fm, .int .u64 x] (fv true false false m p)) (hp : ¬ 0 ≤ p) (hnb : IntKind.i64.wrap (-p) = nb) (hd : RL Tryz.prog 121 #[.int .u64 0, .int .u64 (m : Int), .int .i64 nb] (.tuple #[.int .u64 A, .int .u64 0, .int .i64 c])) (w : World) :
    RW Tryz.prog 66 #[fm, .int .u64 x, .int .i64 64, .bool false] w (.tuple #[.int .i64 0, .int .i64 0]) := by
  go_enter Tryz.func66, Tryz.ntmps66
  go_wp2_with fail
  refine (ha.out _).mono ?_
  rintro e w' ⟨rfl, bs57, n57, rfl⟩
  go_wp2_with fail
  refine (hd.out _).mono ?_
  rintro e w' ⟨rfl, bs58, n58, rfl⟩
  go_wp2
  go_ret2
  exact ⟨rfl, (by repeat first | exact Lz _ | apply La | apply Lv | apply Ln | apply Ld)⟩
theorem trunc_dn_64un_out (x l t : Int) (m k : Nat) (M : Int) (p nb A c : Int) (ha : RL Tryz.prog 119 #[fm, .int .u64 x] (fv true false false m p)) (hp : ¬ 0 ≤ p) (hnb : IntKind.i64.wrap (-p) = nb) (hd : RL Tryz.prog 121 #[.int .u64 0, .int .u64 (m : Int), .int .i64 nb] (.tuple #[.int .u64 A, .int .u64 M, .int .i64 c])) (hM : (M == 0) = false) (hM2 : ¬ M = 0) (w : World) :
    RW Tryz.prog 66 #[fm, .int .u64 x, .int .i64 64, .bool false] w (.tuple #[.int .i64 0, .int .i64 601]) := by
  go_enter Tryz.func66, Tryz.ntmps66
  go_wp2_with fail
  refine (ha.out _).mono ?_
  rintro e w' ⟨rfl, bs59, n59, rfl⟩
  go_wp2_with fail
  refine (hd.out _).mono ?_
  rintro e w' ⟨rfl, bs60, n60, rfl⟩
  go_wp2
  go_ret2
  exact ⟨rfl, (by repeat first | exact Lz _ | apply La | apply Lv | apply Ln | apply Ld)⟩
end Go.Proofs.YtdfgcagbpndabaaGreatDoor.S
namespace Go.Proofs.YtdfgcagbpndabaaGreatDoor.S
open Go.RowKit
open Go.FM (W64 two bl lost isN qn sw otherW fromW truncI tcut tval fits bitsI ofI)
theorem truth_true (w : World) :
    Calls Tryz.prog 72 #[.bool true] w fun e w' => e = .returned (.int .i64 1) ∧ w' = w := by
  go_enter Tryz.func72, Tryz.ntmps72
  go_wp2
  go_ret
  exact ⟨rfl, rfl⟩
theorem down_nil (k : Int) (hk : 128 < k) (w : World) :
    RW Tryz.prog 121 #[.int .u64 0, .int .u64 0, .int .i64 k] w (.tuple #[.int .u64 0, .int .u64 0, .int .i64 2]) := by
  have hz : (bits .or .u64 0 0 == 0) = true := by decide
  go_enter Tryz.func121, Tryz.ntmps121
  go_wp2_with (go_at_call 72; refine (truth_true _).mono ?_; rintro e w' ⟨rfl, rfl⟩)
  first
    | (go_ret3; exact ⟨rfl, Later.refl _⟩)
    | (refine wp_region_quiet_far (by kernel_rfl) (by kernel_rfl) ?_
       repeat (quiet_step ((go_at_call 72; exact Calls.far_of_same (truth_true _))))
       refine wpQuiet_nil ?_
       rintro _ ⟨⟨bs, n⟩, rfl⟩
       go_wp2
       go_ret3
       exact ⟨rfl, (Later.refl _).far⟩)
theorem down_word (m d : Nat) (hml : m < 16777216) (hd : 0 < d) : ∃ A c : Int, RL Tryz.prog 121 #[.int .u64 0, .int .u64 (m : Int), .int .i64 (d : Nat)] (.tuple #[.int .u64 A, .int .u64 ((m / 2 ^ d : Nat) : Int), .int .i64 c]) := by
  have hmw : m < W64 := by simp only [W64]; omega
  have htw : two 0 m = m := two_one m
  obtain ⟨k, rfl⟩ : ∃ k, d = k + 1 := ⟨d - 1, by omega⟩
  rcases Nat.lt_or_ge k 128 with h | h
  · exact ⟨0, lost m (k + 1), fun w => down_mid 0 m k _ _ (by decide) hmw h (by rw [htw]) (Nat.lt_of_le_of_lt (Nat.div_le_self _ _) hmw) (by rw [htw]) w⟩
  · have hp : m < 2 ^ (k + 1) := by
      have : 2 ^ 65 ≤ 2 ^ (k + 1) := Nat.pow_le_pow_right (by decide) (by omega)
      simp only [W64] at hmw
      omega
    rw [Nat.div_eq_of_lt hp]
    by_cases hm : m = 0
    · subst hm
      exact ⟨0, 2, fun w => down_nil _ (by omega) w⟩
    · exact ⟨0, -1, fun w => down_far 0 m _ (by omega) (or_ne 0 m (by decide) hmw (by rw [htw]; exact hm)) w⟩
theorem rlow_any (x : Int) (w : World) :
    Calls Tryz.prog 65 #[.int .i64 x] w fun e w' => e = .returned (.int .i64 (x % 4294967296)) ∧ w' = w := by
  go_enter Tryz.func65, Tryz.ntmps65
  have hm : bits .and .i64 x 4294967295 = x % 4294967296 := MI.and_mask x 32 (by decide)
  go_wp2
  go_ret
  exact ⟨rfl, rfl⟩
theorem plc_topV (r : Nat) (h : r < ff.infRung) : FM.plc ff r ≤ 104 := by
  unfold FM.plc
  rw [ff_least, ff_bin]
  rw [ff_inf] at h
  split
  · omega
  · omega
theorem w_neg (M : Nat) : IntKind.i64.wrap (-(IntKind.i64.wrap (M : Int))) = bitsI 64 (-(M : Int)) := by
  rw [FM.bits_64, IntKind.wrap_i64, IntKind.wrap_i64]; omega
theorem w_pos (M : Nat) : IntKind.i64.wrap (M : Int) = bitsI 64 (M : Int) := by
  rw [FM.bits_64, IntKind.wrap_i64]
theorem l_neg (M : Nat) : IntKind.i64.wrap (-(IntKind.i64.wrap (M : Int))) % 4294967296 = bitsI 32 (-(M : Int)) := by
  rw [FM.bits_32, IntKind.wrap_i64, IntKind.wrap_i64]; omega
theorem l_pos (M : Nat) : IntKind.i64.wrap (M : Int) % 4294967296 = bitsI 32 (M : Int) := by
  rw [FM.bits_32, IntKind.wrap_i64]; omega
theorem beq_noV {m : Int} (h : m ≠ 0) : (m == 0) = false ∧ ¬ m = 0 := ⟨by rw [beq_eq_false_iff_ne]; exact h, h⟩
theorem fin_up_32s (x m k : Nat) (s : Bool) (M : Nat) (ha : RL Tryz.prog 119 #[fm, .int .u64 (x : Int)] (fv s false false m (k : Int))) (hm : m < W64) (hk : k ≤ 64) (hb : bl m + k ≤ 64) (hM : m * 2 ^ k = M) (hMl : M < W64) (w : World) :
    RW Tryz.prog 66 #[fm, .int .u64 (x : Int), .int .i64 32, .bool true] w (.tuple #[.int .i64 (if fits 32 true (FM.key s M) = true then bitsI 32 (FM.key s M) else 0), .int .i64 (if fits 32 true (FM.key s M) = true then 0 else 601)]) := by
  simp only [W64] at hMl
  have hl : Hid (∀ w : World, Calls Tryz.prog 120 #[.int .u64 (m : Int)] w fun e w' => e = .returned (.int .i64 ((bl m : Nat) : Int)) ∧ w' = w) := fun w => len_any m hm w
  have hs : IntKind.i64.wrap (((bl m : Nat) : Int) + (k : Int)) = ((bl m + k : Nat) : Int) := by rw [IntKind.wrap_i64]; omega
  have ht : ((bl m + k : Nat) : Int) ≤ 64 := by omega
  have hw : IntKind.u64.wrap ((m : Int) * 2 ^ k) = (M : Int) := by
    have e : (m : Int) * 2 ^ k = ((m * 2 ^ k : Nat) : Int) := by rw [Int.natCast_mul, Int.natCast_pow]; rfl
    rw [e, hM, IntKind.wrap_u64]; omega
  have hf := FM.fits_32s (FM.key s M)
  cases s
  all_goals unfold FM.key at *
  all_goals simp only [if_true, if_false, Bool.false_eq_true] at *
  · by_cases h : M ≤ 2147483647
    · have h2 := hf.2 (by omega)
      rw [if_pos h2, if_pos h2, ← l_pos]
      exact trunc_up_32sp_in x _ _ m k _ ha hl hs ht hk hw (by omega) _ rfl _ (fun w => rlow_any _ w) w
    · have h2 := mt hf.1 (by omega)
      rw [if_neg h2, if_neg h2]
      exact trunc_up_32sp_out x _ _ m k _ ha hl hs ht hk hw (by omega) w
  · by_cases h : M ≤ 2147483648
    · have h2 := hf.2 (by omega)
      rw [if_pos h2, if_pos h2, ← l_neg]
      exact trunc_up_32sn_in x _ _ m k _ ha hl hs ht hk hw (by omega) _ rfl _ rfl _ (fun w => rlow_any _ w) w
    · have h2 := mt hf.1 (by omega)
      rw [if_neg h2, if_neg h2]
      exact trunc_up_32sn_out x _ _ m k _ ha hl hs ht hk hw (by omega) w
theorem fin_up_32u (x m k : Nat) (s : Bool) (M : Nat) (ha : RL Tryz.prog 119 #[fm, .int .u64 (x : Int)] (fv s false false m (k : Int))) (hm : m < W64) (hk : k ≤ 64) (hb : bl m + k ≤ 64) (hM : m * 2 ^ k = M) (hMl : M < W64) (w : World) :
    RW Tryz.prog 66 #[fm, .int .u64 (x : Int), .int .i64 32, .bool false] w (.tuple #[.int .i64 (if fits 32 false (FM.key s M) = true then bitsI 32 (FM.key s M) else 0), .int .i64 (if fits 32 false (FM.key s M) = true then 0 else 601)]) := by
  simp only [W64] at hMl
  have hl : Hid (∀ w : World, Calls Tryz.prog 120 #[.int .u64 (m : Int)] w fun e w' => e = .returned (.int .i64 ((bl m : Nat) : Int)) ∧ w' = w) := fun w => len_any m hm w
  have hs : IntKind.i64.wrap (((bl m : Nat) : Int) + (k : Int)) = ((bl m + k : Nat) : Int) := by rw [IntKind.wrap_i64]; omega
  have ht : ((bl m + k : Nat) : Int) ≤ 64 := by omega
  have hw : IntKind.u64.wrap ((m : Int) * 2 ^ k) = (M : Int) := by
    have e : (m : Int) * 2 ^ k = ((m * 2 ^ k : Nat) : Int) := by rw [Int.natCast_mul, Int.natCast_pow]; rfl
    rw [e, hM, IntKind.wrap_u64]; omega
  have hf := FM.fits_32u (FM.key s M)
  cases s
  all_goals unfold FM.key at *
  all_goals simp only [if_true, if_false, Bool.false_eq_true] at *
  · by_cases h : M ≤ 4294967295
    · have h2 := hf.2 (by omega)
      rw [if_pos h2, if_pos h2, ← l_pos]
      exact trunc_up_32up_in x _ _ m k _ ha hl hs ht hk hw (by omega) _ rfl _ (fun w => rlow_any _ w) w
    · have h2 := mt hf.1 (by omega)
      rw [if_neg h2, if_neg h2]
      exact trunc_up_32up_out x _ _ m k _ ha hl hs ht hk hw (by omega) w
  · by_cases h : M = 0
    · have h2 := hf.2 (by omega)
      rw [if_pos h2, if_pos h2]
      rw [h] at hw
      rw [h]
      exact trunc_up_32un_in x _ _ m k ha hl hs ht hk hw (fun w => by have := rlow_any 0 w; exact this) w
    · have h2 := mt hf.1 (by omega)
      rw [if_neg h2, if_neg h2]
      obtain ⟨z1, z2⟩ := beq_noV (m := (M : Int)) (by omega)
      exact trunc_up_32un_out x _ _ m k _ ha hl hs ht hk hw z1 z2 w
theorem fin_up_64s (x m k : Nat) (s : Bool) (M : Nat) (ha : RL Tryz.prog 119 #[fm, .int .u64 (x : Int)] (fv s false false m (k : Int))) (hm : m < W64) (hk : k ≤ 64) (hb : bl m + k ≤ 64) (hM : m * 2 ^ k = M) (hMl : M < W64) (w : World) :
    RW Tryz.prog 66 #[fm, .int .u64 (x : Int), .int .i64 64, .bool true] w (.tuple #[.int .i64 (if fits 64 true (FM.key s M) = true then bitsI 64 (FM.key s M) else 0), .int .i64 (if fits 64 true (FM.key s M) = true then 0 else 601)]) := by
  simp only [W64] at hMl
  have hl : Hid (∀ w : World, Calls Tryz.prog 120 #[.int .u64 (m : Int)] w fun e w' => e = .returned (.int .i64 ((bl m : Nat) : Int)) ∧ w' = w) := fun w => len_any m hm w
  have hs : IntKind.i64.wrap (((bl m : Nat) : Int) + (k : Int)) = ((bl m + k : Nat) : Int) := by rw [IntKind.wrap_i64]; omega
  have ht : ((bl m + k : Nat) : Int) ≤ 64 := by omega
  have hw : IntKind.u64.wrap ((m : Int) * 2 ^ k) = (M : Int) := by
    have e : (m : Int) * 2 ^ k = ((m * 2 ^ k : Nat) : Int) := by rw [Int.natCast_mul, Int.natCast_pow]; rfl
    rw [e, hM, IntKind.wrap_u64]; omega
  have hf := FM.fits_64s (FM.key s M)
  cases s
  all_goals unfold FM.key at *
  all_goals simp only [if_true, if_false, Bool.false_eq_true] at *
  · by_cases h : M ≤ 9223372036854775807
    · have h2 := hf.2 (by omega)
      rw [if_pos h2, if_pos h2, ← w_pos]
      exact trunc_up_64sp_in x _ _ m k _ ha hl hs ht hk hw (by omega) _ rfl w
    · have h2 := mt hf.1 (by omega)
      rw [if_neg h2, if_neg h2]
      exact trunc_up_64sp_out x _ _ m k _ ha hl hs ht hk hw (by omega) w
  · by_cases h : M ≤ 9223372036854775808
    · have h2 := hf.2 (by omega)
      rw [if_pos h2, if_pos h2, ← w_neg]
      exact trunc_up_64sn_in x _ _ m k _ ha hl hs ht hk hw (by omega) _ rfl _ rfl w
    · have h2 := mt hf.1 (by omega)
      rw [if_neg h2, if_neg h2]
      exact trunc_up_64sn_out x _ _ m k _ ha hl hs ht hk hw (by omega) w
theorem fin_up_64u (x m k : Nat) (s : Bool) (M : Nat) (ha : RL Tryz.prog 119 #[fm, .int .u64 (x : Int)] (fv s false false m (k : Int))) (hm : m < W64) (hk : k ≤ 64) (hb : bl m + k ≤ 64) (hM : m * 2 ^ k = M) (hMl : M < W64) (w : World) :
    RW Tryz.prog 66 #[fm, .int .u64 (x : Int), .int .i64 64, .bool false] w (.tuple #[.int .i64 (if fits 64 false (FM.key s M) = true then bitsI 64 (FM.key s M) else 0), .int .i64 (if fits 64 false (FM.key s M) = true then 0 else 601)]) := by
  simp only [W64] at hMl
  have hl : Hid (∀ w : World, Calls Tryz.prog 120 #[.int .u64 (m : Int)] w fun e w' => e = .returned (.int .i64 ((bl m : Nat) : Int)) ∧ w' = w) := fun w => len_any m hm w
  have hs : IntKind.i64.wrap (((bl m : Nat) : Int) + (k : Int)) = ((bl m + k : Nat) : Int) := by rw [IntKind.wrap_i64]; omega
  have ht : ((bl m + k : Nat) : Int) ≤ 64 := by omega
  have hw : IntKind.u64.wrap ((m : Int) * 2 ^ k) = (M : Int) := by
    have e : (m : Int) * 2 ^ k = ((m * 2 ^ k : Nat) : Int) := by rw [Int.natCast_mul, Int.natCast_pow]; rfl
    rw [e, hM, IntKind.wrap_u64]; omega
  have hf := FM.fits_64u (FM.key s M)
  cases s
  all_goals unfold FM.key at *
  all_goals simp only [if_true, if_false, Bool.false_eq_true] at *
  · have h2 := hf.2 (by omega)
    rw [if_pos h2, if_pos h2, ← w_pos]
    exact trunc_up_64up_in x _ _ m k _ ha hl hs ht hk hw _ rfl w
  · by_cases h : M = 0
    · have h2 := hf.2 (by omega)
      rw [if_pos h2, if_pos h2]
      rw [h] at hw
      rw [h]
      exact trunc_up_64un_in x _ _ m k ha hl hs ht hk hw w
    · have h2 := mt hf.1 (by omega)
      rw [if_neg h2, if_neg h2]
      obtain ⟨z1, z2⟩ := beq_noV (m := (M : Int)) (by omega)
      exact trunc_up_64un_out x _ _ m k _ ha hl hs ht hk hw z1 z2 w
theorem fin_dn_32s (x m d : Nat) (s : Bool) (M : Nat) (ha : RL Tryz.prog 119 #[fm, .int .u64 (x : Int)] (fv s false false m (-(d : Int)))) (hm : m < 16777216) (hd0 : 0 < d) (hd1 : d ≤ 10000) (hM : m / 2 ^ d = M) (hMl : M < W64) (w : World) :
    RW Tryz.prog 66 #[fm, .int .u64 (x : Int), .int .i64 32, .bool true] w (.tuple #[.int .i64 (if fits 32 true (FM.key s M) = true then bitsI 32 (FM.key s M) else 0), .int .i64 (if fits 32 true (FM.key s M) = true then 0 else 601)]) := by
  simp only [W64] at hMl
  obtain ⟨A, c, hd⟩ := down_word m d hm hd0
  rw [hM] at hd
  have hp : ¬ 0 ≤ -(d : Int) := by omega
  have hnb : IntKind.i64.wrap (-(-(d : Int))) = (d : Int) := by rw [IntKind.wrap_i64]; omega
  have hf := FM.fits_32s (FM.key s M)
  cases s
  all_goals unfold FM.key at *
  all_goals simp only [if_true, if_false, Bool.false_eq_true] at *
  · by_cases h : M ≤ 2147483647
    · have h2 := hf.2 (by omega)
      rw [if_pos h2, if_pos h2, ← l_pos]
      exact trunc_dn_32sp_in x 0 0 m 0 _ _ _ _ _ ha hp hnb hd (by omega) _ rfl _ (fun w => rlow_any _ w) w
    · have h2 := mt hf.1 (by omega)
      rw [if_neg h2, if_neg h2]
      exact trunc_dn_32sp_out x 0 0 m 0 _ _ _ _ _ ha hp hnb hd (by omega) w
  · by_cases h : M ≤ 2147483648
    · have h2 := hf.2 (by omega)
      rw [if_pos h2, if_pos h2, ← l_neg]
      exact trunc_dn_32sn_in x 0 0 m 0 _ _ _ _ _ ha hp hnb hd (by omega) _ rfl _ rfl _ (fun w => rlow_any _ w) w
    · have h2 := mt hf.1 (by omega)
      rw [if_neg h2, if_neg h2]
      exact trunc_dn_32sn_out x 0 0 m 0 _ _ _ _ _ ha hp hnb hd (by omega) w
theorem fin_dn_32u (x m d : Nat) (s : Bool) (M : Nat) (ha : RL Tryz.prog 119 #[fm, .int .u64 (x : Int)] (fv s false false m (-(d : Int)))) (hm : m < 16777216) (hd0 : 0 < d) (hd1 : d ≤ 10000) (hM : m / 2 ^ d = M) (hMl : M < W64) (w : World) :
    RW Tryz.prog 66 #[fm, .int .u64 (x : Int), .int .i64 32, .bool false] w (.tuple #[.int .i64 (if fits 32 false (FM.key s M) = true then bitsI 32 (FM.key s M) else 0), .int .i64 (if fits 32 false (FM.key s M) = true then 0 else 601)]) := by
  simp only [W64] at hMl
  obtain ⟨A, c, hd⟩ := down_word m d hm hd0
  rw [hM] at hd
  have hp : ¬ 0 ≤ -(d : Int) := by omega
  have hnb : IntKind.i64.wrap (-(-(d : Int))) = (d : Int) := by rw [IntKind.wrap_i64]; omega
  have hf := FM.fits_32u (FM.key s M)
  cases s
  all_goals unfold FM.key at *
  all_goals simp only [if_true, if_false, Bool.false_eq_true] at *
  · by_cases h : M ≤ 4294967295
    · have h2 := hf.2 (by omega)
      rw [if_pos h2, if_pos h2, ← l_pos]
      exact trunc_dn_32up_in x 0 0 m 0 _ _ _ _ _ ha hp hnb hd (by omega) _ rfl _ (fun w => rlow_any _ w) w
    · have h2 := mt hf.1 (by omega)
      rw [if_neg h2, if_neg h2]
      exact trunc_dn_32up_out x 0 0 m 0 _ _ _ _ _ ha hp hnb hd (by omega) w
  · by_cases h : M = 0
    · have h2 := hf.2 (by omega)
      rw [if_pos h2, if_pos h2]
      rw [h] at hd
      rw [h]
      exact trunc_dn_32un_in x 0 0 m 0 _ _ _ _ ha hp hnb hd (fun w => by have := rlow_any 0 w; exact this) w
    · have h2 := mt hf.1 (by omega)
      rw [if_neg h2, if_neg h2]
      obtain ⟨z1, z2⟩ := beq_noV (m := (M : Int)) (by omega)
      exact trunc_dn_32un_out x 0 0 m 0 _ _ _ _ _ ha hp hnb hd z1 z2 w
theorem fin_dn_64s (x m d : Nat) (s : Bool) (M : Nat) (ha : RL Tryz.prog 119 #[fm, .int .u64 (x : Int)] (fv s false false m (-(d : Int)))) (hm : m < 16777216) (hd0 : 0 < d) (hd1 : d ≤ 10000) (hM : m / 2 ^ d = M) (hMl : M < W64) (w : World) :
    RW Tryz.prog 66 #[fm, .int .u64 (x : Int), .int .i64 64, .bool true] w (.tuple #[.int .i64 (if fits 64 true (FM.key s M) = true then bitsI 64 (FM.key s M) else 0), .int .i64 (if fits 64 true (FM.key s M) = true then 0 else 601)]) := by
  simp only [W64] at hMl
  obtain ⟨A, c, hd⟩ := down_word m d hm hd0
  rw [hM] at hd
  have hp : ¬ 0 ≤ -(d : Int) := by omega
  have hnb : IntKind.i64.wrap (-(-(d : Int))) = (d : Int) := by rw [IntKind.wrap_i64]; omega
  have hf := FM.fits_64s (FM.key s M)
  cases s
  all_goals unfold FM.key at *
  all_goals simp only [if_true, if_false, Bool.false_eq_true] at *
  · by_cases h : M ≤ 9223372036854775807
    · have h2 := hf.2 (by omega)
      rw [if_pos h2, if_pos h2, ← w_pos]
      exact trunc_dn_64sp_in x 0 0 m 0 _ _ _ _ _ ha hp hnb hd (by omega) _ rfl w
    · have h2 := mt hf.1 (by omega)
      rw [if_neg h2, if_neg h2]
      exact trunc_dn_64sp_out x 0 0 m 0 _ _ _ _ _ ha hp hnb hd (by omega) w
  · by_cases h : M ≤ 9223372036854775808
    · have h2 := hf.2 (by omega)
      rw [if_pos h2, if_pos h2, ← w_neg]
      exact trunc_dn_64sn_in x 0 0 m 0 _ _ _ _ _ ha hp hnb hd (by omega) _ rfl _ rfl w
    · have h2 := mt hf.1 (by omega)
      rw [if_neg h2, if_neg h2]
      exact trunc_dn_64sn_out x 0 0 m 0 _ _ _ _ _ ha hp hnb hd (by omega) w
theorem fin_dn_64u (x m d : Nat) (s : Bool) (M : Nat) (ha : RL Tryz.prog 119 #[fm, .int .u64 (x : Int)] (fv s false false m (-(d : Int)))) (hm : m < 16777216) (hd0 : 0 < d) (hd1 : d ≤ 10000) (hM : m / 2 ^ d = M) (hMl : M < W64) (w : World) :
    RW Tryz.prog 66 #[fm, .int .u64 (x : Int), .int .i64 64, .bool false] w (.tuple #[.int .i64 (if fits 64 false (FM.key s M) = true then bitsI 64 (FM.key s M) else 0), .int .i64 (if fits 64 false (FM.key s M) = true then 0 else 601)]) := by
  simp only [W64] at hMl
  obtain ⟨A, c, hd⟩ := down_word m d hm hd0
  rw [hM] at hd
  have hp : ¬ 0 ≤ -(d : Int) := by omega
  have hnb : IntKind.i64.wrap (-(-(d : Int))) = (d : Int) := by rw [IntKind.wrap_i64]; omega
  have hf := FM.fits_64u (FM.key s M)
  cases s
  all_goals unfold FM.key at *
  all_goals simp only [if_true, if_false, Bool.false_eq_true] at *
  · have h2 := hf.2 (by omega)
    rw [if_pos h2, if_pos h2, ← w_pos]
    exact trunc_dn_64up_in x 0 0 m 0 _ _ _ _ _ ha hp hnb hd _ rfl w
  · by_cases h : M = 0
    · have h2 := hf.2 (by omega)
      rw [if_pos h2, if_pos h2]
      rw [h] at hd
      rw [h]
      exact trunc_dn_64un_in x 0 0 m 0 _ _ _ _ ha hp hnb hd w
    · have h2 := mt hf.1 (by omega)
      rw [if_neg h2, if_neg h2]
      obtain ⟨z1, z2⟩ := beq_noV (m := (M : Int)) (by omega)
      exact trunc_dn_64un_out x 0 0 m 0 _ _ _ _ _ ha hp hnb hd z1 z2 w
theorem trunc_any (x wd : Nat) (sgd : Bool) (hx : x < 4294967296) (hwd : wd = 32 ∨ wd = 64) (w : World) :
    RW Tryz.prog 66 #[fm, .int .u64 (x : Int), .int .i64 (wd : Int), .bool sgd] w (.tuple #[.int .i64 (truncI ff x wd sgd).1, .int .i64 (truncI ff x wd sgd).2]) := by
  rcases Nat.lt_trichotomy (FM.rg ff x) ff.infRung with h | h | h
  · have ha : RL Tryz.prog 119 #[fm, .int .u64 (x : Int)] (fv (FM.sg ff x) false false (FM.mag ff (FM.rg ff x) : Nat) (FM.plc ff (FM.rg ff x))) := fun w => apart_fin x hx h w
    have hv := FM.tval_fin ff x h
    have hn : ¬ isN ff x := by unfold isN; omega
    have hmb := FM.mag_lt ff (FM.rg ff x)
    rw [ff_bin] at hmb
    have hpl := FM.plc_ge ff (FM.rg ff x)
    rw [ff_least] at hpl
    have hpt := plc_topV (FM.rg ff x) h
    have hmg := FM.mag_ge ff (FM.rg ff x)
    rw [ff_least, ff_bin] at hmg
    have ho : truncI ff x wd sgd = (if fits wd sgd (FM.key (FM.sg ff x) (tcut (FM.mag ff (FM.rg ff x)) (FM.plc ff (FM.rg ff x)))) = true then bitsI wd (FM.key (FM.sg ff x) (tcut (FM.mag ff (FM.rg ff x)) (FM.plc ff (FM.rg ff x)))) else 0, if fits wd sgd (FM.key (FM.sg ff x) (tcut (FM.mag ff (FM.rg ff x)) (FM.plc ff (FM.rg ff x)))) = true then 0 else 601) := by
      split
      · rename_i g; exact FM.trunc_some ff x wd sgd _ hn hv g
      · rename_i g; exact FM.trunc_out ff x wd sgd _ hn hv g
    rw [ho]
    clear ho hv hn h
    generalize FM.sg ff x = s at *
    generalize FM.mag ff (FM.rg ff x) = m at *
    generalize FM.plc ff (FM.rg ff x) = p at *
    by_cases hp : 0 ≤ p
    · obtain ⟨k, rfl⟩ : ∃ k : Nat, p = (k : Int) := ⟨p.toNat, by omega⟩
      have hm0 : m ≠ 0 := by omega
      have hmw : m < W64 := by simp only [W64]; omega
      have hbl := FM.pow_bl m hm0
      have hbm : bl m ≤ 64 := FM.bl_le m 64 (by simp only [W64] at hmw; omega)
      rw [FM.tcut_up m k (by omega), show ((k : Int)).toNat = k from by omega]
      by_cases hb : bl m + k ≤ 64
      · have hMl : m * 2 ^ k < W64 := by
          have h1 : m * 2 ^ k < 2 ^ bl m * 2 ^ k := Nat.mul_lt_mul_of_pos_right hbl.2.1 (Nat.two_pow_pos k)
          rw [← Nat.pow_add] at h1
          exact Nat.lt_of_lt_of_le h1 (Nat.pow_le_pow_right (by decide) hb)
        rcases hwd with rfl | rfl
        · cases sgd
          · exact fin_up_32u x m k s _ ha hmw (by omega) hb rfl hMl w
          · exact fin_up_32s x m k s _ ha hmw (by omega) hb rfl hMl w
        · cases sgd
          · exact fin_up_64u x m k s _ ha hmw (by omega) hb rfl hMl w
          · exact fin_up_64s x m k s _ ha hmw (by omega) hb rfl hMl w
      · have hMg : 18446744073709551616 ≤ m * 2 ^ k := by
          have h1 : 2 ^ (bl m - 1) * 2 ^ k ≤ m * 2 ^ k := Nat.mul_le_mul_right _ hbl.1
          rw [← Nat.pow_add] at h1
          exact Nat.le_trans (show 2 ^ 64 ≤ 2 ^ (bl m - 1 + k) from Nat.pow_le_pow_right (by decide) (by omega)) h1
        have hno : ¬ fits wd sgd (FM.key s (m * 2 ^ k)) = true := by
          generalize m * 2 ^ k = M at *
          rcases hwd with rfl | rfl
          · cases sgd
            · rw [FM.fits_32u]; unfold FM.key; cases s <;> simp only [if_true, if_false, Bool.false_eq_true] <;> omega
            · rw [FM.fits_32s]; unfold FM.key; cases s <;> simp only [if_true, if_false, Bool.false_eq_true] <;> omega
          · cases sgd
            · rw [FM.fits_64u]; unfold FM.key; cases s <;> simp only [if_true, if_false, Bool.false_eq_true] <;> omega
            · rw [FM.fits_64s]; unfold FM.key; cases s <;> simp only [if_true, if_false, Bool.false_eq_true] <;> omega
        rw [if_neg hno, if_neg hno]
        exact trunc_far x wd _ m k sgd s ha (fun w => len_any m hmw w) ((bl m + k : Nat) : Int) (by rw [IntKind.wrap_i64]; omega) (by omega) w
    · obtain ⟨d, rfl⟩ : ∃ d : Nat, p = -(d : Int) := ⟨(-p).toNat, by omega⟩
      rw [FM.tcut_down m _ (by omega), show (-(-(d : Int))).toNat = d from by omega]
      have hMl : m / 2 ^ d < W64 := Nat.lt_of_le_of_lt (Nat.div_le_self _ _) (by simp only [W64]; omega)
      rcases hwd with rfl | rfl
      · cases sgd
        · exact fin_dn_32u x m d s _ ha (by omega) (by omega) (by omega) rfl hMl w
        · exact fin_dn_32s x m d s _ ha (by omega) (by omega) (by omega) rfl hMl w
      · cases sgd
        · exact fin_dn_64u x m d s _ ha (by omega) (by omega) (by omega) rfl hMl w
        · exact fin_dn_64s x m d s _ ha (by omega) (by omega) (by omega) rfl hMl w
  · rw [FM.trunc_none ff x wd sgd (by unfold isN; omega) (FM.tval_inf ff hff x h)]
    exact trunc_inf0 x wd 0 0 sgd _ (fun w => apart_inf x hx h w) w
  · rw [FM.trunc_nan ff x wd sgd h]
    exact trunc_nan0 x wd _ _ sgd _ _ (fun w => apart_nan x hx h w) w
end Go.Proofs.YtdfgcagbpndabaaGreatDoor.S
