/- 'ConvBack' of package peloruslaw6 returns true at every two ints: whole numbers of few bits come back out of floats, floats out of longer ones. No condition. -/
import Derived.Test.YtibfjlibkaejnaaL6
import Derived.Test.YtibfjlibkaejnaaMaskI
import Derived.OpenShut
import Derived.RowKit3
namespace Go.Proofs.Ytibfjlibkaejnaa.convBack
open Go.ChangeShapes Go.WideShapes Go.ChangeAt Go.RowKit
open Go.FM (isN fixn qn sw otherW fromW cutI tval small ofI)
set_option linter.unusedVariables false

theorem own : ownKnob Try.prog.godebug = none := by kernel_rfl

theorem exp_mask (Q : Nat) : Q &&& 2139095040 = (Q / 8388608 % 256) * 8388608 := by
  have e1 : (2139095040 : Nat) = 255 <<< 23 := by decide
  have e2 : (Q / 8388608 % 256) * 8388608 = ((Q >>> 23) &&& 255) <<< 23 := by
    rw [Nat.shiftLeft_eq, Nat.shiftRight_eq_div_pow, show (255 : Nat) = 2 ^ 8 - 1 from by decide, Nat.and_two_pow_sub_one_eq_mod]
  rw [e1, e2]
  apply Nat.eq_of_testBit_eq
  intro i
  simp only [Nat.testBit_and, Nat.testBit_shiftLeft, Nat.testBit_shiftRight]
  by_cases h : 23 ≤ i
  · simp only [h, decide_true, Bool.true_and]
    rw [show 23 + (i - 23) = i from by omega]
  · simp [h]
theorem nan_parts (Q : Nat) (h : Q < 4294967296) : isN Ieee.single Q ↔ Q / 8388608 % 256 = 255 ∧ Q % 8388608 ≠ 0 := by
  unfold isN
  rw [FM.inf32, FM.rg32]
  omega
set_option maxRecDepth 100000 in
set_option maxHeartbeats 2000000 in
theorem noNum (x y k a c m f q o : Int) (hk : bits .and .i64 x 16777215 = k) (hm : x / 2048 = m) (hm0 : -9223372036854775808 ≤ m) (hm1 : m ≤ 9223372036854775807) (hq : bits .and .i64 y 4294967295 = q) (s1 : Hid (small (c % 18446744073709551616).toNat)) (s2 : Hid (small (o % 18446744073709551616).toNat))
    (r1 : Hid (ofI 178 k = (a, 0))) (r2 : Hid (ofI 168 a = (k, 0))) (r3 : Hid (ofI 187 a = (c, 0))) (r4 : Hid (ofI 182 c = (a, 0))) (r5 : Hid (ofI 185 m = (f, 0))) (r6 : Hid (ofI 176 f = (m, 0))) (r7 : Hid (ofI 187 q = (o, 0))) (r8 : Hid (ofI 182 o = (2143289344, 0))) (l : Int) (t1 : bits .and .i64 q 2139095040 = 2139095040) (t2 : bits .and .i64 q 8388607 = l) (t3 : ¬ l = 0) (w : World) :
    Calls Try.prog 5 #[.int .i64 x, .int .i64 y] w fun e w' => e = .returned (.bool true) ∧ Grown w w' := by
  go_enter Try.func5, Try.ntmps5
  go_wp2_with fail
  refine (awake_any _).mono ?_
  rintro e w' ⟨rfl, bs0, n0, rfl⟩
  go_wp2_with fail
  refine (of_eq (Or.inl (by decide)) r1.out _).mono ?_
  rintro e w' ⟨rfl, bs1, n1, rfl⟩
  go_wp2_with fail
  refine (of_eq (Or.inl (by decide)) r2.out _).mono ?_
  rintro e w' ⟨rfl, bs2, n2, rfl⟩
  go_wp2_with fail
  refine (of_eq (Or.inl (by decide)) r3.out _).mono ?_
  rintro e w' ⟨rfl, bs3, n3, rfl⟩
  go_wp2_with fail
  refine (of_eq (Or.inr s1.out) r4.out _).mono ?_
  rintro e w' ⟨rfl, bs4, n4, rfl⟩
  go_wp2_with fail
  refine (of_eq (Or.inl (by decide)) r5.out _).mono ?_
  rintro e w' ⟨rfl, bs5, n5, rfl⟩
  go_wp2_with fail
  refine (of_eq (Or.inl (by decide)) r6.out _).mono ?_
  rintro e w' ⟨rfl, bs6, n6, rfl⟩
  go_wp2_with fail
  refine (of_eq (Or.inl (by decide)) r7.out _).mono ?_
  rintro e w' ⟨rfl, bs7, n7, rfl⟩
  go_wp2_with fail
  refine (of_eq (Or.inr s2.out) r8.out _).mono ?_
  rintro e w' ⟨rfl, bs8, n8, rfl⟩
  go_wp2_with (go_at_call 11; refine (num_any _ _).mono ?_; rintro e w' ⟨rfl, rfl⟩)
  all_goals
    go_ret
    exact ⟨rfl, (later_grown (by repeat (first | exact Later.refl _ | refine Later.alloc ?_ | refine Later.far ?_ | refine Later.drewN ?_ | refine Later.drew ?_)))⟩
set_option maxRecDepth 100000 in
set_option maxHeartbeats 2000000 in
theorem endless (x y k a c m f q o : Int) (hk : bits .and .i64 x 16777215 = k) (hm : x / 2048 = m) (hm0 : -9223372036854775808 ≤ m) (hm1 : m ≤ 9223372036854775807) (hq : bits .and .i64 y 4294967295 = q) (s1 : Hid (small (c % 18446744073709551616).toNat)) (s2 : Hid (small (o % 18446744073709551616).toNat))
    (r1 : Hid (ofI 178 k = (a, 0))) (r2 : Hid (ofI 168 a = (k, 0))) (r3 : Hid (ofI 187 a = (c, 0))) (r4 : Hid (ofI 182 c = (a, 0))) (r5 : Hid (ofI 185 m = (f, 0))) (r6 : Hid (ofI 176 f = (m, 0))) (r7 : Hid (ofI 187 q = (o, 0))) (r8 : Hid (ofI 182 o = (q, 0))) (t1 : bits .and .i64 q 2139095040 = 2139095040) (t2 : bits .and .i64 q 8388607 = 0) (w : World) :
    Calls Try.prog 5 #[.int .i64 x, .int .i64 y] w fun e w' => e = .returned (.bool true) ∧ Grown w w' := by
  go_enter Try.func5, Try.ntmps5
  go_wp2_with fail
  refine (awake_any _).mono ?_
  rintro e w' ⟨rfl, bs0, n0, rfl⟩
  go_wp2_with fail
  refine (of_eq (Or.inl (by decide)) r1.out _).mono ?_
  rintro e w' ⟨rfl, bs1, n1, rfl⟩
  go_wp2_with fail
  refine (of_eq (Or.inl (by decide)) r2.out _).mono ?_
  rintro e w' ⟨rfl, bs2, n2, rfl⟩
  go_wp2_with fail
  refine (of_eq (Or.inl (by decide)) r3.out _).mono ?_
  rintro e w' ⟨rfl, bs3, n3, rfl⟩
  go_wp2_with fail
  refine (of_eq (Or.inr s1.out) r4.out _).mono ?_
  rintro e w' ⟨rfl, bs4, n4, rfl⟩
  go_wp2_with fail
  refine (of_eq (Or.inl (by decide)) r5.out _).mono ?_
  rintro e w' ⟨rfl, bs5, n5, rfl⟩
  go_wp2_with fail
  refine (of_eq (Or.inl (by decide)) r6.out _).mono ?_
  rintro e w' ⟨rfl, bs6, n6, rfl⟩
  go_wp2_with fail
  refine (of_eq (Or.inl (by decide)) r7.out _).mono ?_
  rintro e w' ⟨rfl, bs7, n7, rfl⟩
  go_wp2_with fail
  refine (of_eq (Or.inr s2.out) r8.out _).mono ?_
  rintro e w' ⟨rfl, bs8, n8, rfl⟩
  go_wp2_with (go_at_call 11; refine (num_any _ _).mono ?_; rintro e w' ⟨rfl, rfl⟩)
  all_goals
    go_ret
    exact ⟨rfl, (later_grown (by repeat (first | exact Later.refl _ | refine Later.alloc ?_ | refine Later.far ?_ | refine Later.drewN ?_ | refine Later.drew ?_)))⟩
set_option maxRecDepth 100000 in
set_option maxHeartbeats 2000000 in
theorem plain (x y k a c m f q o : Int) (hk : bits .and .i64 x 16777215 = k) (hm : x / 2048 = m) (hm0 : -9223372036854775808 ≤ m) (hm1 : m ≤ 9223372036854775807) (hq : bits .and .i64 y 4294967295 = q) (s1 : Hid (small (c % 18446744073709551616).toNat)) (s2 : Hid (small (o % 18446744073709551616).toNat))
    (r1 : Hid (ofI 178 k = (a, 0))) (r2 : Hid (ofI 168 a = (k, 0))) (r3 : Hid (ofI 187 a = (c, 0))) (r4 : Hid (ofI 182 c = (a, 0))) (r5 : Hid (ofI 185 m = (f, 0))) (r6 : Hid (ofI 176 f = (m, 0))) (r7 : Hid (ofI 187 q = (o, 0))) (r8 : Hid (ofI 182 o = (q, 0))) (g : Int) (t1 : bits .and .i64 q 2139095040 = g) (t2 : ¬ g = 2139095040) (w : World) :
    Calls Try.prog 5 #[.int .i64 x, .int .i64 y] w fun e w' => e = .returned (.bool true) ∧ Grown w w' := by
  go_enter Try.func5, Try.ntmps5
  go_wp2_with fail
  refine (awake_any _).mono ?_
  rintro e w' ⟨rfl, bs0, n0, rfl⟩
  go_wp2_with fail
  refine (of_eq (Or.inl (by decide)) r1.out _).mono ?_
  rintro e w' ⟨rfl, bs1, n1, rfl⟩
  go_wp2_with fail
  refine (of_eq (Or.inl (by decide)) r2.out _).mono ?_
  rintro e w' ⟨rfl, bs2, n2, rfl⟩
  go_wp2_with fail
  refine (of_eq (Or.inl (by decide)) r3.out _).mono ?_
  rintro e w' ⟨rfl, bs3, n3, rfl⟩
  go_wp2_with fail
  refine (of_eq (Or.inr s1.out) r4.out _).mono ?_
  rintro e w' ⟨rfl, bs4, n4, rfl⟩
  go_wp2_with fail
  refine (of_eq (Or.inl (by decide)) r5.out _).mono ?_
  rintro e w' ⟨rfl, bs5, n5, rfl⟩
  go_wp2_with fail
  refine (of_eq (Or.inl (by decide)) r6.out _).mono ?_
  rintro e w' ⟨rfl, bs6, n6, rfl⟩
  go_wp2_with fail
  refine (of_eq (Or.inl (by decide)) r7.out _).mono ?_
  rintro e w' ⟨rfl, bs7, n7, rfl⟩
  go_wp2_with fail
  refine (of_eq (Or.inr s2.out) r8.out _).mono ?_
  rintro e w' ⟨rfl, bs8, n8, rfl⟩
  go_wp2_with (go_at_call 11; refine (num_any _ _).mono ?_; rintro e w' ⟨rfl, rfl⟩)
  all_goals
    go_ret
    exact ⟨rfl, (later_grown (by repeat (first | exact Later.refl _ | refine Later.alloc ?_ | refine Later.far ?_ | refine Later.drewN ?_ | refine Later.drew ?_)))⟩
theorem walk (a0 : Int) (a1 : Int) (w0 : (Lit.int .i64 a0).wf = true) (w1 : (Lit.int .i64 a1).wf = true) (w : World) :
    Calls Try.prog 5 #[.int .i64 a0, .int .i64 a1] w fun e w' => e = .returned (.bool true) ∧ Grown w w' := by
  have hb := bounds_i64 w0
  clear w0 w1
  have m1 := MI.and_mask a0 24 (by decide)
  have m2 := MI.and_mask a1 32 (by decide)
  obtain ⟨k, hk, hk1⟩ : ∃ k : Int, a0 % (2 ^ 24 : Nat) = k ∧ 0 ≤ k ∧ k < 16777216 := ⟨_, rfl, by omega, by omega⟩
  obtain ⟨Q, hQ, hQ1⟩ : ∃ Q : Nat, a1 % (2 ^ 32 : Nat) = (Q : Int) ∧ Q < 4294967296 := ⟨(a1 % (2 ^ 32 : Nat)).toNat, by omega, by omega⟩
  rw [hk] at m1
  rw [hQ] at m2
  obtain ⟨b1, b2⟩ := FM.there_back32 k hk1.1 hk1.2
  have hl := FM.from_lt32 k
  obtain ⟨b3, b4⟩ := FM.longer (fromW Ieee.single k) hl
  rw [if_neg (FM.from_num _ _)] at b4
  obtain ⟨b5, b6⟩ := FM.there_back64 (a0 / 2048) (by omega) (by omega)
  obtain ⟨b7, b8⟩ := FM.longer Q hQ1
  have s1 : small (sw (otherW Ieee.single Ieee.double (fromW Ieee.single k)) % 18446744073709551616).toNat := by rw [FM.sw_nat _ (FM.other_lt64 _)]; exact FM.small_wide _ hl
  have s2 : small (sw (otherW Ieee.single Ieee.double Q) % 18446744073709551616).toNat := by rw [FM.sw_nat _ (FM.other_lt64 _)]; exact FM.small_wide _ hQ1
  have t1 : bits .and .i64 (Q : Int) 2139095040 = ((Q / 8388608 % 256 * 8388608 : Nat) : Int) := by rw [← exp_mask]; exact FM.and_i Q 2139095040 hQ1 (by decide)
  have t2 : bits .and .i64 (Q : Int) 8388607 = (Q : Int) % (2 ^ 23 : Nat) := MI.and_mask Q 23 (by decide)
  have hN := nan_parts Q hQ1
  by_cases h1 : Q / 8388608 % 256 = 255
  · rw [h1] at t1
    by_cases h2 : Q % 8388608 = 0
    · have hn : ¬ isN Ieee.single Q := fun g => (hN.1 g).2 h2
      rw [if_neg hn] at b8
      exact endless a0 a1 k _ _ _ _ Q _ m1 rfl (by omega) (by omega) m2 s1 s2 b1 b2 b3 b4 b5 b6 b7 b8 t1 (by rw [t2]; omega) w
    · have hn : isN Ieee.single Q := hN.2 ⟨h1, h2⟩
      rw [if_pos hn] at b8
      exact noNum a0 a1 k _ _ _ _ Q _ m1 rfl (by omega) (by omega) m2 s1 s2 b1 b2 b3 b4 b5 b6 b7 b8 _ t1 t2 (by omega) w
  · have hn : ¬ isN Ieee.single Q := fun g => h1 (hN.1 g).1
    rw [if_neg hn] at b8
    exact plain a0 a1 k _ _ _ _ Q _ m1 rfl (by omega) (by omega) m2 s1 s2 b1 b2 b3 b4 b5 b6 b7 b8 _ t1 (by omega) w

/-! ### THE ROW's STEP: WRITTEN OUT: LEAVE IT -/
set_option maxRecDepth 100000 in
theorem lifted (os : Os) (started : os.Started) (H : Type) (enc : TypeId × Value → H) :
    ReturnsInHanded {} Try.checked os 5 .any (Rows.convBackSpec.pre6 enc Try.prog Try.f5 Rows.convBackRow.domain false) (Rows.convBackSpec.post enc Try.prog Try.f5 false true false false) := by
  refine returnsInHanded_of_change (C := Try.checked) own started (by kernel_rfl) Try.func5
    (ChangeSpec.witness6 (enc := enc) (C := Try.checked) false ⟨#[], #[.int .i64 0, .int .i64 0], []⟩ 8 (by kernel_rfl) (by kernel_rfl) (by kernel_rfl) (by kernel_rfl)) ?_
  intro W base args ds gs before hval0 hW hcnd _
  have hval : ∀ (j : Nat) t v, Try.f5.params[j]? = some t → args[j]? = some v → Value.okWide Try.prog W .any base t v := hval0
  have hW' := hW
  obtain ⟨p, q, hA0, hV, rfl, hfz, hnd⟩ := hW
  have hA : DataW.TrodAll enc Try.prog W 0 (fun _ => true) true Try.f5.params.toList args.toList ds p := hA0
  rw [Try.params5] at hA hval
  obtain ⟨v0, vs0, d0, ds0, p0, q0, hargs, rfl, rfl, h0, r0⟩ := trodAll_cons hA
  obtain ⟨v1, vs1, d1, ds1, p1, q1, rfl, rfl, rfl, h1, r1⟩ := trodAll_cons r0
  obtain ⟨rfl, rfl, rfl⟩ := trodAll_nil r1
  obtain rfl : args = #[v0, v1] := by cases args; simp_all
  obtain ⟨rfl, rfl⟩ := trodVars_none hV
  obtain ⟨a0, rfl, rfl, rfl, w0⟩ := open_int Try.underlying3 (hval 0 3 v0 rfl rfl) h0
  obtain ⟨a1, rfl, rfl, rfl, w1⟩ := open_int Try.underlying3 (hval 1 3 v1 rfl rfl) h1
  clear hA0 hval0
  simp only [List.append_nil] at hW'
  refine (walk a0 a1 w0 w1 W).mono fun e W' ⟨he, hg⟩ => ?_
  subst he
  exact ⟨_, rfl, post_of_same (pa := []) (pv := []) hW' (fun _ _ _ => (trodAll_cons_mk (shut_bool Try.underlying4 _) trodAll_mk0)) (fun sp _ => (trodAll_cons_mk (shut_int Try.underlying3 w0) (trodAll_cons_mk (shut_int Try.underlying3 w1) trodAll_mk0))) (fun _ _ => rfl) rfl
    (hg.frame _) hg.2.1 (ok_one (by kernel_rfl) rfl (okWide_bool_mk Try.underlying4 _))⟩

theorem over : Rows.convBackRow.holds Try.pinned (OpenSpec.ofChange Rows.convBackSpec) :=
  OpenClaim.holds_of_wide 5 Try.f5 rfl rfl rfl rfl rfl rfl rfl ⟨rfl, rfl, rfl, rfl, rfl⟩ rfl rfl rfl rfl rfl (by kernel_rfl) Try.func5 (by kernel_rfl)
    (of_decide_eq_true (by kernel_rfl)) (by unfold Func.isWrapper; first | (rw [if_pos (by decide +kernel)]; kernel_rfl) | (rw [if_neg (by decide +kernel)]; exact ⟨rfl, rfl⟩))
    (fun os started H enc _ => lifted os started H enc)

theorem proved : Rows.ConvBackSaid := over
end Go.Proofs.Ytibfjlibkaejnaa.convBack
namespace Go.Proofs.Ytibfjlibkaejnaa
theorem convBack_holds : Rows.ConvBackSaid := convBack.proved
#print axioms convBack_holds
end Go.Proofs.Ytibfjlibkaejnaa

