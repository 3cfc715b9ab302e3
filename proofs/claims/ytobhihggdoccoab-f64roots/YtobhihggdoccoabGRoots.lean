/- 'F64Roots' of package peloruslaw5 returns true at every int: the root of a float, and the squares of what lies beside it. No condition. -/
import Derived.Test.YtobhihggdoccoabL64A
import Derived.OpenShut
namespace Go.Proofs.Ytobhihggdoccoab.f64Roots
open Go.ChangeShapes Go.WideShapes Go.ChangeAt Go.RowKit
open Go.FM (isN fixn qn sw)
set_option linter.unusedVariables false

theorem own : ownKnob Try.prog.godebug = none := by kernel_rfl

set_option maxRecDepth 100000 in
set_option maxHeartbeats 2000000 in
theorem nanC (x b : Int) (r1 : Hid (unI 159 x = (9221120237041090560, 0))) (r2 : Hid (binI 97 x x = (0, 0))) (r3 : Hid (binI 99 x 0 = (b, 0))) (w : World) :
    Calls Try.prog 7 #[.int .i64 x] w fun e w' => e = .returned (.bool true) ∧ Grown w w' := by
  go_enter Try.func7, Try.ntmps7
  go_wp2_with fail
  refine (awake_any _).mono ?_
  rintro e w' ⟨rfl, bs342, n342, rfl⟩
  go_wp2_with fail
  refine (un_eq r1.out _).mono ?_
  rintro e w' ⟨rfl, bs343, n343, rfl⟩
  go_wp2_with fail
  refine (cmp_eq (by decide) r2.out _).mono ?_
  rintro e w' ⟨rfl, rfl⟩
  go_wp2_with fail
  refine (cmp_eq (by decide) r3.out _).mono ?_
  rintro e w' ⟨rfl, rfl⟩
  go_wp2_with (go_at_call 11; refine (num_any _ _).mono ?_; rintro e w' ⟨rfl, rfl⟩)
  all_goals
    go_ret
    exact ⟨rfl, (later_grown (by repeat (first | exact Later.refl _ | refine Later.alloc ?_ | refine Later.far ?_ | refine Later.drewN ?_ | refine Later.drew ?_)))⟩
set_option maxRecDepth 100000 in
set_option maxHeartbeats 2000000 in
theorem below (x : Int) (r1 : Hid (unI 159 x = (9221120237041090560, 0))) (r2 : Hid (binI 97 x x = (1, 0))) (r3 : Hid (binI 99 x 0 = (1, 0))) (w : World) :
    Calls Try.prog 7 #[.int .i64 x] w fun e w' => e = .returned (.bool true) ∧ Grown w w' := by
  go_enter Try.func7, Try.ntmps7
  go_wp2_with fail
  refine (awake_any _).mono ?_
  rintro e w' ⟨rfl, bs346, n346, rfl⟩
  go_wp2_with fail
  refine (un_eq r1.out _).mono ?_
  rintro e w' ⟨rfl, bs347, n347, rfl⟩
  go_wp2_with fail
  refine (cmp_eq (by decide) r2.out _).mono ?_
  rintro e w' ⟨rfl, rfl⟩
  go_wp2_with fail
  refine (cmp_eq (by decide) r3.out _).mono ?_
  rintro e w' ⟨rfl, rfl⟩
  go_wp2_with (go_at_call 11; refine (num_any _ _).mono ?_; rintro e w' ⟨rfl, rfl⟩)
  all_goals
    go_ret
    exact ⟨rfl, (later_grown (by repeat (first | exact Later.refl _ | refine Later.alloc ?_ | refine Later.far ?_ | refine Later.drewN ?_ | refine Later.drew ?_)))⟩
set_option maxRecDepth 100000 in
set_option maxHeartbeats 2000000 in
theorem nil (x : Int) (r1 : Hid (unI 159 x = (x, 0))) (r2 : Hid (binI 97 x x = (1, 0))) (r3 : Hid (binI 99 x 0 = (0, 0))) (t1 : bits .andNot .i64 x (-9223372036854775808) = 0) (w : World) :
    Calls Try.prog 7 #[.int .i64 x] w fun e w' => e = .returned (.bool true) ∧ Grown w w' := by
  go_enter Try.func7, Try.ntmps7
  go_wp2_with fail
  refine (awake_any _).mono ?_
  rintro e w' ⟨rfl, bs350, n350, rfl⟩
  go_wp2_with fail
  refine (un_eq r1.out _).mono ?_
  rintro e w' ⟨rfl, bs351, n351, rfl⟩
  go_wp2_with fail
  refine (cmp_eq (by decide) r2.out _).mono ?_
  rintro e w' ⟨rfl, rfl⟩
  go_wp2_with fail
  refine (cmp_eq (by decide) r3.out _).mono ?_
  rintro e w' ⟨rfl, rfl⟩
  go_wp2_with (go_at_call 11; refine (num_any _ _).mono ?_; rintro e w' ⟨rfl, rfl⟩)
  all_goals
    go_ret
    exact ⟨rfl, (later_grown (by repeat (first | exact Later.refl _ | refine Later.alloc ?_ | refine Later.far ?_ | refine Later.drewN ?_ | refine Later.drew ?_)))⟩
set_option maxRecDepth 100000 in
set_option maxHeartbeats 2000000 in
theorem endless (r1 : Hid (unI 159 9218868437227405312 = (9218868437227405312, 0))) (r2 : Hid (binI 97 9218868437227405312 9218868437227405312 = (1, 0))) (r3 : Hid (binI 99 9218868437227405312 0 = (0, 0))) (t1 : bits .andNot .i64 9218868437227405312 (-9223372036854775808) = 9218868437227405312) (w : World) :
    Calls Try.prog 7 #[.int .i64 9218868437227405312] w fun e w' => e = .returned (.bool true) ∧ Grown w w' := by
  go_enter Try.func7, Try.ntmps7
  go_wp2_with fail
  refine (awake_any _).mono ?_
  rintro e w' ⟨rfl, bs354, n354, rfl⟩
  go_wp2_with fail
  refine (un_eq r1.out _).mono ?_
  rintro e w' ⟨rfl, bs355, n355, rfl⟩
  go_wp2_with fail
  refine (cmp_eq (by decide) r2.out _).mono ?_
  rintro e w' ⟨rfl, rfl⟩
  go_wp2_with fail
  refine (cmp_eq (by decide) r3.out _).mono ?_
  rintro e w' ⟨rfl, rfl⟩
  go_wp2_with (go_at_call 11; refine (num_any _ _).mono ?_; rintro e w' ⟨rfl, rfl⟩)
  all_goals
    go_ret
    exact ⟨rfl, (later_grown (by repeat (first | exact Later.refl _ | refine Later.alloc ?_ | refine Later.far ?_ | refine Later.drewN ?_ | refine Later.drew ?_)))⟩
set_option maxRecDepth 100000 in
set_option maxHeartbeats 2000000 in
theorem plain (x r : Int) (r1 : Hid (unI 159 x = (r, 0))) (r2 : Hid (binI 97 x x = (1, 0))) (r3 : Hid (binI 99 x 0 = (0, 0))) (z lo hi : Int) (t1 : bits .andNot .i64 x (-9223372036854775808) = z) (t2 : (z == 0) = false) (t3 : (x == 9218868437227405312) = false) (g1 : 1 ≤ r) (g2 : r ≤ 9218868437227405310) (r4 : Hid (binI 162 (r - 1) (r - 1) = (lo, 0))) (r5 : Hid (binI 162 (r + 1) (r + 1) = (hi, 0))) (r6 : Hid (binI 101 lo x = (1, 0))) (r7 : Hid (binI 102 hi x = (1, 0))) (w : World) :
    Calls Try.prog 7 #[.int .i64 x] w fun e w' => e = .returned (.bool true) ∧ Grown w w' := by
  go_enter Try.func7, Try.ntmps7
  go_wp2_with fail
  refine (awake_any _).mono ?_
  rintro e w' ⟨rfl, bs362, n362, rfl⟩
  go_wp2_with fail
  refine (un_eq r1.out _).mono ?_
  rintro e w' ⟨rfl, bs363, n363, rfl⟩
  go_wp2_with fail
  refine (cmp_eq (by decide) r2.out _).mono ?_
  rintro e w' ⟨rfl, rfl⟩
  go_wp2_with fail
  refine (cmp_eq (by decide) r3.out _).mono ?_
  rintro e w' ⟨rfl, rfl⟩
  go_wp2_with (go_at_call 11; refine (num_any _ _).mono ?_; rintro e w' ⟨rfl, rfl⟩)
  refine (bin_eq (Or.inl (by decide)) r4.out _).mono ?_
  rintro e w' ⟨rfl, bs358, n358, rfl⟩
  go_wp2_with (go_at_call 11; refine (num_any _ _).mono ?_; rintro e w' ⟨rfl, rfl⟩)
  refine (bin_eq (Or.inl (by decide)) r5.out _).mono ?_
  rintro e w' ⟨rfl, bs359, n359, rfl⟩
  go_wp2_with fail
  refine (cmp_eq (by decide) r6.out _).mono ?_
  rintro e w' ⟨rfl, rfl⟩
  go_wp2_with fail
  refine (cmp_eq (by decide) r7.out _).mono ?_
  rintro e w' ⟨rfl, rfl⟩
  go_wp2_with (go_at_call 11; refine (num_any _ _).mono ?_; rintro e w' ⟨rfl, rfl⟩)
  all_goals
    go_ret
    exact ⟨rfl, (later_grown (by repeat (first | exact Later.refl _ | refine Later.alloc ?_ | refine Later.far ?_ | refine Later.drewN ?_ | refine Later.drew ?_)))⟩
theorem word_plain (r : Nat) : df.word false r = r := rfl
theorem key_minus {r : Nat} (h : 0 < r) : FM.key true r < 0 := by show -(r : Int) < 0; omega
theorem key_plus {r : Nat} (h : 0 < r) : 0 < FM.key false r := by show 0 < (r : Int); omega
theorem key_zero (s : Bool) : FM.key s 0 = 0 := by cases s <;> rfl
theorem key_false (r : Nat) : FM.key false r = (r : Int) := rfl
theorem inf1 : unI 159 9218868437227405312 = (9218868437227405312, 0) := by decide +kernel
theorem inf2 : binI 97 9218868437227405312 9218868437227405312 = (1, 0) := by decide +kernel
theorem inf3 : binI 99 9218868437227405312 0 = (0, 0) := by decide +kernel
theorem inf4 : bits .andNot .i64 9218868437227405312 (-9223372036854775808) = 9218868437227405312 := by decide +kernel
theorem high (m t v : Nat) (P p : Int) (h5 : v < 2 ^ 55) (hp : p ≤ 971) (h3 : p - t = 2 * P) : FM.near df (FM.rs (m * 2 ^ t) v) (P - 1) ≤ 9218868437227405310 := by
  refine FM.near_le_val df _ _ _ ?_
  have hM1 : FM.rs (m * 2 ^ t) v < 2 ^ 56 := by unfold FM.rs; split <;> omega
  obtain ⟨b, hb⟩ : ∃ b, b = 2045 := ⟨_, rfl⟩
  have a2 : FM.val df (b * df.binade + (2 * df.binade - 2)) = (2 * df.binade - 2) * 2 ^ b := FM.val_at df b _ (Or.inr (by decide +kernel)) (by omega)
  rw [show b * df.binade + (2 * df.binade - 2) = 9218868437227405310 from by subst hb; decide +kernel] at a2
  have hlp : df.leastPlace = -1074 := FM.least_double
  rw [hlp, a2]
  obtain ⟨d, hd⟩ : ∃ d, d = 1700 := ⟨_, rfl⟩
  have a1 : FM.rs (m * 2 ^ t) v * 2 ^ (P - 1 - -1074).toNat < 2 ^ d := FM.pow_lt_of hM1 _ (by omega)
  have a3 : 2 ^ d ≤ (2 * df.binade - 2) * 2 ^ b * 2 ^ (-1074 - (P - 1)).toNat :=
    Nat.le_trans (Nat.pow_le_pow_right (by decide) (show d ≤ b by omega)) (Nat.le_trans (Nat.le_mul_of_pos_left _ (by decide +kernel)) (Nat.le_mul_of_pos_right _ (Nat.two_pow_pos _)))
  exact Nat.le_of_lt (Nat.lt_of_lt_of_le a1 a3)
theorem walk (a0 : Int) (w0 : (Lit.int .i64 a0).wf = true) (w : World) :
    Calls Try.prog 7 #[.int .i64 a0] w fun e w' => e = .returned (.bool true) ∧ Grown w w' := by
  obtain ⟨X, rfl, hXl⟩ := word_of a0 (bounds_i64 w0)
  clear w0
  have hr := FM.rg64 X
  have hA : bits .andNot .i64 (sw X) (-9223372036854775808) = ((FM.rg df X : Nat) : Int) := by
    rw [FM.andNot_a _ X (FM.sw_mod X hXl), ← hr]
    exact FM.sw_small _ (by rw [hr]; omega)
  have hz : df.order X 0 = none ∨ df.order X 0 = some (compare (FM.key (FM.sg df X) (FM.rg df X)) 0) := by
    by_cases hn : isN df X
    · exact Or.inl (FM.order_nan_l df hdf X 0 hn)
    · right
      have := FM.order_key df hdf X 0 (by unfold isN at hn; omega) (by decide +kernel)
      rw [show FM.sg df 0 = false from by decide +kernel, show FM.rg df 0 = 0 from by decide +kernel] at this
      exact this
  have q1 : unI 159 (sw X) = (sw (FM.rootW df X), 0) := by rw [uI 159 X hXl (by decide), unW_159]
  have q3 := bI 99 X 0 hXl (by decide) (by decide)
  rw [f_lt, sw_zero] at q3
  by_cases hn : isN df X
  · rw [root_nan X hn, sw_qn] at q1
    exact nanC (sw X) _ q1 (b_nan X hXl hn).1 q3 w
  have q2 := (b_num X hXl hn).1
  rcases hz with hz | hz
  · have := FM.order_key df hdf X 0 (by unfold isN at hn; omega) (by decide +kernel)
    rw [hz] at this; cases this
  by_cases h0 : FM.rg df X = 0
  · have hk : FM.key (FM.sg df X) (FM.rg df X) = 0 := by rw [h0, key_zero]
    rw [hz, hk, FM.cmp_eq rfl, if_neg (by simp), sw_zero] at q3
    obtain ⟨s, r, e, g1, g2, g3⟩ := FM.parts64 X hXl
    have hr0 : r = 0 := by rw [← g3]; exact h0
    have hroot : FM.rootW df X = X := by
      rw [e, hr0]; cases s <;> decide +kernel
    rw [hroot] at q1
    exact nil (sw X) q1 q2 q3 (by rw [hA]; exact congrArg _ h0) w
  cases hs : FM.sg df X with
  | true =>
    have hk : FM.key (FM.sg df X) (FM.rg df X) < 0 := by rw [hs]; exact key_minus (by omega)
    rw [hz, FM.cmp_lt hk, if_pos rfl, sw_one] at q3
    have hroot : FM.rootW df X = 9221120237041090560 := by
      unfold FM.rootW
      refine fix_none ?_
      unfold Ieee.Format.sqrt
      rcases FM.fin_or_inf df X hn with h6 | h6
      · rw [FM.read_num df X h6, hs]
        unfold Ieee.Datum.root; dsimp only
        rw [if_neg (fun g => h0 ((FM.mag_zero df _).1 g)), if_pos rfl]; exact Option.map_none _
      · rw [FM.read_inf df hdf X h6, hs]; unfold Ieee.Datum.root; dsimp only; rw [if_pos rfl]; exact Option.map_none _
    rw [hroot, sw_q] at q1
    exact below (sw X) q1 q2 q3 w
  | false =>
    have hk : 0 < FM.key (FM.sg df X) (FM.rg df X) := by rw [hs]; exact key_plus (by omega)
    rw [hz, FM.cmp_gt hk, if_neg (by simp), sw_zero] at q3
    have hXr : X = FM.rg df X := by
      have := FM.word_parts df X (sw2 X hXl)
      rw [hs, word_plain] at this; exact this.symm
    have hX63 : X < 9223372036854775808 := by
      have h7 : FM.rg df X < 9223372036854775808 := by rw [show FM.rg df X = X % 9223372036854775808 from hr]; exact Nat.mod_lt _ (by decide)
      omega
    by_cases h1 : FM.rg df X = df.infRung
    · have hX2 : X = 9218868437227405312 := by rw [hXr, h1]; exact FM.inf64
      subst hX2
      clear q1 q2 q3 hA hr hz hk
      rw [FM.sw_small _ hX63]
      exact endless inf1 inf2 inf3 inf4 w
    · have hfin : FM.rg df X < df.infRung := by unfold isN at hn; omega
      obtain ⟨t, v, P, e1, e2, e3, e4, e5, e6⟩ := FM.sqrt_parts df X hfin (by omega) hs
      have hi := FM.near_inf df (FM.rs (FM.mag df (FM.rg df X) * 2 ^ t) v) (P - 1)
      have hle := high (FM.mag df (FM.rg df X)) t v P _ e5 (plc_double (FM.rg df X) hfin) e3
      generalize hR : FM.near df (FM.rs (FM.mag df (FM.rg df X) * 2 ^ t) v) (P - 1) = R at e1 hi hle
      obtain ⟨c1, c2⟩ := FM.root_about df X R hfin (by omega) hs hdf (by decide +kernel) e1 hi
      have hinf : df.infRung = 9218868437227405312 := FM.inf64
      obtain ⟨d1, d2⟩ := c2 (by omega)
      have hsw : df.signWeight = 9223372036854775808 := FM.sw64
      have hroot : FM.rootW df X = R := by unfold FM.rootW; exact fix_some (by rw [e1, word_plain])
      rw [hroot, FM.sw_small R (by omega)] at q1
      have sqr : ∀ r : Nat, r < df.infRung → binI 162 r r = (sw (FM.near df (FM.mag df r * FM.mag df r) (FM.plc df r + FM.plc df r)), 0) := by
        intro r hr
        have hrw := FM.rg_word df false r (by omega)
        have hsg := FM.sg_word df false r (by omega)
        have hword : df.word false r = r := rfl
        rw [hword] at hrw hsg
        have h := bI 162 r r (by omega) (by omega) (by decide)
        rw [FM.sw_small r (by omega), f_mul, fix_some (r := FM.near df (FM.mag df r * FM.mag df r) (FM.plc df r + FM.plc df r)) ?_] at h
        · exact h
        unfold Ieee.Format.mul
        rw [FM.read_num df r (by rw [hrw]; exact hr), hrw, hsg]
        show some (df.nearest false _ _) = _
        rw [FM.nearest_near, word_plain]
      have cmp : ∀ L : Nat, L ≤ df.infRung → df.order L X = some (compare (L : Int) (FM.rg df X : Int)) := by
        intro L hL
        have hrw := FM.rg_word df false L (by omega)
        have hsg := FM.sg_word df false L (by omega)
        have hword : df.word false L = L := rfl
        rw [hword] at hrw hsg
        rw [FM.order_key df hdf L X (by rw [hrw]; exact hL) (by omega), hrw, hsg, hs, key_false, key_false]
      have n1 := FM.near_inf df (FM.mag df (R - 1) * FM.mag df (R - 1)) (FM.plc df (R - 1) + FM.plc df (R - 1))
      have n2 := FM.near_inf df (FM.mag df (R + 1) * FM.mag df (R + 1)) (FM.plc df (R + 1) + FM.plc df (R + 1))
      have s1 := sqr (R - 1) (by omega)
      have s2 := sqr (R + 1) (by omega)
      generalize FM.near df (FM.mag df (R - 1) * FM.mag df (R - 1)) (FM.plc df (R - 1) + FM.plc df (R - 1)) = L1 at *
      generalize FM.near df (FM.mag df (R + 1) * FM.mag df (R + 1)) (FM.plc df (R + 1) + FM.plc df (R + 1)) = L2 at *
      have o1 : df.order L1 X = some .lt ∨ df.order L1 X = some .eq := by
        rw [cmp L1 n1]
        rcases Nat.lt_or_ge L1 (FM.rg df X) with h | h
        · exact Or.inl (by rw [FM.cmp_lt (by omega)])
        · exact Or.inr (by rw [FM.cmp_eq (by omega)])
      have o2 : df.order L2 X = some .gt ∨ df.order L2 X = some .eq := by
        rw [cmp L2 n2]
        rcases Nat.lt_or_ge (FM.rg df X) L2 with h | h
        · exact Or.inl (by rw [FM.cmp_gt (by omega)])
        · exact Or.inr (by rw [FM.cmp_eq (by omega)])
      have hR1 : ((R - 1 : Nat) : Int) = (R : Int) - 1 := by omega
      have hR2 : ((R + 1 : Nat) : Int) = (R : Int) + 1 := by omega
      rw [hR1] at s1
      rw [hR2] at s2
      refine plain (sw X) R q1 q2 q3 _ _ _ hA (beq_eq_false_iff_ne.2 ?_) (beq_eq_false_iff_ne.2 ?_) (by omega) (by omega) s1 s2 ?_ ?_ w
      · intro h; apply h0; exact Int.ofNat.inj h
      · intro h; apply h1; rw [FM.sw_small X hX63] at h; rw [hinf]; rw [← hXr]; exact Int.ofNat.inj h
      · show _ = _; rw [bI 101 L1 X (by omega) hXl (by decide), f_le, if_pos o1, sw_one]
      · show _ = _; rw [bI 102 L2 X (by omega) hXl (by decide), f_ge, if_pos o2, sw_one]

/-! ### THE ROW's STEP: WRITTEN OUT: LEAVE IT -/
set_option maxRecDepth 100000 in
theorem lifted (os : Os) (started : os.Started) (H : Type) (enc : TypeId × Value → H) :
    ReturnsInHanded {} Try.checked os 7 .any (Rows.f64RootsSpec.pre6 enc Try.prog Try.f7 Rows.f64RootsRow.domain false) (Rows.f64RootsSpec.post enc Try.prog Try.f7 false true false false) := by
  refine returnsInHanded_of_change (C := Try.checked) own started (by kernel_rfl) Try.func7
    (ChangeSpec.witness6 (enc := enc) (C := Try.checked) false ⟨#[], #[.int .i64 0], []⟩ 8 (by kernel_rfl) (by kernel_rfl) (by kernel_rfl) (by kernel_rfl)) ?_
  intro W base args ds gs before hval0 hW hcnd _
  have hval : ∀ (j : Nat) t v, Try.f7.params[j]? = some t → args[j]? = some v → Value.okWide Try.prog W .any base t v := hval0
  have hW' := hW
  obtain ⟨p, q, hA0, hV, rfl, hfz, hnd⟩ := hW
  have hA : DataW.TrodAll enc Try.prog W 0 (fun _ => true) true Try.f7.params.toList args.toList ds p := hA0
  rw [Try.params7] at hA hval
  obtain ⟨v0, vs0, d0, ds0, p0, q0, hargs, rfl, rfl, h0, r0⟩ := trodAll_cons hA
  obtain ⟨rfl, rfl, rfl⟩ := trodAll_nil r0
  obtain rfl : args = #[v0] := by cases args; simp_all
  obtain ⟨rfl, rfl⟩ := trodVars_none hV
  obtain ⟨a0, rfl, rfl, rfl, w0⟩ := open_int Try.underlying3 (hval 0 3 v0 rfl rfl) h0
  clear hA0 hval0
  simp only [List.append_nil] at hW'
  refine (walk a0 w0 W).mono fun e W' ⟨he, hg⟩ => ?_
  subst he
  exact ⟨_, rfl, post_of_same (pa := []) (pv := []) hW' (fun _ _ _ => (trodAll_cons_mk (shut_bool Try.underlying4 _) trodAll_mk0)) (fun sp _ => (trodAll_cons_mk (shut_int Try.underlying3 w0) trodAll_mk0)) (fun _ _ => rfl) rfl
    (hg.frame _) hg.2.1 (ok_one (by kernel_rfl) rfl (okWide_bool_mk Try.underlying4 _))⟩

theorem over : Rows.f64RootsRow.holds Try.pinned (OpenSpec.ofChange Rows.f64RootsSpec) :=
  OpenClaim.holds_of_wide 7 Try.f7 rfl rfl rfl rfl rfl rfl rfl ⟨rfl, rfl, rfl, rfl, rfl⟩ rfl rfl rfl rfl rfl (by kernel_rfl) Try.func7 (by kernel_rfl)
    (of_decide_eq_true (by kernel_rfl)) (by unfold Func.isWrapper; first | (rw [if_pos (by decide +kernel)]; kernel_rfl) | (rw [if_neg (by decide +kernel)]; exact ⟨rfl, rfl⟩))
    (fun os started H enc _ => lifted os started H enc)

theorem proved : Rows.F64RootsSaid := over
end Go.Proofs.Ytobhihggdoccoab.f64Roots
namespace Go.Proofs.Ytobhihggdoccoab
theorem f64Roots_holds : Rows.F64RootsSaid := f64Roots.proved
#print axioms f64Roots_holds
end Go.Proofs.Ytobhihggdoccoab

