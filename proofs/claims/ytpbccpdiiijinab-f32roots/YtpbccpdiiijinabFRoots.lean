/- 'F32Roots' of package peloruslaw4 returns true at every int: the root of a float, and the squares of what lies beside it. No condition. -/
import Derived.Test.YtpbccpdiiijinabL32A
import Derived.OpenShut
namespace Go.Proofs.Ytpbccpdiiijinab.f32Roots
open Go.ChangeShapes Go.WideShapes Go.ChangeAt Go.RowKit
open Go.FM (isN fixn qn)
set_option linter.unusedVariables false

theorem own : ownKnob Try.prog.godebug = none := by kernel_rfl

set_option maxRecDepth 100000 in
set_option maxHeartbeats 2000000 in
theorem nanC (a x b : Int) (hx : bits .and .i64 a 4294967295 = x) (r1 : Hid (unI 145 x = (2143289344, 0))) (r2 : Hid (binI 91 x x = (0, 0))) (r3 : Hid (binI 93 x 0 = (b, 0))) (w : World) :
    Calls Try.prog 5 #[.int .i64 a] w fun e w' => e = .returned (.bool true) ∧ Grown w w' := by
  go_enter Try.func5, Try.ntmps5
  go_wp2_with fail
  refine (awake_any _).mono ?_
  rintro e w' ⟨rfl, bs139, n139, rfl⟩
  go_wp2_with fail
  refine (un_eq r1.out _).mono ?_
  rintro e w' ⟨rfl, bs140, n140, rfl⟩
  go_wp2_with fail
  refine (cmp_eq (by decide) r2.out _).mono ?_
  rintro e w' ⟨rfl, rfl⟩
  go_wp2_with fail
  refine (cmp_eq (by decide) r3.out _).mono ?_
  rintro e w' ⟨rfl, rfl⟩
  go_wp2_with (go_at_call 10; refine (num_any _ _).mono ?_; rintro e w' ⟨rfl, rfl⟩)
  all_goals
    go_ret
    exact ⟨rfl, (later_grown (by repeat (first | exact Later.refl _ | refine Later.alloc ?_ | refine Later.far ?_ | refine Later.drewN ?_ | refine Later.drew ?_)))⟩
set_option maxRecDepth 100000 in
set_option maxHeartbeats 2000000 in
theorem below (a x : Int) (hx : bits .and .i64 a 4294967295 = x) (r1 : Hid (unI 145 x = (2143289344, 0))) (r2 : Hid (binI 91 x x = (1, 0))) (r3 : Hid (binI 93 x 0 = (1, 0))) (w : World) :
    Calls Try.prog 5 #[.int .i64 a] w fun e w' => e = .returned (.bool true) ∧ Grown w w' := by
  go_enter Try.func5, Try.ntmps5
  go_wp2_with fail
  refine (awake_any _).mono ?_
  rintro e w' ⟨rfl, bs141, n141, rfl⟩
  go_wp2_with fail
  refine (un_eq r1.out _).mono ?_
  rintro e w' ⟨rfl, bs142, n142, rfl⟩
  go_wp2_with fail
  refine (cmp_eq (by decide) r2.out _).mono ?_
  rintro e w' ⟨rfl, rfl⟩
  go_wp2_with fail
  refine (cmp_eq (by decide) r3.out _).mono ?_
  rintro e w' ⟨rfl, rfl⟩
  go_wp2_with (go_at_call 10; refine (num_any _ _).mono ?_; rintro e w' ⟨rfl, rfl⟩)
  all_goals
    go_ret
    exact ⟨rfl, (later_grown (by repeat (first | exact Later.refl _ | refine Later.alloc ?_ | refine Later.far ?_ | refine Later.drewN ?_ | refine Later.drew ?_)))⟩
set_option maxRecDepth 100000 in
set_option maxHeartbeats 2000000 in
theorem nil (a x : Int) (hx : bits .and .i64 a 4294967295 = x) (r1 : Hid (unI 145 x = (x, 0))) (r2 : Hid (binI 91 x x = (1, 0))) (r3 : Hid (binI 93 x 0 = (0, 0))) (t1 : bits .andNot .i64 x 2147483648 = 0) (w : World) :
    Calls Try.prog 5 #[.int .i64 a] w fun e w' => e = .returned (.bool true) ∧ Grown w w' := by
  go_enter Try.func5, Try.ntmps5
  go_wp2_with fail
  refine (awake_any _).mono ?_
  rintro e w' ⟨rfl, bs143, n143, rfl⟩
  go_wp2_with fail
  refine (un_eq r1.out _).mono ?_
  rintro e w' ⟨rfl, bs144, n144, rfl⟩
  go_wp2_with fail
  refine (cmp_eq (by decide) r2.out _).mono ?_
  rintro e w' ⟨rfl, rfl⟩
  go_wp2_with fail
  refine (cmp_eq (by decide) r3.out _).mono ?_
  rintro e w' ⟨rfl, rfl⟩
  go_wp2_with (go_at_call 10; refine (num_any _ _).mono ?_; rintro e w' ⟨rfl, rfl⟩)
  all_goals
    go_ret
    exact ⟨rfl, (later_grown (by repeat (first | exact Later.refl _ | refine Later.alloc ?_ | refine Later.far ?_ | refine Later.drewN ?_ | refine Later.drew ?_)))⟩
set_option maxRecDepth 100000 in
set_option maxHeartbeats 2000000 in
theorem endless (a : Int) (hx : bits .and .i64 a 4294967295 = 2139095040) (r1 : Hid (unI 145 2139095040 = (2139095040, 0))) (r2 : Hid (binI 91 2139095040 2139095040 = (1, 0))) (r3 : Hid (binI 93 2139095040 0 = (0, 0))) (t1 : bits .andNot .i64 2139095040 2147483648 = 2139095040) (w : World) :
    Calls Try.prog 5 #[.int .i64 a] w fun e w' => e = .returned (.bool true) ∧ Grown w w' := by
  go_enter Try.func5, Try.ntmps5
  go_wp2_with fail
  refine (awake_any _).mono ?_
  rintro e w' ⟨rfl, bs145, n145, rfl⟩
  go_wp2_with fail
  refine (un_eq r1.out _).mono ?_
  rintro e w' ⟨rfl, bs146, n146, rfl⟩
  go_wp2_with fail
  refine (cmp_eq (by decide) r2.out _).mono ?_
  rintro e w' ⟨rfl, rfl⟩
  go_wp2_with fail
  refine (cmp_eq (by decide) r3.out _).mono ?_
  rintro e w' ⟨rfl, rfl⟩
  go_wp2_with (go_at_call 10; refine (num_any _ _).mono ?_; rintro e w' ⟨rfl, rfl⟩)
  all_goals
    go_ret
    exact ⟨rfl, (later_grown (by repeat (first | exact Later.refl _ | refine Later.alloc ?_ | refine Later.far ?_ | refine Later.drewN ?_ | refine Later.drew ?_)))⟩
set_option maxRecDepth 100000 in
set_option maxHeartbeats 2000000 in
theorem plain (a x r : Int) (hx : bits .and .i64 a 4294967295 = x) (r1 : Hid (unI 145 x = (r, 0))) (r2 : Hid (binI 91 x x = (1, 0))) (r3 : Hid (binI 93 x 0 = (0, 0))) (z lo hi : Int) (t1 : bits .andNot .i64 x 2147483648 = z) (t2 : (z == 0) = false) (t3 : (x == 2139095040) = false) (g1 : 1 ≤ r) (g2 : r ≤ 2139095038) (r4 : Hid (binI 148 (r - 1) (r - 1) = (lo, 0))) (r5 : Hid (binI 148 (r + 1) (r + 1) = (hi, 0))) (r6 : Hid (binI 95 lo x = (1, 0))) (r7 : Hid (binI 96 hi x = (1, 0))) (w : World) :
    Calls Try.prog 5 #[.int .i64 a] w fun e w' => e = .returned (.bool true) ∧ Grown w w' := by
  go_enter Try.func5, Try.ntmps5
  go_wp2_with fail
  refine (awake_any _).mono ?_
  rintro e w' ⟨rfl, bs149, n149, rfl⟩
  go_wp2_with fail
  refine (un_eq r1.out _).mono ?_
  rintro e w' ⟨rfl, bs150, n150, rfl⟩
  go_wp2_with fail
  refine (cmp_eq (by decide) r2.out _).mono ?_
  rintro e w' ⟨rfl, rfl⟩
  go_wp2_with fail
  refine (cmp_eq (by decide) r3.out _).mono ?_
  rintro e w' ⟨rfl, rfl⟩
  go_wp2_with (go_at_call 10; refine (num_any _ _).mono ?_; rintro e w' ⟨rfl, rfl⟩)
  refine (bin_eq r4.out _).mono ?_
  rintro e w' ⟨rfl, bs147, n147, rfl⟩
  go_wp2_with (go_at_call 10; refine (num_any _ _).mono ?_; rintro e w' ⟨rfl, rfl⟩)
  refine (bin_eq r5.out _).mono ?_
  rintro e w' ⟨rfl, bs148, n148, rfl⟩
  go_wp2_with fail
  refine (cmp_eq (by decide) r6.out _).mono ?_
  rintro e w' ⟨rfl, rfl⟩
  go_wp2_with fail
  refine (cmp_eq (by decide) r7.out _).mono ?_
  rintro e w' ⟨rfl, rfl⟩
  go_wp2_with (go_at_call 10; refine (num_any _ _).mono ?_; rintro e w' ⟨rfl, rfl⟩)
  all_goals
    go_ret
    exact ⟨rfl, (later_grown (by repeat (first | exact Later.refl _ | refine Later.alloc ?_ | refine Later.far ?_ | refine Later.drewN ?_ | refine Later.drew ?_)))⟩
theorem word_plain (r : Nat) : sf.word false r = r := rfl
theorem key_minus {r : Nat} (h : 0 < r) : FM.key true r < 0 := by show -(r : Int) < 0; omega
theorem key_plus {r : Nat} (h : 0 < r) : 0 < FM.key false r := by show 0 < (r : Int); omega
theorem key_zero (s : Bool) : FM.key s 0 = 0 := by cases s <;> rfl
theorem key_false (r : Nat) : FM.key false r = (r : Int) := rfl
theorem inf1 : unI 145 2139095040 = (2139095040, 0) := by decide +kernel
theorem inf2 : binI 91 2139095040 2139095040 = (1, 0) := by decide +kernel
theorem inf3 : binI 93 2139095040 0 = (0, 0) := by decide +kernel
theorem inf4 : bits .andNot .i64 2139095040 2147483648 = 2139095040 := FM.andNot_top 2139095040 (by decide)
theorem walk (a0 : Int) (w0 : (Lit.int .i64 a0).wf = true) (w : World) :
    Calls Try.prog 5 #[.int .i64 a0] w fun e w' => e = .returned (.bool true) ∧ Grown w w' := by
  obtain ⟨X, hX, hXl⟩ := low_word a0
  have hA := FM.andNot_top X hXl
  have hr := FM.rg32 X
  have hz : sf.order X 0 = none ∨ sf.order X 0 = some (compare (FM.key (FM.sg sf X) (FM.rg sf X)) 0) := by
    by_cases hn : isN sf X
    · exact Or.inl (FM.order_nan_l sf hsf X 0 hn)
    · right
      have := FM.order_key sf hsf X 0 (by unfold isN at hn; omega) (by decide +kernel)
      rw [show FM.sg sf 0 = false from by decide +kernel, show FM.rg sf 0 = 0 from by decide +kernel] at this
      exact this
  have q1 : unI 145 X = (((FM.rootW sf X : Nat) : Int), 0) := by rw [uI 145 X hXl (by decide), unW_145]
  have q3 := bI 93 X 0 hXl (by decide) (by decide)
  rw [f_lt] at q3
  by_cases hn : isN sf X
  · rw [root_nan X hn, qn32] at q1
    exact nanC a0 X _ hX q1 (b_nan X hXl hn).1 q3 w
  have q2 := (b_num X hXl hn).1
  rcases hz with hz | hz
  · have := FM.order_key sf hsf X 0 (by unfold isN at hn; omega) (by decide +kernel)
    rw [hz] at this; cases this
  by_cases h0 : FM.rg sf X = 0
  · have hk : FM.key (FM.sg sf X) (FM.rg sf X) = 0 := by rw [h0, key_zero]
    rw [hz, hk, FM.cmp_eq rfl] at q3
    obtain ⟨s, r, e, g1, g2, g3⟩ := FM.parts32 X hXl
    have hr0 : r = 0 := by rw [← g3]; exact h0
    have hroot : FM.rootW sf X = X := by
      rw [e, hr0]; cases s <;> decide +kernel
    rw [hroot] at q1
    exact nil a0 X hX q1 q2 q3 (by rw [hA, ← hr]; exact congrArg _ h0) w
  cases hs : FM.sg sf X with
  | true =>
    have hk : FM.key (FM.sg sf X) (FM.rg sf X) < 0 := by rw [hs]; exact key_minus (by omega)
    rw [hz, FM.cmp_lt hk] at q3
    have hroot : FM.rootW sf X = 2143289344 := by
      rcases root_cases X hXl hn with ⟨D, E, h1, h2, h3, h4, h5⟩ | ⟨D, h1, h2, h3⟩
      · unfold FM.rootW
        refine fix_none ?_
        unfold Ieee.Format.sqrt
        rcases FM.fin_or_inf sf X hn with h6 | h6
        · rw [FM.read_num sf X h6, hs]
          unfold Ieee.Datum.root; dsimp only
          rw [if_neg (fun g => h0 ((FM.mag_zero sf _).1 g)), if_pos rfl]; exact Option.map_none _
        · rw [FM.read_inf sf hsf X h6, hs]; unfold Ieee.Datum.root; dsimp only; rw [if_pos rfl]; exact Option.map_none _
      · rw [h3]; exact qn32
    rw [hroot] at q1
    exact below a0 X hX q1 q2 q3 w
  | false =>
    have hk : 0 < FM.key (FM.sg sf X) (FM.rg sf X) := by rw [hs]; exact key_plus (by omega)
    rw [hz, FM.cmp_gt hk] at q3
    have hXr : X = FM.rg sf X := by
      have := FM.word_parts sf X (sw2 X hXl)
      rw [hs, word_plain] at this; exact this.symm
    by_cases h1 : FM.rg sf X = sf.infRung
    · have hX2 : X = 2139095040 := by rw [hXr, h1]; exact FM.inf32
      subst hX2
      clear q1 q2 q3 hA hr hz hk
      exact endless a0 hX inf1 inf2 inf3 inf4 w
    · have hfin : FM.rg sf X < sf.infRung := by unfold isN at hn; omega
      obtain ⟨t, v, P, e1, e2, e3, e4, e5, e6⟩ := FM.sqrt_parts sf X hfin (by omega) hs
      have hi := FM.near_inf sf (FM.rs (FM.mag sf (FM.rg sf X) * 2 ^ t) v) (P - 1)
      generalize hR : FM.near sf (FM.rs (FM.mag sf (FM.rg sf X) * 2 ^ t) v) (P - 1) = R at e1 hi
      obtain ⟨c1, c2⟩ := FM.root_about sf X R hfin (by omega) hs hsf (by decide +kernel) e1 hi
      have hi2 : R + 1 < sf.infRung := by
        have hp := FM.plc_single (FM.rg sf X) hfin
        have hle : R ≤ 2139095038 := by
          rw [← hR]
          refine FM.near_le_val sf _ _ _ ?_
          have hM1 : FM.rs (FM.mag sf (FM.rg sf X) * 2 ^ t) v < 2 ^ 27 := by
            have : v < 2 ^ 26 := e5
            unfold FM.rs; split <;> omega
          have hP : P ≤ 64 := by
            have : FM.plc sf (FM.rg sf X) ≤ 104 := hp
            omega
          have a2 : FM.val sf (253 * sf.binade + (2 * sf.binade - 2)) = (2 * sf.binade - 2) * 2 ^ 253 := FM.val_at sf 253 _ (Or.inr (by decide +kernel)) (by omega)
          rw [show 253 * sf.binade + (2 * sf.binade - 2) = 2139095038 from by decide +kernel] at a2
          have hlp : sf.leastPlace = -149 := FM.least_single
          rw [hlp, a2]
          have a1 : FM.rs (FM.mag sf (FM.rg sf X) * 2 ^ t) v * 2 ^ (P - 1 - -149).toNat < 2 ^ 240 := FM.pow_lt_of hM1 _ (by omega)
          have a3 : 2 ^ 240 ≤ (2 * sf.binade - 2) * 2 ^ 253 * 2 ^ (-149 - (P - 1)).toNat :=
            Nat.le_trans (Nat.pow_le_pow_right (by decide) (show 240 ≤ 253 by decide)) (Nat.le_trans (Nat.le_mul_of_pos_left _ (by decide +kernel)) (Nat.le_mul_of_pos_right _ (Nat.two_pow_pos _)))
          exact Nat.le_of_lt (Nat.lt_of_lt_of_le a1 a3)
        have : sf.infRung = 2139095040 := FM.inf32
        omega
      obtain ⟨d1, d2⟩ := c2 (by omega)
      have hinf : sf.infRung = 2139095040 := FM.inf32
      have hsw : sf.signWeight = 2147483648 := FM.sw32
      have hroot : FM.rootW sf X = R := by unfold FM.rootW; exact fix_some (by rw [e1, word_plain])
      rw [hroot] at q1
      -- a square of a positive float
      have sqr : ∀ r : Nat, r < sf.infRung → binI 148 r r = (((FM.near sf (FM.mag sf r * FM.mag sf r) (FM.plc sf r + FM.plc sf r) : Nat) : Int), 0) := by
        intro r hr
        have hrw := FM.rg_word sf false r (by omega)
        have hsg := FM.sg_word sf false r (by omega)
        have hword : sf.word false r = r := rfl
        rw [hword] at hrw hsg
        rw [bI 148 r r (by omega) (by omega) (by decide), f_mul, fix_some (r := FM.near sf (FM.mag sf r * FM.mag sf r) (FM.plc sf r + FM.plc sf r)) ?_]
        unfold Ieee.Format.mul
        rw [FM.read_num sf r (by rw [hrw]; exact hr), hrw, hsg]
        show some (sf.nearest false _ _) = _
        rw [FM.nearest_near, word_plain]
      have cmp : ∀ L : Nat, L ≤ sf.infRung → sf.order L X = some (compare (L : Int) (FM.rg sf X : Int)) := by
        intro L hL
        have hrw := FM.rg_word sf false L (by omega)
        have hsg := FM.sg_word sf false L (by omega)
        have hword : sf.word false L = L := rfl
        rw [hword] at hrw hsg
        rw [FM.order_key sf hsf L X (by rw [hrw]; exact hL) (by omega), hrw, hsg, hs, key_false, key_false]
      have n1 := FM.near_inf sf (FM.mag sf (R - 1) * FM.mag sf (R - 1)) (FM.plc sf (R - 1) + FM.plc sf (R - 1))
      have n2 := FM.near_inf sf (FM.mag sf (R + 1) * FM.mag sf (R + 1)) (FM.plc sf (R + 1) + FM.plc sf (R + 1))
      have s1 := sqr (R - 1) (by omega)
      have s2 := sqr (R + 1) (by omega)
      generalize FM.near sf (FM.mag sf (R - 1) * FM.mag sf (R - 1)) (FM.plc sf (R - 1) + FM.plc sf (R - 1)) = L1 at *
      generalize FM.near sf (FM.mag sf (R + 1) * FM.mag sf (R + 1)) (FM.plc sf (R + 1) + FM.plc sf (R + 1)) = L2 at *
      have o1 : sf.order L1 X = some .lt ∨ sf.order L1 X = some .eq := by
        rw [cmp L1 n1]
        rcases Nat.lt_or_ge L1 (FM.rg sf X) with h | h
        · exact Or.inl (by rw [FM.cmp_lt (by omega)])
        · exact Or.inr (by rw [FM.cmp_eq (by omega)])
      have o2 : sf.order L2 X = some .gt ∨ sf.order L2 X = some .eq := by
        rw [cmp L2 n2]
        rcases Nat.lt_or_ge (FM.rg sf X) L2 with h | h
        · exact Or.inl (by rw [FM.cmp_gt (by omega)])
        · exact Or.inr (by rw [FM.cmp_eq (by omega)])
      have hR1 : ((R - 1 : Nat) : Int) = (R : Int) - 1 := by omega
      have hR2 : ((R + 1 : Nat) : Int) = (R : Int) + 1 := by omega
      rw [hR1] at s1
      rw [hR2] at s2
      refine plain a0 X R hX q1 q2 q3 _ _ _ hA (beq_eq_false_iff_ne.2 ?_) (beq_eq_false_iff_ne.2 ?_) (by omega) (by omega) s1 s2 ?_ ?_ w
      · intro h; apply h0; show FM.rg Ieee.single X = 0; rw [hr]; omega
      · intro h; apply h1; show FM.rg Ieee.single X = Ieee.single.infRung; rw [hr, FM.inf32]; omega
      · show _ = _; rw [bI 95 L1 X (by omega) hXl (by decide), f_le, if_pos o1]; rfl
      · show _ = _; rw [bI 96 L2 X (by omega) hXl (by decide), f_ge, if_pos o2]; rfl

/-! ### THE ROW's STEP: WRITTEN OUT: LEAVE IT -/
set_option maxRecDepth 100000 in
theorem lifted (os : Os) (started : os.Started) (H : Type) (enc : TypeId × Value → H) :
    ReturnsInHanded {} Try.checked os 5 .any (Rows.f32RootsSpec.pre6 enc Try.prog Try.f5 Rows.f32RootsRow.domain false) (Rows.f32RootsSpec.post enc Try.prog Try.f5 false true false false) := by
  refine returnsInHanded_of_change (C := Try.checked) own started (by kernel_rfl) Try.func5
    (ChangeSpec.witness6 (enc := enc) (C := Try.checked) false ⟨#[], #[.int .i64 0], []⟩ 8 (by kernel_rfl) (by kernel_rfl) (by kernel_rfl) (by kernel_rfl)) ?_
  intro W base args ds gs before hval0 hW hcnd _
  have hval : ∀ (j : Nat) t v, Try.f5.params[j]? = some t → args[j]? = some v → Value.okWide Try.prog W .any base t v := hval0
  have hW' := hW
  obtain ⟨p, q, hA0, hV, rfl, hfz, hnd⟩ := hW
  have hA : DataW.TrodAll enc Try.prog W 0 (fun _ => true) true Try.f5.params.toList args.toList ds p := hA0
  rw [Try.params5] at hA hval
  obtain ⟨v0, vs0, d0, ds0, p0, q0, hargs, rfl, rfl, h0, r0⟩ := trodAll_cons hA
  obtain ⟨rfl, rfl, rfl⟩ := trodAll_nil r0
  obtain rfl : args = #[v0] := by cases args; simp_all
  obtain ⟨rfl, rfl⟩ := trodVars_none hV
  obtain ⟨a0, rfl, rfl, rfl, w0⟩ := open_int Try.underlying3 (hval 0 3 v0 rfl rfl) h0
  clear hA0 hval0
  simp only [List.append_nil] at hW'
  refine (walk a0 w0 W).mono fun e W' ⟨he, hg⟩ => ?_
  subst he
  exact ⟨_, rfl, post_of_same (pa := []) (pv := []) hW' (fun _ _ _ => (trodAll_cons_mk (shut_bool Try.underlying4 _) trodAll_mk0)) (fun sp _ => (trodAll_cons_mk (shut_int Try.underlying3 w0) trodAll_mk0)) (fun _ _ => rfl) rfl
    (hg.frame _) hg.2.1 (ok_one (by kernel_rfl) rfl (okWide_bool_mk Try.underlying4 _))⟩

theorem over : Rows.f32RootsRow.holds Try.pinned (OpenSpec.ofChange Rows.f32RootsSpec) :=
  OpenClaim.holds_of_wide 5 Try.f5 rfl rfl rfl rfl rfl rfl rfl ⟨rfl, rfl, rfl, rfl, rfl⟩ rfl rfl rfl rfl rfl (by kernel_rfl) Try.func5 (by kernel_rfl)
    (of_decide_eq_true (by kernel_rfl)) (by unfold Func.isWrapper; first | (rw [if_pos (by decide +kernel)]; kernel_rfl) | (rw [if_neg (by decide +kernel)]; exact ⟨rfl, rfl⟩))
    (fun os started H enc _ => lifted os started H enc)

theorem proved : Rows.F32RootsSaid := over
end Go.Proofs.Ytpbccpdiiijinab.f32Roots
namespace Go.Proofs.Ytpbccpdiiijinab
theorem f32Roots_holds : Rows.F32RootsSaid := f32Roots.proved
#print axioms f32Roots_holds
end Go.Proofs.Ytpbccpdiiijinab

