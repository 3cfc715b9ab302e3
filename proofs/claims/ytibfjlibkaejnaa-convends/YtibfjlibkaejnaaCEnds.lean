/- 'ConvEnds' of package peloruslaw6 returns true at every two ints: truncations at the ends of their types. No condition. -/
import Derived.Test.YtibfjlibkaejnaaL6
import Derived.Test.YtibfjlibkaejnaaMaskI
import Derived.OpenShut
import Derived.RowKit3
namespace Go.Proofs.Ytibfjlibkaejnaa.convEnds
open Go.ChangeShapes Go.WideShapes Go.ChangeAt Go.RowKit
open Go.FM (isN fixn qn sw otherW fromW cutI tval small ofI)
set_option linter.unusedVariables false

theorem own : ownKnob Try.prog.godebug = none := by kernel_rfl

set_option maxRecDepth 100000 in
set_option maxHeartbeats 2000000 in
theorem core (x y D W u v top fin one : Int) (hD : bits .and .i64 y 1023 = D) (hW : bits .and .i64 x 255 = W) (d0 : 0 ≤ D) (d1 : D ≤ 1023) (w0 : 0 ≤ W) (w1 : W ≤ 255)
    (e1 : 4746794007248502783 - D = u) (e2 : 4746794007248502784 + D = v) (e3 : 4890909195324358655 - D = top) (e4 : 4890909195324358656 + D = fin) (e5 : -4616189618054758401 - W = one)
    (b : Int) (hb : 0 < b) (r1 : Hid (ofI 170 u = (2147483647, 0))) (r2 : Hid (ofI 170 v = (0, 601))) (r3 : Hid (ofI 176 top = (b, 0))) (r4 : Hid (ofI 176 fin = (0, 601))) (r5 : Hid (ofI 171 one = (0, 0))) (r6 : Hid (ofI 171 (-4616189618054758400) = (0, 601))) (w : World) :
    Calls Try.prog 6 #[.int .i64 x, .int .i64 y] w fun e w' => e = .returned (.bool true) ∧ Grown w w' := by
  have u0 : -9223372036854775808 ≤ u := by omega
  have u1 : u ≤ 9223372036854775807 := by omega
  have v0 : -9223372036854775808 ≤ v := by omega
  have v1 : v ≤ 9223372036854775807 := by omega
  have top0 : -9223372036854775808 ≤ top := by omega
  have top1 : top ≤ 9223372036854775807 := by omega
  have fin0 : -9223372036854775808 ≤ fin := by omega
  have fin1 : fin ≤ 9223372036854775807 := by omega
  have one0 : -9223372036854775808 ≤ one := by omega
  have one1 : one ≤ 9223372036854775807 := by omega
  clear d0 d1 w0 w1
  go_enter Try.func6, Try.ntmps6
  go_wp2_with fail
  refine (awake_any _).mono ?_
  rintro e w' ⟨rfl, bs0, n0, rfl⟩
  go_wp2_with fail
  refine (of_eq (Or.inl (by decide)) r1.out _).mono ?_
  rintro e w' ⟨rfl, bs1, n1, rfl⟩
  go_wp2_with fail
  refine (of_eq (Or.inl (by decide)) r2.out _).mono ?_
  rintro e w' ⟨rfl, bs2, n2, rfl⟩
  go_wp2_with fail
  refine (of_eq (Or.inl (by decide)) r3.out _).mono ?_
  rintro e w' ⟨rfl, bs3, n3, rfl⟩
  go_wp2_with fail
  refine (of_eq (Or.inl (by decide)) r4.out _).mono ?_
  rintro e w' ⟨rfl, bs4, n4, rfl⟩
  go_wp2_with fail
  refine (of_eq (Or.inl (by decide)) r5.out _).mono ?_
  rintro e w' ⟨rfl, bs5, n5, rfl⟩
  go_wp2_with fail
  refine (of_eq (Or.inl (by decide)) r6.out _).mono ?_
  rintro e w' ⟨rfl, bs6, n6, rfl⟩
  go_wp2_with (go_at_call 11; refine (num_any _ _).mono ?_; rintro e w' ⟨rfl, rfl⟩)
  all_goals
    go_ret
    exact ⟨rfl, (later_grown (by repeat (first | exact Later.refl _ | refine Later.alloc ?_ | refine Later.far ?_ | refine Later.drewN ?_ | refine Later.drew ?_)))⟩
theorem walk (a0 : Int) (a1 : Int) (w0 : (Lit.int .i64 a0).wf = true) (w1 : (Lit.int .i64 a1).wf = true) (w : World) :
    Calls Try.prog 6 #[.int .i64 a0, .int .i64 a1] w fun e w' => e = .returned (.bool true) ∧ Grown w w' := by
  have m1 := MI.and_mask a1 10 (by decide)
  have m2 := MI.and_mask a0 8 (by decide)
  obtain ⟨d, hd, hd1⟩ : ∃ d : Nat, a1 % (2 ^ 10 : Nat) = (d : Int) ∧ d < 1024 := ⟨(a1 % (2 ^ 10 : Nat)).toNat, by omega, by omega⟩
  obtain ⟨v, hv, hv1⟩ : ∃ v : Nat, a0 % (2 ^ 8 : Nat) = (v : Int) ∧ v < 256 := ⟨(a0 % (2 ^ 8 : Nat)).toNat, by omega, by omega⟩
  rw [hd] at m1
  rw [hv] at m2
  obtain ⟨b, hb, hb0⟩ := FM.end_top d hd1
  refine core a0 a1 d v _ _ _ _ _ m1 m2 (by omega) (by omega) (by omega) (by omega) rfl rfl rfl rfl rfl b hb0 ?_ ?_ ?_ ?_ ?_ ?_ w
  · show _ = _; rw [FM.of_170, show ((4746794007248502783 - (d : Int)) % 18446744073709551616).toNat = 4746794007248502784 - 1 - d from by omega]; exact FM.end_high d hd1
  · show _ = _; rw [FM.of_170, show ((4746794007248502784 + (d : Int)) % 18446744073709551616).toNat = 4746794007248502784 + d from by omega]; exact FM.end_high2 d hd1
  · show _ = _; rw [FM.of_176, show ((4890909195324358655 - (d : Int)) % 18446744073709551616).toNat = 4890909195324358656 - 1 - d from by omega]; exact hb
  · show _ = _; rw [FM.of_176, show ((4890909195324358656 + (d : Int)) % 18446744073709551616).toNat = 4890909195324358656 + d from by omega]; exact FM.end_top2 d hd1
  · show _ = _; rw [FM.of_171, show ((-4616189618054758401 - (v : Int)) % 18446744073709551616).toNat = 13830554455654793215 - v from by omega]; exact FM.end_one v hv1
  · show _ = _; rw [FM.of_171, show ((-4616189618054758400 : Int) % 18446744073709551616).toNat = 13830554455654793216 from by decide]; exact FM.end_one2

/-! ### THE ROW's STEP: WRITTEN OUT: LEAVE IT -/
set_option maxRecDepth 100000 in
theorem lifted (os : Os) (started : os.Started) (H : Type) (enc : TypeId × Value → H) :
    ReturnsInHanded {} Try.checked os 6 .any (Rows.convEndsSpec.pre6 enc Try.prog Try.f6 Rows.convEndsRow.domain false) (Rows.convEndsSpec.post enc Try.prog Try.f6 false true false false) := by
  refine returnsInHanded_of_change (C := Try.checked) own started (by kernel_rfl) Try.func6
    (ChangeSpec.witness6 (enc := enc) (C := Try.checked) false ⟨#[], #[.int .i64 0, .int .i64 0], []⟩ 8 (by kernel_rfl) (by kernel_rfl) (by kernel_rfl) (by kernel_rfl)) ?_
  intro W base args ds gs before hval0 hW hcnd _
  have hval : ∀ (j : Nat) t v, Try.f6.params[j]? = some t → args[j]? = some v → Value.okWide Try.prog W .any base t v := hval0
  have hW' := hW
  obtain ⟨p, q, hA0, hV, rfl, hfz, hnd⟩ := hW
  have hA : DataW.TrodAll enc Try.prog W 0 (fun _ => true) true Try.f6.params.toList args.toList ds p := hA0
  rw [Try.params6] at hA hval
  obtain ⟨v0, vs0, d0, ds0, p0, q0, hargs, rfl, rfl, h0, r0⟩ := trodAll_cons hA
  obtain ⟨v1, vs1, d1, ds1, p1, q1, rfl, rfl, rfl, h1, r1⟩ := trodAll_cons r0
  obtain ⟨rfl, rfl, rfl⟩ := trodAll_nil r1
  obtain rfl : args = #[v0, v1] := by cases args; simp_all
  obtain ⟨rfl, rfl⟩ := trodVars_none hV
  obtain ⟨a0, rfl, rfl, rfl, w0⟩ := open_int Try.underlying3 (hval 0 3 v0 rfl rfl) h0
  obtain ⟨a1, rfl, rfl, rfl, w1⟩ := open_int Try.underlying3 (hval 1 3 v1 rfl rfl) h1
  clear hA0 hval0
  simp only [List.append_nil] at hW'
  refine (walk a0 a1 w0 w1 W).mono fun e W' ⟨he, hg⟩ => ?_
  subst he
  exact ⟨_, rfl, post_of_same (pa := []) (pv := []) hW' (fun _ _ _ => (trodAll_cons_mk (shut_bool Try.underlying4 _) trodAll_mk0)) (fun sp _ => (trodAll_cons_mk (shut_int Try.underlying3 w0) (trodAll_cons_mk (shut_int Try.underlying3 w1) trodAll_mk0))) (fun _ _ => rfl) rfl
    (hg.frame _) hg.2.1 (ok_one (by kernel_rfl) rfl (okWide_bool_mk Try.underlying4 _))⟩

theorem over : Rows.convEndsRow.holds Try.pinned (OpenSpec.ofChange Rows.convEndsSpec) :=
  OpenClaim.holds_of_wide 6 Try.f6 rfl rfl rfl rfl rfl rfl rfl ⟨rfl, rfl, rfl, rfl, rfl⟩ rfl rfl rfl rfl rfl (by kernel_rfl) Try.func6 (by kernel_rfl)
    (of_decide_eq_true (by kernel_rfl)) (by unfold Func.isWrapper; first | (rw [if_pos (by decide +kernel)]; kernel_rfl) | (rw [if_neg (by decide +kernel)]; exact ⟨rfl, rfl⟩))
    (fun os started H enc _ => lifted os started H enc)

theorem proved : Rows.ConvEndsSaid := over
end Go.Proofs.Ytibfjlibkaejnaa.convEnds
namespace Go.Proofs.Ytibfjlibkaejnaa
theorem convEnds_holds : Rows.ConvEndsSaid := convEnds.proved
#print axioms convEnds_holds
end Go.Proofs.Ytibfjlibkaejnaa

