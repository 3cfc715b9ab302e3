/- 'F64Each' of package peloruslaw5 returns true at every two ints: each operation on the same two floats answers as the document says. No condition. -/
import Derived.Test.YtobhihggdoccoaaDFin
import Derived.OpenShut
import Derived.LoopTactic
namespace Go.Proofs.Ytobhihggdoccoaa.f64Each
open Go.ChangeShapes Go.WideShapes Go.ChangeAt Go.RowKit
open Go.FM (isN fixn qn)
set_option linter.unusedVariables false

theorem own : ownKnob Try.prog.godebug = none := by kernel_rfl

set_option maxRecDepth 100000 in
set_option maxHeartbeats 2000000 in
theorem core (a b : Int) (ha : Hid (in64 a)) (hb : Hid (in64 b)) (w : World) :
    Calls Try.prog 6 #[.int .i64 a, .int .i64 b] w fun e w' => e = .returned (.bool true) ∧ Grown w w' := by
  go_enter Try.func6, Try.ntmps6
  go_wp2_with fail
  refine (awake_any _).mono ?_
  rintro e w' ⟨rfl, bs0, n0, rfl⟩
  go_wp2
  go_loopw [5] (fun i wr => ∃ j : Nat, j ≤ 80 ∧ i = .int .i64 ((88 + j : Nat) : Int) ∧ Later w wr) (fun i _ => 168 - (intOf i).toNat)
  case atStart => exact ⟨0, Nat.zero_le _, rfl, ⟨_, _, rfl⟩⟩
  case round =>
    obtain ⟨j, hj, rfl, bs, n, rfl⟩ := hrel
    by_cases hlt : j < 80
    · obtain ⟨op, hop⟩ : ∃ op : Int, ((88 + j : Nat) : Int) = op := ⟨_, rfl⟩
      rw [hop]
      have o1 : 88 ≤ op := by omega
      have o2 : op < 168 := by omega
      have HO : Hid (op = ((88 + j : Nat) : Int)) := hop.symm
      clear hop
      obtain ⟨X, E, r1⟩ : ∃ X E, Hid (unI op a = (X, E)) := ⟨_, _, rfl⟩
      obtain ⟨P, G, r2⟩ : ∃ P G, Hid (binI op a b = (P, G)) := ⟨_, _, rfl⟩
      go_wp2_with fail
      refine (un_eq r1.out _).mono ?_
      rintro e w' ⟨rfl, bs1, n1, rfl⟩
      go_wp2_with fail
      refine (D.run_eq r1.out _).mono ?_
      rintro e w' ⟨rfl, bs2, n2, rfl⟩
      go_wp2_with fail
      refine (bin_eq (Or.inr ⟨ha.out, hb.out⟩) r2.out _).mono ?_
      rintro e w' ⟨rfl, bs3, n3, rfl⟩
      go_wp2_with fail
      refine (D.rbin_eq r2.out _).mono ?_
      rintro e w' ⟨rfl, bs4, n4, rfl⟩
      go_wp2_with (go_at_call 13; refine (num_any _ _).mono ?_; rintro e w' ⟨rfl, rfl⟩)
      go_roundw
      case rel => exact ⟨j + 1, by omega, by rw [HO.out]; go_num, (by repeat (first | exact Later.refl _ | refine Later.alloc ?_ | refine Later.far ?_ | refine Later.drewN ?_ | refine Later.drew ?_))⟩
      case measure => simp [intOf]; omega
    · have hjw : j = 80 := by omega
      subst hjw
      go_wp2
      go_ret
      exact ⟨rfl, later_grown (by repeat (first | exact Later.refl _ | refine Later.alloc ?_ | refine Later.far ?_ | refine Later.drewN ?_ | refine Later.drew ?_))⟩
theorem walk (a0 : Int) (a1 : Int) (w0 : (Lit.int .i64 a0).wf = true) (w1 : (Lit.int .i64 a1).wf = true) (w : World) :
    Calls Try.prog 6 #[.int .i64 a0, .int .i64 a1] w fun e w' => e = .returned (.bool true) ∧ Grown w w' := by
  exact core a0 a1 (bounds_i64 w0) (bounds_i64 w1) w

/-! ### THE ROW's STEP: WRITTEN OUT: LEAVE IT -/
set_option maxRecDepth 100000 in
theorem lifted (os : Os) (started : os.Started) (H : Type) (enc : TypeId × Value → H) :
    ReturnsInHanded {} Try.checked os 6 .any (Rows.f64EachSpec.pre6 enc Try.prog Try.f6 Rows.f64EachRow.domain false) (Rows.f64EachSpec.post enc Try.prog Try.f6 false true false false) := by
  refine returnsInHanded_of_change (C := Try.checked) own started (by kernel_rfl) Try.func6
    (ChangeSpec.witness6 (enc := enc) (C := Try.checked) false ⟨#[], #[.int .i64 0, .int .i64 0], []⟩ 8 (by kernel_rfl) (by kernel_rfl) (by kernel_rfl) (by kernel_rfl)) ?_
  intro W base args ds gs before hval0 hW hcnd _
  have hval : ∀ (j : Nat) t v, Try.f6.params[j]? = some t → args[j]? = some v → Value.okWide Try.prog W .any base t v := hval0
  have hW' := hW
  obtain ⟨p, q, hA0, hV, rfl, hfz, hnd⟩ := hW
  have hA : DataW.TrodAll enc Try.prog W 0 (fun _ => true) true Try.f6.params.toList args.toList ds p := hA0
  rw [Try.params6] at hA hval
  obtain ⟨v0, vs0, d0, ds0, p0, q0, hargs, rfl, rfl, h0, r0⟩ := trodAll_cons hA
  obtain ⟨v1, vs1, d1, ds1, p1, q1, rfl, rfl, rfl, h1, r1⟩ := trodAll_cons r0
  obtain ⟨rfl, rfl, rfl⟩ := trodAll_nil r1
  obtain rfl : args = #[v0, v1] := by cases args; simp_all
  obtain ⟨rfl, rfl⟩ := trodVars_none hV
  obtain ⟨a0, rfl, rfl, rfl, w0⟩ := open_int Try.underlying3 (hval 0 3 v0 rfl rfl) h0
  obtain ⟨a1, rfl, rfl, rfl, w1⟩ := open_int Try.underlying3 (hval 1 3 v1 rfl rfl) h1
  clear hA0 hval0
  simp only [List.append_nil] at hW'
  refine (walk a0 a1 w0 w1 W).mono fun e W' ⟨he, hg⟩ => ?_
  subst he
  exact ⟨_, rfl, post_of_same (pa := []) (pv := []) hW' (fun _ _ _ => (trodAll_cons_mk (shut_bool Try.underlying4 _) trodAll_mk0)) (fun sp _ => (trodAll_cons_mk (shut_int Try.underlying3 w0) (trodAll_cons_mk (shut_int Try.underlying3 w1) trodAll_mk0))) (fun _ _ => rfl) rfl
    (hg.frame _) hg.2.1 (ok_one (by kernel_rfl) rfl (okWide_bool_mk Try.underlying4 _))⟩

theorem over : Rows.f64EachRow.holds Try.pinned (OpenSpec.ofChange Rows.f64EachSpec) :=
  OpenClaim.holds_of_wide 6 Try.f6 rfl rfl rfl rfl rfl rfl rfl ⟨rfl, rfl, rfl, rfl, rfl⟩ rfl rfl rfl rfl rfl (by kernel_rfl) Try.func6 (by kernel_rfl)
    (of_decide_eq_true (by kernel_rfl)) (by unfold Func.isWrapper; first | (rw [if_pos (by decide +kernel)]; kernel_rfl) | (rw [if_neg (by decide +kernel)]; exact ⟨rfl, rfl⟩))
    (fun os started H enc _ => lifted os started H enc)

theorem proved : Rows.F64EachSaid := over
end Go.Proofs.Ytobhihggdoccoaa.f64Each
namespace Go.Proofs.Ytobhihggdoccoaa
theorem f64Each_holds : Rows.F64EachSaid := f64Each.proved
#print axioms f64Each_holds
end Go.Proofs.Ytobhihggdoccoaa

