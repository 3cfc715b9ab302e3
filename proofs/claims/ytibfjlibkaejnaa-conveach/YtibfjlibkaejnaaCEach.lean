/- 'ConvEach' of package peloruslaw6 returns true at every int: each conversion of the same bits answers as the document says. No condition. -/
import Derived.Test.YtibfjlibkaejnaaL6
import Derived.Test.YtibfjlibkaejnaaXConv
import Derived.OpenShut
import Derived.LoopTactic
namespace Go.Proofs.Ytibfjlibkaejnaa.convEach
open Go.ChangeShapes Go.WideShapes Go.ChangeAt Go.RowKit
open Go.FM (ofI)
set_option linter.unusedVariables false

theorem own : ownKnob Try.prog.godebug = none := by kernel_rfl

set_option maxRecDepth 100000 in
set_option maxHeartbeats 2000000 in
theorem core (a : Int) (ha : Hid (-9223372036854775808 ≤ a ∧ a ≤ 9223372036854775807)) (w : World) :
    Calls Try.prog 4 #[.int .i64 a] w fun e w' => e = .returned (.bool true) ∧ Grown w w' := by
  go_enter Try.func4, Try.ntmps4
  go_wp2_with fail
  refine (awake_any _).mono ?_
  rintro e w' ⟨rfl, bs0, n0, rfl⟩
  go_wp2
  go_loopw [3] (fun i wr => ∃ j : Nat, j ≤ 29 ∧ i = .int .i64 ((165 + j : Nat) : Int) ∧ Later w wr) (fun i _ => 194 - (intOf i).toNat)
  case atStart => exact ⟨0, Nat.zero_le _, rfl, ⟨_, _, rfl⟩⟩
  case round =>
    obtain ⟨j, hj, rfl, bs, n, rfl⟩ := hrel
    by_cases hlt : j < 29
    · obtain ⟨op, hop⟩ : ∃ op : Int, ((165 + j : Nat) : Int) = op := ⟨_, rfl⟩
      rw [hop]
      have o1 : 165 ≤ op := by omega
      have o2 : op < 194 := by omega
      have HO : Hid (op = ((165 + j : Nat) : Int)) := hop.symm
      clear hop
      obtain ⟨X, E, r1⟩ : ∃ X E, Hid (ofI op a = (X, E)) := ⟨_, _, rfl⟩
      go_wp2_with fail
      refine (of_all r1.out _).mono ?_
      rintro e w' ⟨rfl, bs1, n1, rfl⟩
      go_wp2_with fail
      refine (conv_eq ha.out.1 ha.out.2 r1.out _).mono ?_
      rintro e w' ⟨rfl, bs2, n2, rfl⟩
      go_wp2_with (go_at_call 11; refine (num_any _ _).mono ?_; rintro e w' ⟨rfl, rfl⟩)
      go_roundw
      case rel => exact ⟨j + 1, by omega, by rw [HO.out]; go_num, (by repeat (first | exact Later.refl _ | refine Later.alloc ?_ | refine Later.far ?_ | refine Later.drewN ?_ | refine Later.drew ?_))⟩
      case measure => simp [intOf]; omega
    · have hjw : j = 29 := by omega
      subst hjw
      go_wp2
      go_ret
      exact ⟨rfl, later_grown (by repeat (first | exact Later.refl _ | refine Later.alloc ?_ | refine Later.far ?_ | refine Later.drewN ?_ | refine Later.drew ?_))⟩
theorem walk (a0 : Int) (w0 : (Lit.int .i64 a0).wf = true) (w : World) :
    Calls Try.prog 4 #[.int .i64 a0] w fun e w' => e = .returned (.bool true) ∧ Grown w w' := by
  exact core a0 (bounds_i64 w0) w

/-! ### THE ROW's STEP: WRITTEN OUT: LEAVE IT -/
set_option maxRecDepth 100000 in
theorem lifted (os : Os) (started : os.Started) (H : Type) (enc : TypeId × Value → H) :
    ReturnsInHanded {} Try.checked os 4 .any (Rows.convEachSpec.pre6 enc Try.prog Try.f4 Rows.convEachRow.domain false) (Rows.convEachSpec.post enc Try.prog Try.f4 false true false false) := by
  refine returnsInHanded_of_change (C := Try.checked) own started (by kernel_rfl) Try.func4
    (ChangeSpec.witness6 (enc := enc) (C := Try.checked) false ⟨#[], #[.int .i64 0], []⟩ 8 (by kernel_rfl) (by kernel_rfl) (by kernel_rfl) (by kernel_rfl)) ?_
  intro W base args ds gs before hval0 hW hcnd _
  have hval : ∀ (j : Nat) t v, Try.f4.params[j]? = some t → args[j]? = some v → Value.okWide Try.prog W .any base t v := hval0
  have hW' := hW
  obtain ⟨p, q, hA0, hV, rfl, hfz, hnd⟩ := hW
  have hA : DataW.TrodAll enc Try.prog W 0 (fun _ => true) true Try.f4.params.toList args.toList ds p := hA0
  rw [Try.params4] at hA hval
  obtain ⟨v0, vs0, d0, ds0, p0, q0, hargs, rfl, rfl, h0, r0⟩ := trodAll_cons hA
  obtain ⟨rfl, rfl, rfl⟩ := trodAll_nil r0
  obtain rfl : args = #[v0] := by cases args; simp_all
  obtain ⟨rfl, rfl⟩ := trodVars_none hV
  obtain ⟨a0, rfl, rfl, rfl, w0⟩ := open_int Try.underlying3 (hval 0 3 v0 rfl rfl) h0
  clear hA0 hval0
  simp only [List.append_nil] at hW'
  refine (walk a0 w0 W).mono fun e W' ⟨he, hg⟩ => ?_
  subst he
  exact ⟨_, rfl, post_of_same (pa := []) (pv := []) hW' (fun _ _ _ => (trodAll_cons_mk (shut_bool Try.underlying4 _) trodAll_mk0)) (fun sp _ => (trodAll_cons_mk (shut_int Try.underlying3 w0) trodAll_mk0)) (fun _ _ => rfl) rfl
    (hg.frame _) hg.2.1 (ok_one (by kernel_rfl) rfl (okWide_bool_mk Try.underlying4 _))⟩

theorem over : Rows.convEachRow.holds Try.pinned (OpenSpec.ofChange Rows.convEachSpec) :=
  OpenClaim.holds_of_wide 4 Try.f4 rfl rfl rfl rfl rfl rfl rfl ⟨rfl, rfl, rfl, rfl, rfl⟩ rfl rfl rfl rfl rfl (by kernel_rfl) Try.func4 (by kernel_rfl)
    (of_decide_eq_true (by kernel_rfl)) (by unfold Func.isWrapper; first | (rw [if_pos (by decide +kernel)]; kernel_rfl) | (rw [if_neg (by decide +kernel)]; exact ⟨rfl, rfl⟩))
    (fun os started H enc _ => lifted os started H enc)

theorem proved : Rows.ConvEachSaid := over
end Go.Proofs.Ytibfjlibkaejnaa.convEach
namespace Go.Proofs.Ytibfjlibkaejnaa
theorem convEach_holds : Rows.ConvEachSaid := convEach.proved
#print axioms convEach_holds
end Go.Proofs.Ytibfjlibkaejnaa

