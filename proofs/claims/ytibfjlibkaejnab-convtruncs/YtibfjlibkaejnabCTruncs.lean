/- 'ConvTruncs' of package peloruslaw6 returns true at every int: what is cut with sign and lies not below 0 is cut alike without. No condition. -/
import Derived.Test.YtibfjlibkaejnabL6
import Derived.Test.YtibfjlibkaejnabMaskI
import Derived.OpenShut
import Derived.LoopTactic
import Derived.RowKit3
namespace Go.Proofs.Ytibfjlibkaejnab.convTruncs
open Go.ChangeShapes Go.WideShapes Go.ChangeAt Go.RowKit
open Go.FM (isN fixn qn sw otherW fromW cutI tval small ofI)
set_option linter.unusedVariables false

theorem own : ownKnob Try.prog.godebug = none := by kernel_rfl

/-- what is cut with sign and without: the ways in which they come out -/
def C32 (p q x : Int) : Prop := (Hid (ofI p x = (0, 600)) ∧ Hid (ofI q x = (0, 600))) ∨ (Hid (ofI p x = (0, 601)) ∧ Hid (ofI q x = (0, 601))) ∨ (∃ b, Hid (ofI p x = (0, 601)) ∧ Hid (ofI q x = (b, 0))) ∨
  (∃ a, Hid (ofI p x = (a, 0)) ∧ Hid (ofI q x = (a, 0)) ∧ 0 ≤ a ∧ a < 2147483648) ∨ (∃ a t, Hid (ofI p x = (a, 0)) ∧ Hid (ofI q x = (0, 601)) ∧ 2147483648 ≤ a ∧ a - 4294967296 = t ∧ -9223372036854775808 ≤ t ∧ t ≤ 9223372036854775807 ∧ t < 0)
def C64 (p q x : Int) : Prop := (Hid (ofI p x = (0, 600)) ∧ Hid (ofI q x = (0, 600))) ∨ (Hid (ofI p x = (0, 601)) ∧ Hid (ofI q x = (0, 601))) ∨ (∃ b, Hid (ofI p x = (0, 601)) ∧ Hid (ofI q x = (b, 0))) ∨
  (∃ a, Hid (ofI p x = (a, 0)) ∧ Hid (ofI q x = (a, 0)) ∧ 0 ≤ a) ∨ (∃ a, Hid (ofI p x = (a, 0)) ∧ Hid (ofI q x = (0, 601)) ∧ a < 0)
set_option maxRecDepth 100000 in
set_option maxHeartbeats 2000000 in
theorem core (x : Int) (T0 : Hid (C32 168 169 x)) (T1 : Hid (C32 170 171 x)) (T2 : Hid (C64 174 175 x)) (T3 : Hid (C64 176 177 x)) (w : World) :
    Calls Try.prog 3 #[.int .i64 x] w fun e w' => e = .returned (.bool true) ∧ Grown w w' := by
  go_enter Try.func3, Try.ntmps3
  go_wp2_with fail
  refine (awake_any _).mono ?_
  rintro e w' ⟨rfl, bs0, n0, rfl⟩
  go_wp2
  go_loopw [4] (fun i wr => ∃ j : Nat, j ≤ 4 ∧ i = .int .i64 (j : Int) ∧ Later ((w.far bs0 n0).alloc (Obj.cells #[Value.int .i64 168, Value.int .i64 170, Value.int .i64 174, Value.int .i64 176] 3)) wr) (fun i _ => 4 - (intOf i).toNat)
  case atStart => exact ⟨0, by decide, rfl, Later.refl _⟩
  case round =>
    obtain ⟨j, hj, rfl, bs, n, rfl⟩ := hrel
    have hc : j = 0 ∨ j = 1 ∨ j = 2 ∨ j = 3 ∨ j = 4 := by omega
    clear hj
    rcases hc with rfl | rfl | rfl | rfl | rfl
    · have T := T0.out
      unfold C32 at T
      clear T0 T1 T2 T3
      rcases T with ⟨r1, r2⟩ | ⟨r1, r2⟩ | ⟨b, r1, r2⟩ | ⟨a, r1, r2, h1, h2⟩ | ⟨a, t, r1, r2, h1, h2, h3, h4, h5⟩
      all_goals
        go_wp2_with fail
        refine (of_eq (Or.inl (by decide)) r1.out _).mono ?_
        rintro e w' ⟨rfl, bs1, n1, rfl⟩
        go_wp2_with fail
        refine (of_eq (Or.inl (by decide)) r2.out _).mono ?_
        rintro e w' ⟨rfl, bs2, n2, rfl⟩
        go_wp2_with (go_at_call 7; refine (num_any _ _).mono ?_; rintro e w' ⟨rfl, rfl⟩)
        go_roundw
        case rel => exact ⟨1, by decide, rfl, (by repeat (first | exact Later.refl _ | refine Later.alloc ?_ | refine Later.far ?_ | refine Later.drewN ?_ | refine Later.drew ?_))⟩
        case measure => simp [intOf]
    · have T := T1.out
      unfold C32 at T
      clear T0 T1 T2 T3
      rcases T with ⟨r1, r2⟩ | ⟨r1, r2⟩ | ⟨b, r1, r2⟩ | ⟨a, r1, r2, h1, h2⟩ | ⟨a, t, r1, r2, h1, h2, h3, h4, h5⟩
      all_goals
        go_wp2_with fail
        refine (of_eq (Or.inl (by decide)) r1.out _).mono ?_
        rintro e w' ⟨rfl, bs1, n1, rfl⟩
        go_wp2_with fail
        refine (of_eq (Or.inl (by decide)) r2.out _).mono ?_
        rintro e w' ⟨rfl, bs2, n2, rfl⟩
        go_wp2_with (go_at_call 7; refine (num_any _ _).mono ?_; rintro e w' ⟨rfl, rfl⟩)
        go_roundw
        case rel => exact ⟨2, by decide, rfl, (by repeat (first | exact Later.refl _ | refine Later.alloc ?_ | refine Later.far ?_ | refine Later.drewN ?_ | refine Later.drew ?_))⟩
        case measure => simp [intOf]
    · have T := T2.out
      unfold C64 at T
      clear T0 T1 T2 T3
      rcases T with ⟨r1, r2⟩ | ⟨r1, r2⟩ | ⟨b, r1, r2⟩ | ⟨a, r1, r2, h1⟩ | ⟨a, r1, r2, h1⟩
      all_goals
        go_wp2_with fail
        refine (of_eq (Or.inl (by decide)) r1.out _).mono ?_
        rintro e w' ⟨rfl, bs1, n1, rfl⟩
        go_wp2_with fail
        refine (of_eq (Or.inl (by decide)) r2.out _).mono ?_
        rintro e w' ⟨rfl, bs2, n2, rfl⟩
        go_wp2_with (go_at_call 7; refine (num_any _ _).mono ?_; rintro e w' ⟨rfl, rfl⟩)
        go_roundw
        case rel => exact ⟨3, by decide, rfl, (by repeat (first | exact Later.refl _ | refine Later.alloc ?_ | refine Later.far ?_ | refine Later.drewN ?_ | refine Later.drew ?_))⟩
        case measure => simp [intOf]
    · have T := T3.out
      unfold C64 at T
      clear T0 T1 T2 T3
      rcases T with ⟨r1, r2⟩ | ⟨r1, r2⟩ | ⟨b, r1, r2⟩ | ⟨a, r1, r2, h1⟩ | ⟨a, r1, r2, h1⟩
      all_goals
        go_wp2_with fail
        refine (of_eq (Or.inl (by decide)) r1.out _).mono ?_
        rintro e w' ⟨rfl, bs1, n1, rfl⟩
        go_wp2_with fail
        refine (of_eq (Or.inl (by decide)) r2.out _).mono ?_
        rintro e w' ⟨rfl, bs2, n2, rfl⟩
        go_wp2_with (go_at_call 7; refine (num_any _ _).mono ?_; rintro e w' ⟨rfl, rfl⟩)
        go_roundw
        case rel => exact ⟨4, by decide, rfl, (by repeat (first | exact Later.refl _ | refine Later.alloc ?_ | refine Later.far ?_ | refine Later.drewN ?_ | refine Later.drew ?_))⟩
        case measure => simp [intOf]
    · go_wp2
      go_ret
      exact ⟨rfl, later_grown (Later.trans (Later.alloc (Later.far (Later.refl _))) (by repeat (first | exact Later.refl _ | refine Later.alloc ?_ | refine Later.far ?_ | refine Later.drewN ?_ | refine Later.drew ?_)))⟩
theorem c32 (f : Ieee.Format) (X : Nat) (p q x : Int) (hp : ofI p x = FM.truncI f X 32 true) (hq : ofI q x = FM.truncI f X 32 false) : C32 p q x := by
  unfold C32
  rcases FM.truncs32 f X with ⟨h1, h2⟩ | ⟨h1, h2 | ⟨b, h2⟩⟩ | ⟨a, h1, h3, h4, h2⟩ | ⟨a, h1, h3, h4, h2⟩
  all_goals (rw [h1] at hp; rw [h2] at hq)
  · exact Or.inl ⟨hp, hq⟩
  · exact Or.inr (Or.inl ⟨hp, hq⟩)
  · exact Or.inr (Or.inr (Or.inl ⟨b, hp, hq⟩))
  · exact Or.inr (Or.inr (Or.inr (Or.inl ⟨a, hp, hq, h3, h4⟩)))
  · exact Or.inr (Or.inr (Or.inr (Or.inr ⟨a, _, hp, hq, h3, rfl, by omega, by omega, by omega⟩)))
theorem c64 (f : Ieee.Format) (X : Nat) (p q x : Int) (hp : ofI p x = FM.truncI f X 64 true) (hq : ofI q x = FM.truncI f X 64 false) : C64 p q x := by
  unfold C64
  rcases FM.truncs64 f X with ⟨h1, h2⟩ | ⟨h1, h2 | ⟨b, h2⟩⟩ | ⟨a, h1, h3, h2⟩ | ⟨a, h1, h3, h2⟩
  all_goals (rw [h1] at hp; rw [h2] at hq)
  · exact Or.inl ⟨hp, hq⟩
  · exact Or.inr (Or.inl ⟨hp, hq⟩)
  · exact Or.inr (Or.inr (Or.inl ⟨b, hp, hq⟩))
  · exact Or.inr (Or.inr (Or.inr (Or.inl ⟨a, hp, hq, h3⟩)))
  · exact Or.inr (Or.inr (Or.inr (Or.inr ⟨a, hp, hq, h3⟩)))
theorem walk (a0 : Int) (w0 : (Lit.int .i64 a0).wf = true) (w : World) :
    Calls Try.prog 3 #[.int .i64 a0] w fun e w' => e = .returned (.bool true) ∧ Grown w w' := by
  exact core a0 (c32 _ _ 168 169 a0 (FM.of_168 a0) (FM.of_169 a0)) (c32 _ _ 170 171 a0 (FM.of_170 a0) (FM.of_171 a0)) (c64 _ _ 174 175 a0 (FM.of_174 a0) (FM.of_175 a0)) (c64 _ _ 176 177 a0 (FM.of_176 a0) (FM.of_177 a0)) w

/-! ### THE ROW's STEP: WRITTEN OUT: LEAVE IT -/
set_option maxRecDepth 100000 in
theorem lifted (os : Os) (started : os.Started) (H : Type) (enc : TypeId × Value → H) :
    ReturnsInHanded {} Try.checked os 3 .any (Rows.convTruncsSpec.pre6 enc Try.prog Try.f3 Rows.convTruncsRow.domain false) (Rows.convTruncsSpec.post enc Try.prog Try.f3 false true false false) := by
  refine returnsInHanded_of_change (C := Try.checked) own started (by kernel_rfl) Try.func3
    (ChangeSpec.witness6 (enc := enc) (C := Try.checked) false ⟨#[], #[.int .i64 0], []⟩ 8 (by kernel_rfl) (by kernel_rfl) (by kernel_rfl) (by kernel_rfl)) ?_
  intro W base args ds gs before hval0 hW hcnd _
  have hval : ∀ (j : Nat) t v, Try.f3.params[j]? = some t → args[j]? = some v → Value.okWide Try.prog W .any base t v := hval0
  have hW' := hW
  obtain ⟨p, q, hA0, hV, rfl, hfz, hnd⟩ := hW
  have hA : DataW.TrodAll enc Try.prog W 0 (fun _ => true) true Try.f3.params.toList args.toList ds p := hA0
  rw [Try.params3] at hA hval
  obtain ⟨v0, vs0, d0, ds0, p0, q0, hargs, rfl, rfl, h0, r0⟩ := trodAll_cons hA
  obtain ⟨rfl, rfl, rfl⟩ := trodAll_nil r0
  obtain rfl : args = #[v0] := by cases args; simp_all
  obtain ⟨rfl, rfl⟩ := trodVars_none hV
  obtain ⟨a0, rfl, rfl, rfl, w0⟩ := open_int Try.underlying3 (hval 0 3 v0 rfl rfl) h0
  clear hA0 hval0
  simp only [List.append_nil] at hW'
  refine (walk a0 w0 W).mono fun e W' ⟨he, hg⟩ => ?_
  subst he
  exact ⟨_, rfl, post_of_same (pa := []) (pv := []) hW' (fun _ _ _ => (trodAll_cons_mk (shut_bool Try.underlying4 _) trodAll_mk0)) (fun sp _ => (trodAll_cons_mk (shut_int Try.underlying3 w0) trodAll_mk0)) (fun _ _ => rfl) rfl
    (hg.frame _) hg.2.1 (ok_one (by kernel_rfl) rfl (okWide_bool_mk Try.underlying4 _))⟩

theorem over : Rows.convTruncsRow.holds Try.pinned (OpenSpec.ofChange Rows.convTruncsSpec) :=
  OpenClaim.holds_of_wide 3 Try.f3 rfl rfl rfl rfl rfl rfl rfl ⟨rfl, rfl, rfl, rfl, rfl⟩ rfl rfl rfl rfl rfl (by kernel_rfl) Try.func3 (by kernel_rfl)
    (of_decide_eq_true (by kernel_rfl)) (by unfold Func.isWrapper; first | (rw [if_pos (by decide +kernel)]; kernel_rfl) | (rw [if_neg (by decide +kernel)]; exact ⟨rfl, rfl⟩))
    (fun os started H enc _ => lifted os started H enc)

theorem proved : Rows.ConvTruncsSaid := over
end Go.Proofs.Ytibfjlibkaejnab.convTruncs
namespace Go.Proofs.Ytibfjlibkaejnab
theorem convTruncs_holds : Rows.ConvTruncsSaid := convTruncs.proved
#print axioms convTruncs_holds
end Go.Proofs.Ytibfjlibkaejnab

