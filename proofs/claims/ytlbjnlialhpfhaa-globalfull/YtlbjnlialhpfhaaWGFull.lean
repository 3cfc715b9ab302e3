/- 'GlobalFull' of package peloruslaw10 returns true at every two ints: as many globals as there may be, not one more, each its own. No condition. -/
import Derived.Test.YtlbjnlialhpfhaaUI
import Derived.Test.YtlbjnlialhpfhaaMath
import Derived.LoopTactic
import Derived.OpenShut
set_option linter.unusedVariables false
set_option linter.unusedSimpArgs false
set_option maxRecDepth 100000
set_option maxHeartbeats 8000000
namespace Go.Proofs.Ytlbjnlialhpfhaa.globalFull
open Go.ChangeShapes Go.WideShapes Go.ChangeAt Go.RowKit
/-- so many globals: what they hold, whatever behind them -/
def Cnt (w0 w : World) (p j : Nat) : Prop := ∃ t m b, St w0 w p j t m b ∧ ∀ i, i < j → t i = 126 ∧ m i = true ∧ b i = (i : Int)
theorem may_126 (y : Int) : may 126 y = true := by simp [may]
theorem at_10 (x : Int) : ∃ k : Nat, bits .and .i64 x 1023 = (k : Int) ∧ k < 1024 := ⟨(x % 1024).toNat, by rw [show (1023 : Int) = ((2 ^ 10 : Nat) - 1 : Int) by decide, BM.and_mask x 10 (by decide)]; omega, by omega⟩
theorem core (at_ x : Int) (hx : I64 x) (w : World) :
    Calls Try.prog 5 #[.int .i64 at_, .int .i64 x] w fun e w' => e = .returned (.bool true) ∧ Later w w' := by
  obtain ⟨k, hk, hkl⟩ := at_10 at_
  replace hx : Hid (I64 x) := hx
  go_enter Try.func5, Try.ntmps5
  go_wp2_with fail
  refine (awake_any w w (Lz _)).mono ?_
  rintro e w1 ⟨rfl, L1⟩
  go_wp2_with fail
  refine (st_new L1).mono ?_
  rintro e w2 ⟨p, rfl, S0⟩
  have S2 := S0 (fun _ => 0) (fun _ => false) (fun _ => 0)
  clear S0 L1
  go_wp2_with fail
  go_loopw [6] (fun i wr => ∃ j : Nat, j ≤ 1024 ∧ i = .int .i64 (j : Nat) ∧ Cnt w wr p j) (fun i _ => 1024 - (intOf i).toNat)
  case atStart => exact ⟨0, Nat.zero_le _, rfl, _, _, _, S2, fun i hi => by omega⟩
  case round =>
    obtain ⟨j, hj, rfl, t, m, b, S3, hT⟩ := hrel
    clear S2
    replace hT : Hid _ := hT
    by_cases hlt : j < 1024
    · have hl1 : (j : Int) < 1024 := by omega
      go_wp2_with fail
      refine (st_add S3 126 (j : Int) true (by unfold I64; omega) (may_126 _) hlt).mono ?_
      rintro e w4 ⟨rfl, S4⟩
      clear S3
      go_wp2_with (go_at_call 8; refine (num_any _ _).mono ?_; rintro e w' ⟨rfl, rfl⟩)
      go_roundw
      case rel => 
        refine ⟨j + 1, by omega, by go_num, _, _, _, S4, fun i hi => ?_⟩
        unfold upd
        by_cases hij : i = j
        · rw [if_pos hij, if_pos hij, if_pos hij, hij]; exact ⟨rfl, rfl, rfl⟩
        · rw [if_neg hij, if_neg hij, if_neg hij]; exact hT.out i (by omega)
      case measure => simp [intOf]; omega
    · have hje : j = 1024 := by omega
      subst hje
      go_wp2_with fail
      refine (st_add_no S3 126 0 true (by unfold I64; decide) (Or.inr (Nat.le_refl _))).mono ?_
      rintro e w4 ⟨rfl, h4⟩
      replace S3 := S3.later h4
      clear h4
      go_wp2_with fail
      refine (st_set S3 k 126 x hx.out hkl (may_126 _) (hT.out k hkl).1.symm (hT.out k hkl).2.1).mono ?_
      rintro e w5 ⟨rfl, S5⟩
      clear S3
      go_wp2_with fail
      refine (st_all S5).mono ?_
      rintro e w6 ⟨rfl, h6, F, R6, hF⟩
      have L6 : Hid (Later w w6) := S5.ltr.trans h6
      have hC : Hid (∀ i, i < 1024 → w6.cell? ⟨w5.heap.size, i * 2 + 1, none⟩ = some (.int .i64 (if i = k then x else (i : Int)))) := fun i hi => by
        have h1 := R6.cell (i := i * 2 + 1) (by omega)
        rw [(hF i hi).2] at h1
        unfold upd at h1
        by_cases hik : i = k
        · rw [if_pos hik] at h1 ⊢; exact h1
        · rw [if_neg hik, (hT.out i hi).2.2] at h1
          rw [if_neg hik]; exact h1
      clear S5 h6 R6 hF hT
      have lw := cell_lt (hC.out 0 (by decide))
      go_wp2_with fail
      go_loopw [12] (fun i wr => ∃ j : Nat, j ≤ 1024 ∧ i = .int .i64 (j : Nat) ∧ wr = w6) (fun i _ => 1024 - (intOf i).toNat)
      case atStart => exact ⟨0, Nat.zero_le _, rfl, rfl⟩
      case round =>
        obtain ⟨j, hj, rfl, rfl⟩ := hrel
        by_cases hlt : j < 1024
        · have hl1 : (j : Int) < 1024 := by omega
          by_cases hjk : j = k
          · subst hjk
            go_wp2
            go_roundw
            case rel => exact ⟨j + 1, by omega, by go_num, trivial⟩
            case measure => simp [intOf]; omega
          · have c0 := hC.out j hlt
            rw [if_neg hjk] at c0
            have hne : ((j : Int) != (k : Int)) = true := by simp; omega
            go_wp2
            go_roundw
            case rel => exact ⟨j + 1, by omega, by go_num, trivial⟩
            case measure => simp [intOf]; omega
        · have hje : j = 1024 := by omega
          subst hje
          have c0 := hC.out k hkl
          rw [if_pos rfl] at c0
          have hl1 : (k : Int) < 1024 := by omega
          go_wp2_with (go_at_call 8; refine (num_any _ _).mono ?_; rintro e w' ⟨rfl, rfl⟩)
          go_ret
          exact ⟨rfl, L6.out⟩
theorem walk (a0 : Int) (a1 : Int) (w0 : (Lit.int .i64 a0).wf = true) (w1 : (Lit.int .i64 a1).wf = true) (w : World) :
    Calls Try.prog 5 #[.int .i64 a0, .int .i64 a1] w fun e w' => e = .returned (.bool true) ∧ Grown w w' :=
  (core a0 a1 (bounds_i64 w1) w).mono (fun e w' h => ⟨h.1, h.2.grown⟩)

/-! ### THE ROW's STEP: WRITTEN OUT: LEAVE IT -/
set_option maxRecDepth 100000 in
theorem lifted (os : Os) (started : os.Started) (H : Type) (enc : TypeId × Value → H) :
    ReturnsInHanded {} Try.checked os 5 .any (Rows.globalFullSpec.pre6 enc Try.prog Try.f5 Rows.globalFullRow.domain false) (Rows.globalFullSpec.post enc Try.prog Try.f5 false true false false) := by
  refine returnsInHanded_of_change (C := Try.checked) own started (by kernel_rfl) Try.func5
    (ChangeSpec.witness6 (enc := enc) (C := Try.checked) false ⟨#[], #[.int .i64 0, .int .i64 0], []⟩ 8 (by kernel_rfl) (by kernel_rfl) (by kernel_rfl) (by kernel_rfl)) ?_
  intro W base args ds gs before hval0 hW hcnd _
  have hval : ∀ (j : Nat) t v, Try.f5.params[j]? = some t → args[j]? = some v → Value.okWide Try.prog W .any base t v := hval0
  have hW' := hW
  obtain ⟨p, q, hA0, hV, rfl, hfz, hnd⟩ := hW
  have hA : DataW.TrodAll enc Try.prog W 0 (fun _ => true) true Try.f5.params.toList args.toList ds p := hA0
  rw [Try.params5] at hA hval
  obtain ⟨v0, vs0, d0, ds0, p0, q0, hargs, rfl, rfl, h0, r0⟩ := trodAll_cons hA
  obtain ⟨v1, vs1, d1, ds1, p1, q1, rfl, rfl, rfl, h1, r1⟩ := trodAll_cons r0
  obtain ⟨rfl, rfl, rfl⟩ := trodAll_nil r1
  obtain rfl : args = #[v0, v1] := by cases args; simp_all
  obtain ⟨rfl, rfl⟩ := trodVars_none hV
  obtain ⟨a0, rfl, rfl, rfl, w0⟩ := open_int Try.underlying3 (hval 0 3 v0 rfl rfl) h0
  obtain ⟨a1, rfl, rfl, rfl, w1⟩ := open_int Try.underlying3 (hval 1 3 v1 rfl rfl) h1
  clear hA0 hval0
  simp only [List.append_nil] at hW'
  refine (walk a0 a1 w0 w1 W).mono fun e W' ⟨he, hg⟩ => ?_
  subst he
  exact ⟨_, rfl, post_of_same (pa := []) (pv := []) hW' (fun _ _ _ => (trodAll_cons_mk (shut_bool Try.underlying4 _) trodAll_mk0)) (fun sp _ => (trodAll_cons_mk (shut_int Try.underlying3 w0) (trodAll_cons_mk (shut_int Try.underlying3 w1) trodAll_mk0))) (fun _ _ => rfl) rfl
    (hg.frame _) hg.2.1 (ok_one (by kernel_rfl) rfl (okWide_bool_mk Try.underlying4 _))⟩

theorem over : Rows.globalFullRow.holds Try.pinned (OpenSpec.ofChange Rows.globalFullSpec) :=
  OpenClaim.holds_of_wide 5 Try.f5 rfl rfl rfl rfl rfl rfl rfl ⟨rfl, rfl, rfl, rfl, rfl⟩ rfl rfl rfl rfl rfl (by kernel_rfl) Try.func5 (by kernel_rfl)
    (of_decide_eq_true (by kernel_rfl)) (by unfold Func.isWrapper; first | (rw [if_pos (by decide +kernel)]; kernel_rfl) | (rw [if_neg (by decide +kernel)]; exact ⟨rfl, rfl⟩))
    (fun os started H enc _ => lifted os started H enc)

theorem proved : Rows.GlobalFullSaid := over
end Go.Proofs.Ytlbjnlialhpfhaa.globalFull
namespace Go.Proofs.Ytlbjnlialhpfhaa
theorem globalFull_holds : Rows.GlobalFullSaid := globalFull.proved
#print axioms globalFull_holds
end Go.Proofs.Ytlbjnlialhpfhaa

