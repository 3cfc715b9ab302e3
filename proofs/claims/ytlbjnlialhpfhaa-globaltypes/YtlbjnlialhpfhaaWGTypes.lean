/- 'GlobalTypes' of package peloruslaw10 returns true at every three ints and a bool: a value keeps its type, what is not mut keeps its bits. No condition. -/
import Derived.Test.YtlbjnlialhpfhaaUI
import Derived.Test.YtlbjnlialhpfhaaMath
import Derived.LoopTactic
import Derived.OpenShut
set_option linter.unusedVariables false
set_option linter.unusedSimpArgs false
set_option maxRecDepth 100000
set_option maxHeartbeats 8000000
namespace Go.Proofs.Ytlbjnlialhpfhaa.globalTypes
open Go.ChangeShapes Go.WideShapes Go.ChangeAt Go.RowKit
theorem kind_is (k : Int) : 124 ≤ wrap64 (127 - wrap64 ((IntKind.u64.wrap k).tmod 4)) ∧ wrap64 (127 - wrap64 ((IntKind.u64.wrap k).tmod 4)) ≤ 127 := by
  have h0 : 0 ≤ IntKind.u64.wrap k := by rw [IntKind.wrap_u64]; omega
  rw [Int.tmod_eq_emod_of_nonneg h0]
  generalize IntKind.u64.wrap k = z at *
  have h1 : wrap64 (z % 4) = z % 4 := by unfold wrap64; omega
  rw [h1]
  unfold wrap64
  omega
theorem may_4 (a y : Int) (ha : 124 ≤ a ∧ a ≤ 127) (hy : 0 ≤ y ∧ y ≤ 4294967295) : may a y = true := by
  unfold may
  exact decide_eq_true (by omega)
theorem one_eq (x : Int) : ((1 : Int) == x) = (x == 1) := by
  by_cases h : x = 1
  · subst h; rfl
  · rw [beq_eq_false_iff_ne.2 h, beq_eq_false_iff_ne.2 (Ne.symm h)]
theorem low32 (x : Int) : 0 ≤ bits .and .i64 x 4294967295 ∧ bits .and .i64 x 4294967295 ≤ 4294967295 := by
  rw [show (4294967295 : Int) = ((2 ^ 32 : Nat) - 1 : Int) by decide, BM.and_mask x 32 (by decide)]
  omega
theorem core_no (bits_ kind other : Int) (μ : Bool) (w : World) (hn : ¬ wrap64 (127 - wrap64 ((IntKind.u64.wrap kind).tmod 4)) = wrap64 (127 - wrap64 ((IntKind.u64.wrap other).tmod 4))) :
    Calls Try.prog 4 #[.int .i64 bits_, .int .i64 kind, .int .i64 other, .bool μ] w fun e w' => e = .returned (.bool true) ∧ Later w w' := by
  have ha := kind_is kind
  have hb := kind_is other
  have hx := low32 bits_
  go_enter Try.func4, Try.ntmps4
  go_wp2_with fail
  refine (awake_any w w (Lz _)).mono ?_
  rintro e w1 ⟨rfl, L1⟩
  go_wp2_with fail
  generalize wrap64 (127 - wrap64 ((IntKind.u64.wrap kind).tmod 4)) = a at *
  generalize wrap64 (127 - wrap64 ((IntKind.u64.wrap other).tmod 4)) = b at *
  generalize bits .and .i64 bits_ 4294967295 = x at *
  have k1 : (a != b) = true := by simpa using hn
  have k2 := one_eq x
  refine (st_new L1).mono ?_
  rintro e w2 ⟨p, rfl, S0⟩
  have S2 := S0 (fun _ => 0) (fun _ => false) (fun _ => 0)
  clear S0 L1
  go_wp2_with fail
  refine (st_add S2 a 1 μ (by unfold I64; decide) (may_4 a 1 ha (by decide)) (by decide)).mono ?_
  rintro e w3 ⟨rfl, S3⟩
  clear S2
  go_wp2_with fail
  refine (st_set_no S3 0 b x 1000 (by unfold I64; omega) (by unfold stE; exact if_pos (Or.inr (Or.inr (fun e => hn e.symm)))) (by decide)).mono ?_
  rintro e w4 ⟨rfl, h4⟩
  have S4 := S3.later h4
  have hV : Hid (gtR 1 (upd (fun _ => 0) 0 a) (upd (fun _ => (0 : Int)) 0 1) 0 = (a, 1, 0)) := rfl
  clear S3 h4
  go_wp2_with fail
  refine (st_get S4 0 a 1 0 hV.out).mono ?_
  rintro e w5 ⟨rfl, h5⟩
  replace S4 := S4.later h5
  clear h5
  go_wp2_with fail
  refine (st_add_no (S4.later (by repeat first | exact Lz _ | apply La | apply Lv | apply Ld | apply Ln)) 127 (4294967296 + x) μ (by unfold I64; omega) (Or.inl (decide_eq_false (by omega)))).mono ?_
  rintro e w6 ⟨rfl, h6⟩
  have v0 : w6.cell? ⟨w5.heap.size, 0, none⟩ = some (.int .i64 a) := h6.cell_of (by simp [go_sem])
  have v1 : w6.cell? ⟨w5.heap.size, 1, none⟩ = some (.int .i64 1) := h6.cell_of (by simp [go_sem])
  have L6 : Hid (Later w w6) := S4.ltr.trans (Later.trans (by repeat first | exact Lz _ | apply La | apply Lv | apply Ld | apply Ln) h6)
  clear S4 h6
  go_wp2_with (go_at_call 8; refine (num_any _ _).mono ?_; rintro e w' ⟨rfl, rfl⟩)
  go_ret
  exact ⟨rfl, L6.out.trans (by repeat first | exact Lz _ | apply La | apply Lv | apply Ld | apply Ln)⟩
theorem core_const (bits_ kind other : Int) (μ : Bool) (w : World) (hn : wrap64 (127 - wrap64 ((IntKind.u64.wrap kind).tmod 4)) = wrap64 (127 - wrap64 ((IntKind.u64.wrap other).tmod 4))) (hm : μ = false) :
    Calls Try.prog 4 #[.int .i64 bits_, .int .i64 kind, .int .i64 other, .bool μ] w fun e w' => e = .returned (.bool true) ∧ Later w w' := by
  have ha := kind_is kind
  have hb := kind_is other
  have hx := low32 bits_
  subst hm
  go_enter Try.func4, Try.ntmps4
  go_wp2_with fail
  refine (awake_any w w (Lz _)).mono ?_
  rintro e w1 ⟨rfl, L1⟩
  go_wp2_with fail
  generalize wrap64 (127 - wrap64 ((IntKind.u64.wrap kind).tmod 4)) = a at *
  generalize wrap64 (127 - wrap64 ((IntKind.u64.wrap other).tmod 4)) = b at *
  generalize bits .and .i64 bits_ 4294967295 = x at *
  subst hn
  have k1 : (a != a) = false := by simp
  have k2 := one_eq x
  refine (st_new L1).mono ?_
  rintro e w2 ⟨p, rfl, S0⟩
  have S2 := S0 (fun _ => 0) (fun _ => false) (fun _ => 0)
  clear S0 L1
  go_wp2_with fail
  refine (st_add S2 a 1 false (by unfold I64; decide) (may_4 a 1 ha (by decide)) (by decide)).mono ?_
  rintro e w3 ⟨rfl, S3⟩
  clear S2
  go_wp2_with fail
  refine (st_set_no S3 0 a x 1001 (by unfold I64; omega) (by unfold stE; rw [if_neg (by rintro (h | h | h); exact h (by decide); rw [may_4 a x ha hx] at h; cases h; exact h rfl)]; rfl) (by decide)).mono ?_
  rintro e w4 ⟨rfl, h4⟩
  have S4 := S3.later h4
  have hV : Hid (gtR 1 (upd (fun _ => 0) 0 a) (upd (fun _ => (0 : Int)) 0 1) 0 = (a, 1, 0)) := rfl
  clear S3 h4
  go_wp2_with fail
  refine (st_get S4 0 a 1 0 hV.out).mono ?_
  rintro e w5 ⟨rfl, h5⟩
  replace S4 := S4.later h5
  clear h5
  go_wp2_with fail
  refine (st_add_no (S4.later (by repeat first | exact Lz _ | apply La | apply Lv | apply Ld | apply Ln)) 127 (4294967296 + x) false (by unfold I64; omega) (Or.inl (decide_eq_false (by omega)))).mono ?_
  rintro e w6 ⟨rfl, h6⟩
  have v0 : w6.cell? ⟨w5.heap.size, 0, none⟩ = some (.int .i64 a) := h6.cell_of (by simp [go_sem])
  have v1 : w6.cell? ⟨w5.heap.size, 1, none⟩ = some (.int .i64 1) := h6.cell_of (by simp [go_sem])
  have L6 : Hid (Later w w6) := S4.ltr.trans (Later.trans (by repeat first | exact Lz _ | apply La | apply Lv | apply Ld | apply Ln) h6)
  clear S4 h6
  go_wp2_with (go_at_call 8; refine (num_any _ _).mono ?_; rintro e w' ⟨rfl, rfl⟩)
  go_ret
  exact ⟨rfl, L6.out.trans (by repeat first | exact Lz _ | apply La | apply Lv | apply Ld | apply Ln)⟩
theorem core_set (bits_ kind other : Int) (μ : Bool) (w : World) (hn : wrap64 (127 - wrap64 ((IntKind.u64.wrap kind).tmod 4)) = wrap64 (127 - wrap64 ((IntKind.u64.wrap other).tmod 4))) (hm : μ = true) :
    Calls Try.prog 4 #[.int .i64 bits_, .int .i64 kind, .int .i64 other, .bool μ] w fun e w' => e = .returned (.bool true) ∧ Later w w' := by
  have ha := kind_is kind
  have hb := kind_is other
  have hx := low32 bits_
  subst hm
  go_enter Try.func4, Try.ntmps4
  go_wp2_with fail
  refine (awake_any w w (Lz _)).mono ?_
  rintro e w1 ⟨rfl, L1⟩
  go_wp2_with fail
  generalize wrap64 (127 - wrap64 ((IntKind.u64.wrap kind).tmod 4)) = a at *
  generalize wrap64 (127 - wrap64 ((IntKind.u64.wrap other).tmod 4)) = b at *
  generalize bits .and .i64 bits_ 4294967295 = x at *
  subst hn
  have k1 : (a != a) = false := by simp
  refine (st_new L1).mono ?_
  rintro e w2 ⟨p, rfl, S0⟩
  have S2 := S0 (fun _ => 0) (fun _ => false) (fun _ => 0)
  clear S0 L1
  go_wp2_with fail
  refine (st_add S2 a 1 true (by unfold I64; decide) (may_4 a 1 ha (by decide)) (by decide)).mono ?_
  rintro e w3 ⟨rfl, S3⟩
  clear S2
  go_wp2_with fail
  refine (st_set S3 0 a x (by unfold I64; omega) (by decide) (may_4 a x ha hx) rfl rfl).mono ?_
  rintro e w4 ⟨rfl, S4⟩
  have hV : Hid (gtR 1 (upd (fun _ => 0) 0 a) (upd (upd (fun _ => (0 : Int)) 0 1) 0 x) 0 = (a, x, 0)) := rfl
  clear S3
  go_wp2_with fail
  refine (st_get S4 0 a x 0 hV.out).mono ?_
  rintro e w5 ⟨rfl, h5⟩
  replace S4 := S4.later h5
  clear h5
  go_wp2_with fail
  refine (st_add_no (S4.later (by repeat first | exact Lz _ | apply La | apply Lv | apply Ld | apply Ln)) 127 (4294967296 + x) true (by unfold I64; omega) (Or.inl (decide_eq_false (by omega)))).mono ?_
  rintro e w6 ⟨rfl, h6⟩
  have v0 : w6.cell? ⟨w5.heap.size, 0, none⟩ = some (.int .i64 a) := h6.cell_of (by simp [go_sem])
  have v1 : w6.cell? ⟨w5.heap.size, 1, none⟩ = some (.int .i64 x) := h6.cell_of (by simp [go_sem])
  have L6 : Hid (Later w w6) := S4.ltr.trans (Later.trans (by repeat first | exact Lz _ | apply La | apply Lv | apply Ld | apply Ln) h6)
  clear S4 h6
  go_wp2_with (go_at_call 8; refine (num_any _ _).mono ?_; rintro e w' ⟨rfl, rfl⟩)
  go_ret
  exact ⟨rfl, L6.out.trans (by repeat first | exact Lz _ | apply La | apply Lv | apply Ld | apply Ln)⟩
theorem whole (bits_ kind other : Int) (μ : Bool) (w : World) :
    Calls Try.prog 4 #[.int .i64 bits_, .int .i64 kind, .int .i64 other, .bool μ] w fun e w' => e = .returned (.bool true) ∧ Later w w' := by
  by_cases hn : wrap64 (127 - wrap64 ((IntKind.u64.wrap kind).tmod 4)) = wrap64 (127 - wrap64 ((IntKind.u64.wrap other).tmod 4))
  · cases hm : μ
    · exact core_const bits_ kind other _ w hn rfl
    · exact core_set bits_ kind other _ w hn rfl
  · exact core_no bits_ kind other μ w hn
theorem walk (a0 : Int) (a1 : Int) (a2 : Int) (a3 : Bool) (w0 : (Lit.int .i64 a0).wf = true) (w1 : (Lit.int .i64 a1).wf = true) (w2 : (Lit.int .i64 a2).wf = true) (w : World) :
    Calls Try.prog 4 #[.int .i64 a0, .int .i64 a1, .int .i64 a2, .bool a3] w fun e w' => e = .returned (.bool true) ∧ Grown w w' :=
  (whole a0 a1 a2 a3 w).mono (fun e w' h => ⟨h.1, h.2.grown⟩)

/-! ### THE ROW's STEP: WRITTEN OUT: LEAVE IT -/
set_option maxRecDepth 100000 in
theorem lifted (os : Os) (started : os.Started) (H : Type) (enc : TypeId × Value → H) :
    ReturnsInHanded {} Try.checked os 4 .any (Rows.globalTypesSpec.pre6 enc Try.prog Try.f4 Rows.globalTypesRow.domain false) (Rows.globalTypesSpec.post enc Try.prog Try.f4 false true false false) := by
  refine returnsInHanded_of_change (C := Try.checked) own started (by kernel_rfl) Try.func4
    (ChangeSpec.witness6 (enc := enc) (C := Try.checked) false ⟨#[], #[.int .i64 0, .int .i64 0, .int .i64 0, .bool false], []⟩ 8 (by kernel_rfl) (by kernel_rfl) (by kernel_rfl) (by kernel_rfl)) ?_
  intro W base args ds gs before hval0 hW hcnd _
  have hval : ∀ (j : Nat) t v, Try.f4.params[j]? = some t → args[j]? = some v → Value.okWide Try.prog W .any base t v := hval0
  have hW' := hW
  obtain ⟨p, q, hA0, hV, rfl, hfz, hnd⟩ := hW
  have hA : DataW.TrodAll enc Try.prog W 0 (fun _ => true) true Try.f4.params.toList args.toList ds p := hA0
  rw [Try.params4] at hA hval
  obtain ⟨v0, vs0, d0, ds0, p0, q0, hargs, rfl, rfl, h0, r0⟩ := trodAll_cons hA
  obtain ⟨v1, vs1, d1, ds1, p1, q1, rfl, rfl, rfl, h1, r1⟩ := trodAll_cons r0
  obtain ⟨v2, vs2, d2, ds2, p2, q2, rfl, rfl, rfl, h2, r2⟩ := trodAll_cons r1
  obtain ⟨v3, vs3, d3, ds3, p3, q3, rfl, rfl, rfl, h3, r3⟩ := trodAll_cons r2
  obtain ⟨rfl, rfl, rfl⟩ := trodAll_nil r3
  obtain rfl : args = #[v0, v1, v2, v3] := by cases args; simp_all
  obtain ⟨rfl, rfl⟩ := trodVars_none hV
  obtain ⟨a0, rfl, rfl, rfl, w0⟩ := open_int Try.underlying3 (hval 0 3 v0 rfl rfl) h0
  obtain ⟨a1, rfl, rfl, rfl, w1⟩ := open_int Try.underlying3 (hval 1 3 v1 rfl rfl) h1
  obtain ⟨a2, rfl, rfl, rfl, w2⟩ := open_int Try.underlying3 (hval 2 3 v2 rfl rfl) h2
  obtain ⟨a3, rfl, rfl, rfl⟩ := open_bool Try.underlying4 (hval 3 4 v3 rfl rfl) h3
  clear hA0 hval0
  simp only [List.append_nil] at hW'
  refine (walk a0 a1 a2 a3 w0 w1 w2 W).mono fun e W' ⟨he, hg⟩ => ?_
  subst he
  exact ⟨_, rfl, post_of_same (pa := []) (pv := []) hW' (fun _ _ _ => (trodAll_cons_mk (shut_bool Try.underlying4 _) trodAll_mk0)) (fun sp _ => (trodAll_cons_mk (shut_int Try.underlying3 w0) (trodAll_cons_mk (shut_int Try.underlying3 w1) (trodAll_cons_mk (shut_int Try.underlying3 w2) (trodAll_cons_mk (shut_bool Try.underlying4 _) trodAll_mk0))))) (fun _ _ => rfl) rfl
    (hg.frame _) hg.2.1 (ok_one (by kernel_rfl) rfl (okWide_bool_mk Try.underlying4 _))⟩

theorem over : Rows.globalTypesRow.holds Try.pinned (OpenSpec.ofChange Rows.globalTypesSpec) :=
  OpenClaim.holds_of_wide 4 Try.f4 rfl rfl rfl rfl rfl rfl rfl ⟨rfl, rfl, rfl, rfl, rfl⟩ rfl rfl rfl rfl rfl (by kernel_rfl) Try.func4 (by kernel_rfl)
    (of_decide_eq_true (by kernel_rfl)) (by unfold Func.isWrapper; first | (rw [if_pos (by decide +kernel)]; kernel_rfl) | (rw [if_neg (by decide +kernel)]; exact ⟨rfl, rfl⟩))
    (fun os started H enc _ => lifted os started H enc)

theorem proved : Rows.GlobalTypesSaid := over
end Go.Proofs.Ytlbjnlialhpfhaa.globalTypes
namespace Go.Proofs.Ytlbjnlialhpfhaa
theorem globalTypes_holds : Rows.GlobalTypesSaid := globalTypes.proved
#print axioms globalTypes_holds
end Go.Proofs.Ytlbjnlialhpfhaa

