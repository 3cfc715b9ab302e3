/- 'BitsDiv' of package peloruslaw1 returns true at every two ints: quotient and rest of bits.Div make the number again without sign, the rest lies below the divisor, and a divisor of 0 is an error. No condition. -/
import Derived.Test.YtojfhjpimpfkiaaBits
import Derived.OpenShut
namespace Go.Proofs.Ytojfhjpimpfkiaa.bitsDiv
open Go.ChangeShapes Go.WideShapes Go.ChangeAt Go.RowKit
set_option linter.unusedVariables false

theorem own : ownKnob Try.prog.godebug = none := by kernel_rfl

theorem wf_bd (a : Int) (h : (Lit.int .i64 a).wf = true) : -9223372036854775808 ≤ a ∧ a ≤ 9223372036854775807 := bounds_i64 h

theorem wrap_eq (x y : Int) (h : x % 18446744073709551616 = y % 18446744073709551616) : wrap64 x = wrap64 y := by
  simp only [wrap64]; omega
theorem wrap_mod (x : Int) : wrap64 x % 18446744073709551616 = x % 18446744073709551616 := by
  simp only [wrap64]; omega
theorem wrap_id (x : Int) (h : -9223372036854775808 ≤ x ∧ x ≤ 9223372036854775807) : wrap64 x = x := by
  simp only [wrap64]; omega

section
variable (a b : Int)
theorem pos_b (hb : -9223372036854775808 ≤ b ∧ b ≤ 9223372036854775807) (hz : b ≠ 0) : 1 ≤ IntKind.u64.wrap b := by rw [IntKind.wrap_u64]; omega
theorem quo_mod (hv : 1 ≤ IntKind.u64.wrap b) : uquo a b % 18446744073709551616 = IntKind.u64.wrap a / IntKind.u64.wrap b ∧ 0 ≤ IntKind.u64.wrap a / IntKind.u64.wrap b ∧ IntKind.u64.wrap a / IntKind.u64.wrap b < 18446744073709551616 := by
  have hu := u64_pos a
  have h0 : 0 ≤ IntKind.u64.wrap a / IntKind.u64.wrap b := Int.ediv_nonneg hu.1 (by omega)
  have h1 : IntKind.u64.wrap a / IntKind.u64.wrap b ≤ IntKind.u64.wrap a := Int.ediv_le_self _ hu.1
  unfold uquo
  rw [wrap_mod, Int.tdiv_eq_ediv_of_nonneg hu.1]
  generalize IntKind.u64.wrap a / IntKind.u64.wrap b = q at *
  rw [IntKind.wrap_u64]
  omega
theorem rem_mod (hv : 1 ≤ IntKind.u64.wrap b) : IntKind.u64.wrap (urem a b) = IntKind.u64.wrap a % IntKind.u64.wrap b ∧ urem a b % 18446744073709551616 = IntKind.u64.wrap a % IntKind.u64.wrap b := by
  have hu := u64_pos a
  have h0 := Int.emod_nonneg (IntKind.u64.wrap a) (b := IntKind.u64.wrap b) (by omega)
  have h1 := Int.emod_lt_of_pos (IntKind.u64.wrap a) (b := IntKind.u64.wrap b) (by omega)
  have h2 := u64_pos b
  unfold urem
  generalize IntKind.u64.wrap a % IntKind.u64.wrap b = r at *
  generalize IntKind.u64.wrap b = v at *
  rw [IntKind.wrap_u64, wrap_mod]
  omega
theorem make (ha : -9223372036854775808 ≤ a ∧ a ≤ 9223372036854775807) (hv : 1 ≤ IntKind.u64.wrap b) : (wrap64 (wrap64 (uquo a b * b) + urem a b) == a) = true := by
  have e : wrap64 (wrap64 (uquo a b * b) + urem a b) = wrap64 a := by
    apply wrap_eq
    rw [Int.add_emod, wrap_mod, Int.mul_emod, (quo_mod a b hv).1, (rem_mod a b hv).2, show b % 18446744073709551616 = IntKind.u64.wrap b from (IntKind.wrap_u64 b).symm]
    have h := Int.mul_ediv_add_emod (IntKind.u64.wrap a) (IntKind.u64.wrap b)
    rw [Int.mul_comm] at h
    have hu : IntKind.u64.wrap a = a % 18446744073709551616 := IntKind.wrap_u64 a
    generalize IntKind.u64.wrap a / IntKind.u64.wrap b * IntKind.u64.wrap b = m at *
    generalize IntKind.u64.wrap a % IntKind.u64.wrap b = r at *
    generalize IntKind.u64.wrap a = u at *
    omega
  rw [e, wrap_id a ha]
  simp
theorem rest_below (hv : 1 ≤ IntKind.u64.wrap b) : decide (IntKind.u64.wrap (urem a b) < IntKind.u64.wrap b) = true := by
  rw [(rem_mod a b hv).1]
  exact decide_eq_true (Int.emod_lt_of_pos _ (by omega))
theorem rest_small (hv : 1 ≤ IntKind.u64.wrap b) : decide (IntKind.u64.wrap a < IntKind.u64.wrap (urem a b)) = false := by
  rw [(rem_mod a b hv).1]
  have hu := u64_pos a
  have h1 : IntKind.u64.wrap a % IntKind.u64.wrap b ≤ IntKind.u64.wrap a := by
    have h := Int.mul_ediv_add_emod (IntKind.u64.wrap a) (IntKind.u64.wrap b)
    have h0 : 0 ≤ IntKind.u64.wrap b * (IntKind.u64.wrap a / IntKind.u64.wrap b) := Int.mul_nonneg (by omega) (Int.ediv_nonneg hu.1 (by omega))
    omega
  exact decide_eq_false (by omega)
theorem none_below (hv : 1 ≤ IntKind.u64.wrap b) : (decide (IntKind.u64.wrap a < IntKind.u64.wrap b) == (uquo a b == 0)) = true := by
  have hu := u64_pos a
  have hq := quo_mod a b hv
  have e : (uquo a b == 0) = decide (IntKind.u64.wrap a / IntKind.u64.wrap b = 0) := by
    rw [Bool.eq_iff_iff]
    simp only [beq_iff_eq, decide_eq_true_eq]
    constructor
    · intro h; rw [h] at hq; omega
    · intro h
      unfold uquo
      rw [Int.tdiv_eq_ediv_of_nonneg hu.1, h]
      decide +kernel
  rw [e]
  have e2 : (IntKind.u64.wrap a / IntKind.u64.wrap b = 0) ↔ IntKind.u64.wrap a < IntKind.u64.wrap b := by
    constructor
    · intro h
      have h1 := Int.mul_ediv_add_emod (IntKind.u64.wrap a) (IntKind.u64.wrap b)
      have h2 := Int.emod_lt_of_pos (IntKind.u64.wrap a) (b := IntKind.u64.wrap b) (by omega)
      rw [h] at h1
      omega
    · intro h; exact Int.ediv_eq_zero_of_lt hu.1 h
  simp [e2]
end

set_option maxHeartbeats 1000000 in
theorem walk (a0 : Int) (a1 : Int) (w0 : (Lit.int .i64 a0).wf = true) (w1 : (Lit.int .i64 a1).wf = true) (w : World) :
    Calls Try.prog 3 #[.int .i64 a0, .int .i64 a1] w fun e w' => e = .returned (.bool true) ∧ Grown w w' := by
  have ha := wf_bd a0 w0
  have hb := wf_bd a1 w1
  clear w0 w1
  by_cases hz : a1 = 0
  · subst hz
    go_enter Try.func3, Try.ntmps3
    go_wp2_with (first | (go_at_call 4; refine (awake_any _).mono ?_; rintro e w' ⟨rfl, n, rfl⟩) | (go_at_call 5; refine (div_zero _ _).mono ?_; rintro e w' ⟨rfl, rfl⟩) | (go_at_call 6; refine (num_any _ _).mono ?_; rintro e w' ⟨rfl, rfl⟩))
    go_ret
    exact ⟨rfl, grown_drewN _ _⟩
  · have hv := pos_b a1 hb hz
    have h0 : (a1 == 0) = false := by simpa using hz
    have c1 := make a0 a1 ha hv
    have c2 := rest_below a0 a1 hv
    have c3 := rest_small a0 a1 hv
    have c4 := none_below a0 a1 hv
    have hu := (u64_pos a0).1
    clear hz ha hb
    go_enter Try.func3, Try.ntmps3
    go_wp2_with (first | (go_at_call 4; refine (awake_any _).mono ?_; rintro e w' ⟨rfl, n, rfl⟩) | (go_at_call 5; refine (div_some _ _ _ h0 hu hv).mono ?_; rintro e w' ⟨rfl, n, rfl⟩) | (go_at_call 6; refine (num_any _ _).mono ?_; rintro e w' ⟨rfl, rfl⟩) | (go_at_call 7; refine (below_any _ _ _).mono ?_; rintro e w' ⟨rfl, rfl⟩))
    go_ret
    exact ⟨rfl, grown_drewN _ _⟩

/-! ### THE ROW's STEP: WRITTEN OUT: LEAVE IT -/
set_option maxRecDepth 100000 in
theorem lifted (os : Os) (started : os.Started) (H : Type) (enc : TypeId × Value → H) :
    ReturnsInHanded {} Try.checked os 3 .any (Rows.bitsDivSpec.pre6 enc Try.prog Try.f3 Rows.bitsDivRow.domain false) (Rows.bitsDivSpec.post enc Try.prog Try.f3 false true false false) := by
  refine returnsInHanded_of_change (C := Try.checked) own started (by kernel_rfl) Try.func3
    (ChangeSpec.witness6 (enc := enc) (C := Try.checked) false ⟨#[], #[.int .i64 0, .int .i64 0], []⟩ 8 (by kernel_rfl) (by kernel_rfl) (by kernel_rfl) (by kernel_rfl)) ?_
  intro W base args ds gs before hval0 hW hcnd _
  have hval : ∀ (j : Nat) t v, Try.f3.params[j]? = some t → args[j]? = some v → Value.okWide Try.prog W .any base t v := hval0
  have hW' := hW
  obtain ⟨p, q, hA0, hV, rfl, hfz, hnd⟩ := hW
  have hA : DataW.TrodAll enc Try.prog W 0 (fun _ => true) true Try.f3.params.toList args.toList ds p := hA0
  rw [Try.params3] at hA hval
  obtain ⟨v0, vs0, d0, ds0, p0, q0, hargs, rfl, rfl, h0, r0⟩ := trodAll_cons hA
  obtain ⟨v1, vs1, d1, ds1, p1, q1, rfl, rfl, rfl, h1, r1⟩ := trodAll_cons r0
  obtain ⟨rfl, rfl, rfl⟩ := trodAll_nil r1
  obtain rfl : args = #[v0, v1] := by cases args; simp_all
  obtain ⟨rfl, rfl⟩ := trodVars_none hV
  obtain ⟨a0, rfl, rfl, rfl, w0⟩ := open_int Try.underlying3 (hval 0 3 v0 rfl rfl) h0
  obtain ⟨a1, rfl, rfl, rfl, w1⟩ := open_int Try.underlying3 (hval 1 3 v1 rfl rfl) h1
  clear hA0 hval0
  simp only [List.append_nil] at hW'
  refine (walk a0 a1 w0 w1 W).mono fun e W' ⟨he, hg⟩ => ?_
  subst he
  exact ⟨_, rfl, post_of_same (pa := []) (pv := []) hW' (fun _ _ _ => (trodAll_cons_mk (shut_bool Try.underlying4 _) trodAll_mk0)) (fun sp _ => (trodAll_cons_mk (shut_int Try.underlying3 w0) (trodAll_cons_mk (shut_int Try.underlying3 w1) trodAll_mk0))) (fun _ _ => rfl) rfl
    (hg.frame _) hg.2.1 (ok_one (by kernel_rfl) rfl (okWide_bool_mk Try.underlying4 _))⟩

theorem over : Rows.bitsDivRow.holds Try.pinned (OpenSpec.ofChange Rows.bitsDivSpec) :=
  OpenClaim.holds_of_wide 3 Try.f3 rfl rfl rfl rfl rfl rfl rfl ⟨rfl, rfl, rfl, rfl, rfl⟩ rfl rfl rfl rfl rfl (by kernel_rfl) Try.func3 (by kernel_rfl)
    (of_decide_eq_true (by kernel_rfl)) (by unfold Func.isWrapper; first | (rw [if_pos (by decide +kernel)]; kernel_rfl) | (rw [if_neg (by decide +kernel)]; exact ⟨rfl, rfl⟩))
    (fun os started H enc _ => lifted os started H enc)

/-- ████ THE STATEMENT ████ -/
theorem proved : Rows.BitsDivSaid :=
  over
end Go.Proofs.Ytojfhjpimpfkiaa.bitsDiv
namespace Go.Proofs.Ytojfhjpimpfkiaa
theorem bitsDiv_holds : Rows.BitsDivSaid := bitsDiv.proved
#print axioms bitsDiv_holds
end Go.Proofs.Ytojfhjpimpfkiaa
