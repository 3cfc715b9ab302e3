/- 'LebSigned' of package peloruslaw12 returns true at every int: numbers of 32 bits come back with their sign, by both lengths. No condition. -/
import Derived.Test.YtljogkiibpinaaaLW
import Derived.LoopTactic
import Derived.OpenShut
import Derived.ChangeMaps5
import Derived.ShutString
import Derived.SizedLaws
set_option linter.unusedVariables false
set_option linter.unusedSimpArgs false
set_option maxRecDepth 100000
set_option maxHeartbeats 8000000
namespace Go.Proofs.Ytljogkiibpinaaa.lebSigned
open Go.ChangeShapes Go.WideShapes Go.ChangeAt Go.RowKit
/-- what the calls answer at y, z -/
theorem facts (y z : Int) (hy : 0 ≤ y ∧ y < 4294967296) (hz : -2147483648 ≤ z ∧ z < 2147483648) : ∃ s t : ByteArray, s.size ≤ 5 ∧ t.size ≤ 5 ∧
    Hid (∀ w : World, Calls Try.prog 15 #[.int .i64 z] w fun e w' => e = .returned (.string s) ∧ Later w w') ∧
    Hid (∀ w : World, Calls Try.prog 13 #[.int .i64 y] w fun e w' => e = .returned (.string t) ∧ Later w w') ∧
    Hid (∀ w : World, Calls Try.prog 11 #[.string s, .int .i64 0, .int .i64 32] w fun e w' => ∃ k : Int, e = .returned (.tuple #[.int .i64 z, .int .i64 k, .int .i64 0]) ∧ Later w w') ∧
    Hid (∀ w : World, Calls Try.prog 11 #[.string s, .int .i64 0, .int .i64 64] w fun e w' => ∃ k : Int, e = .returned (.tuple #[.int .i64 z, .int .i64 k, .int .i64 0]) ∧ Later w w') ∧
    Hid (∀ w : World, Calls Try.prog 9 #[.string t, .int .i64 0, .int .i64 32] w fun e w' => e = .returned (.tuple #[.int .i64 y, .int .i64 (t.size : Int), .int .i64 0]) ∧ Later w w') := by
  have b1 := bl_num (slebL z) (slebF_byte 9 z)
  have b2 := bl_num (lebL y) (lebL_byte y)
  have z1 : (strOfNums (slebL z)).size ≤ 5 := by rw [strOfNums_size, sleb32 z hz]; exact slebF_len 4 z
  have z2 : (strOfNums (lebL y)).size ≤ 5 := by rw [strOfNums_size, leb32 y hy]; exact lebF_len 4 y
  refine ⟨strOfNums (slebL z), strOfNums (lebL y), z1, z2, fun w => puts_any z (by omega) w, fun w => put_any y (by omega) w, fun w => ?_, fun w => ?_, fun w => ?_⟩
  · exact (gets_is _ 0 32 _ _ _ (gets_put32 z hz _ 0 b1) (by omega) (by decide) (by decide) w).mono fun e w' h => ⟨_, h⟩
  · exact (gets_is _ 0 64 _ _ _ (gets_put64 z (by omega) _ 0 b1) (by omega) (by decide) (by decide) w).mono fun e w' h => ⟨_, h⟩
  · refine get_is _ 0 32 _ _ _ ?_ (by omega) (by decide) (by decide) w
    rw [strOfNums_size]
    have := get_put32 y hy _ 0 b2
    rwa [Nat.zero_add] at this
theorem walk (x : Int) (hx : -9223372036854775808 ≤ x ∧ x ≤ 9223372036854775807) (w : World) :
    Calls Try.prog 6 #[.int .i64 x] w fun e w' => e = .returned (.bool true) ∧ Later w w' := by
  obtain ⟨y, hm, hy⟩ : ∃ y : Int, bits .and .i64 x 4294967295 = y ∧ 0 ≤ y ∧ y < 4294967296 := ⟨x % 4294967296, by rw [show (4294967295 : Int) = ((2 ^ 32 : Nat) - 1 : Int) by decide, BM.and_mask x 32 (by decide)]; omega, by omega, by omega⟩
  have LAT : True := trivial
  by_cases h : 2147483648 ≤ y
  · obtain ⟨s, t, z1, z2, h1, h2, h3, h4, h5⟩ := facts y (y - 4294967296) hy (by omega)
    have e1 : wrap64 (y - 4294967296) = y - 4294967296 := by unfold wrap64; omega
    have l1 : (s.size : Int) ≤ 5 := by omega
    have l2 : (t.size : Int) ≤ 5 := by omega
    have hz1 : -9223372036854775808 ≤ y - 4294967296 := by omega
    have hz2 : y - 4294967296 ≤ 9223372036854775807 := by omega
    clear hx
    go_enter Try.func6, Try.ntmps6
    go_wp2_with (first | (go_at_call 18; refine (awake_any _).mono ?_; rintro e w' ⟨rfl, bs, n, rfl⟩) | (go_at_call 15; refine (h1.out _).mono ?_; rintro e w' ⟨rfl, bs, n, rfl⟩) | (go_at_call 13; refine (h2.out _).mono ?_; rintro e w' ⟨rfl, bs, n, rfl⟩) | (go_at_call_of 11 (Value.int .i64 32); refine (h3.out _).mono ?_; rintro e w' ⟨k, rfl, bs, n, rfl⟩) | (go_at_call_of 11 (Value.int .i64 64); refine (h4.out _).mono ?_; rintro e w' ⟨k, rfl, bs, n, rfl⟩) | (go_at_call 9; refine (h5.out _).mono ?_; rintro e w' ⟨rfl, bs, n, rfl⟩) | (go_at_call 17; refine (num_any _ _).mono ?_; rintro e w' ⟨rfl, rfl⟩))
    go_ret
    exact ⟨rfl, by repeat first | exact Lz _ | apply La | apply Lv | apply Ld | apply Ln⟩
  · obtain ⟨s, t, z1, z2, h1, h2, h3, h4, h5⟩ := facts y y hy (by omega)
    have l1 : (s.size : Int) ≤ 5 := by omega
    have l2 : (t.size : Int) ≤ 5 := by omega
    clear hx
    go_enter Try.func6, Try.ntmps6
    go_wp2_with (first | (go_at_call 18; refine (awake_any _).mono ?_; rintro e w' ⟨rfl, bs, n, rfl⟩) | (go_at_call 15; refine (h1.out _).mono ?_; rintro e w' ⟨rfl, bs, n, rfl⟩) | (go_at_call 13; refine (h2.out _).mono ?_; rintro e w' ⟨rfl, bs, n, rfl⟩) | (go_at_call_of 11 (Value.int .i64 32); refine (h3.out _).mono ?_; rintro e w' ⟨k, rfl, bs, n, rfl⟩) | (go_at_call_of 11 (Value.int .i64 64); refine (h4.out _).mono ?_; rintro e w' ⟨k, rfl, bs, n, rfl⟩) | (go_at_call 9; refine (h5.out _).mono ?_; rintro e w' ⟨rfl, bs, n, rfl⟩) | (go_at_call 17; refine (num_any _ _).mono ?_; rintro e w' ⟨rfl, rfl⟩))
    go_ret
    exact ⟨rfl, by repeat first | exact Lz _ | apply La | apply Lv | apply Ld | apply Ln⟩

set_option maxRecDepth 100000 in
theorem lifted (os : Os) (started : os.Started) (H : Type) (enc : TypeId × Value → H) :
    ReturnsInHanded {} Try.checked os 6 .any (Rows.lebSignedSpec.pre6 enc Try.prog Try.f6 Rows.lebSignedRow.domain false) (Rows.lebSignedSpec.post enc Try.prog Try.f6 false true false false) := by
  refine returnsInHanded_of_change_sized (C := Try.checked) own started (by kernel_rfl) Try.func6
    (ChangeSpec.witness6 (enc := enc) (C := Try.checked) false ⟨#[], #[.int .i64 0], []⟩ 8 (by kernel_rfl) (by kernel_rfl) (by kernel_rfl) (by kernel_rfl)) ?_
  intro W base args ds gs before hval0 hW _ _ _
  have hval : ∀ (j : Nat) t v, Try.f6.params[j]? = some t → args[j]? = some v → Value.okWide Try.prog W .any base t v := hval0
  have hW' := hW
  obtain ⟨p, q, hA0, hV, rfl, hfz, hnd⟩ := hW
  have hA : DataW.TrodAll enc Try.prog W 0 (fun _ => true) true Try.f6.params.toList args.toList ds p := hA0
  rw [Try.params6] at hA hval
  obtain ⟨v0, vs0, d0, ds0, p0, q0, hargs, rfl, rfl, h0, r0⟩ := trodAll_cons hA
  obtain ⟨rfl, rfl, rfl⟩ := trodAll_nil r0
  obtain rfl : args = #[v0] := by cases args; simp_all
  obtain ⟨rfl, rfl⟩ := trodVars_none hV
  obtain ⟨a0, rfl, rfl, rfl, w0⟩ := open_int Try.underlying3 (hval 0 3 v0 rfl rfl) h0
  clear hA0 hval0
  simp only [List.append_nil, List.nil_append] at hW'
  have hlt : ∀ x ∈ ([] : List MemPlace), x.block < W.heap.size := fun x hx => by simpa using hW'.lt x hx
  refine (walk a0 (wf_i64 w0) W ).mono fun e W' ⟨he, hl⟩ => ?_
  subst he
  have hg := hl.grown
  have hbel : Below W.heap.size W W' := by obtain ⟨bs, nn, rfl⟩ := hl; exact ⟨rfl, rfl, rfl, by rw [World.far_size]; omega, fun k hk => World.far_block W bs nn k hk⟩
  have hx : ∀ sp : Nat → Bool, (∀ p ∈ ([] : List MemPlace), sp p.block = true) → DataW.TrodAll enc Try.prog W' 0 sp true [3] [.int .i64 a0] [.lit (.int .i64 a0)] (([] : List MemPlace)) := fun sp hsp => by simpa using (trodAll_cons_mk (shut_int Try.underlying3 w0) trodAll_mk0)
  exact ⟨_, rfl, post_of_same (pa := ([] : List MemPlace)) (pv := []) hW' (fun _ _ _ => (trodAll_cons_mk (shut_bool Try.underlying4 _) trodAll_mk0)) (fun sp hsp => hx sp hsp) (fun _ _ => rfl) (by simp)
    (hg.frame _) hg.2.1 (ok_one (by kernel_rfl) rfl (okWide_bool_mk Try.underlying4 _))⟩

theorem over : Rows.lebSignedRow.holds Try.pinned (OpenSpec.ofChange Rows.lebSignedSpec) :=
  OpenClaim.holds_of_wide 6 Try.f6 rfl rfl rfl rfl rfl rfl rfl ⟨rfl, rfl, rfl, rfl, rfl⟩ rfl rfl rfl rfl rfl (by kernel_rfl) Try.func6 (by kernel_rfl)
    (of_decide_eq_true (by kernel_rfl)) (by unfold Func.isWrapper; first | (rw [if_pos (by decide +kernel)]; kernel_rfl) | (rw [if_neg (by decide +kernel)]; exact ⟨rfl, rfl⟩))
    (fun os started H enc _ => lifted os started H enc)


theorem proved : Rows.LebSignedSaid := over
end Go.Proofs.Ytljogkiibpinaaa.lebSigned
namespace Go.Proofs.Ytljogkiibpinaaa
theorem lebSigned_holds : Rows.LebSignedSaid := lebSigned.proved
#print axioms lebSigned_holds
end Go.Proofs.Ytljogkiibpinaaa
