/- 'Lebs' of package peloruslaw12 returns true at every int, every text and every two ints: any number as bytes, any bytes as a number, as the document's. No condition. -/
import Derived.Test.YtljogkiibpinaaaLW
import Derived.LoopTactic
import Derived.OpenShut
import Derived.ChangeMaps5
import Derived.ShutString
import Derived.SizedLaws
set_option linter.unusedVariables false
set_option linter.unusedSimpArgs false
set_option maxRecDepth 100000
set_option maxHeartbeats 8000000
namespace Go.Proofs.Ytljogkiibpinaaa.lebs
open Go.ChangeShapes Go.WideShapes Go.ChangeAt Go.RowKit
theorem walk (x : Int) (hx : -9223372036854775808 ≤ x ∧ x ≤ 9223372036854775807) (s : ByteArray) (hs : s.size ≤ 140737488351232) (a : Int) (ha : -9223372036854775808 ≤ a ∧ a ≤ 9223372036854775807) (b : Int) (hb : -9223372036854775808 ≤ b ∧ b ≤ 9223372036854775807) (w : World) :
    Calls Try.prog 3 #[.int .i64 x, .string s, .int .i64 a, .int .i64 b] w fun e w' => e = .returned (.bool true) ∧ Later w w' := by
  have h1 : Hid (∀ w : World, Calls Try.prog 9 #[.string s, .int .i64 a, .int .i64 b] w fun e w' => e = .returned (.tuple #[.int .i64 (ulR s a b).1, .int .i64 (ulR s a b).2.1, .int .i64 (ulR s a b).2.2]) ∧ Later w w') := fun w => get_any s (by omega) a b ha hb w
  have h2 : Hid (∀ w : World, Calls Try.prog 10 #[.string s, .int .i64 a, .int .i64 b] w fun e w' => e = .returned (.tuple #[.int .i64 (ulR s a b).1, .int .i64 (ulR s a b).2.1, .int .i64 (ulR s a b).2.2]) ∧ w' = w) := fun w => unleb_any s (by omega) a b w
  have h3 : Hid (∀ w : World, Calls Try.prog 11 #[.string s, .int .i64 a, .int .i64 b] w fun e w' => e = .returned (.tuple #[.int .i64 (usR s a b).1, .int .i64 (usR s a b).2.1, .int .i64 (usR s a b).2.2]) ∧ Later w w') := fun w => gets_any s (by omega) a b ha hb w
  have h4 : Hid (∀ w : World, Calls Try.prog 12 #[.string s, .int .i64 a, .int .i64 b] w fun e w' => e = .returned (.tuple #[.int .i64 (usR s a b).1, .int .i64 (usR s a b).2.1, .int .i64 (usR s a b).2.2]) ∧ w' = w) := fun w => unsleb_any s (by omega) a b w
  generalize ulR s a b = p at *
  generalize usR s a b = q at *
  have h5 : Hid (∀ w : World, Calls Try.prog 13 #[.int .i64 x] w fun e w' => e = .returned (.string (strOfNums (lebL x))) ∧ Later w w') := fun w => put_any x hx w
  have h6 : Hid (∀ w : World, Calls Try.prog 14 #[.int .i64 x] w fun e w' => e = .returned (.string (strOfNums (lebL x))) ∧ Later w w') := fun w => leb_any x w
  have h7 : Hid (∀ w : World, Calls Try.prog 15 #[.int .i64 x] w fun e w' => e = .returned (.string (strOfNums (slebL x))) ∧ Later w w') := fun w => puts_any x hx w
  have h8 : Hid (∀ w : World, Calls Try.prog 16 #[.int .i64 x] w fun e w' => e = .returned (.string (strOfNums (slebL x))) ∧ Later w w') := fun w => sleb_any x hx w
  generalize strOfNums (lebL x) = t at *
  generalize strOfNums (slebL x) = u at *
  clear hx hs ha hb
  go_enter Try.func3, Try.ntmps3
  go_wp2_with (first | (go_at_call 9; refine (h1.out _).mono ?_; rintro e w' ⟨rfl, bs, n, rfl⟩) | (go_at_call 10; refine (h2.out _).mono ?_; rintro e w' ⟨rfl, rfl⟩) | (go_at_call 11; refine (h3.out _).mono ?_; rintro e w' ⟨rfl, bs, n, rfl⟩) | (go_at_call 12; refine (h4.out _).mono ?_; rintro e w' ⟨rfl, rfl⟩) | (go_at_call 13; refine (h5.out _).mono ?_; rintro e w' ⟨rfl, bs, n, rfl⟩) | (go_at_call 14; refine (h6.out _).mono ?_; rintro e w' ⟨rfl, bs, n, rfl⟩) | (go_at_call 15; refine (h7.out _).mono ?_; rintro e w' ⟨rfl, bs, n, rfl⟩) | (go_at_call 16; refine (h8.out _).mono ?_; rintro e w' ⟨rfl, bs, n, rfl⟩) | (go_at_call 17; refine (num_any _ _).mono ?_; rintro e w' ⟨rfl, rfl⟩) | (go_at_call 18; refine (awake_any _).mono ?_; rintro e w' ⟨rfl, bs, n, rfl⟩))
  go_ret
  exact ⟨rfl, by repeat first | exact Lz _ | apply La | apply Lv | apply Ld | apply Ln⟩

set_option maxRecDepth 100000 in
theorem lifted (os : Os) (started : os.Started) (H : Type) (enc : TypeId × Value → H) :
    ReturnsInHanded {} Try.checked os 3 .any (Rows.lebsSpec.pre6 enc Try.prog Try.f3 Rows.lebsRow.domain false) (Rows.lebsSpec.post enc Try.prog Try.f3 false true false false) := by
  refine returnsInHanded_of_change_sized (C := Try.checked) own started (by kernel_rfl) Try.func3
    (ChangeSpec.witness6 (enc := enc) (C := Try.checked) false ⟨#[], #[.int .i64 0, .string ⟨#[]⟩, .int .i64 0, .int .i64 0], []⟩ 8 (by kernel_rfl) (by kernel_rfl) (by kernel_rfl) (by kernel_rfl)) ?_
  intro W base args ds gs before hval0 hW _ hsz0 _
  have hval : ∀ (j : Nat) t v, Try.f3.params[j]? = some t → args[j]? = some v → Value.okWide Try.prog W .any base t v := hval0
  have hW' := hW
  obtain ⟨p, q, hA0, hV, rfl, hfz, hnd⟩ := hW
  have hA : DataW.TrodAll enc Try.prog W 0 (fun _ => true) true Try.f3.params.toList args.toList ds p := hA0
  rw [Try.params3] at hA hval
  obtain ⟨v0, vs0, d0, ds0, p0, q0, hargs, rfl, rfl, h0, r0⟩ := trodAll_cons hA
  obtain ⟨v1, vs1, d1, ds1, p1, q1, rfl, rfl, rfl, h1, r1⟩ := trodAll_cons r0
  obtain ⟨v2, vs2, d2, ds2, p2, q2, rfl, rfl, rfl, h2, r2⟩ := trodAll_cons r1
  obtain ⟨v3, vs3, d3, ds3, p3, q3, rfl, rfl, rfl, h3, r3⟩ := trodAll_cons r2
  obtain ⟨rfl, rfl, rfl⟩ := trodAll_nil r3
  obtain rfl : args = #[v0, v1, v2, v3] := by cases args; simp_all
  obtain ⟨rfl, rfl⟩ := trodVars_none hV
  obtain ⟨a0, rfl, rfl, rfl, w0⟩ := open_int Try.underlying3 (hval 0 3 v0 rfl rfl) h0
  obtain ⟨a1, rfl, rfl, rfl, w1⟩ := ChangeMaps.open_string Try.underlying9 (hval 1 9 v1 rfl rfl) h1
  have hs1 : a1.size ≤ 140737488351232 := by
    have hs := sized_string hsz0 (j := 1) (t := 9) (bytes := a1.data.toList) rfl rfl
    unfold reachBytes at hs
    simpa using hs
  obtain ⟨a2, rfl, rfl, rfl, w2⟩ := open_int Try.underlying3 (hval 2 3 v2 rfl rfl) h2
  obtain ⟨a3, rfl, rfl, rfl, w3⟩ := open_int Try.underlying3 (hval 3 3 v3 rfl rfl) h3
  clear hA0 hval0
  simp only [List.append_nil, List.nil_append] at hW'
  have hlt : ∀ x ∈ ([] : List MemPlace), x.block < W.heap.size := fun x hx => by simpa using hW'.lt x hx
  refine (walk a0 (wf_i64 w0) a1 hs1 a2 (wf_i64 w2) a3 (wf_i64 w3) W ).mono fun e W' ⟨he, hl⟩ => ?_
  subst he
  have hg := hl.grown
  have hbel : Below W.heap.size W W' := by obtain ⟨bs, nn, rfl⟩ := hl; exact ⟨rfl, rfl, rfl, by rw [World.far_size]; omega, fun k hk => World.far_block W bs nn k hk⟩
  have hx : ∀ sp : Nat → Bool, (∀ p ∈ ([] : List MemPlace), sp p.block = true) → DataW.TrodAll enc Try.prog W' 0 sp true [3, 9, 3, 3] [.int .i64 a0, .string a1, .int .i64 a2, .int .i64 a3] [.lit (.int .i64 a0), .lit (.string a1.data.toList), .lit (.int .i64 a2), .lit (.int .i64 a3)] (([] : List MemPlace)) := fun sp hsp => by simpa using (trodAll_cons_mk (shut_int Try.underlying3 w0) (trodAll_cons_mk (ChangeMaps.shut_string Try.underlying9 w1) (trodAll_cons_mk (shut_int Try.underlying3 w2) (trodAll_cons_mk (shut_int Try.underlying3 w3) trodAll_mk0))))
  exact ⟨_, rfl, post_of_same (pa := ([] : List MemPlace)) (pv := []) hW' (fun _ _ _ => (trodAll_cons_mk (shut_bool Try.underlying4 _) trodAll_mk0)) (fun sp hsp => hx sp hsp) (fun _ _ => rfl) (by simp)
    (hg.frame _) hg.2.1 (ok_one (by kernel_rfl) rfl (okWide_bool_mk Try.underlying4 _))⟩

theorem over : Rows.lebsRow.holds Try.pinned (OpenSpec.ofChange Rows.lebsSpec) :=
  OpenClaim.holds_of_wide 3 Try.f3 rfl rfl rfl rfl rfl rfl rfl ⟨rfl, rfl, rfl, rfl, rfl⟩ rfl rfl rfl rfl rfl (by kernel_rfl) Try.func3 (by kernel_rfl)
    (of_decide_eq_true (by kernel_rfl)) (by unfold Func.isWrapper; first | (rw [if_pos (by decide +kernel)]; kernel_rfl) | (rw [if_neg (by decide +kernel)]; exact ⟨rfl, rfl⟩))
    (fun os started H enc _ => lifted os started H enc)


theorem proved : Rows.LebsSaid := over
end Go.Proofs.Ytljogkiibpinaaa.lebs
namespace Go.Proofs.Ytljogkiibpinaaa
theorem lebs_holds : Rows.LebsSaid := lebs.proved
#print axioms lebs_holds
end Go.Proofs.Ytljogkiibpinaaa
