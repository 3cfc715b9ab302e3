/- 'Names' of package peloruslaw13 returns true at every two texts and every int: any text as a name, any bytes as one, as the document's. No condition. -/
import Derived.Test.YthbagkaodcplmaaOW
import Derived.LoopTactic
import Derived.OpenShut
import Derived.ChangeMaps5
import Derived.ShutString
import Derived.SizedLaws
set_option linter.unusedVariables false
set_option linter.unusedSimpArgs false
set_option maxRecDepth 100000
set_option maxHeartbeats 8000000
namespace Go.Proofs.Ythbagkaodcplmaa.names
open Go.ChangeShapes Go.WideShapes Go.ChangeAt Go.RowKit
theorem walk (s : ByteArray) (hs : s.size ≤ 140737488351232) (t : ByteArray) (ht : t.size ≤ 140737488351232) (a : Int) (ha : -9223372036854775808 ≤ a ∧ a ≤ 9223372036854775807) (w : World) :
    Calls Try.prog 3 #[.string s, .string t, .int .i64 a] w fun e w' => e = .returned (.bool true) ∧ Later w w' := by
  have h1 : Hid (∀ w : World, Calls Try.prog 7 #[.string s] w fun e w' => e = .returned (.tuple #[.string (nmR s).1, .int .i64 (nmR s).2]) ∧ Later w w') := fun w => nput_any s (by omega) w
  have h2 : Hid (∀ w : World, Calls Try.prog 8 #[.string s] w fun e w' => e = .returned (.tuple #[.string (nmR s).1, .int .i64 (nmR s).2]) ∧ Later w w') := fun w => name_any s (by omega) w
  have h3 : Hid (∀ w : World, Calls Try.prog 9 #[.string t, .int .i64 a] w fun e w' => e = .returned (.tuple #[.string (unR t a).1, .int .i64 (unR t a).2.1, .int .i64 (unR t a).2.2]) ∧ Later w w') := fun w => nget_any t (by omega) a ha w
  have h4 : Hid (∀ w : World, Calls Try.prog 10 #[.string t, .int .i64 a] w fun e w' => e = .returned (.tuple #[.string (unR t a).1, .int .i64 (unR t a).2.1, .int .i64 (unR t a).2.2]) ∧ w' = w) := fun w => unname_any t (by omega) a w
  have h5 : Hid (∀ w : World, Calls Try.prog 11 #[.string s] w fun e w' => e = .returned (.bool (mayN s)) ∧ Later w w') := fun w => may_any s (by omega) w
  have h6 : Hid (∀ w : World, Calls Try.prog 12 #[.string s] w fun e w' => e = .returned (.bool (mayN s)) ∧ w' = w) := fun w => namemay_any s (by omega) w
  generalize nmR s = p at *
  generalize unR t a = q at *
  generalize mayN s = m at *
  clear hs ht ha
  go_enter Try.func3, Try.ntmps3
  go_wp2_with (first | (go_at_call 7; refine (h1.out _).mono ?_; rintro e w' ⟨rfl, bs, n, rfl⟩) | (go_at_call 8; refine (h2.out _).mono ?_; rintro e w' ⟨rfl, bs, n, rfl⟩) | (go_at_call 9; refine (h3.out _).mono ?_; rintro e w' ⟨rfl, bs, n, rfl⟩) | (go_at_call 10; refine (h4.out _).mono ?_; rintro e w' ⟨rfl, rfl⟩) | (go_at_call 11; refine (h5.out _).mono ?_; rintro e w' ⟨rfl, bs, n, rfl⟩) | (go_at_call 12; refine (h6.out _).mono ?_; rintro e w' ⟨rfl, rfl⟩) | (go_at_call 13; refine (num_any _ _).mono ?_; rintro e w' ⟨rfl, rfl⟩) | (go_at_call 14; refine (awake_any _).mono ?_; rintro e w' ⟨rfl, bs, n, rfl⟩))
  go_ret
  exact ⟨rfl, by repeat first | exact Lz _ | apply La | apply Lv | apply Ld | apply Ln⟩

set_option maxRecDepth 100000 in
theorem lifted (os : Os) (started : os.Started) (H : Type) (enc : TypeId × Value → H) :
    ReturnsInHanded {} Try.checked os 3 .any (Rows.namesSpec.pre6 enc Try.prog Try.f3 Rows.namesRow.domain false) (Rows.namesSpec.post enc Try.prog Try.f3 false true false false) := by
  refine returnsInHanded_of_change_sized (C := Try.checked) own started (by kernel_rfl) Try.func3
    (ChangeSpec.witness6 (enc := enc) (C := Try.checked) false ⟨#[], #[.string ⟨#[]⟩, .string ⟨#[]⟩, .int .i64 0], []⟩ 8 (by kernel_rfl) (by kernel_rfl) (by kernel_rfl) (by kernel_rfl)) ?_
  intro W base args ds gs before hval0 hW _ hsz0 _
  have hval : ∀ (j : Nat) t v, Try.f3.params[j]? = some t → args[j]? = some v → Value.okWide Try.prog W .any base t v := hval0
  have hW' := hW
  obtain ⟨p, q, hA0, hV, rfl, hfz, hnd⟩ := hW
  have hA : DataW.TrodAll enc Try.prog W 0 (fun _ => true) true Try.f3.params.toList args.toList ds p := hA0
  rw [Try.params3] at hA hval
  obtain ⟨v0, vs0, d0, ds0, p0, q0, hargs, rfl, rfl, h0, r0⟩ := trodAll_cons hA
  obtain ⟨v1, vs1, d1, ds1, p1, q1, rfl, rfl, rfl, h1, r1⟩ := trodAll_cons r0
  obtain ⟨v2, vs2, d2, ds2, p2, q2, rfl, rfl, rfl, h2, r2⟩ := trodAll_cons r1
  obtain ⟨rfl, rfl, rfl⟩ := trodAll_nil r2
  obtain rfl : args = #[v0, v1, v2] := by cases args; simp_all
  obtain ⟨rfl, rfl⟩ := trodVars_none hV
  obtain ⟨a0, rfl, rfl, rfl, w0⟩ := ChangeMaps.open_string Try.underlying9 (hval 0 9 v0 rfl rfl) h0
  have hs0 : a0.size ≤ 140737488351232 := by
    have hs := sized_string hsz0 (j := 0) (t := 9) (bytes := a0.data.toList) rfl rfl
    unfold reachBytes at hs
    simpa using hs
  obtain ⟨a1, rfl, rfl, rfl, w1⟩ := ChangeMaps.open_string Try.underlying9 (hval 1 9 v1 rfl rfl) h1
  have hs1 : a1.size ≤ 140737488351232 := by
    have hs := sized_string hsz0 (j := 1) (t := 9) (bytes := a1.data.toList) rfl rfl
    unfold reachBytes at hs
    simpa using hs
  obtain ⟨a2, rfl, rfl, rfl, w2⟩ := open_int Try.underlying3 (hval 2 3 v2 rfl rfl) h2
  clear hA0 hval0
  simp only [List.append_nil, List.nil_append] at hW'
  have hlt : ∀ x ∈ ([] : List MemPlace), x.block < W.heap.size := fun x hx => by simpa using hW'.lt x hx
  refine (walk a0 hs0 a1 hs1 a2 (wf_i64 w2) W ).mono fun e W' ⟨he, hl⟩ => ?_
  subst he
  have hbel : Below W.heap.size W W' := by obtain ⟨bs, nn, rfl⟩ := hl; exact ⟨rfl, rfl, rfl, by rw [World.far_size]; omega, fun k hk => World.far_block W bs nn k hk⟩
  have hx : ∀ sp : Nat → Bool, (∀ p ∈ ([] : List MemPlace), sp p.block = true) → DataW.TrodAll enc Try.prog W' 0 sp true [9, 9, 3] [.string a0, .string a1, .int .i64 a2] [.lit (.string a0.data.toList), .lit (.string a1.data.toList), .lit (.int .i64 a2)] (([] : List MemPlace)) := fun sp hsp => by simpa using (trodAll_cons_mk (ChangeMaps.shut_string Try.underlying9 w0) (trodAll_cons_mk (ChangeMaps.shut_string Try.underlying9 w1) (trodAll_cons_mk (shut_int Try.underlying3 w2) trodAll_mk0)))
  exact ⟨_, rfl, post_none hW' (fun _ _ _ => (trodAll_cons_mk (shut_bool Try.underlying4 _) trodAll_mk0)) (fun sp => hx sp (fun p hp => absurd hp List.not_mem_nil)) (fun _ => rfl) (hbel.frame _) (ok_one (by kernel_rfl) rfl (okWide_bool_mk Try.underlying4 _))⟩

theorem over : Rows.namesRow.holds Try.pinned (OpenSpec.ofChange Rows.namesSpec) :=
  OpenClaim.holds_of_wide 3 Try.f3 rfl rfl rfl rfl rfl rfl rfl ⟨rfl, rfl, rfl, rfl, rfl⟩ rfl rfl rfl rfl rfl (by kernel_rfl) Try.func3 (by kernel_rfl)
    (of_decide_eq_true (by kernel_rfl)) (by unfold Func.isWrapper; first | (rw [if_pos (by decide +kernel)]; kernel_rfl) | (rw [if_neg (by decide +kernel)]; exact ⟨rfl, rfl⟩))
    (fun os started H enc _ => lifted os started H enc)


theorem proved : Rows.NamesSaid := over
end Go.Proofs.Ythbagkaodcplmaa.names
namespace Go.Proofs.Ythbagkaodcplmaa
theorem names_holds : Rows.NamesSaid := names.proved
#print axioms names_holds
end Go.Proofs.Ythbagkaodcplmaa
