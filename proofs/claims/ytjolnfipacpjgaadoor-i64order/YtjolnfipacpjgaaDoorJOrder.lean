/- 'I64Order' of package peloruslaw3 returns true at every input: of two numbers just one of less, equal, greater is, with sign and without; the others are these turned. -/
import Derived.Test.YtjolnfipacpjgaaDoorI64
import Derived.Test.YtjolnfipacpjgaaDoorLaid
import Derived.Test.YtjolnfipacpjgaaDoorTie
import Derived.Test.YtjolnfipacpjgaaDoorCards
import Derived.SevenTiedAt
import Derived.Test.YtjolnfipacpjgaaDoorJOrderA
import Derived.Test.YtjolnfipacpjgaaDoorJOrderB
import Derived.Test.YtjolnfipacpjgaaDoorJOrderC
namespace Go.Proofs.YtjolnfipacpjgaaDoor.i64Order
open Go.ChangeShapes Go.WideShapes Go.ChangeAt Go.RowKit
set_option linter.unusedVariables false

theorem at_op (op x y : Int) (b : Bool) (v : Int) (hop : 81 ≤ op ∧ op ≤ 90) (h : BM.cmp64 op x y = b) (hv : BM.flagI b = v) : Hid (BM.bin64 op x y = (v, 0)) := by
  show _ = _
  rw [BM.c_cmp op x y hop, h, hv]

theorem walk (a0 : Int) (a1 : Int) (w0 : (Lit.int .i64 a0).wf = true) (w1 : (Lit.int .i64 a1).wf = true) (w : World) (hT : Tab 0 Lib.deBruijn32tab w ∧ Tab 1 Lib.deBruijn64tab w) :
    Calls Tryd.prog 7 #[.int .i64 a0, .int .i64 a1] w fun e w' => e = .returned (.bool true) ∧ Grown w w' := by
  have bx := bounds_i64 w0
  have by1 := bounds_i64 w1
  have A := fun (op : Int) (b : Bool) (v : Int) (hop : 81 ≤ op ∧ op ≤ 90) => at_op op a0 a1 b v hop
  obtain ⟨c0, c1, c2, c3, c4, c5, c6, c7, c8, c9⟩ := BM.cmp_at64 a0 a1
  have hi := BM.uu_inj a0 a1 bx by1
  clear hT w0 w1 bx by1
  by_cases hne : a0 = a1
  · subst hne
    exact same a0 (A 81 true 1 (by decide) (by rw [c0]; simp; try omega) rfl) (A 82 false 0 (by decide) (by rw [c1]; simp; try omega) rfl) (A 83 false 0 (by decide) (by rw [c2]; simp; try omega) rfl) (A 84 false 0 (by decide) (by rw [c3]; simp; try omega) rfl) (A 85 false 0 (by decide) (by rw [c4]; simp; try omega) rfl) (A 86 false 0 (by decide) (by rw [c5]; simp; try omega) rfl) (A 87 true 1 (by decide) (by rw [c6]; simp; try omega) rfl) (A 88 true 1 (by decide) (by rw [c7]; simp; try omega) rfl) (A 89 true 1 (by decide) (by rw [c8]; simp; try omega) rfl) (A 90 true 1 (by decide) (by rw [c9]; simp; try omega) rfl) w
  · have hs : a0 < a1 ∨ a1 < a0 := by omega
    have hu : BM.uu a0 < BM.uu a1 ∨ BM.uu a1 < BM.uu a0 := by
      rcases Int.lt_trichotomy (BM.uu a0) (BM.uu a1) with h | h | h
      · exact Or.inl h
      · exact absurd (hi h) hne
      · exact Or.inr h
    clear hi
    generalize BM.uu a0 = s at *
    generalize BM.uu a1 = t at *
    rcases hs with hs | hs <;> rcases hu with hu | hu
    · exact ll a0 a1 (by simpa using hne) (A 81 false 0 (by decide) (by rw [c0]; simp; try omega) rfl) (A 82 true 1 (by decide) (by rw [c1]; simp; try omega) rfl) (A 83 true 1 (by decide) (by rw [c2]; simp; try omega) rfl) (A 84 true 1 (by decide) (by rw [c3]; simp; try omega) rfl) (A 85 false 0 (by decide) (by rw [c4]; simp; try omega) rfl) (A 86 false 0 (by decide) (by rw [c5]; simp; try omega) rfl) (A 87 true 1 (by decide) (by rw [c6]; simp; try omega) rfl) (A 88 true 1 (by decide) (by rw [c7]; simp; try omega) rfl) (A 89 false 0 (by decide) (by rw [c8]; simp; try omega) rfl) (A 90 false 0 (by decide) (by rw [c9]; simp; try omega) rfl) w
    · exact lg a0 a1 (by simpa using hne) (A 81 false 0 (by decide) (by rw [c0]; simp; try omega) rfl) (A 82 true 1 (by decide) (by rw [c1]; simp; try omega) rfl) (A 83 true 1 (by decide) (by rw [c2]; simp; try omega) rfl) (A 84 false 0 (by decide) (by rw [c3]; simp; try omega) rfl) (A 85 false 0 (by decide) (by rw [c4]; simp; try omega) rfl) (A 86 true 1 (by decide) (by rw [c5]; simp; try omega) rfl) (A 87 true 1 (by decide) (by rw [c6]; simp; try omega) rfl) (A 88 false 0 (by decide) (by rw [c7]; simp; try omega) rfl) (A 89 false 0 (by decide) (by rw [c8]; simp; try omega) rfl) (A 90 true 1 (by decide) (by rw [c9]; simp; try omega) rfl) w
    · exact gl a0 a1 (by simpa using hne) (A 81 false 0 (by decide) (by rw [c0]; simp; try omega) rfl) (A 82 true 1 (by decide) (by rw [c1]; simp; try omega) rfl) (A 83 false 0 (by decide) (by rw [c2]; simp; try omega) rfl) (A 84 true 1 (by decide) (by rw [c3]; simp; try omega) rfl) (A 85 true 1 (by decide) (by rw [c4]; simp; try omega) rfl) (A 86 false 0 (by decide) (by rw [c5]; simp; try omega) rfl) (A 87 false 0 (by decide) (by rw [c6]; simp; try omega) rfl) (A 88 true 1 (by decide) (by rw [c7]; simp; try omega) rfl) (A 89 true 1 (by decide) (by rw [c8]; simp; try omega) rfl) (A 90 false 0 (by decide) (by rw [c9]; simp; try omega) rfl) w
    · exact gg a0 a1 (by simpa using hne) (A 81 false 0 (by decide) (by rw [c0]; simp; try omega) rfl) (A 82 true 1 (by decide) (by rw [c1]; simp; try omega) rfl) (A 83 false 0 (by decide) (by rw [c2]; simp; try omega) rfl) (A 84 false 0 (by decide) (by rw [c3]; simp; try omega) rfl) (A 85 true 1 (by decide) (by rw [c4]; simp; try omega) rfl) (A 86 true 1 (by decide) (by rw [c5]; simp; try omega) rfl) (A 87 false 0 (by decide) (by rw [c6]; simp; try omega) rfl) (A 88 false 0 (by decide) (by rw [c7]; simp; try omega) rfl) (A 89 true 1 (by decide) (by rw [c8]; simp; try omega) rfl) (A 90 true 1 (by decide) (by rw [c9]; simp; try omega) rfl) w

set_option maxRecDepth 100000 in
theorem lifted (os : Os) (started : os.Started) (H : Type) (enc : TypeId × Value → H) :
    ReturnsInHanded {} Tryd.checked os 7 .any (fun w args => (Rows.i64OrderSpec.pre enc Tryd.prog Tryd.f7 [] false w args ∧ laidMetH Tryd.prog tabs w) ∧ sizedMet enc Tryd.prog Tryd.f7 (OpenSpec.ofChange Rows.i64OrderSpec) false w args)
      (Rows.i64OrderSpec.post enc Tryd.prog Tryd.f7 false true false false) := by
  refine returnsInHanded_of_change_and (C := Tryd.checked) (X := fun w _ => laidMetH Tryd.prog tabs w) (fun _ _ _ hh h => h.of_heap hh) own started (by kernel_rfl) Tryd.func7
    (ChangeSpec.witness_shaped (enc := enc) (C := Tryd.checked) (os := os) (X := fun w _ => laidMetH Tryd.prog tabs w) false (World.doorLaid Tryd.prog 400 os) #[.int .i64 0, .int .i64 0] 8 rfl (World.shaped_of_RefB (by kernel_rfl) (by kernel_rfl)) (by kernel_rfl) (by kernel_rfl) (by kernel_rfl) (door_met os _)) ?_
  intro W base args ds gs before hval0 hW _ _ hL _
  have hval : ∀ (j : Nat) t v, Tryd.f7.params[j]? = some t → args[j]? = some v → Value.okWide Tryd.prog W .any base t v := hval0
  have hW' := hW
  obtain ⟨p, q, hA0, hV, rfl, hfz, hnd⟩ := hW
  have hA : DataW.TrodAll enc Tryd.prog W 0 (fun _ => true) true Tryd.f7.params.toList args.toList ds p := hA0
  rw [Tryd.params7] at hA hval
  obtain ⟨v0, vs0, d0, ds0, p0, q0, hargs, rfl, rfl, h0, r0⟩ := trodAll_cons hA
  obtain ⟨v1, vs1, d1, ds1, p1, q1, rfl, rfl, rfl, h1, r1⟩ := trodAll_cons r0
  obtain ⟨rfl, rfl, rfl⟩ := trodAll_nil r1
  obtain rfl : args = #[v0, v1] := by cases args; simp_all
  obtain ⟨rfl, rfl⟩ := trodVars_none hV
  obtain ⟨a0, rfl, rfl, rfl, w0⟩ := open_int Tryd.underlying3 (hval 0 3 v0 rfl rfl) h0
  obtain ⟨a1, rfl, rfl, rfl, w1⟩ := open_int Tryd.underlying3 (hval 1 3 v1 rfl rfl) h1
  clear hA0 hval0
  simp only [List.append_nil] at hW'
  refine (walk a0 a1 w0 w1 W (of_laid hL)).mono fun e W' ⟨he, hg⟩ => ?_
  subst he
  exact ⟨_, rfl, post_of_same (pa := []) (pv := []) hW' (fun _ _ _ => (trodAll_cons_mk (shut_bool Tryd.underlying4 _) trodAll_mk0)) (fun sp _ => (trodAll_cons_mk (shut_int Tryd.underlying3 w0) (trodAll_cons_mk (shut_int Tryd.underlying3 w1) trodAll_mk0))) (fun _ _ => rfl) rfl
    (hg.frame _) hg.2.1 (ok_one (by kernel_rfl) rfl (okWide_bool_mk Tryd.underlying4 _))⟩

theorem over : Rows.i64OrderRow.holds Tryd.pinned (OpenSpec.ofChange Rows.i64OrderSpec) :=
  OpenClaim.holds_of_wide 7 Tryd.f7 rfl rfl rfl rfl rfl rfl rfl ⟨rfl, rfl, rfl, rfl, rfl⟩ rfl rfl rfl rfl rfl (by kernel_rfl) Tryd.func7 (by kernel_rfl)
    (of_decide_eq_true (by kernel_rfl)) (by unfold Func.isWrapper; first | (rw [if_pos (by decide +kernel)]; kernel_rfl) | (rw [if_neg (by decide +kernel)]; exact ⟨rfl, rfl⟩))
    (fun os started H enc _ => lifted os started H enc)

theorem row_holds : Rows.I64OrderSaid := over

theorem card_holds : Rows.I64OrderCardSaid :=
  Claim7.holds_tied_plain_at .later [] [.data, .data] true (true, "2ebdc143f2b4abfbe67d11490afdcbc72c2e3198a97a59044c44f84c43a9fa4b") false
    row_holds (fun _ h => by cases h) (by kernel_rfl) (fun _ h => by cases h) i64Order_row_tie rfl ⟨rfl, rfl⟩ (by kernel_rfl) rfl
    (fun f fn hf hfn => by
      obtain rfl : f = 7 := Option.some.inj ((show Tryd.prog.funcNamed Rows.i64OrderRow.func = some 7 by kernel_rfl).symm.trans hf) |>.symm
      obtain rfl : fn = Tryd.f7 := (Option.some.inj (Tryd.func7.symm.trans hfn)).symm
      exact ⟨by kernel_rfl, fun j t ht => by
        rw [Tryd.params7] at ht
        have hm : t ∈ [3, 3] := by simpa using Array.mem_of_getElem? ht
        have hall : ([3, 3].all fun u => !Tryd.prog.wantsStandIn u) = true := by kernel_rfl
        exact (show Tryd.prog.wantsStandIn t = false by simpa using List.all_eq_true.1 hall t hm)⟩)
    (by kernel_rfl)
end Go.Proofs.YtjolnfipacpjgaaDoor.i64Order
namespace Go.Proofs.YtjolnfipacpjgaaDoor
theorem i64Order_holds : Rows.I64OrderCardSaid := i64Order.card_holds
#print axioms i64Order_holds
end Go.Proofs.YtjolnfipacpjgaaDoor

