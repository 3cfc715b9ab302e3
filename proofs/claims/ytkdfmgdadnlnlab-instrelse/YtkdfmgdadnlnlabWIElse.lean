/- 'InstrElse' of package peloruslaw14 returns true at every int: an if with an empty else is one without; the byte of else stands nowhere else. No condition. -/
import Derived.Test.YtkdfmgdadnlnlabIAW
import Derived.Test.YtkdfmgdadnlnlabXQ
import Derived.LoopTactic
import Derived.OpenShut
import Derived.ChangeMaps5
import Derived.ShutString
import Derived.SizedLaws
set_option linter.unusedVariables false
set_option linter.unusedSimpArgs false
set_option maxRecDepth 100000
set_option maxHeartbeats 8000000
namespace Go.Proofs.Ytkdfmgdadnlnlab.instrElse
open Go.ChangeShapes Go.WideShapes Go.ChangeAt Go.RowKit
def fE : Fs := .cons 4 0 0 0 64 [] (.cons 1 0 0 0 0 [] .nil .nil .nil) .nil .nil
theorem okE : fE.Ok := by simp [fE, Fs.Ok, i64, Fs.len]
theorem puE : puR fE = ([4, 64, 1, 11, 11], 0) := by
  have h : (ck fE 0 0).1 = 0 := by simp [ck, fE, mayP, fo, Fs.len]
  unfold puR
  rw [if_pos h]
  rfl
theorem at_1 (x : Int) : bits .and .i64 x 1 = 0 ∨ bits .and .i64 x 1 = 1 := by
  rw [show (1 : Int) = ((2 ^ 1 : Nat) - 1 : Int) by decide, BM.and_mask x 1 (by decide)]
  omega
theorem core (op o : Int) (hop : IntKind.u8.wrap (wrap64 (2 + bits .and .i64 op 1)) = o) (ho : o = 2 ∨ o = 3) (w : World) :
    Calls Try.prog 6 #[.int .i64 op] w fun e w' => e = .returned (.bool true) ∧ Later w w' := by
  have cv : ∀ (W : World) (g : Nat), g = W.heap.size → (convert 39 9 (.slice (some ⟨g, 0, none⟩) 5 5)).run Try.prog (W.alloc (.cells #[.int .u8 o, .int .u8 64, .int .u8 5, .int .u8 11, .int .u8 11] 5)) = .ok (.string (strOfNums [o, 64, 5, 11, 11])) (W.alloc (.cells #[.int .u8 o, .int .u8 64, .int .u8 5, .int .u8 11, .int .u8 11] 5)) := fun W g hg => by
    subst hg
    exact conv_n [o, 64, 5, 11, 11] (by simp; omega) 5 rfl W
  have hg3 : Hid (∀ W : World, Calls Try.prog 10 #[.string (strOfNums [o, 64, 5, 11, 11]), .int .i64 0] W fun e' w' => ∃ A c, e' = .returned (.tuple #[.slice A Fs.nil.len c, .int .i64 0, .int .i64 1403]) ∧ Hid (Tr (W.heap.size ≤ ·) w' A .nil) ∧ Hid (Later W w')) := fun W => by
    rcases ho with rfl | rfl
    · exact iget_is _ 0 .nil 0 1403 (by kernel_rfl) (by decide) (by decide) W
    · exact iget_is _ 0 .nil 0 1403 (by kernel_rfl) (by decide) (by decide) W
  generalize strOfNums [o, 64, 5, 11, 11] = S1 at *
  clear ho
  go_enter Try.func6, Try.ntmps6
  go_wp2_with (go_at_call 7; refine (awake_any _).mono ?_; rintro e w0 ⟨rfl, l0⟩; replace l0 : Hid (Later w w0) := l0)
  refine (iget_is _ 0 fE 6 0 (by kernel_rfl) (by decide) (by decide) _).mono ?_
  rintro e w1 ⟨A1, c1, rfl, T1, l1⟩
  go_wp2_with fail
  refine (iget_is _ 0 fE 5 0 (by kernel_rfl) (by decide) (by decide) _).mono ?_
  rintro e w2 ⟨A2, c2, rfl, T2, l2⟩
  go_wp2_with fail
  refine (hg3.out _).mono ?_
  clear hg3
  rintro e w3 ⟨A3, c3, rfl, T3, l3⟩
  go_wp2_with fail
  refine (iget_is _ 0 .nil 0 1403 (by kernel_rfl) (by decide) (by decide) _).mono ?_
  rintro e w4 ⟨A4, c4, rfl, T4, l4⟩
  go_wp2_with fail
  refine (iget_is _ 0 .nil 0 1403 (by kernel_rfl) (by decide) (by decide) _).mono ?_
  rintro e w5 ⟨A5, c5, rfl, T5, l5⟩
  have L25 : Later w2 w5 := ((La (Lz _)).trans l3.out).trans (l4.out.trans l5.out)
  have L15 : Hid (Later w1 w5) := l2.out.trans L25
  have T15 : Hid (Tr (w0.heap.size ≤ ·) w5 A1 fE) := T1.out.later L15.out
  have T25 : Hid (Tr (w1.heap.size ≤ ·) w5 A2 fE) := T2.out.later L25
  have L05 : Hid (Later w w5) := (l0.out.trans l1.out).trans L15.out
  clear T1 T2 T3 T4 T5 L25 L15 l0 l1 l2 l3 l4 l5
  go_wp2_with fail
  refine (iput_lit fE okE (by decide) _ _ ⟨#[4, 64, 1, 11, 11]⟩ rfl puE _ rfl _ _ _ _ T15.out).mono ?_
  rintro e w6 ⟨rfl, l6⟩
  have T16 : Hid (Tr (w0.heap.size ≤ ·) w6 A1 fE) := T15.out.later l6.out
  have T26 : Hid (Tr (w1.heap.size ≤ ·) w6 A2 fE) := T25.out.later l6.out
  have L06 : Hid (Later w w6) := L05.out.trans l6.out
  obtain ⟨g, o1, rfl, _, hA⟩ := T16.out.resolve_left (by simp [fE])
  obtain ⟨LA, lc, B, bc, E, ec, k0, k1, k2, k3, k4, k5, k6, k7, _, _, _, _⟩ := (show At (w0.heap.size ≤ ·) w6 g o1 (.cons 4 0 0 0 64 [] (.cons 1 0 0 0 0 [] .nil .nil .nil) .nil .nil) from hA).head
  clear T15 T25 L05 l6 hA
  go_wp2_with (first | (go_at_call 9; refine (num_any _ _).mono ?_; rintro e w' ⟨rfl, hw⟩; have hw := hw.symm; subst hw) | (go_at_call 11; refine (isame_is fE okE (by decide) _ _ rfl rfl _ _ _ _ _ _ _ T16.out T26.out).mono ?_; clear T16 T26; rintro e w7 ⟨rfl, l7⟩; replace k7 := (later_of l7).cell_of k7; have hi := cell_lt k7))
  go_ret
  exact ⟨rfl, L06.out.trans l7.out⟩
theorem walk (op : Int) (w : World) :
    Calls Try.prog 6 #[.int .i64 op] w fun e w' => e = .returned (.bool true) ∧ Later w w' := by
  rcases at_1 op with h | h
  · exact core op 2 (by rw [h, IntKind.wrap_u8]; unfold wrap64; omega) (Or.inl rfl) w
  · exact core op 3 (by rw [h, IntKind.wrap_u8]; unfold wrap64; omega) (Or.inr rfl) w

set_option maxRecDepth 100000 in
theorem lifted (os : Os) (started : os.Started) (H : Type) (enc : TypeId × Value → H) :
    ReturnsInHanded {} Try.checked os 6 .any (Rows.instrElseSpec.pre6 enc Try.prog Try.f6 Rows.instrElseRow.domain false) (Rows.instrElseSpec.post enc Try.prog Try.f6 false true false false) := by
  refine returnsInHanded_of_change_sized (C := Try.checked) own started (by kernel_rfl) Try.func6
    (ChangeSpec.witness6 (enc := enc) (C := Try.checked) false ⟨#[], #[.int .i64 0], []⟩ 8 (by kernel_rfl) (by kernel_rfl) (by kernel_rfl) (by kernel_rfl)) ?_
  intro W base args ds gs before hval0 hW _ _ _
  have hval : ∀ (j : Nat) t v, Try.f6.params[j]? = some t → args[j]? = some v → Value.okWide Try.prog W .any base t v := hval0
  have hW' := hW
  obtain ⟨p, q, hA0, hV, rfl, hfz, hnd⟩ := hW
  have hA : DataW.TrodAll enc Try.prog W 0 (fun _ => true) true Try.f6.params.toList args.toList ds p := hA0
  rw [Try.params6] at hA hval
  obtain ⟨v0, vs0, d0, ds0, p0, q0, hargs, rfl, rfl, h0, r0⟩ := trodAll_cons hA
  obtain ⟨rfl, rfl, rfl⟩ := trodAll_nil r0
  obtain rfl : args = #[v0] := by cases args; simp_all
  obtain ⟨rfl, rfl⟩ := trodVars_none hV
  obtain ⟨a0, rfl, rfl, rfl, w0⟩ := open_int Try.underlying3 (hval 0 3 v0 rfl rfl) h0
  clear hA0 hval0
  simp only [List.append_nil, List.nil_append] at hW'
  have hlt : ∀ x ∈ ([] : List MemPlace), x.block < W.heap.size := fun x hx => by simpa using hW'.lt x hx
  refine (walk a0 W ).mono fun e W' ⟨he, hl⟩ => ?_
  subst he
  have hbel : Below W.heap.size W W' := by obtain ⟨bs, nn, rfl⟩ := hl; exact ⟨rfl, rfl, rfl, by rw [World.far_size]; omega, fun k hk => World.far_block W bs nn k hk⟩
  have hx : ∀ sp : Nat → Bool, (∀ p ∈ ([] : List MemPlace), sp p.block = true) → DataW.TrodAll enc Try.prog W' 0 sp true [3] [.int .i64 a0] [.lit (.int .i64 a0)] (([] : List MemPlace)) := fun sp hsp => by simpa using (trodAll_cons_mk (shut_int Try.underlying3 w0) trodAll_mk0)
  exact ⟨_, rfl, post_kept (pa := ([] : List MemPlace)) (pv := []) hW' (fun _ _ _ => (trodAll_cons_mk (shut_bool Try.underlying4 _) trodAll_mk0)) (fun sp hsp => hx sp hsp) (fun _ _ => rfl) (by simp) (hbel.frame _) hbel.block (ok_one (by kernel_rfl) rfl (okWide_bool_mk Try.underlying4 _))⟩

theorem over : Rows.instrElseRow.holds Try.pinned (OpenSpec.ofChange Rows.instrElseSpec) :=
  OpenClaim.holds_of_wide 6 Try.f6 rfl rfl rfl rfl rfl rfl rfl ⟨rfl, rfl, rfl, rfl, rfl⟩ rfl rfl rfl rfl rfl (by kernel_rfl) Try.func6 (by kernel_rfl)
    (of_decide_eq_true (by kernel_rfl)) (by unfold Func.isWrapper; first | (rw [if_pos (by decide +kernel)]; kernel_rfl) | (rw [if_neg (by decide +kernel)]; exact ⟨rfl, rfl⟩))
    (fun os started H enc _ => lifted os started H enc)


theorem proved : Rows.InstrElseSaid := over
end Go.Proofs.Ytkdfmgdadnlnlab.instrElse
namespace Go.Proofs.Ytkdfmgdadnlnlab
theorem instrElse_holds : Rows.InstrElseSaid := instrElse.proved
#print axioms instrElse_holds
end Go.Proofs.Ytkdfmgdadnlnlab
