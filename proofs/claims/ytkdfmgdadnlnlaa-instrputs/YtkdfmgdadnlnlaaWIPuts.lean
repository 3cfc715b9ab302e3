/- 'InstrPuts' of package peloruslaw14 returns true at every list of instructions: any instructions as bytes, as the document's. No condition. -/
import Derived.Test.YtkdfmgdadnlnlaaIAW
import Derived.Test.YtkdfmgdadnlnlaaXQ
import Derived.LoopTactic
import Derived.OpenShut
import Derived.ChangeMaps5
import Derived.ShutString
import Derived.SizedLaws
set_option linter.unusedVariables false
set_option linter.unusedSimpArgs false
set_option maxRecDepth 100000
set_option maxHeartbeats 8000000
namespace Go.Proofs.Ytkdfmgdadnlnlaa.instrPuts
open Go.ChangeShapes Go.WideShapes Go.ChangeAt Go.RowKit
theorem walk (A : Option Addr) (n c : Nat) (w : World) (h : ∃ f : Fs, n = f.len ∧ Tr (· < w.heap.size) w A f ∧ f.Ok ∧ n * 112 ≤ 140737488351232) :
    Calls Try.prog 3 #[.slice A n c] w fun e w' => e = .returned (.bool true) ∧ Later w w' := by
  obtain ⟨f, rfl, hT, ho, hn⟩ := h
  have h1 : Hid (Calls Try.prog 9 #[.slice A f.len c] w fun e w' => ∃ A' c', e = .returned (.slice A' f.len c') ∧ Hid (Tr (w.heap.size ≤ ·) w' A' f) ∧ Hid (Later w w')) := copyI_any f.sz f (Nat.le_refl _) ho hn _ w A c hT
  have h2 : Hid (∀ (Z : Nat → Prop) (W : World) (B : Option Addr) (k : Nat), Tr Z W B f → Calls Try.prog 10 #[.slice B f.len k] W fun e w' => e = .returned (.tuple #[.string (strOfNums (puR f).1), .int .i64 (puR f).2]) ∧ Hid (Later W w')) := fun Z W B k hB => iput_any f ho hn Z W B k hB
  have h3 : Hid (∀ (Z : Nat → Prop) (W : World) (B : Option Addr) (k : Nat), Tr Z W B f → Calls Try.prog 11 #[.slice B f.len k] W fun e w' => e = .returned (.tuple #[.string (strOfNums (puR f).1), .int .i64 (puR f).2]) ∧ Hid (Later W w')) := fun Z W B k hB => instrs_any f ho hn Z W B k hB
  have h4 : Hid (∀ (Z : Nat → Prop) (W : World) (B : Option Addr) (k : Nat), Tr Z W B f → Calls Try.prog 13 #[.slice B f.len k] W fun e w' => e = .returned (.int .i64 ((al f 0 []).length : Nat)) ∧ Hid (Later W w')) := fun Z W B k hB => icount_any f ho hn Z W B k hB
  have h5 : Hid (∀ (Z : Nat → Prop) (W : World) (B : Option Addr) (k : Nat), Tr Z W B f → Calls Try.prog 14 #[.slice B f.len k] W fun e w' => e = .returned (.int .i64 ((al f 0 []).length : Nat)) ∧ Hid (Later W w')) := fun Z W B k hB => count_any f ho hn Z W B k hB
  have h6 : Hid (∀ (Z Y : Nat → Prop) (W : World) (B C : Option Addr) (k k' : Nat), Tr Z W B f → Tr Y W C f → Calls Try.prog 15 #[.slice B f.len k, .slice C f.len k'] W fun e w' => e = .returned (.bool true) ∧ Hid (Later W w')) := fun Z Y W B C k k' hB hC => sameI_any f.sz f (Nat.le_refl _) ho hn Z Y W B C k k' hB hC
  generalize puR f = P at *
  generalize (al f 0 []).length = m at *
  replace hT : Hid (Tr (· < w.heap.size) w A f) := hT
  clear ho
  generalize f.len = n at *
  go_enter Try.func3, Try.ntmps3
  go_wp2_with fail
  refine h1.out.mono ?_
  clear h1
  rintro e w1 ⟨A1, c1, rfl, T1, l1⟩
  go_wp2_with fail
  refine (h2.out _ _ _ _ T1.out).mono ?_
  clear h2
  rintro e w2 ⟨rfl, l2⟩
  have Tw2 : Hid (Tr (· < w.heap.size) w2 A f) := hT.out.later (l1.out.trans l2.out)
  go_wp2_with fail
  refine (h3.out _ _ _ _ Tw2.out).mono ?_
  clear h3
  rintro e w3 ⟨rfl, l3⟩
  have L3 : Hid (Later w w3) := (l1.out.trans l2.out).trans l3.out
  have Tw3 : Hid (Tr (· < w.heap.size) w3 A f) := hT.out.later L3.out
  have T13 : Hid (Tr (w.heap.size ≤ ·) w3 A1 f) := T1.out.later (l2.out.trans l3.out)
  clear hT T1 Tw2 l1 l2 l3
  go_wp2_with (first | (go_at_call 12; refine (num_any _ _).mono ?_; rintro e w' ⟨rfl, hw⟩; have hw := hw.symm; subst hw) | (go_at_call 13; refine (h4.out _ _ _ _ T13.out).mono ?_; clear h4; rintro e w4 ⟨rfl, l4⟩) | (go_at_call 14; refine (h5.out _ _ _ _ (Tw3.out.later l4.out)).mono ?_; clear h5; rintro e w5 ⟨rfl, l5⟩) | (go_at_call 15; refine (h6.out _ _ _ _ _ _ _ (T13.out.later (l4.out.trans l5.out)) (Tw3.out.later (l4.out.trans l5.out))).mono ?_; clear h6; rintro e w6 ⟨rfl, l6⟩) | (go_at_call 16; refine (awake_any _).mono ?_; rintro e w7 ⟨rfl, l7⟩))
  go_ret
  exact ⟨rfl, (L3.out.trans ((l4.out.trans l5.out).trans l6.out)).trans l7⟩

set_option maxRecDepth 100000 in
theorem lifted (os : Os) (started : os.Started) (H : Type) (enc : TypeId × Value → H) :
    ReturnsInHanded {} Try.checked os 3 .any (Rows.instrPutsSpec.pre6 enc Try.prog Try.f3 Rows.instrPutsRow.domain false) (Rows.instrPutsSpec.post enc Try.prog Try.f3 false true false false) := by
  refine returnsInHanded_of_change_sized (C := Try.checked) own started (by kernel_rfl) Try.func3
    (ChangeSpec.witness6 (enc := enc) (C := Try.checked) false ⟨#[], #[.slice none 0 0], []⟩ 8 (by kernel_rfl) (by kernel_rfl) (by kernel_rfl) (by kernel_rfl)) ?_
  intro W base args ds gs before hval0 hW _ hsz0 _
  have hval : ∀ (j : Nat) t v, Try.f3.params[j]? = some t → args[j]? = some v → Value.okWide Try.prog W .any base t v := hval0
  have hW' := hW
  obtain ⟨p, q, hA0, hV, rfl, hfz, hnd⟩ := hW
  have hA : DataW.TrodAll enc Try.prog W 0 (fun _ => true) true Try.f3.params.toList args.toList ds p := hA0
  rw [Try.params3] at hA hval
  obtain ⟨v0, vs0, d0, ds0, p0, q0, hargs, rfl, rfl, h0, r0⟩ := trodAll_cons hA
  obtain ⟨rfl, rfl, rfl⟩ := trodAll_nil r0
  obtain rfl : args = #[v0] := by cases args; simp_all
  obtain ⟨rfl, rfl⟩ := trodVars_none hV
  obtain ⟨A0, n0, c0, rfl⟩ := okWide_slice Try.underlying22 (hval 0 22 v0 rfl rfl)
  have hw0 : ∀ x ∈ d0.weights Try.prog 22, x ≤ reachBytes := fun x hx => of_decide_eq_true (List.all_eq_true.1 hsz0 _ (DataW.weights_mem_each (j := 0) (t := 22) (d := d0) rfl rfl x hx))
  clear hA0 hval0
  simp only [List.append_nil, List.nil_append] at hW'
  have hlt : ∀ x ∈ p0, x.block < W.heap.size := fun x hx => by simpa using hW'.lt x hx
  refine (walk A0 n0 c0 W (view_trees h0 hw0)).mono fun e W' ⟨he, hl⟩ => ?_
  subst he
  have hbel : Below W.heap.size W W' := by obtain ⟨bs, nn, rfl⟩ := hl; exact ⟨rfl, rfl, rfl, by rw [World.far_size]; omega, fun k hk => World.far_block W bs nn k hk⟩
  have hx : ∀ sp : Nat → Bool, (∀ p ∈ p0, sp p.block = true) → DataW.TrodAll enc Try.prog W' 0 sp true [22] [.slice A0 n0 c0] [d0] (p0) := fun sp hsp => by simpa using (trodAll_cons_mk (WideElems.Trod_stays (by kernel_rfl) (by kernel_rfl) (of_decide_eq_true (by kernel_rfl)) h0 (fun x hx => hbel.same (hlt x (by simp [hx]))) (fun x hx => hsp x (by simp [hx]))) trodAll_mk0)
  exact ⟨_, rfl, post_kept (pa := p0) (pv := []) hW' (fun _ _ _ => (trodAll_cons_mk (shut_bool Try.underlying4 _) trodAll_mk0)) (fun sp hsp => hx sp hsp) (fun _ _ => rfl) (by simp) (hbel.frame _) hbel.block (ok_one (by kernel_rfl) rfl (okWide_bool_mk Try.underlying4 _))⟩

theorem over : Rows.instrPutsRow.holds Try.pinned (OpenSpec.ofChange Rows.instrPutsSpec) :=
  OpenClaim.holds_of_wide 3 Try.f3 rfl rfl rfl rfl rfl rfl rfl ⟨rfl, rfl, rfl, rfl, rfl⟩ rfl rfl rfl rfl rfl (by kernel_rfl) Try.func3 (by kernel_rfl)
    (of_decide_eq_true (by kernel_rfl)) (by unfold Func.isWrapper; first | (rw [if_pos (by decide +kernel)]; kernel_rfl) | (rw [if_neg (by decide +kernel)]; exact ⟨rfl, rfl⟩))
    (fun os started H enc _ => lifted os started H enc)


theorem proved : Rows.InstrPutsSaid := over
end Go.Proofs.Ytkdfmgdadnlnlaa.instrPuts
namespace Go.Proofs.Ytkdfmgdadnlnlaa
theorem instrPuts_holds : Rows.InstrPutsSaid := instrPuts.proved
#print axioms instrPuts_holds
end Go.Proofs.Ytkdfmgdadnlnlaa
