/- 'InstrGets' of package peloruslaw14 returns true at every text and int: any bytes as instructions, as the document's; two answers share no memory. No condition. -/
import Derived.Test.YtkdfmgdadnlnlaaIAW
import Derived.Test.YtkdfmgdadnlnlaaXQ
import Derived.LoopTactic
import Derived.OpenShut
import Derived.ChangeMaps5
import Derived.ShutString
import Derived.SizedLaws
set_option linter.unusedVariables false
set_option linter.unusedSimpArgs false
set_option maxRecDepth 100000
set_option maxHeartbeats 8000000
namespace Go.Proofs.Ytkdfmgdadnlnlaa.instrGets
open Go.ChangeShapes Go.WideShapes Go.ChangeAt Go.RowKit
theorem wf_i64 {a : Int} (h : (Lit.int .i64 a).wf = true) : -9223372036854775808 ≤ a ∧ a ≤ 9223372036854775807 := by
  simp only [Lit.wf, IntKind.min, IntKind.max, IntKind.signed, IntKind.bits, Bool.and_eq_true, decide_eq_true_eq, if_true] at h
  omega
theorem walk (s : ByteArray) (hs : s.size ≤ 140737488351232) (at_ : Int) (ha : -9223372036854775808 ≤ at_ ∧ at_ ≤ 9223372036854775807) (w : World) :
    Calls Try.prog 4 #[.string s, .int .i64 at_] w fun e w' => e = .returned (.bool true) ∧ Later w w' := by
  obtain ⟨hok, hn⟩ := unI_ok s at_
  have h1 : Hid (∀ W : World, Calls Try.prog 17 #[.string s, .int .i64 at_] W fun e w' => ∃ A c, e = .returned (.tuple #[.slice A (unI s at_).1.len c, .int .i64 (unI s at_).2.1, .int .i64 (unI s at_).2.2]) ∧ Hid (Tr (fun k => W.heap.size ≤ k ∧ Nf w' k) w' A (unI s at_).1) ∧ Hid (Later W w')) := fun W => iget_any s (by omega) at_ ha W
  have h2 : Hid (∀ W : World, Calls Try.prog 18 #[.string s, .int .i64 at_] W fun e w' => ∃ A c, e = .returned (.tuple #[.slice A (unI s at_).1.len c, .int .i64 (unI s at_).2.1, .int .i64 (unI s at_).2.2]) ∧ Hid (Tr (W.heap.size ≤ ·) w' A (unI s at_).1) ∧ Hid (Later W w')) := fun W => uninstrs_any s (by omega) at_ W
  generalize unI s at_ = R at *
  obtain ⟨f, to, E⟩ := R
  simp only at h1 h2 hok hn
  have h3 : Hid (∀ (Z Y : Nat → Prop) (W : World) (B C : Option Addr) (k k' : Nat), Tr Z W B f → Tr Y W C f → Calls Try.prog 15 #[.slice B f.len k, .slice C f.len k'] W fun e w' => e = .returned (.bool true) ∧ Hid (Later W w')) := fun Z Y W B C k k' hB hC => sameI_any f.sz f (Nat.le_refl _) hok hn Z Y W B C k k' hB hC
  have h4 : Hid (∀ (Z : Nat → Prop) (W : World) (A : Option Addr) (c : Nat), Unf Z W → (∀ k, Z k → k < W.heap.size) → Tr Z W A f → Calls Try.prog 19 #[.slice A f.len c] W fun e w' => e = .returned (.tuple #[]) ∧ Hid (Spt Z W w')) := fun Z W A c hu hz hT => spoilI_any f.sz f (Nat.le_refl _) hok hn Z W A c hu hz hT.sq
  clear hok hn hs ha
  go_enter Try.func4, Try.ntmps4
  generalize hm : f.len = m at *
  clear hm
  go_wp2_with fail
  refine (h1.out _).mono ?_
  rintro e w1 ⟨A1, c1, rfl, T1, l1⟩
  go_wp2_with fail
  refine (h1.out _).mono ?_
  clear h1
  rintro e w2 ⟨A2, c2, rfl, T2, l2⟩
  go_wp2_with fail
  refine (h2.out _).mono ?_
  clear h2
  rintro e w3 ⟨A3, c3, rfl, T3, l3⟩
  have hw1 := l1.out.size
  /- the blocks of the first answer -/
  have Ta : Hid (Tr (fun k => w.heap.size ≤ k ∧ k < w1.heap.size ∧ Nf w1 k) w1 A1 f) := T1.out.move (fun k hk hl => ⟨⟨hk.1, hl, hk.2⟩, rfl⟩)
  have Tb : Hid (Tr (w1.heap.size ≤ ·) w3 A2 f) := (T2.out.mono (fun k hk => hk.1)).later l3.out
  have Tc : Hid (Tr (w2.heap.size ≤ ·) w3 A3 f) := T3.out
  have L13 : Hid (Later w1 w3) := l2.out.trans l3.out
  have L03 : Hid (Later w w3) := l1.out.trans L13.out
  have hw2 := l2.out.size
  clear T1 T2 T3 l1 l2 l3
  go_wp2_with (first | (go_at_call 12; refine (num_any _ _).mono ?_; rintro e w' ⟨rfl, hw⟩; have hw := hw.symm; subst hw) | (go_at_call 15; refine (h3.out _ _ _ _ _ _ _ (Ta.out.later L13.out) Tc.out).mono ?_; rintro e w4 ⟨rfl, l4⟩))
  have L14 := L13.out.trans l4.out
  have hu : Unf (fun k => w.heap.size ≤ k ∧ k < w1.heap.size ∧ Nf w1 k) w4 := fun k i hk _ => (World.frozen?_of_block (w := w1) (a := ⟨k, i, none⟩) (L14.block hk.2.1)).trans (hk.2.2 i)
  have hz : ∀ k, (w.heap.size ≤ k ∧ k < w1.heap.size ∧ Nf w1 k) → k < w4.heap.size := fun k hk => Nat.lt_of_lt_of_le hk.2.1 L14.size
  refine (h4.out _ w4 _ _ hu hz (Ta.out.later L14)).mono ?_
  clear h4
  rintro e w5 ⟨rfl, S5⟩
  have Tb5 : Hid (Tr (w1.heap.size ≤ ·) w5 A2 f) := (Tb.out.later l4.out).keep (fun k hk hl => S5.out.block k hl (fun z => by have := z.2.1; omega))
  have Tc5 : Hid (Tr (w2.heap.size ≤ ·) w5 A3 f) := (Tc.out.later l4.out).keep (fun k hk hl => S5.out.block k hl (fun z => by have := z.2.1; omega))
  have L5 : Hid (Later w w5) := S5.out.later (L03.out.trans l4.out) (fun k hk => hk.1)
  clear S5 hu hz L14 Ta Tb Tc L13 L03 l4 hw1 hw2
  go_wp2_with (first | (go_at_call 15; refine (h3.out _ _ _ _ _ _ _ Tb5.out Tc5.out).mono ?_; clear h3; rintro e w6 ⟨rfl, l6⟩) | (go_at_call 16; refine (awake_any _).mono ?_; rintro e w7 ⟨rfl, l7⟩))
  go_ret
  exact ⟨rfl, (L5.out.trans l6.out).trans l7⟩

set_option maxRecDepth 100000 in
theorem lifted (os : Os) (started : os.Started) (H : Type) (enc : TypeId × Value → H) :
    ReturnsInHanded {} Try.checked os 4 .any (Rows.instrGetsSpec.pre6 enc Try.prog Try.f4 Rows.instrGetsRow.domain false) (Rows.instrGetsSpec.post enc Try.prog Try.f4 false true false false) := by
  refine returnsInHanded_of_change_sized (C := Try.checked) own started (by kernel_rfl) Try.func4
    (ChangeSpec.witness6 (enc := enc) (C := Try.checked) false ⟨#[], #[.string ⟨#[]⟩, .int .i64 0], []⟩ 8 (by kernel_rfl) (by kernel_rfl) (by kernel_rfl) (by kernel_rfl)) ?_
  intro W base args ds gs before hval0 hW _ hsz0 _
  have hval : ∀ (j : Nat) t v, Try.f4.params[j]? = some t → args[j]? = some v → Value.okWide Try.prog W .any base t v := hval0
  have hW' := hW
  obtain ⟨p, q, hA0, hV, rfl, hfz, hnd⟩ := hW
  have hA : DataW.TrodAll enc Try.prog W 0 (fun _ => true) true Try.f4.params.toList args.toList ds p := hA0
  rw [Try.params4] at hA hval
  obtain ⟨v0, vs0, d0, ds0, p0, q0, hargs, rfl, rfl, h0, r0⟩ := trodAll_cons hA
  obtain ⟨v1, vs1, d1, ds1, p1, q1, rfl, rfl, rfl, h1, r1⟩ := trodAll_cons r0
  obtain ⟨rfl, rfl, rfl⟩ := trodAll_nil r1
  obtain rfl : args = #[v0, v1] := by cases args; simp_all
  obtain ⟨rfl, rfl⟩ := trodVars_none hV
  obtain ⟨a0, rfl, rfl, rfl, w0⟩ := ChangeMaps.open_string Try.underlying9 (hval 0 9 v0 rfl rfl) h0
  have hs0 : a0.size ≤ 140737488351232 := by
    have hs := sized_string hsz0 (j := 0) (t := 9) (bytes := a0.data.toList) rfl rfl
    unfold reachBytes at hs
    simpa using hs
  obtain ⟨a1, rfl, rfl, rfl, w1⟩ := open_int Try.underlying3 (hval 1 3 v1 rfl rfl) h1
  clear hA0 hval0
  simp only [List.append_nil, List.nil_append] at hW'
  have hlt : ∀ x ∈ ([] : List MemPlace), x.block < W.heap.size := fun x hx => by simpa using hW'.lt x hx
  refine (walk a0 hs0 a1 (wf_i64 w1) W ).mono fun e W' ⟨he, hl⟩ => ?_
  subst he
  have hbel : Below W.heap.size W W' := by obtain ⟨bs, nn, rfl⟩ := hl; exact ⟨rfl, rfl, rfl, by rw [World.far_size]; omega, fun k hk => World.far_block W bs nn k hk⟩
  have hx : ∀ sp : Nat → Bool, (∀ p ∈ ([] : List MemPlace), sp p.block = true) → DataW.TrodAll enc Try.prog W' 0 sp true [9, 3] [.string a0, .int .i64 a1] [.lit (.string a0.data.toList), .lit (.int .i64 a1)] (([] : List MemPlace)) := fun sp hsp => by simpa using (trodAll_cons_mk (ChangeMaps.shut_string Try.underlying9 w0) (trodAll_cons_mk (shut_int Try.underlying3 w1) trodAll_mk0))
  exact ⟨_, rfl, post_kept (pa := ([] : List MemPlace)) (pv := []) hW' (fun _ _ _ => (trodAll_cons_mk (shut_bool Try.underlying4 _) trodAll_mk0)) (fun sp hsp => hx sp hsp) (fun _ _ => rfl) (by simp) (hbel.frame _) hbel.block (ok_one (by kernel_rfl) rfl (okWide_bool_mk Try.underlying4 _))⟩

theorem over : Rows.instrGetsRow.holds Try.pinned (OpenSpec.ofChange Rows.instrGetsSpec) :=
  OpenClaim.holds_of_wide 4 Try.f4 rfl rfl rfl rfl rfl rfl rfl ⟨rfl, rfl, rfl, rfl, rfl⟩ rfl rfl rfl rfl rfl (by kernel_rfl) Try.func4 (by kernel_rfl)
    (of_decide_eq_true (by kernel_rfl)) (by unfold Func.isWrapper; first | (rw [if_pos (by decide +kernel)]; kernel_rfl) | (rw [if_neg (by decide +kernel)]; exact ⟨rfl, rfl⟩))
    (fun os started H enc _ => lifted os started H enc)


theorem proved : Rows.InstrGetsSaid := over
end Go.Proofs.Ytkdfmgdadnlnlaa.instrGets
namespace Go.Proofs.Ytkdfmgdadnlnlaa
theorem instrGets_holds : Rows.InstrGetsSaid := instrGets.proved
#print axioms instrGets_holds
end Go.Proofs.Ytkdfmgdadnlnlaa
