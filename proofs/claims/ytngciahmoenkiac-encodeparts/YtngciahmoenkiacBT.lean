/- package encode: modules that are refused; a small one, whole; awake. -/
import Derived.Test.YtngciahmoenkiacBS
set_option linter.unusedVariables false
set_option linter.unusedSimpArgs false
set_option maxRecDepth 100000
set_option maxHeartbeats 8000000
namespace Go.Proofs.Ytngciahmoenkiac.en
open Go.RowKit
variable {w : World} {m : Md}
theorem eA_none {l : List Ob} (h : none ∈ l) : eA id l = none := by
  induction l with
  | nil => cases h
  | cons o r ih =>
    show oB o (eA id r) = none
    rcases List.mem_cons.1 h with h | h
    · rw [← h]; rfl
    · rw [ih h]; exact oB_none2 _
theorem enM_none (h : none ∈ pM m) : enM m = (⟨#[]⟩, 1600) := by
  unfold enM
  rw [eM_eq, eA_none h]
theorem el_one {α : Type} {most : Nat} {g : α → Ob} {x : α} (h : g x = none) : eL most g [x] = none := by
  unfold eL
  split
  · show oB _ (oB (g x) _) = none
    rw [h]
    rfl
  · rfl
theorem enM_len (h : ¬ m.fu.length = m.co.length) : enM m = (⟨#[]⟩, 1600) := by
  unfold enM
  split
  · rfl
  · exact if_neg (fun x => h x.1)
theorem en_bad {L : List Value} {Z : Nat → Prop} {W : World} (m : Md) (hn : enM m = (⟨#[]⟩, 1600)) (hC : ModC Z W m L) (hb : MdB m) : Calls Try.prog 5 #[.agg L.toArray] W fun e w' => e = .returned (.tuple #[.string ⟨#[]⟩, .int .i64 1600]) ∧ Hid (Later W w') := by
  have := emodule_any hC hb
  rw [hn] at this
  exact this
theorem en_good {L : List Value} {Z : Nat → Prop} {W : World} (m : Md) (s : ByteArray) (hn : enM m = (s, 0)) (hC : ModC Z W m L) (hb : MdB m) : Calls Try.prog 5 #[.agg L.toArray] W fun e w' => e = .returned (.tuple #[.string s, .int .i64 0]) ∧ Hid (Later W w') := by
  have := emodule_any hC hb
  rw [hn] at this
  exact this
theorem row_at {W : World} {p : Nat} (hp : W.heap.size = p) (T : TypeId) (L : List Value) : (W.alloc (.cells L.toArray T)).rowIs p T L.length (fun j => L.getD j undef) := by
  subst hp
  exact row_new W T L
theorem fc_one {α : Type} {f : α → List Fd} {Z : Nat → Prop} {W : World} {x : α} {g c k : Nat} {T : TypeId} {L : List Value} (hr : W.rowIs g T k (fun j => L.getD j undef)) (hk : L.length = k) (hz : Z g) (hi : itc Z W (f x) L) : Fc f Z W [x] (.slice (some ⟨g, 0, none⟩) 1 c) := by
  subst hk
  refine ⟨some ⟨g, 0, none⟩, c, rfl, Or.inr ⟨g, 0, L, rfl, hz, fun j u hu => ?_, ?_⟩⟩
  · have hj : j < L.length := (List.getElem?_eq_some_iff.1 hu).1
    rw [Nat.zero_add, hr.cell (i := j) hj]
    rw [List.getD_eq_getElem?_getD, hu]
    rfl
  · rw [List.flatMap_cons, List.flatMap_nil, List.append_nil]
    exact hi
theorem mdb_z (x : Int) : MdB (mdZ x) := by
  constructor <;> simp [mdZ]
theorem en_z : enM (mdZ (-1)) = (⟨#[0, 97, 115, 109, 1, 0, 0, 0]⟩, 0) := by kernel_rfl
theorem en_a : enM { mdZ (-1) with ty := [([], [])], fu := [0], co := [([], .nil)] } = (⟨#[0, 97, 115, 109, 1, 0, 0, 0, 1, 4, 1, 96, 0, 0, 3, 2, 1, 0, 10, 4, 1, 2, 0, 11]⟩, 0) := by kernel_rfl
/-- Module of a module without content -/
theorem em_z (W : World) : Calls Try.prog 5 #[.agg #[.slice none 0 0, .slice none 0 0, .slice none 0 0, .slice none 0 0, .slice none 0 0, .slice none 0 0, .slice none 0 0, .int .i64 (-1), .slice none 0 0, .slice none 0 0, .slice none 0 0]] W fun e w' => e = .returned (.tuple #[.string ⟨#[0, 97, 115, 109, 1, 0, 0, 0]⟩, .int .i64 0]) ∧ Hid (Later W w') :=
  en_good (Z := fun _ => True) (mdZ (-1)) _ en_z (ModC.zero _ _ _) (mdb_z _)
theorem awake_any (w : World) : Calls Try.prog 4 #[] w fun e w' => e = .returned (.bool true) ∧ Hid (Later w w') := by
  have hz : Hid (∀ W : World, Calls Try.prog 5 #[.agg #[.slice none 0 0, .slice none 0 0, .slice none 0 0, .slice none 0 0, .slice none 0 0, .slice none 0 0, .slice none 0 0, .int .i64 (-1), .slice none 0 0, .slice none 0 0, .slice none 0 0]] W fun e w' => e = .returned (.tuple #[.string ⟨#[0, 97, 115, 109, 1, 0, 0, 0]⟩, .int .i64 0]) ∧ Hid (Later W w')) := em_z
  have hnum : Hid (∀ (n : Int) (w : World), Calls Try.prog 6 #[.int .i64 n] w fun e w' => e = .returned (.int .i64 n) ∧ w' = w) := fun n w => num_any n w
  go_enter Try.func4, Try.ntmps4
  go_wp2_with fail
  refine (en_good (Z := fun _ => True) { mdZ (-1) with ty := [([], [])], fu := [0], co := [([], .nil)] } _ en_a ?_ ?_).mono ?_
  · refine ⟨_, _, _, _, _, _, _, _, _, _, rfl, fc_one (rowIs_later (La (La (La (Lz _)))) (row_at rfl 36 [.slice none 0 0, .slice none 0 0])) rfl trivial ⟨_, _, rfl, ⟨none, 0, rfl, Or.inl rfl, fun x => absurd rfl x⟩, _, _, rfl, ⟨none, 0, rfl, Or.inl rfl, fun x => absurd rfl x⟩, rfl⟩, Fc.nil, fc_one (rowIs_later (La (La (Lz _))) (row_at (by simp) 3 [.int .i64 0])) rfl trivial ⟨_, _, rfl, rfl, rfl⟩, Fc.nil, Fc.nil, Fc.nil, Fc.nil, Fc.nil, fc_one (rowIs_later (La (Lz _)) (row_at (by simp) 59 [.slice none 0 0, .slice none 0 0])) rfl trivial ⟨_, _, rfl, ⟨none, 0, rfl, Or.inl rfl, fun x => absurd rfl x⟩, _, _, rfl, ⟨none, 0, rfl, Or.inl rfl⟩, rfl⟩, Fc.nil⟩
  · constructor <;> simp [mdZ, Fs.Ok, Fs.len, Fs.nil]
  rintro e w2 ⟨rfl, l2⟩
  have L2 : Hid (Later w w2) := (La (La (La (La (Lz _))))).trans l2.out
  clear l2
  go_wp2_with fail
  refine (en_bad (Z := fun _ => True) { mdZ (-1) with fu := [0] } (enM_len (by decide)) ?_ ?_).mono ?_
  · exact ⟨_, _, _, _, _, _, _, _, _, _, rfl, Fc.nil, Fc.nil, fc_one (row_at rfl 3 [.int .i64 0]) rfl trivial ⟨_, _, rfl, rfl, rfl⟩, Fc.nil, Fc.nil, Fc.nil, Fc.nil, Fc.nil, Fc.nil, Fc.nil⟩
  · constructor <;> simp [mdZ]
  rintro e w3 ⟨rfl, l3⟩
  have L3 : Hid (Later w w3) := (La L2.out).trans l3.out
  clear l3 L2
  go_wp2_with fail
  refine (hz.out _).mono ?_
  rintro e w4 ⟨rfl, l4⟩
  have L4 : Hid (Later w w4) := L3.out.trans l4.out
  clear l4 L3 hz
  go_wp2_with (go_at_call 6; refine (hnum.out _ _).mono ?_; rintro e w' ⟨rfl, rfl⟩)
  all_goals
    go_ret
    exact ⟨rfl, L4.out⟩
end Go.Proofs.Ytngciahmoenkiac.en
