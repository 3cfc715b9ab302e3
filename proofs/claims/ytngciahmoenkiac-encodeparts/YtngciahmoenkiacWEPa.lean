/- 'EncodeParts' of package peloruslaw16 returns true at every two ints: each part that may not be is refused, whatever else is there. No condition. -/
import Derived.Test.YtngciahmoenkiacBT
import Derived.Test.YtngciahmoenkiacXS
import Derived.LoopTactic
import Derived.OpenShut
import Derived.ChangeMaps5
import Derived.ShutString
import Derived.SizedLaws
set_option linter.unusedVariables false
set_option linter.unusedSimpArgs false
set_option maxRecDepth 100000
set_option maxHeartbeats 8000000
namespace Go.Proofs.Ytngciahmoenkiac
theorem own : ownKnob Try.prog.godebug = none := by kernel_rfl
theorem wf_i64 {a : Int} (h : (Lit.int .i64 a).wf = true) : -9223372036854775808 ≤ a ∧ a ≤ 9223372036854775807 := by
  simp only [Lit.wf, IntKind.min, IntKind.max, IntKind.signed, IntKind.bits, Bool.and_eq_true, decide_eq_true_eq, if_true] at h
  omega
end Go.Proofs.Ytngciahmoenkiac
namespace Go.Proofs.Ytngciahmoenkiac.encodeParts
open Go.ChangeShapes Go.WideShapes Go.ChangeAt Go.RowKit
open Go.Proofs.Ytngciahmoenkiac.en
theorem and_rng (x : Int) (n : Nat) (hn : n < 63) : 0 ≤ bits .and .i64 x ((2 ^ n : Nat) - 1 : Int) ∧ bits .and .i64 x ((2 ^ n : Nat) - 1 : Int) < (2 ^ n : Nat) := by
  rw [BM.and_mask x n hn]
  have h : (0 : Int) < (2 ^ n : Nat) := by exact_mod_cast Nat.pow_pos (by decide)
  exact ⟨Int.emod_nonneg _ (by omega), Int.emod_lt_of_pos _ h⟩
theorem and63 (x : Int) : 0 ≤ bits .and .i64 x 63 ∧ bits .and .i64 x 63 ≤ 63 := by have := and_rng x 6 (by decide); rw [show ((2 ^ 6 : Nat) - 1 : Int) = 63 from rfl] at this; exact ⟨this.1, by have := this.2; omega⟩
theorem and7 (x : Int) : 0 ≤ bits .and .i64 x 7 ∧ bits .and .i64 x 7 ≤ 7 := by have := and_rng x 3 (by decide); rw [show ((2 ^ 3 : Nat) - 1 : Int) = 7 from rfl] at this; exact ⟨this.1, by have := this.2; omega⟩
theorem and3 (x : Int) : 0 ≤ bits .and .i64 x 3 ∧ bits .and .i64 x 3 ≤ 3 := by have := and_rng x 2 (by decide); rw [show ((2 ^ 2 : Nat) - 1 : Int) = 3 from rfl] at this; exact ⟨this.1, by have := this.2; omega⟩
theorem and16 (x : Int) : 0 ≤ bits .and .i64 x 65535 ∧ bits .and .i64 x 65535 ≤ 65535 := by have := and_rng x 16 (by decide); rw [show ((2 ^ 16 : Nat) - 1 : Int) = 65535 from rfl] at this; exact ⟨this.1, by have := this.2; omega⟩
theorem bad16 (x : Int) : eN (wrap64 (4294967296 + bits .and .i64 x 65535)) = none := by
  have h := and16 x
  generalize bits .and .i64 x 65535 = y at *
  exact if_neg (by unfold wrap64; omega)
theorem lq_one {W : World} {g : Nat} {y : Int} {T : TypeId} {F : Nat → Value} (hr : W.rowIs g T 1 F) (hF : F 0 = .int .i64 y) : Lq (fun _ => True) W (some ⟨g, 0, none⟩) [y] := by
  refine ⟨Or.inr ⟨g, 0, rfl, fun j hj => ?_⟩, fun _ _ _ => trivial⟩
  obtain rfl : j = 0 := by simpa using hj
  rw [hr.cell (i := 0) (by decide), hF]
  rfl
theorem lq_nil {W : World} : Lq (fun _ => True) W none [] := ⟨Or.inl rfl, fun x => absurd rfl x⟩
theorem tr_nil {W : World} : Tr (fun _ => True) W none .nil := Or.inl rfl
theorem tr_one {W : World} {g : Nat} {op : Int} {T : TypeId} {F : Nat → Value} (hr : W.rowIs g T 8 F) (hF : F = fun j => [Value.int .i64 op, .int .i64 0, .int .i64 0, .int .i64 0, .int .i64 0, .slice none 0 0, .slice none 0 0, .slice none 0 0].getD j undef) : Tr (fun _ => True) W (some ⟨g, 0, none⟩) (.cons op 0 0 0 0 [] .nil .nil .nil) := by
  subst hF
  refine Or.inr ⟨_, _, rfl, trivial, ?_⟩
  refine ⟨[.int .i64 op, .int .i64 0, .int .i64 0, .int .i64 0, .int .i64 0, .slice none 0 0, .slice none 0 0, .slice none 0 0], fun j u hu => ?_, none, 0, none, 0, none, 0, [], rfl, lq_nil, Or.inl rfl, Or.inl rfl, rfl⟩
  have hj : j < 8 := (List.getElem?_eq_some_iff.1 hu).1
  rw [Nat.zero_add, hr.cell (i := j) hj, List.getD_eq_getElem?_getD, hu]
  rfl
theorem fo6 : (ck (.cons 6 0 0 0 0 [] .nil .nil .nil) 0 0).1 = 1400 := by simp [ck, mayP, fo, Fs.len, Fs.nil]
theorem core0 (which x : Int) (w : World) (hk : (IntKind.u64.wrap which).tmod 14 = 0) : Calls Try.prog 3 #[.int .i64 which, .int .i64 x] w fun e w' => e = .returned (.bool true) ∧ Later w w' := by
  have ha : Hid (∀ w : World, Calls Try.prog 4 #[] w fun e w' => e = .returned (.bool true) ∧ Hid (Later w w')) := awake_any
  have hz : Hid (∀ W : World, Calls Try.prog 5 #[.agg #[.slice none 0 0, .slice none 0 0, .slice none 0 0, .slice none 0 0, .slice none 0 0, .slice none 0 0, .slice none 0 0, .int .i64 (-1), .slice none 0 0, .slice none 0 0, .slice none 0 0]] W fun e w' => e = .returned (.tuple #[.string ⟨#[0, 97, 115, 109, 1, 0, 0, 0]⟩, .int .i64 0]) ∧ Hid (Later W w')) := em_z
  have hnum : Hid (∀ (n : Int) (w : World), Calls Try.prog 6 #[.int .i64 n] w fun e w' => e = .returned (.int .i64 n) ∧ w' = w) := fun n w => num_any n w
  go_enter Try.func3, Try.ntmps3
  go_wp2_with (go_at_call 4; refine (ha.out _).mono ?_; rintro e w2 ⟨rfl, l2⟩)
  clear ha
  refine (en_bad (Z := fun _ => True) { mdZ (-1) with ty := [([bits .and .i64 x 63], [])] } (enM_none (by unfold pM; refine List.mem_cons.2 (Or.inl (Eq.symm ?_)); show eS _ _ (eL _ _ [_]) = none; rw [el_one (show eTy ([bits .and .i64 x 63], []) = none by unfold eTy; simp only []; rw [el_one (show eK (bits .and .i64 x 63) = none from if_neg (by have := and63 x; omega))]; rfl)]; rfl)) ?_ ?_).mono ?_
  · exact ⟨_, _, _, _, _, _, _, _, _, _, rfl, fc_one (T := 36) (L := [.slice (some ⟨w2.heap.size + 1, 0, none⟩) 1 1, .slice none 0 0]) (by first | exact row_at (by simp) _ _ | exact rowIs_later (La (Lz _)) (row_at (by simp) _ _) | exact rowIs_later (La (La (Lz _))) (row_at (by simp) _ _)) rfl trivial ⟨_, _, rfl, ⟨some ⟨w2.heap.size + 1, 0, none⟩, 1, rfl, lq_one (T := 3) (by first | exact row_at (by simp) _ _ | exact rowIs_later (La (Lz _)) (row_at (by simp) _ _) | exact rowIs_later (La (La (Lz _))) (row_at (by simp) _ _)) rfl⟩, _, _, rfl, ⟨none, 0, rfl, lq_nil⟩, rfl⟩, Fc.nil, Fc.nil, Fc.nil, Fc.nil, Fc.nil, Fc.nil, Fc.nil, Fc.nil, Fc.nil⟩
  · constructor <;> simp [mdZ]
  rintro e w3 ⟨rfl, l3⟩
  have L3 : Hid (Later w w3) := by first | exact (La l2.out).trans l3.out | exact (La (La l2.out)).trans l3.out | exact (La (La (La l2.out))).trans l3.out
  clear l3 l2
  go_wp2_with fail
  refine (hz.out _).mono ?_
  rintro e w4 ⟨rfl, l4⟩
  have L4 : Hid (Later w w4) := by first | exact L3.out.trans l4.out | exact (La L3.out).trans l4.out
  clear l4 L3 hz
  go_wp2_with (go_at_call 6; refine (hnum.out _ _).mono ?_; rintro e w' ⟨rfl, rfl⟩)
  all_goals
    go_ret
    first | exact ⟨rfl, L4.out⟩ | exact ⟨rfl, Ld L4.out⟩
theorem core1 (which x : Int) (w : World) (hk : (IntKind.u64.wrap which).tmod 14 = 1) : Calls Try.prog 3 #[.int .i64 which, .int .i64 x] w fun e w' => e = .returned (.bool true) ∧ Later w w' := by
  have ha : Hid (∀ w : World, Calls Try.prog 4 #[] w fun e w' => e = .returned (.bool true) ∧ Hid (Later w w')) := awake_any
  have hz : Hid (∀ W : World, Calls Try.prog 5 #[.agg #[.slice none 0 0, .slice none 0 0, .slice none 0 0, .slice none 0 0, .slice none 0 0, .slice none 0 0, .slice none 0 0, .int .i64 (-1), .slice none 0 0, .slice none 0 0, .slice none 0 0]] W fun e w' => e = .returned (.tuple #[.string ⟨#[0, 97, 115, 109, 1, 0, 0, 0]⟩, .int .i64 0]) ∧ Hid (Later W w')) := em_z
  have hnum : Hid (∀ (n : Int) (w : World), Calls Try.prog 6 #[.int .i64 n] w fun e w' => e = .returned (.int .i64 n) ∧ w' = w) := fun n w => num_any n w
  go_enter Try.func3, Try.ntmps3
  go_wp2_with (go_at_call 4; refine (ha.out _).mono ?_; rintro e w2 ⟨rfl, l2⟩)
  clear ha
  refine (en_bad (Z := fun _ => True) { mdZ (-1) with im := [(⟨#[255]⟩, ⟨#[]⟩, 0, 0, false, 0, 0)] } (enM_none (by unfold pM; refine List.mem_cons.2 (Or.inr ?_); refine List.mem_cons.2 (Or.inl (Eq.symm ?_)); show eS _ _ (eL _ _ [_]) = none; rw [el_one (g := eIm) (x := (⟨#[255]⟩, ⟨#[]⟩, 0, 0, false, 0, 0)) (by decide +kernel)]; rfl)) ?_ ?_).mono ?_
  · exact ⟨_, _, _, _, _, _, _, _, _, _, rfl, Fc.nil, fc_one (T := 40) (L := [.string ⟨#[255]⟩, .string ⟨#[]⟩, .int .i64 (0), .int .i64 0, .bool false, .int .i64 0, .int .i64 0]) (by first | exact row_at (by simp) _ _ | exact rowIs_later (La (Lz _)) (row_at (by simp) _ _) | exact rowIs_later (La (La (Lz _))) (row_at (by simp) _ _)) rfl trivial ⟨_, _, rfl, rfl, _, _, rfl, rfl, _, _, rfl, rfl, _, _, rfl, rfl, _, _, rfl, rfl, _, _, rfl, rfl, _, _, rfl, rfl, rfl⟩, Fc.nil, Fc.nil, Fc.nil, Fc.nil, Fc.nil, Fc.nil, Fc.nil, Fc.nil⟩
  · constructor <;> simp [mdZ] <;> decide
  rintro e w3 ⟨rfl, l3⟩
  have L3 : Hid (Later w w3) := by first | exact (La l2.out).trans l3.out | exact (La (La l2.out)).trans l3.out | exact (La (La (La l2.out))).trans l3.out
  clear l3 l2
  go_wp2_with fail
  refine (hz.out _).mono ?_
  rintro e w4 ⟨rfl, l4⟩
  have L4 : Hid (Later w w4) := by first | exact L3.out.trans l4.out | exact (La L3.out).trans l4.out
  clear l4 L3 hz
  go_wp2_with (go_at_call 6; refine (hnum.out _ _).mono ?_; rintro e w' ⟨rfl, rfl⟩)
  all_goals
    go_ret
    first | exact ⟨rfl, L4.out⟩ | exact ⟨rfl, Ld L4.out⟩
theorem core2 (which x : Int) (w : World) (hk : (IntKind.u64.wrap which).tmod 14 = 2) : Calls Try.prog 3 #[.int .i64 which, .int .i64 x] w fun e w' => e = .returned (.bool true) ∧ Later w w' := by
  have ha : Hid (∀ w : World, Calls Try.prog 4 #[] w fun e w' => e = .returned (.bool true) ∧ Hid (Later w w')) := awake_any
  have hz : Hid (∀ W : World, Calls Try.prog 5 #[.agg #[.slice none 0 0, .slice none 0 0, .slice none 0 0, .slice none 0 0, .slice none 0 0, .slice none 0 0, .slice none 0 0, .int .i64 (-1), .slice none 0 0, .slice none 0 0, .slice none 0 0]] W fun e w' => e = .returned (.tuple #[.string ⟨#[0, 97, 115, 109, 1, 0, 0, 0]⟩, .int .i64 0]) ∧ Hid (Later W w')) := em_z
  have hnum : Hid (∀ (n : Int) (w : World), Calls Try.prog 6 #[.int .i64 n] w fun e w' => e = .returned (.int .i64 n) ∧ w' = w) := fun n w => num_any n w
  go_enter Try.func3, Try.ntmps3
  go_wp2_with (go_at_call 4; refine (ha.out _).mono ?_; rintro e w2 ⟨rfl, l2⟩)
  clear ha
  refine (en_bad (Z := fun _ => True) { mdZ (-1) with im := [(⟨#[]⟩, ⟨#[]⟩, wrap64 (4 + bits .and .i64 x 63), 0, false, 0, 0)] } (enM_none (by unfold pM; refine List.mem_cons.2 (Or.inr ?_); refine List.mem_cons.2 (Or.inl (Eq.symm ?_)); show eS _ _ (eL _ _ [_]) = none; rw [el_one (g := eIm) (x := (⟨#[]⟩, ⟨#[]⟩, wrap64 (4 + bits .and .i64 x 63), 0, false, 0, 0)) (show oB (eT _) (oB (eT _) (oB (eKi (wrap64 (4 + bits .and .i64 x 63))) _)) = none by rw [show eKi (wrap64 (4 + bits .and .i64 x 63)) = none from if_neg (by have h := and63 x; generalize bits .and .i64 x 63 = y at *; unfold wrap64; omega), oB_none, oB_none2, oB_none2])]; rfl)) ?_ ?_).mono ?_
  · exact ⟨_, _, _, _, _, _, _, _, _, _, rfl, Fc.nil, fc_one (T := 40) (L := [.string ⟨#[]⟩, .string ⟨#[]⟩, .int .i64 (wrap64 (4 + bits .and .i64 x 63)), .int .i64 0, .bool false, .int .i64 0, .int .i64 0]) (by first | exact row_at (by simp) _ _ | exact rowIs_later (La (Lz _)) (row_at (by simp) _ _) | exact rowIs_later (La (La (Lz _))) (row_at (by simp) _ _)) rfl trivial ⟨_, _, rfl, rfl, _, _, rfl, rfl, _, _, rfl, rfl, _, _, rfl, rfl, _, _, rfl, rfl, _, _, rfl, rfl, _, _, rfl, rfl, rfl⟩, Fc.nil, Fc.nil, Fc.nil, Fc.nil, Fc.nil, Fc.nil, Fc.nil, Fc.nil⟩
  · constructor <;> simp [mdZ] <;> decide
  rintro e w3 ⟨rfl, l3⟩
  have L3 : Hid (Later w w3) := by first | exact (La l2.out).trans l3.out | exact (La (La l2.out)).trans l3.out | exact (La (La (La l2.out))).trans l3.out
  clear l3 l2
  go_wp2_with fail
  refine (hz.out _).mono ?_
  rintro e w4 ⟨rfl, l4⟩
  have L4 : Hid (Later w w4) := by first | exact L3.out.trans l4.out | exact (La L3.out).trans l4.out
  clear l4 L3 hz
  go_wp2_with (go_at_call 6; refine (hnum.out _ _).mono ?_; rintro e w' ⟨rfl, rfl⟩)
  all_goals
    go_ret
    first | exact ⟨rfl, L4.out⟩ | exact ⟨rfl, Ld L4.out⟩
theorem core3 (which x : Int) (w : World) (hk : (IntKind.u64.wrap which).tmod 14 = 3) : Calls Try.prog 3 #[.int .i64 which, .int .i64 x] w fun e w' => e = .returned (.bool true) ∧ Later w w' := by
  have ha : Hid (∀ w : World, Calls Try.prog 4 #[] w fun e w' => e = .returned (.bool true) ∧ Hid (Later w w')) := awake_any
  have hz : Hid (∀ W : World, Calls Try.prog 5 #[.agg #[.slice none 0 0, .slice none 0 0, .slice none 0 0, .slice none 0 0, .slice none 0 0, .slice none 0 0, .slice none 0 0, .int .i64 (-1), .slice none 0 0, .slice none 0 0, .slice none 0 0]] W fun e w' => e = .returned (.tuple #[.string ⟨#[0, 97, 115, 109, 1, 0, 0, 0]⟩, .int .i64 0]) ∧ Hid (Later W w')) := em_z
  have hnum : Hid (∀ (n : Int) (w : World), Calls Try.prog 6 #[.int .i64 n] w fun e w' => e = .returned (.int .i64 n) ∧ w' = w) := fun n w => num_any n w
  go_enter Try.func3, Try.ntmps3
  go_wp2_with (go_at_call 4; refine (ha.out _).mono ?_; rintro e w2 ⟨rfl, l2⟩)
  clear ha
  refine (en_bad (Z := fun _ => True) { mdZ (-1) with im := [(⟨#[]⟩, ⟨#[]⟩, 0, 0, true, 0, 0)] } (enM_none (by unfold pM; refine List.mem_cons.2 (Or.inr ?_); refine List.mem_cons.2 (Or.inl (Eq.symm ?_)); show eS _ _ (eL _ _ [_]) = none; rw [el_one (g := eIm) (x := (⟨#[]⟩, ⟨#[]⟩, 0, 0, true, 0, 0)) (by decide +kernel)]; rfl)) ?_ ?_).mono ?_
  · exact ⟨_, _, _, _, _, _, _, _, _, _, rfl, Fc.nil, fc_one (T := 40) (L := [.string ⟨#[]⟩, .string ⟨#[]⟩, .int .i64 (0), .int .i64 0, .bool true, .int .i64 0, .int .i64 0]) (by first | exact row_at (by simp) _ _ | exact rowIs_later (La (Lz _)) (row_at (by simp) _ _) | exact rowIs_later (La (La (Lz _))) (row_at (by simp) _ _)) rfl trivial ⟨_, _, rfl, rfl, _, _, rfl, rfl, _, _, rfl, rfl, _, _, rfl, rfl, _, _, rfl, rfl, _, _, rfl, rfl, _, _, rfl, rfl, rfl⟩, Fc.nil, Fc.nil, Fc.nil, Fc.nil, Fc.nil, Fc.nil, Fc.nil, Fc.nil⟩
  · constructor <;> simp [mdZ] <;> decide
  rintro e w3 ⟨rfl, l3⟩
  have L3 : Hid (Later w w3) := by first | exact (La l2.out).trans l3.out | exact (La (La l2.out)).trans l3.out | exact (La (La (La l2.out))).trans l3.out
  clear l3 l2
  go_wp2_with fail
  refine (hz.out _).mono ?_
  rintro e w4 ⟨rfl, l4⟩
  have L4 : Hid (Later w w4) := by first | exact L3.out.trans l4.out | exact (La L3.out).trans l4.out
  clear l4 L3 hz
  go_wp2_with (go_at_call 6; refine (hnum.out _ _).mono ?_; rintro e w' ⟨rfl, rfl⟩)
  all_goals
    go_ret
    first | exact ⟨rfl, L4.out⟩ | exact ⟨rfl, Ld L4.out⟩
theorem core4 (which x : Int) (w : World) (hk : (IntKind.u64.wrap which).tmod 14 = 4) : Calls Try.prog 3 #[.int .i64 which, .int .i64 x] w fun e w' => e = .returned (.bool true) ∧ Later w w' := by
  have ha : Hid (∀ w : World, Calls Try.prog 4 #[] w fun e w' => e = .returned (.bool true) ∧ Hid (Later w w')) := awake_any
  have hz : Hid (∀ W : World, Calls Try.prog 5 #[.agg #[.slice none 0 0, .slice none 0 0, .slice none 0 0, .slice none 0 0, .slice none 0 0, .slice none 0 0, .slice none 0 0, .int .i64 (-1), .slice none 0 0, .slice none 0 0, .slice none 0 0]] W fun e w' => e = .returned (.tuple #[.string ⟨#[0, 97, 115, 109, 1, 0, 0, 0]⟩, .int .i64 0]) ∧ Hid (Later W w')) := em_z
  have hnum : Hid (∀ (n : Int) (w : World), Calls Try.prog 6 #[.int .i64 n] w fun e w' => e = .returned (.int .i64 n) ∧ w' = w) := fun n w => num_any n w
  go_enter Try.func3, Try.ntmps3
  go_wp2_with (go_at_call 4; refine (ha.out _).mono ?_; rintro e w2 ⟨rfl, l2⟩)
  clear ha
  refine (en_bad (Z := fun _ => True) { mdZ (-1) with im := [(⟨#[]⟩, ⟨#[]⟩, 2, 1, false, 0, 0)] } (enM_none (by unfold pM; refine List.mem_cons.2 (Or.inr ?_); refine List.mem_cons.2 (Or.inl (Eq.symm ?_)); show eS _ _ (eL _ _ [_]) = none; rw [el_one (g := eIm) (x := (⟨#[]⟩, ⟨#[]⟩, 2, 1, false, 0, 0)) (by decide +kernel)]; rfl)) ?_ ?_).mono ?_
  · exact ⟨_, _, _, _, _, _, _, _, _, _, rfl, Fc.nil, fc_one (T := 40) (L := [.string ⟨#[]⟩, .string ⟨#[]⟩, .int .i64 (2), .int .i64 1, .bool false, .int .i64 0, .int .i64 0]) (by first | exact row_at (by simp) _ _ | exact rowIs_later (La (Lz _)) (row_at (by simp) _ _) | exact rowIs_later (La (La (Lz _))) (row_at (by simp) _ _)) rfl trivial ⟨_, _, rfl, rfl, _, _, rfl, rfl, _, _, rfl, rfl, _, _, rfl, rfl, _, _, rfl, rfl, _, _, rfl, rfl, _, _, rfl, rfl, rfl⟩, Fc.nil, Fc.nil, Fc.nil, Fc.nil, Fc.nil, Fc.nil, Fc.nil, Fc.nil⟩
  · constructor <;> simp [mdZ] <;> decide
  rintro e w3 ⟨rfl, l3⟩
  have L3 : Hid (Later w w3) := by first | exact (La l2.out).trans l3.out | exact (La (La l2.out)).trans l3.out | exact (La (La (La l2.out))).trans l3.out
  clear l3 l2
  go_wp2_with fail
  refine (hz.out _).mono ?_
  rintro e w4 ⟨rfl, l4⟩
  have L4 : Hid (Later w w4) := by first | exact L3.out.trans l4.out | exact (La L3.out).trans l4.out
  clear l4 L3 hz
  go_wp2_with (go_at_call 6; refine (hnum.out _ _).mono ?_; rintro e w' ⟨rfl, rfl⟩)
  all_goals
    go_ret
    first | exact ⟨rfl, L4.out⟩ | exact ⟨rfl, Ld L4.out⟩
theorem core5 (which x : Int) (w : World) (hk : (IntKind.u64.wrap which).tmod 14 = 5) : Calls Try.prog 3 #[.int .i64 which, .int .i64 x] w fun e w' => e = .returned (.bool true) ∧ Later w w' := by
  have ha : Hid (∀ w : World, Calls Try.prog 4 #[] w fun e w' => e = .returned (.bool true) ∧ Hid (Later w w')) := awake_any
  have hz : Hid (∀ W : World, Calls Try.prog 5 #[.agg #[.slice none 0 0, .slice none 0 0, .slice none 0 0, .slice none 0 0, .slice none 0 0, .slice none 0 0, .slice none 0 0, .int .i64 (-1), .slice none 0 0, .slice none 0 0, .slice none 0 0]] W fun e w' => e = .returned (.tuple #[.string ⟨#[0, 97, 115, 109, 1, 0, 0, 0]⟩, .int .i64 0]) ∧ Hid (Later W w')) := em_z
  have hnum : Hid (∀ (n : Int) (w : World), Calls Try.prog 6 #[.int .i64 n] w fun e w' => e = .returned (.int .i64 n) ∧ w' = w) := fun n w => num_any n w
  go_enter Try.func3, Try.ntmps3
  go_wp2_with (go_at_call 4; refine (ha.out _).mono ?_; rintro e w2 ⟨rfl, l2⟩)
  clear ha
  refine (en_bad (Z := fun _ => True) { mdZ (-1) with fu := [0] } (enM_len (by decide)) ?_ ?_).mono ?_
  · exact ⟨_, _, _, _, _, _, _, _, _, _, rfl, Fc.nil, Fc.nil, fc_one (T := 3) (L := [.int .i64 0]) (by first | exact row_at (by simp) _ _ | exact rowIs_later (La (Lz _)) (row_at (by simp) _ _) | exact rowIs_later (La (La (Lz _))) (row_at (by simp) _ _)) rfl trivial ⟨_, _, rfl, rfl, rfl⟩, Fc.nil, Fc.nil, Fc.nil, Fc.nil, Fc.nil, Fc.nil, Fc.nil⟩
  · constructor <;> simp [mdZ]
  rintro e w3 ⟨rfl, l3⟩
  have L3 : Hid (Later w w3) := by first | exact (La l2.out).trans l3.out | exact (La (La l2.out)).trans l3.out | exact (La (La (La l2.out))).trans l3.out
  clear l3 l2
  go_wp2_with fail
  refine (hz.out _).mono ?_
  rintro e w4 ⟨rfl, l4⟩
  have L4 : Hid (Later w w4) := by first | exact L3.out.trans l4.out | exact (La L3.out).trans l4.out
  clear l4 L3 hz
  go_wp2_with (go_at_call 6; refine (hnum.out _ _).mono ?_; rintro e w' ⟨rfl, rfl⟩)
  all_goals
    go_ret
    first | exact ⟨rfl, L4.out⟩ | exact ⟨rfl, Ld L4.out⟩
theorem core6 (which x : Int) (w : World) (hk : (IntKind.u64.wrap which).tmod 14 = 6) : Calls Try.prog 3 #[.int .i64 which, .int .i64 x] w fun e w' => e = .returned (.bool true) ∧ Later w w' := by
  have ha : Hid (∀ w : World, Calls Try.prog 4 #[] w fun e w' => e = .returned (.bool true) ∧ Hid (Later w w')) := awake_any
  have hz : Hid (∀ W : World, Calls Try.prog 5 #[.agg #[.slice none 0 0, .slice none 0 0, .slice none 0 0, .slice none 0 0, .slice none 0 0, .slice none 0 0, .slice none 0 0, .int .i64 (-1), .slice none 0 0, .slice none 0 0, .slice none 0 0]] W fun e w' => e = .returned (.tuple #[.string ⟨#[0, 97, 115, 109, 1, 0, 0, 0]⟩, .int .i64 0]) ∧ Hid (Later W w')) := em_z
  have hnum : Hid (∀ (n : Int) (w : World), Calls Try.prog 6 #[.int .i64 n] w fun e w' => e = .returned (.int .i64 n) ∧ w' = w) := fun n w => num_any n w
  go_enter Try.func3, Try.ntmps3
  go_wp2_with (go_at_call 4; refine (ha.out _).mono ?_; rintro e w2 ⟨rfl, l2⟩)
  clear ha
  refine (en_bad (Z := fun _ => True) { mdZ (-1) with ta := [(wrap64 (-1 - bits .and .i64 x 7), -1)] } (enM_none (by unfold pM; refine List.mem_cons.2 (Or.inr ?_); refine List.mem_cons.2 (Or.inr ?_); refine List.mem_cons.2 (Or.inr ?_); refine List.mem_cons.2 (Or.inl (Eq.symm ?_)); show eS _ _ (eL _ _ [_]) = none; rw [el_one (g := eTa) (x := (wrap64 (-1 - bits .and .i64 x 7), -1)) (show oB (eC 112) (eLi (wrap64 (-1 - bits .and .i64 x 7), -1)) = none by unfold eLi; rw [if_pos rfl, show eN (wrap64 (-1 - bits .and .i64 x 7)) = none from if_neg (by have h := and7 x; generalize bits .and .i64 x 7 = y at *; unfold wrap64; omega)]; rfl)]; rfl)) ?_ ?_).mono ?_
  · exact ⟨_, _, _, _, _, _, _, _, _, _, rfl, Fc.nil, Fc.nil, Fc.nil, fc_one (T := 38) (L := [.int .i64 (wrap64 (-1 - bits .and .i64 x 7)), .int .i64 (-1)]) (by first | exact row_at (by simp) _ _ | exact rowIs_later (La (Lz _)) (row_at (by simp) _ _) | exact rowIs_later (La (La (Lz _))) (row_at (by simp) _ _)) rfl trivial ⟨_, _, rfl, rfl, _, _, rfl, rfl, rfl⟩, Fc.nil, Fc.nil, Fc.nil, Fc.nil, Fc.nil, Fc.nil⟩
  · constructor <;> simp [mdZ]
  rintro e w3 ⟨rfl, l3⟩
  have L3 : Hid (Later w w3) := by first | exact (La l2.out).trans l3.out | exact (La (La l2.out)).trans l3.out | exact (La (La (La l2.out))).trans l3.out
  clear l3 l2
  go_wp2_with fail
  refine (hz.out _).mono ?_
  rintro e w4 ⟨rfl, l4⟩
  have L4 : Hid (Later w w4) := by first | exact L3.out.trans l4.out | exact (La L3.out).trans l4.out
  clear l4 L3 hz
  go_wp2_with (go_at_call 6; refine (hnum.out _ _).mono ?_; rintro e w' ⟨rfl, rfl⟩)
  all_goals
    go_ret
    first | exact ⟨rfl, L4.out⟩ | exact ⟨rfl, Ld L4.out⟩
theorem core7 (which x : Int) (w : World) (hk : (IntKind.u64.wrap which).tmod 14 = 7) : Calls Try.prog 3 #[.int .i64 which, .int .i64 x] w fun e w' => e = .returned (.bool true) ∧ Later w w' := by
  have ha : Hid (∀ w : World, Calls Try.prog 4 #[] w fun e w' => e = .returned (.bool true) ∧ Hid (Later w w')) := awake_any
  have hz : Hid (∀ W : World, Calls Try.prog 5 #[.agg #[.slice none 0 0, .slice none 0 0, .slice none 0 0, .slice none 0 0, .slice none 0 0, .slice none 0 0, .slice none 0 0, .int .i64 (-1), .slice none 0 0, .slice none 0 0, .slice none 0 0]] W fun e w' => e = .returned (.tuple #[.string ⟨#[0, 97, 115, 109, 1, 0, 0, 0]⟩, .int .i64 0]) ∧ Hid (Later W w')) := em_z
  have hnum : Hid (∀ (n : Int) (w : World), Calls Try.prog 6 #[.int .i64 n] w fun e w' => e = .returned (.int .i64 n) ∧ w' = w) := fun n w => num_any n w
  go_enter Try.func3, Try.ntmps3
  go_wp2_with (go_at_call 4; refine (ha.out _).mono ?_; rintro e w2 ⟨rfl, l2⟩)
  clear ha
  refine (en_bad (Z := fun _ => True) { mdZ (-1) with me := [(0, wrap64 (4294967296 + bits .and .i64 x 65535))] } (enM_none (by unfold pM; refine List.mem_cons.2 (Or.inr ?_); refine List.mem_cons.2 (Or.inr ?_); refine List.mem_cons.2 (Or.inr ?_); refine List.mem_cons.2 (Or.inr ?_); refine List.mem_cons.2 (Or.inl (Eq.symm ?_)); show eS _ _ (eL _ _ [_]) = none; rw [el_one (g := eLi) (x := (0, wrap64 (4294967296 + bits .and .i64 x 65535))) (show eLi (0, wrap64 (4294967296 + bits .and .i64 x 65535)) = none by unfold eLi; rw [if_neg (by have h := and16 x; generalize bits .and .i64 x 65535 = y at *; show ¬ wrap64 (4294967296 + y) = -1; unfold wrap64; omega), bad16 x, oB_none2, oB_none2])]; rfl)) ?_ ?_).mono ?_
  · exact ⟨_, _, _, _, _, _, _, _, _, _, rfl, Fc.nil, Fc.nil, Fc.nil, Fc.nil, fc_one (T := 38) (L := [.int .i64 0, .int .i64 (wrap64 (4294967296 + bits .and .i64 x 65535))]) (by first | exact row_at (by simp) _ _ | exact rowIs_later (La (Lz _)) (row_at (by simp) _ _) | exact rowIs_later (La (La (Lz _))) (row_at (by simp) _ _)) rfl trivial ⟨_, _, rfl, rfl, _, _, rfl, rfl, rfl⟩, Fc.nil, Fc.nil, Fc.nil, Fc.nil, Fc.nil⟩
  · constructor <;> simp [mdZ]
  rintro e w3 ⟨rfl, l3⟩
  have L3 : Hid (Later w w3) := by first | exact (La l2.out).trans l3.out | exact (La (La l2.out)).trans l3.out | exact (La (La (La l2.out))).trans l3.out
  clear l3 l2
  go_wp2_with fail
  refine (hz.out _).mono ?_
  rintro e w4 ⟨rfl, l4⟩
  have L4 : Hid (Later w w4) := by first | exact L3.out.trans l4.out | exact (La L3.out).trans l4.out
  clear l4 L3 hz
  go_wp2_with (go_at_call 6; refine (hnum.out _ _).mono ?_; rintro e w' ⟨rfl, rfl⟩)
  all_goals
    go_ret
    first | exact ⟨rfl, L4.out⟩ | exact ⟨rfl, Ld L4.out⟩
theorem core8 (which x : Int) (w : World) (hk : (IntKind.u64.wrap which).tmod 14 = 8) : Calls Try.prog 3 #[.int .i64 which, .int .i64 x] w fun e w' => e = .returned (.bool true) ∧ Later w w' := by
  have ha : Hid (∀ w : World, Calls Try.prog 4 #[] w fun e w' => e = .returned (.bool true) ∧ Hid (Later w w')) := awake_any
  have hz : Hid (∀ W : World, Calls Try.prog 5 #[.agg #[.slice none 0 0, .slice none 0 0, .slice none 0 0, .slice none 0 0, .slice none 0 0, .slice none 0 0, .slice none 0 0, .int .i64 (-1), .slice none 0 0, .slice none 0 0, .slice none 0 0]] W fun e w' => e = .returned (.tuple #[.string ⟨#[0, 97, 115, 109, 1, 0, 0, 0]⟩, .int .i64 0]) ∧ Hid (Later W w')) := em_z
  have hnum : Hid (∀ (n : Int) (w : World), Calls Try.prog 6 #[.int .i64 n] w fun e w' => e = .returned (.int .i64 n) ∧ w' = w) := fun n w => num_any n w
  go_enter Try.func3, Try.ntmps3
  go_wp2_with (go_at_call 4; refine (ha.out _).mono ?_; rintro e w2 ⟨rfl, l2⟩)
  clear ha
  refine (en_bad (Z := fun _ => True) { mdZ (-1) with gl := [(127, false, .cons 6 0 0 0 0 [] .nil .nil .nil)] } (enM_none (by unfold pM; refine List.mem_cons.2 (Or.inr ?_); refine List.mem_cons.2 (Or.inr ?_); refine List.mem_cons.2 (Or.inr ?_); refine List.mem_cons.2 (Or.inr ?_); refine List.mem_cons.2 (Or.inr ?_); refine List.mem_cons.2 (Or.inl (Eq.symm ?_)); show eS _ _ (eL _ _ [_]) = none; rw [el_one (g := eGl) (x := (127, false, .cons 6 0 0 0 0 [] .nil .nil .nil)) (show oB (eK 127) (oB (eB false) (eI (.cons 6 0 0 0 0 [] .nil .nil .nil))) = none by rw [show eI (.cons 6 0 0 0 0 [] .nil .nil .nil) = none by unfold eI puR; rw [if_neg (show ¬ (ck (.cons 6 0 0 0 0 [] .nil .nil .nil) 0 0).1 = 0 by rw [fo6]; decide), fo6]; rfl]; rfl)]; rfl)) ?_ ?_).mono ?_
  · exact ⟨_, _, _, _, _, _, _, _, _, _, rfl, Fc.nil, Fc.nil, Fc.nil, Fc.nil, Fc.nil, fc_one (T := 45) (L := [.int .i64 127, .bool false, .slice (some ⟨w2.heap.size + 1, 0, none⟩) 1 1]) (by first | exact row_at (by simp) _ _ | exact rowIs_later (La (Lz _)) (row_at (by simp) _ _) | exact rowIs_later (La (La (Lz _))) (row_at (by simp) _ _)) rfl trivial ⟨_, _, rfl, rfl, _, _, rfl, rfl, _, _, rfl, ⟨some ⟨w2.heap.size + 1, 0, none⟩, 1, rfl, tr_one (T := 43) (by first | exact row_at (by simp) _ _ | exact rowIs_later (La (Lz _)) (row_at (by simp) _ _) | exact rowIs_later (La (La (Lz _))) (row_at (by simp) _ _)) rfl⟩, rfl⟩, Fc.nil, Fc.nil, Fc.nil, Fc.nil⟩
  · constructor <;> simp [mdZ, Fs.Ok, Fs.len, Fs.nil, i64]
  rintro e w3 ⟨rfl, l3⟩
  have L3 : Hid (Later w w3) := by first | exact (La l2.out).trans l3.out | exact (La (La l2.out)).trans l3.out | exact (La (La (La l2.out))).trans l3.out
  clear l3 l2
  go_wp2_with fail
  refine (hz.out _).mono ?_
  rintro e w4 ⟨rfl, l4⟩
  have L4 : Hid (Later w w4) := by first | exact L3.out.trans l4.out | exact (La L3.out).trans l4.out
  clear l4 L3 hz
  go_wp2_with (go_at_call 6; refine (hnum.out _ _).mono ?_; rintro e w' ⟨rfl, rfl⟩)
  all_goals
    go_ret
    first | exact ⟨rfl, L4.out⟩ | exact ⟨rfl, Ld L4.out⟩
theorem core9 (which x : Int) (w : World) (hk : (IntKind.u64.wrap which).tmod 14 = 9) : Calls Try.prog 3 #[.int .i64 which, .int .i64 x] w fun e w' => e = .returned (.bool true) ∧ Later w w' := by
  have ha : Hid (∀ w : World, Calls Try.prog 4 #[] w fun e w' => e = .returned (.bool true) ∧ Hid (Later w w')) := awake_any
  have hz : Hid (∀ W : World, Calls Try.prog 5 #[.agg #[.slice none 0 0, .slice none 0 0, .slice none 0 0, .slice none 0 0, .slice none 0 0, .slice none 0 0, .slice none 0 0, .int .i64 (-1), .slice none 0 0, .slice none 0 0, .slice none 0 0]] W fun e w' => e = .returned (.tuple #[.string ⟨#[0, 97, 115, 109, 1, 0, 0, 0]⟩, .int .i64 0]) ∧ Hid (Later W w')) := em_z
  have hnum : Hid (∀ (n : Int) (w : World), Calls Try.prog 6 #[.int .i64 n] w fun e w' => e = .returned (.int .i64 n) ∧ w' = w) := fun n w => num_any n w
  go_enter Try.func3, Try.ntmps3
  go_wp2_with (go_at_call 4; refine (ha.out _).mono ?_; rintro e w2 ⟨rfl, l2⟩)
  clear ha
  refine (en_bad (Z := fun _ => True) { mdZ (-1) with ex := [(⟨#[]⟩, wrap64 (-1 - bits .and .i64 x 3), 0)] } (enM_none (by unfold pM; refine List.mem_cons.2 (Or.inr ?_); refine List.mem_cons.2 (Or.inr ?_); refine List.mem_cons.2 (Or.inr ?_); refine List.mem_cons.2 (Or.inr ?_); refine List.mem_cons.2 (Or.inr ?_); refine List.mem_cons.2 (Or.inr ?_); refine List.mem_cons.2 (Or.inl (Eq.symm ?_)); show eS _ _ (eL _ _ [_]) = none; rw [el_one (g := eEx) (x := (⟨#[]⟩, wrap64 (-1 - bits .and .i64 x 3), 0)) (show oB (eT _) (oB (eKi (wrap64 (-1 - bits .and .i64 x 3))) _) = none by rw [show eKi (wrap64 (-1 - bits .and .i64 x 3)) = none from if_neg (by have h := and3 x; generalize bits .and .i64 x 3 = y at *; unfold wrap64; omega), oB_none, oB_none2])]; rfl)) ?_ ?_).mono ?_
  · exact ⟨_, _, _, _, _, _, _, _, _, _, rfl, Fc.nil, Fc.nil, Fc.nil, Fc.nil, Fc.nil, Fc.nil, fc_one (T := 47) (L := [.string ⟨#[]⟩, .int .i64 (wrap64 (-1 - bits .and .i64 x 3)), .int .i64 0]) (by first | exact row_at (by simp) _ _ | exact rowIs_later (La (Lz _)) (row_at (by simp) _ _) | exact rowIs_later (La (La (Lz _))) (row_at (by simp) _ _)) rfl trivial ⟨_, _, rfl, rfl, _, _, rfl, rfl, _, _, rfl, rfl, rfl⟩, Fc.nil, Fc.nil, Fc.nil⟩
  · constructor <;> simp [mdZ] <;> decide
  rintro e w3 ⟨rfl, l3⟩
  have L3 : Hid (Later w w3) := by first | exact (La l2.out).trans l3.out | exact (La (La l2.out)).trans l3.out | exact (La (La (La l2.out))).trans l3.out
  clear l3 l2
  go_wp2_with fail
  refine (hz.out _).mono ?_
  rintro e w4 ⟨rfl, l4⟩
  have L4 : Hid (Later w w4) := by first | exact L3.out.trans l4.out | exact (La L3.out).trans l4.out
  clear l4 L3 hz
  go_wp2_with (go_at_call 6; refine (hnum.out _ _).mono ?_; rintro e w' ⟨rfl, rfl⟩)
  all_goals
    go_ret
    first | exact ⟨rfl, L4.out⟩ | exact ⟨rfl, Ld L4.out⟩
theorem core10 (which x : Int) (w : World) (hk : (IntKind.u64.wrap which).tmod 14 = 10) : Calls Try.prog 3 #[.int .i64 which, .int .i64 x] w fun e w' => e = .returned (.bool true) ∧ Later w w' := by
  have ha : Hid (∀ w : World, Calls Try.prog 4 #[] w fun e w' => e = .returned (.bool true) ∧ Hid (Later w w')) := awake_any
  have hz : Hid (∀ W : World, Calls Try.prog 5 #[.agg #[.slice none 0 0, .slice none 0 0, .slice none 0 0, .slice none 0 0, .slice none 0 0, .slice none 0 0, .slice none 0 0, .int .i64 (-1), .slice none 0 0, .slice none 0 0, .slice none 0 0]] W fun e w' => e = .returned (.tuple #[.string ⟨#[0, 97, 115, 109, 1, 0, 0, 0]⟩, .int .i64 0]) ∧ Hid (Later W w')) := em_z
  have hnum : Hid (∀ (n : Int) (w : World), Calls Try.prog 6 #[.int .i64 n] w fun e w' => e = .returned (.int .i64 n) ∧ w' = w) := fun n w => num_any n w
  go_enter Try.func3, Try.ntmps3
  go_wp2_with (go_at_call 4; refine (ha.out _).mono ?_; rintro e w2 ⟨rfl, l2⟩)
  clear ha
  refine (en_bad (Z := fun _ => True) (mdZ (wrap64 (-2 - bits .and .i64 x 7))) (enM_none (by unfold pM; refine List.mem_cons.2 (Or.inr ?_); refine List.mem_cons.2 (Or.inr ?_); refine List.mem_cons.2 (Or.inr ?_); refine List.mem_cons.2 (Or.inr ?_); refine List.mem_cons.2 (Or.inr ?_); refine List.mem_cons.2 (Or.inr ?_); refine List.mem_cons.2 (Or.inr ?_); refine List.mem_cons.2 (Or.inl (Eq.symm ?_)); show eS 8 (nSt (wrap64 (-2 - bits .and .i64 x 7))) (oSt (wrap64 (-2 - bits .and .i64 x 7))) = none; rw [show oSt (wrap64 (-2 - bits .and .i64 x 7)) = none by unfold oSt; rw [if_neg (by have h := and7 x; generalize bits .and .i64 x 7 = y at *; unfold wrap64; omega)]; exact if_neg (by have h := and7 x; generalize bits .and .i64 x 7 = y at *; unfold wrap64; omega)]; rfl)) ?_ ?_).mono ?_
  · exact ⟨_, _, _, _, _, _, _, _, _, _, rfl, Fc.nil, Fc.nil, Fc.nil, Fc.nil, Fc.nil, Fc.nil, Fc.nil, Fc.nil, Fc.nil, Fc.nil⟩
  · exact mdb_z _
  rintro e w3 ⟨rfl, l3⟩
  have L3 : Hid (Later w w3) := by first | exact (La l2.out).trans l3.out | exact (La (La l2.out)).trans l3.out | exact (La (La (La l2.out))).trans l3.out
  clear l3 l2
  go_wp2_with fail
  refine (hz.out _).mono ?_
  rintro e w4 ⟨rfl, l4⟩
  have L4 : Hid (Later w w4) := by first | exact L3.out.trans l4.out | exact (La L3.out).trans l4.out
  clear l4 L3 hz
  go_wp2_with (go_at_call 6; refine (hnum.out _ _).mono ?_; rintro e w' ⟨rfl, rfl⟩)
  all_goals
    go_ret
    first | exact ⟨rfl, L4.out⟩ | exact ⟨rfl, Ld L4.out⟩
theorem core11 (which x : Int) (w : World) (hk : (IntKind.u64.wrap which).tmod 14 = 11) : Calls Try.prog 3 #[.int .i64 which, .int .i64 x] w fun e w' => e = .returned (.bool true) ∧ Later w w' := by
  have ha : Hid (∀ w : World, Calls Try.prog 4 #[] w fun e w' => e = .returned (.bool true) ∧ Hid (Later w w')) := awake_any
  have hz : Hid (∀ W : World, Calls Try.prog 5 #[.agg #[.slice none 0 0, .slice none 0 0, .slice none 0 0, .slice none 0 0, .slice none 0 0, .slice none 0 0, .slice none 0 0, .int .i64 (-1), .slice none 0 0, .slice none 0 0, .slice none 0 0]] W fun e w' => e = .returned (.tuple #[.string ⟨#[0, 97, 115, 109, 1, 0, 0, 0]⟩, .int .i64 0]) ∧ Hid (Later W w')) := em_z
  have hnum : Hid (∀ (n : Int) (w : World), Calls Try.prog 6 #[.int .i64 n] w fun e w' => e = .returned (.int .i64 n) ∧ w' = w) := fun n w => num_any n w
  go_enter Try.func3, Try.ntmps3
  go_wp2_with (go_at_call 4; refine (ha.out _).mono ?_; rintro e w2 ⟨rfl, l2⟩)
  clear ha
  refine (en_bad (Z := fun _ => True) { mdZ (-1) with el := [(.nil, [wrap64 (4294967296 + bits .and .i64 x 65535)])] } (enM_none (by unfold pM; refine List.mem_cons.2 (Or.inr ?_); refine List.mem_cons.2 (Or.inr ?_); refine List.mem_cons.2 (Or.inr ?_); refine List.mem_cons.2 (Or.inr ?_); refine List.mem_cons.2 (Or.inr ?_); refine List.mem_cons.2 (Or.inr ?_); refine List.mem_cons.2 (Or.inr ?_); refine List.mem_cons.2 (Or.inr ?_); refine List.mem_cons.2 (Or.inl (Eq.symm ?_)); show eS _ _ (eL _ _ [_]) = none; rw [el_one (g := eEl) (x := (.nil, [wrap64 (4294967296 + bits .and .i64 x 65535)])) (show oB (eC 0) (oB (eI .nil) (eL 1024 eN [wrap64 (4294967296 + bits .and .i64 x 65535)])) = none by rw [el_one (bad16 x), oB_none2, oB_none2])]; rfl)) ?_ ?_).mono ?_
  · exact ⟨_, _, _, _, _, _, _, _, _, _, rfl, Fc.nil, Fc.nil, Fc.nil, Fc.nil, Fc.nil, Fc.nil, Fc.nil, fc_one (T := 49) (L := [.slice none 0 0, .slice (some ⟨w2.heap.size + 1, 0, none⟩) 1 1]) (by first | exact row_at (by simp) _ _ | exact rowIs_later (La (Lz _)) (row_at (by simp) _ _) | exact rowIs_later (La (La (Lz _))) (row_at (by simp) _ _)) rfl trivial ⟨_, _, rfl, ⟨none, 0, rfl, tr_nil⟩, _, _, rfl, ⟨some ⟨w2.heap.size + 1, 0, none⟩, 1, rfl, lq_one (T := 3) (by first | exact row_at (by simp) _ _ | exact rowIs_later (La (Lz _)) (row_at (by simp) _ _) | exact rowIs_later (La (La (Lz _))) (row_at (by simp) _ _)) rfl⟩, rfl⟩, Fc.nil, Fc.nil⟩
  · constructor <;> simp [mdZ, Fs.Ok, Fs.len, Fs.nil]
  rintro e w3 ⟨rfl, l3⟩
  have L3 : Hid (Later w w3) := by first | exact (La l2.out).trans l3.out | exact (La (La l2.out)).trans l3.out | exact (La (La (La l2.out))).trans l3.out
  clear l3 l2
  go_wp2_with fail
  refine (hz.out _).mono ?_
  rintro e w4 ⟨rfl, l4⟩
  have L4 : Hid (Later w w4) := by first | exact L3.out.trans l4.out | exact (La L3.out).trans l4.out
  clear l4 L3 hz
  go_wp2_with (go_at_call 6; refine (hnum.out _ _).mono ?_; rintro e w' ⟨rfl, rfl⟩)
  all_goals
    go_ret
    first | exact ⟨rfl, L4.out⟩ | exact ⟨rfl, Ld L4.out⟩
end Go.Proofs.Ytngciahmoenkiac.encodeParts
