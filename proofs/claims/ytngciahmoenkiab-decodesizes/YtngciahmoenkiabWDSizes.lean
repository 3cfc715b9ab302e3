/- 'DecodeSizes' of package peloruslaw15 returns true at every two ints: a section whose size is less or more than its content is refused. No condition. -/
import Derived.Test.YtngciahmoenkiabFC
import Derived.LoopTactic
import Derived.OpenShut
import Derived.ChangeMaps5
import Derived.ShutString
import Derived.SizedLaws
set_option linter.unusedVariables false
set_option linter.unusedSimpArgs false
set_option maxRecDepth 100000
set_option maxHeartbeats 8000000
namespace Go.Proofs.Ytngciahmoenkiab.decodeSizes
open Go.ChangeShapes Go.WideShapes Go.ChangeAt Go.RowKit
def b0 : ByteArray := ⟨#[0]⟩
theorem sizes_all : ∀ (k : Fin 12) (d : Fin 9), 1 ≤ k.val → ¬ k.val = 8 → 1 ≤ d.val → (unM (hd8 ++ secB (k.val : Int) ⟨#[0]⟩)).2 = 0 ∧ (unM (hd8 ++ secB (k.val : Int) (⟨#[0]⟩ ++ zb d.val))).2 = 1504 ∧ (unM (hd8 ++ secB (k.val : Int) ⟨#[]⟩)).2 = 1506 ∧ (unM (hd8 ++ strOfNums [(k.val : Int), 1 + (d.val : Int), 0])).2 = 1501 := by decide +kernel
theorem sec_size (id : Int) (b : ByteArray) (h : b.size < 1000000) : (secB id b).size < 2000000 := by
  unfold secB
  have := lebL_max (b.size : Int)
  rw [ByteArray.size_append, ByteArray.size_append, strOfNums_size, strOfNums_size]
  simp only [List.length_cons, List.length_nil]
  omega
theorem core (a b : Int) (k d : Nat) (hk : wrap64 (1 + wrap64 ((IntKind.u64.wrap a).tmod 11)) = (k : Int)) (hd : wrap64 (1 + bits .and .i64 b 7) = (d : Int)) (hk1 : 1 ≤ k ∧ k < 12) (hk8 : ¬ k = 8) (hd1 : 1 ≤ d ∧ d < 9) (w : World) :
    Calls Try.prog 3 #[.int .i64 a, .int .i64 b] w fun e w' => e = .returned (.bool true) ∧ Later w w' := by
  replace hk : Hid _ := hk
  replace hd : Hid _ := hd
  obtain ⟨r1, r2, r3, r4⟩ := sizes_all ⟨k, hk1.2⟩ ⟨d, hd1.2⟩ hk1.1 hk8 hd1.1
  simp only [] at r1 r2 r3 r4
  have h5 : ((k : Int) == 8) = false := beq_false (by omega)
  have h6 : (k == 8) = false := by simpa using hk8
  have z1 := sec_size (k : Int) ⟨#[0]⟩ (by decide)
  have z2 := sec_size (k : Int) (⟨#[0]⟩ ++ zb d) (by rw [ByteArray.size_append, zb_size]; show 1 + d < _; omega)
  have z3 := sec_size (k : Int) ⟨#[]⟩ (by decide)
  have z4 : (strOfNums [(k : Int), 1 + (d : Int), 0]).size = 3 := strOfNums_size _
  have zz := zb_size d
  have hc1 : Hid (∀ W, Calls Try.prog 9 #[.int .i64 (k : Int), .string ⟨#[0]⟩] W fun e w' => e = .returned (.string (secB (k : Int) ⟨#[0]⟩)) ∧ Later W w') := section_any k (by omega) _ (by decide)
  have hc2 : Hid (∀ W, Calls Try.prog 9 #[.int .i64 (k : Int), .string (⟨#[0]⟩ ++ zb d)] W fun e w' => e = .returned (.string (secB (k : Int) (⟨#[0]⟩ ++ zb d))) ∧ Later W w') := section_any k (by omega) _ (by rw [ByteArray.size_append, zb_size]; show 1 + d < _; omega)
  have hc3 : Hid (∀ W, Calls Try.prog 9 #[.int .i64 (k : Int), .string ⟨#[]⟩] W fun e w' => e = .returned (.string (secB (k : Int) ⟨#[]⟩)) ∧ Later W w') := section_any k (by omega) _ (by decide)
  have hm1 : Hid (∀ W, Calls Try.prog 8 #[.string (hd8 ++ secB (k : Int) ⟨#[0]⟩)] W (DcP W 0)) := dm_code (by rw [ByteArray.size_append]; show 8 + _ < _; omega) r1
  have hm2 : Hid (∀ W, Calls Try.prog 8 #[.string (hd8 ++ secB (k : Int) (⟨#[0]⟩ ++ zb d))] W (DcP W 1504)) := dm_code (by rw [ByteArray.size_append]; show 8 + _ < _; omega) r2
  have hm3 : Hid (∀ W, Calls Try.prog 8 #[.string (hd8 ++ secB (k : Int) ⟨#[]⟩)] W (DcP W 1506)) := dm_code (by rw [ByteArray.size_append]; show 8 + _ < _; omega) r3
  have hm4 : Hid (∀ W, Calls Try.prog 8 #[.string (hd8 ++ strOfNums [(k : Int), 1 + (d : Int), 0])] W (DcP W 1501)) := dm_code (by rw [ByteArray.size_append]; show 8 + _ < _; omega) r4
  have q1 : ¬ 9223372036854775807 < 8 + (secB (k : Int) ⟨#[0]⟩).size := by omega
  have q2 : ¬ 9223372036854775807 < 8 + (secB (k : Int) (⟨#[0]⟩ ++ zb d)).size := by omega
  have q3 : ¬ 9223372036854775807 < 8 + (secB (k : Int) ⟨#[]⟩).size := by omega
  have q4 : ¬ 9223372036854775807 < 8 + (strOfNums [(k : Int), 1 + (d : Int), 0]).size := by omega
  have q5 : ¬ 9223372036854775807 < 1 + (zb d).size := by omega
  have mk : ∀ W : World, (Instr.makeSlice 39 (.int .i64 (d : Int)) (.int .i64 (d : Int))).run Try.prog W = .ok (.slice (some ⟨W.heap.size, 0, none⟩) d d) (W.alloc (.cells (zcs d) 5)) := mk_z d (by omega)
  have cz : ∀ (W : World) (g : Nat), g = W.heap.size → (convert 39 9 (.slice (some ⟨g, 0, none⟩) d d)).run Try.prog (W.alloc (.cells (zcs d) 5)) = .ok (.string (zb d)) (W.alloc (.cells (zcs d) 5)) := fun W g hg => by subst hg; exact conv_z d (Lz _)
  have cv : ∀ (W : World) (g : Nat), g = W.heap.size → (convert 39 9 (.slice (some ⟨g, 0, none⟩) 3 3)).run Try.prog (W.alloc (.cells #[.int .u8 (k : Int), .int .u8 (1 + (d : Int)), .int .u8 0] 5)) = .ok (.string (strOfNums [(k : Int), 1 + (d : Int), 0])) (W.alloc (.cells #[.int .u8 (k : Int), .int .u8 (1 + (d : Int)), .int .u8 0] 5)) := fun W g hg => by
    subst hg
    skip
    exact conv_l [(k : Int), 1 + (d : Int), 0] (by simp; omega) 3 rfl (Lz _)
  have hw8 : IntKind.u8.wrap (k : Int) = (k : Int) := by rw [IntKind.wrap_u8]; omega
  have hw9 : IntKind.u8.wrap (1 + (d : Int)) = 1 + (d : Int) := by rw [IntKind.wrap_u8]; omega
  have hd8' : (d : Int) ≤ 8 := by omega
  have hn : Hid (∀ x W, Calls Try.prog 10 #[.int .i64 x] W fun e w' => e = .returned (.int .i64 x) ∧ w' = W) := lnum_any
  generalize secB (k : Int) ⟨#[0]⟩ = S1 at *
  generalize secB (k : Int) (⟨#[0]⟩ ++ zb d) = S2 at *
  generalize secB (k : Int) ⟨#[]⟩ = S3 at *
  generalize strOfNums [(k : Int), 1 + (d : Int), 0] = S4 at *
  generalize zb d = S5 at *
  generalize zcs d = Zc at *
  clear r1 r2 r3 r4 z1 z2 z3 z4 zz hk1 hd1 hk8
  replace hk := hk.out
  replace hd := hd.out
  go_enter Try.func3, Try.ntmps3
  go_wp2_with (go_at_call 7; refine (awake_any _).mono ?_; rintro e w0 ⟨rfl, l0⟩; replace l0 : Hid (Later w w0) := l0.out)
  refine (hc1.out _).mono ?_
  clear hc1
  rintro e w1 ⟨rfl, l1⟩
  have L1 : Hid (Later w w1) := (by first | exact l0.out.trans l1 | exact (La l0.out).trans l1 | exact (La (La l0.out)).trans l1)
  clear l0 l1
  go_wp2_with fail
  refine (hm1.out _).mono ?_
  clear hm1
  rintro e w2 ⟨A2, n2, c2, st2, rfl, l2⟩
  have L2 : Hid (Later w w2) := (by first | exact L1.out.trans l2.out | exact (La L1.out).trans l2.out | exact (La (La L1.out)).trans l2.out)
  clear L1 l2
  go_wp2_with fail
  refine (hc2.out _).mono ?_
  clear hc2
  rintro e w3 ⟨rfl, l3⟩
  have L3 : Hid (Later w w3) := (by first | exact L2.out.trans l3 | exact (La L2.out).trans l3 | exact (La (La L2.out)).trans l3)
  clear L2 l3
  go_wp2_with fail
  refine (hm2.out _).mono ?_
  clear hm2
  rintro e w4 ⟨A4, n4, c4, st4, rfl, l4⟩
  have L4 : Hid (Later w w4) := (by first | exact L3.out.trans l4.out | exact (La L3.out).trans l4.out | exact (La (La L3.out)).trans l4.out)
  clear L3 l4
  go_wp2_with fail
  refine (hc3.out _).mono ?_
  clear hc3
  rintro e w5 ⟨rfl, l5⟩
  have L5 : Hid (Later w w5) := (by first | exact L4.out.trans l5 | exact (La L4.out).trans l5 | exact (La (La L4.out)).trans l5)
  clear L4 l5
  go_wp2_with fail
  refine (hm3.out _).mono ?_
  clear hm3
  rintro e w6 ⟨A6, n6, c6, st6, rfl, l6⟩
  have L6 : Hid (Later w w6) := (by first | exact L5.out.trans l6.out | exact (La L5.out).trans l6.out | exact (La (La L5.out)).trans l6.out)
  clear L5 l6
  go_wp2_with fail
  refine (hm4.out _).mono ?_
  clear hm4
  rintro e w7 ⟨A7, n7, c7, st7, rfl, l7⟩
  have L7 : Hid (Later w w7) := (by first | exact L6.out.trans l7.out | exact (La L6.out).trans l7.out | exact (La (La L6.out)).trans l7.out)
  clear L6 l7
  go_wp2_with (go_at_call 10; refine (hn.out _ _).mono ?_; rintro e W ⟨rfl, hw⟩; subst hw)
  go_ret
  exact ⟨rfl, by first | exact La L7.out | exact L7.out⟩
theorem core8 (a b : Int) (k d : Nat) (hk : wrap64 (1 + wrap64 ((IntKind.u64.wrap a).tmod 11)) = 8) (hk9 : k = 9) (hd : wrap64 (1 + bits .and .i64 b 7) = (d : Int)) (hk1 : 1 ≤ k ∧ k < 12) (hk8 : ¬ k = 8) (hd1 : 1 ≤ d ∧ d < 9) (w : World) :
    Calls Try.prog 3 #[.int .i64 a, .int .i64 b] w fun e w' => e = .returned (.bool true) ∧ Later w w' := by
  replace hk : Hid _ := hk
  replace hd : Hid _ := hd
  obtain ⟨r1, r2, r3, r4⟩ := sizes_all ⟨k, hk1.2⟩ ⟨d, hd1.2⟩ hk1.1 hk8 hd1.1
  simp only [] at r1 r2 r3 r4
  have e9 : (k : Int) = 9 := by omega
  have z1 := sec_size (k : Int) ⟨#[0]⟩ (by decide)
  have z2 := sec_size (k : Int) (⟨#[0]⟩ ++ zb d) (by rw [ByteArray.size_append, zb_size]; show 1 + d < _; omega)
  have z3 := sec_size (k : Int) ⟨#[]⟩ (by decide)
  have z4 : (strOfNums [(k : Int), 1 + (d : Int), 0]).size = 3 := strOfNums_size _
  have zz := zb_size d
  have hc1 : Hid (∀ W, Calls Try.prog 9 #[.int .i64 9, .string ⟨#[0]⟩] W fun e w' => e = .returned (.string (secB (k : Int) ⟨#[0]⟩)) ∧ Later W w') := fun W => by have t := section_any k (by omega) ⟨#[0]⟩ (by decide) W; rw [e9] at t ⊢; exact t
  have hc2 : Hid (∀ W, Calls Try.prog 9 #[.int .i64 9, .string (⟨#[0]⟩ ++ zb d)] W fun e w' => e = .returned (.string (secB (k : Int) (⟨#[0]⟩ ++ zb d))) ∧ Later W w') := fun W => by have t := section_any k (by omega) (⟨#[0]⟩ ++ zb d) (by rw [ByteArray.size_append, zb_size]; show 1 + d < _; omega) W; rw [e9] at t ⊢; exact t
  have hc3 : Hid (∀ W, Calls Try.prog 9 #[.int .i64 9, .string ⟨#[]⟩] W fun e w' => e = .returned (.string (secB (k : Int) ⟨#[]⟩)) ∧ Later W w') := fun W => by have t := section_any k (by omega) ⟨#[]⟩ (by decide) W; rw [e9] at t ⊢; exact t
  have hm1 : Hid (∀ W, Calls Try.prog 8 #[.string (hd8 ++ secB (k : Int) ⟨#[0]⟩)] W (DcP W 0)) := dm_code (by rw [ByteArray.size_append]; show 8 + _ < _; omega) r1
  have hm2 : Hid (∀ W, Calls Try.prog 8 #[.string (hd8 ++ secB (k : Int) (⟨#[0]⟩ ++ zb d))] W (DcP W 1504)) := dm_code (by rw [ByteArray.size_append]; show 8 + _ < _; omega) r2
  have hm3 : Hid (∀ W, Calls Try.prog 8 #[.string (hd8 ++ secB (k : Int) ⟨#[]⟩)] W (DcP W 1506)) := dm_code (by rw [ByteArray.size_append]; show 8 + _ < _; omega) r3
  have hm4 : Hid (∀ W, Calls Try.prog 8 #[.string (hd8 ++ strOfNums [(k : Int), 1 + (d : Int), 0])] W (DcP W 1501)) := dm_code (by rw [ByteArray.size_append]; show 8 + _ < _; omega) r4
  have q1 : ¬ 9223372036854775807 < 8 + (secB (k : Int) ⟨#[0]⟩).size := by omega
  have q2 : ¬ 9223372036854775807 < 8 + (secB (k : Int) (⟨#[0]⟩ ++ zb d)).size := by omega
  have q3 : ¬ 9223372036854775807 < 8 + (secB (k : Int) ⟨#[]⟩).size := by omega
  have q4 : ¬ 9223372036854775807 < 8 + (strOfNums [(k : Int), 1 + (d : Int), 0]).size := by omega
  have q5 : ¬ 9223372036854775807 < 1 + (zb d).size := by omega
  have mk : ∀ W : World, (Instr.makeSlice 39 (.int .i64 (d : Int)) (.int .i64 (d : Int))).run Try.prog W = .ok (.slice (some ⟨W.heap.size, 0, none⟩) d d) (W.alloc (.cells (zcs d) 5)) := mk_z d (by omega)
  have cz : ∀ (W : World) (g : Nat), g = W.heap.size → (convert 39 9 (.slice (some ⟨g, 0, none⟩) d d)).run Try.prog (W.alloc (.cells (zcs d) 5)) = .ok (.string (zb d)) (W.alloc (.cells (zcs d) 5)) := fun W g hg => by subst hg; exact conv_z d (Lz _)
  have cv : ∀ (W : World) (g : Nat), g = W.heap.size → (convert 39 9 (.slice (some ⟨g, 0, none⟩) 3 3)).run Try.prog (W.alloc (.cells #[.int .u8 9, .int .u8 (1 + (d : Int)), .int .u8 0] 5)) = .ok (.string (strOfNums [(k : Int), 1 + (d : Int), 0])) (W.alloc (.cells #[.int .u8 9, .int .u8 (1 + (d : Int)), .int .u8 0] 5)) := fun W g hg => by
    subst hg
    rw [e9]
    exact conv_l [9, 1 + (d : Int), 0] (by simp; omega) 3 rfl (Lz _)
  have hw8 : IntKind.u8.wrap (k : Int) = (k : Int) := by rw [IntKind.wrap_u8]; omega
  have hw9 : IntKind.u8.wrap (1 + (d : Int)) = 1 + (d : Int) := by rw [IntKind.wrap_u8]; omega
  have hd8' : (d : Int) ≤ 8 := by omega
  have hn : Hid (∀ x W, Calls Try.prog 10 #[.int .i64 x] W fun e w' => e = .returned (.int .i64 x) ∧ w' = W) := lnum_any
  generalize secB (k : Int) ⟨#[0]⟩ = S1 at *
  generalize secB (k : Int) (⟨#[0]⟩ ++ zb d) = S2 at *
  generalize secB (k : Int) ⟨#[]⟩ = S3 at *
  generalize strOfNums [(k : Int), 1 + (d : Int), 0] = S4 at *
  generalize zb d = S5 at *
  generalize zcs d = Zc at *
  clear r1 r2 r3 r4 z1 z2 z3 z4 zz hk1 hd1 hk8 hk9 hw8 e9
  replace hk := hk.out
  replace hd := hd.out
  go_enter Try.func3, Try.ntmps3
  go_wp2_with (go_at_call 7; refine (awake_any _).mono ?_; rintro e w0 ⟨rfl, l0⟩; replace l0 : Hid (Later w w0) := l0.out)
  refine (hc1.out _).mono ?_
  clear hc1
  rintro e w1 ⟨rfl, l1⟩
  have L1 : Hid (Later w w1) := (by first | exact l0.out.trans l1 | exact (La l0.out).trans l1 | exact (La (La l0.out)).trans l1)
  clear l0 l1
  go_wp2_with fail
  refine (hm1.out _).mono ?_
  clear hm1
  rintro e w2 ⟨A2, n2, c2, st2, rfl, l2⟩
  have L2 : Hid (Later w w2) := (by first | exact L1.out.trans l2.out | exact (La L1.out).trans l2.out | exact (La (La L1.out)).trans l2.out)
  clear L1 l2
  go_wp2_with fail
  refine (hc2.out _).mono ?_
  clear hc2
  rintro e w3 ⟨rfl, l3⟩
  have L3 : Hid (Later w w3) := (by first | exact L2.out.trans l3 | exact (La L2.out).trans l3 | exact (La (La L2.out)).trans l3)
  clear L2 l3
  go_wp2_with fail
  refine (hm2.out _).mono ?_
  clear hm2
  rintro e w4 ⟨A4, n4, c4, st4, rfl, l4⟩
  have L4 : Hid (Later w w4) := (by first | exact L3.out.trans l4.out | exact (La L3.out).trans l4.out | exact (La (La L3.out)).trans l4.out)
  clear L3 l4
  go_wp2_with fail
  refine (hc3.out _).mono ?_
  clear hc3
  rintro e w5 ⟨rfl, l5⟩
  have L5 : Hid (Later w w5) := (by first | exact L4.out.trans l5 | exact (La L4.out).trans l5 | exact (La (La L4.out)).trans l5)
  clear L4 l5
  go_wp2_with fail
  refine (hm3.out _).mono ?_
  clear hm3
  rintro e w6 ⟨A6, n6, c6, st6, rfl, l6⟩
  have L6 : Hid (Later w w6) := (by first | exact L5.out.trans l6.out | exact (La L5.out).trans l6.out | exact (La (La L5.out)).trans l6.out)
  clear L5 l6
  go_wp2_with fail
  refine (hm4.out _).mono ?_
  clear hm4
  rintro e w7 ⟨A7, n7, c7, st7, rfl, l7⟩
  have L7 : Hid (Later w w7) := (by first | exact L6.out.trans l7.out | exact (La L6.out).trans l7.out | exact (La (La L6.out)).trans l7.out)
  clear L6 l7
  go_wp2_with (go_at_call 10; refine (hn.out _ _).mono ?_; rintro e W ⟨rfl, hw⟩; subst hw)
  go_ret
  exact ⟨rfl, by first | exact La L7.out | exact L7.out⟩
theorem walk (a b : Int) (w : World) : Calls Try.prog 3 #[.int .i64 a, .int .i64 b] w fun e w' => e = .returned (.bool true) ∧ Later w w' := by
  obtain ⟨k, hk, hk1⟩ := by11 a
  obtain ⟨j, hj, hj1⟩ : ∃ j : Nat, bits .and .i64 b 7 = (j : Int) ∧ j < 8 := by have t := and_m b 3 (by decide); simpa using t
  have hd : wrap64 (1 + bits .and .i64 b 7) = ((1 + j : Nat) : Int) := by rw [hj]; unfold wrap64; omega
  by_cases h8 : k = 8
  · subst h8
    exact core8 a b 9 (1 + j) hk rfl hd (by decide) (by decide) (by omega) w
  · exact core a b k (1 + j) hk hd hk1 h8 (by omega) w

set_option maxRecDepth 100000 in
theorem lifted (os : Os) (started : os.Started) (H : Type) (enc : TypeId × Value → H) :
    ReturnsInHanded {} Try.checked os 3 .any (Rows.decodeSizesSpec.pre6 enc Try.prog Try.f3 Rows.decodeSizesRow.domain false) (Rows.decodeSizesSpec.post enc Try.prog Try.f3 false true false false) := by
  refine returnsInHanded_of_change_sized (C := Try.checked) own started (by kernel_rfl) Try.func3
    (ChangeSpec.witness6 (enc := enc) (C := Try.checked) false ⟨#[], #[.int .i64 0, .int .i64 0], []⟩ 8 (by kernel_rfl) (by kernel_rfl) (by kernel_rfl) (by kernel_rfl)) ?_
  intro W base args ds gs before hval0 hW _ _ _
  have hval : ∀ (j : Nat) t v, Try.f3.params[j]? = some t → args[j]? = some v → Value.okWide Try.prog W .any base t v := hval0
  have hW' := hW
  obtain ⟨p, q, hA0, hV, rfl, hfz, hnd⟩ := hW
  have hA : DataW.TrodAll enc Try.prog W 0 (fun _ => true) true Try.f3.params.toList args.toList ds p := hA0
  rw [Try.params3] at hA hval
  obtain ⟨v0, vs0, d0, ds0, p0, q0, hargs, rfl, rfl, h0, r0⟩ := trodAll_cons hA
  obtain ⟨v1, vs1, d1, ds1, p1, q1, rfl, rfl, rfl, h1, r1⟩ := trodAll_cons r0
  obtain ⟨rfl, rfl, rfl⟩ := trodAll_nil r1
  obtain rfl : args = #[v0, v1] := by cases args; simp_all
  obtain ⟨rfl, rfl⟩ := trodVars_none hV
  obtain ⟨a0, rfl, rfl, rfl, w0⟩ := open_int Try.underlying3 (hval 0 3 v0 rfl rfl) h0
  obtain ⟨a1, rfl, rfl, rfl, w1⟩ := open_int Try.underlying3 (hval 1 3 v1 rfl rfl) h1
  clear hA0 hval0
  simp only [List.append_nil, List.nil_append] at hW'
  have hlt : ∀ x ∈ ([] : List MemPlace), x.block < W.heap.size := fun x hx => by simpa using hW'.lt x hx
  refine (walk a0 a1 W ).mono fun e W' ⟨he, hl⟩ => ?_
  subst he
  have hbel : Below W.heap.size W W' := by obtain ⟨bs, nn, rfl⟩ := hl; exact ⟨rfl, rfl, rfl, by rw [World.far_size]; omega, fun k hk => World.far_block W bs nn k hk⟩
  have hx : ∀ sp : Nat → Bool, (∀ p ∈ ([] : List MemPlace), sp p.block = true) → DataW.TrodAll enc Try.prog W' 0 sp true [3, 3] [.int .i64 a0, .int .i64 a1] [.lit (.int .i64 a0), .lit (.int .i64 a1)] (([] : List MemPlace)) := fun sp hsp => by simpa using (trodAll_cons_mk (shut_int Try.underlying3 w0) (trodAll_cons_mk (shut_int Try.underlying3 w1) trodAll_mk0))
  exact ⟨_, rfl, post_none hW' (fun _ _ _ => (trodAll_cons_mk (shut_bool Try.underlying4 _) trodAll_mk0)) (fun sp => hx sp (fun p hp => absurd hp List.not_mem_nil)) (fun _ => rfl) (hbel.frame _) (ok_one (by kernel_rfl) rfl (okWide_bool_mk Try.underlying4 _))⟩

theorem over : Rows.decodeSizesRow.holds Try.pinned (OpenSpec.ofChange Rows.decodeSizesSpec) :=
  OpenClaim.holds_of_wide 3 Try.f3 rfl rfl rfl rfl rfl rfl rfl ⟨rfl, rfl, rfl, rfl, rfl⟩ rfl rfl rfl rfl rfl (by kernel_rfl) Try.func3 (by kernel_rfl)
    (of_decide_eq_true (by kernel_rfl)) (by unfold Func.isWrapper; first | (rw [if_pos (by decide +kernel)]; kernel_rfl) | (rw [if_neg (by decide +kernel)]; exact ⟨rfl, rfl⟩))
    (fun os started H enc _ => lifted os started H enc)


theorem proved : Rows.DecodeSizesSaid := over
end Go.Proofs.Ytngciahmoenkiab.decodeSizes
namespace Go.Proofs.Ytngciahmoenkiab
theorem decodeSizes_holds : Rows.DecodeSizesSaid := decodeSizes.proved
#print axioms decodeSizes_holds
end Go.Proofs.Ytngciahmoenkiab
