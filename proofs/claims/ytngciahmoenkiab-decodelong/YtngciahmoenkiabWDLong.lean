/- 'DecodeLong' of package peloruslaw15 returns true at every two ints: a count over the most is refused with 1508, and so is a text over 65536 bytes. No condition. -/
import Derived.Test.YtngciahmoenkiabFC
import Derived.Test.YtngciahmoenkiabFE
import Derived.LoopTactic
import Derived.OpenShut
import Derived.ChangeMaps5
import Derived.ShutString
import Derived.SizedLaws
set_option linter.unusedVariables false
set_option linter.unusedSimpArgs false
set_option maxRecDepth 100000
set_option maxHeartbeats 8000000
namespace Go.Proofs.Ytngciahmoenkiab.decodeLong
open Go.ChangeShapes Go.WideShapes Go.ChangeAt Go.RowKit
theorem sec_size (id : Int) (b : ByteArray) (h : b.size < 1000000) : (secB id b).size < 2000000 := by
  unfold secB
  have := lebL_max (b.size : Int)
  rw [ByteArray.size_append, ByteArray.size_append, strOfNums_size, strOfNums_size]
  simp only [List.length_cons, List.length_nil]
  omega
theorem leb_size (y : Int) : (strOfNums (lebL y)).size < 1000000 := by
  rw [strOfNums_size]
  have := lebL_max y
  omega
theorem l1a (a b : Int) (k j i N : Nat) (hk : wrap64 (1 + wrap64 ((IntKind.u64.wrap a).tmod 11)) = 1) (hj : wrap64 (257 + bits .and .i64 b 1023) = ((257 + j : Nat) : Int)) (hj1 : j < 1024) (hi : wrap64 (65523 + bits .and .i64 b 3) = (N : Int)) (hN : N = 65523 + i) (hi1 : i = 0) (w : World) :
    Calls Try.prog 4 #[.int .i64 a, .int .i64 b] w fun e w' => e = .returned (.bool true) ∧ Later w w' := by
  replace hk : Hid _ := hk
  replace hj : Hid _ := hj
  replace hi : Hid _ := hi
  obtain ⟨y, hy⟩ : ∃ y : Int, y = ((257 + j : Nat) : Int) := ⟨_, rfl⟩
  rw [← hy] at hj
  have r1 : (unM (hd8 ++ secB ((1 : Nat) : Int) (strOfNums (lebL y)))).2 = 1508 := by rw [un_long 1 (by decide) (by decide) y (by omega) (by simp [mo]; omega)]
  have r2 : (unM (hd8 ++ secB ((1 : Nat) : Int) (strOfNums (lebL 256)))).2 = 1506 := (by have t := un_most ⟨1, by decide⟩ (by decide) (by decide); simpa [mo] using t)
  obtain ⟨z3, r3⟩ := un_big i N (by omega) hN
  rw [if_pos hi1] at r3
  have zl1 := leb_size y
  have zl2 := leb_size 256
  have z1 := sec_size ((1 : Nat) : Int) (strOfNums (lebL y)) zl1
  have z2 := sec_size ((1 : Nat) : Int) (strOfNums (lebL 256)) zl2
  have zz := zb_size N
  have hl1 : Hid (∀ W : World, Calls Try.prog 11 #[.int .i64 y] W fun e w' => e = .returned (.string (strOfNums (lebL y))) ∧ Later W w') := fun W => leb_any y W
  have hl2 : Hid (∀ W : World, Calls Try.prog 11 #[.int .i64 256] W fun e w' => e = .returned (.string (strOfNums (lebL 256))) ∧ Later W w') := fun W => leb_any 256 W
  have hc1 : Hid (∀ W, Calls Try.prog 9 #[.int .i64 1, .string (strOfNums (lebL y))] W fun e w' => e = .returned (.string (secB ((1 : Nat) : Int) (strOfNums (lebL y)))) ∧ Later W w') := section_any 1 (by omega) _ (by omega)
  have hc2 : Hid (∀ W, Calls Try.prog 9 #[.int .i64 1, .string (strOfNums (lebL 256))] W fun e w' => e = .returned (.string (secB ((1 : Nat) : Int) (strOfNums (lebL 256)))) ∧ Later W w') := section_any 1 (by omega) _ (by omega)
  have hc3 : Hid (∀ W, Calls Try.prog 9 #[.int .i64 0, .string (⟨#[0]⟩ ++ zb N)] W fun e w' => e = .returned (.string (secB ((0 : Nat) : Int) (⟨#[0]⟩ ++ zb N))) ∧ Later W w') := section_any 0 (by omega) _ (by rw [ByteArray.size_append, zb_size]; show 1 + N < _; omega)
  have hm1 : Hid (∀ W, Calls Try.prog 8 #[.string (hd8 ++ secB ((1 : Nat) : Int) (strOfNums (lebL y)))] W (DcP W 1508)) := dm_code (by rw [ByteArray.size_append]; show 8 + _ < _; omega) r1
  have hm2 : Hid (∀ W, Calls Try.prog 8 #[.string (hd8 ++ secB ((1 : Nat) : Int) (strOfNums (lebL 256)))] W (DcP W 1506)) := dm_code (by rw [ByteArray.size_append]; show 8 + _ < _; omega) r2
  have hm3 : Hid (∀ W, Calls Try.prog 8 #[.string (hd8 ++ secB ((0 : Nat) : Int) (⟨#[0]⟩ ++ zb N))] W (DcP W 0)) := dm_code (by omega) r3
  have z4 : 8 + (secB ((0 : Nat) : Int) (⟨#[0]⟩ ++ zb N)).size = 65536 + i := by rw [← z3, ByteArray.size_append]; rfl
  have q1 : ¬ 9223372036854775807 < 8 + (secB ((1 : Nat) : Int) (strOfNums (lebL y))).size := by omega
  have q2 : ¬ 9223372036854775807 < 8 + (secB ((1 : Nat) : Int) (strOfNums (lebL 256))).size := by omega
  have q3 : ¬ 9223372036854775807 < 8 + (secB ((0 : Nat) : Int) (⟨#[0]⟩ ++ zb N)).size := by omega
  have q5 : ¬ 9223372036854775807 < 1 + (zb N).size := by omega
  have mk : ∀ W : World, (Instr.makeSlice 39 (.int .i64 (N : Int)) (.int .i64 (N : Int))).run Try.prog W = .ok (.slice (some ⟨W.heap.size, 0, none⟩) N N) (W.alloc (.cells (zcs N) 5)) := mk_z N (by omega)
  have cz : ∀ (W : World) (g : Nat), g = W.heap.size → (convert 39 9 (.slice (some ⟨g, 0, none⟩) N N)).run Try.prog (W.alloc (.cells (zcs N) 5)) = .ok (.string (zb N)) (W.alloc (.cells (zcs N) 5)) := fun W g hg => by subst hg; exact conv_z N (Lz _)
  have hn : Hid (∀ x W, Calls Try.prog 10 #[.int .i64 x] W fun e w' => e = .returned (.int .i64 x) ∧ w' = W) := lnum_any
  generalize secB ((1 : Nat) : Int) (strOfNums (lebL y)) = S1 at *
  generalize secB ((1 : Nat) : Int) (strOfNums (lebL 256)) = S2 at *
  generalize secB ((0 : Nat) : Int) (⟨#[0]⟩ ++ zb N) = S3 at *
  generalize strOfNums (lebL y) = S4 at *
  generalize strOfNums (lebL 256) = S5 at *
  generalize zb N = S6 at *
  generalize zcs N = Zc at *
  have s1 : 8 + S3.size ≤ 65536 := by omega
  have s2 : (8 + S3.size : Int) ≤ 65536 := by omega
  have s3 : (((hd8 ++ S3).size : Nat) : Int) ≤ 65536 := by omega
  have s5 : decide ((8 : Int) + (S3.size : Int) ≤ 65536) = true := decide_eq_true (by omega)
  have s4 : ¬ 65536 < 8 + S3.size := by omega
  clear r1 r2 r3 z1 z2 z3 z4 zz zl1 zl2 hj1 hi1 hN hy
  replace hk := hk.out
  replace hj := hj.out
  replace hi := hi.out
  go_enter Try.func4, Try.ntmps4
  go_wp2_with (go_at_call 7; refine (awake_any _).mono ?_; rintro e w0 ⟨rfl, l0⟩; replace l0 : Hid (Later w w0) := l0.out)
  refine (hl1.out _).mono ?_
  clear hl1
  rintro e w1 ⟨rfl, l1⟩
  have L1 : Hid (Later w w1) := (by first | exact l0.out.trans l1 | exact (La l0.out).trans l1 | exact (La (La l0.out)).trans l1)
  clear l0 l1
  go_wp2_with fail
  refine (hc1.out _).mono ?_
  clear hc1
  rintro e w2 ⟨rfl, l2⟩
  have L2 : Hid (Later w w2) := (by first | exact L1.out.trans l2 | exact (La L1.out).trans l2 | exact (La (La L1.out)).trans l2)
  clear L1 l2
  go_wp2_with fail
  refine (hm1.out _).mono ?_
  clear hm1
  rintro e w3 ⟨A3, n3, c3, st3, rfl, l3⟩
  have L3 : Hid (Later w w3) := (by first | exact L2.out.trans l3.out | exact (La L2.out).trans l3.out | exact (La (La L2.out)).trans l3.out)
  clear L2 l3
  go_wp2_with fail
  refine (hl2.out _).mono ?_
  clear hl2
  rintro e w4 ⟨rfl, l4⟩
  have L4 : Hid (Later w w4) := (by first | exact L3.out.trans l4 | exact (La L3.out).trans l4 | exact (La (La L3.out)).trans l4)
  clear L3 l4
  go_wp2_with fail
  refine (hc2.out _).mono ?_
  clear hc2
  rintro e w5 ⟨rfl, l5⟩
  have L5 : Hid (Later w w5) := (by first | exact L4.out.trans l5 | exact (La L4.out).trans l5 | exact (La (La L4.out)).trans l5)
  clear L4 l5
  go_wp2_with fail
  refine (hm2.out _).mono ?_
  clear hm2
  rintro e w6 ⟨A6, n6, c6, st6, rfl, l6⟩
  have L6 : Hid (Later w w6) := (by first | exact L5.out.trans l6.out | exact (La L5.out).trans l6.out | exact (La (La L5.out)).trans l6.out)
  clear L5 l6
  go_wp2_with fail
  refine (hc3.out _).mono ?_
  clear hc3
  rintro e w7 ⟨rfl, l7⟩
  have L7 : Hid (Later w w7) := (by first | exact L6.out.trans l7 | exact (La L6.out).trans l7 | exact (La (La L6.out)).trans l7)
  clear L6 l7
  go_wp2_with fail
  refine (hm3.out _).mono ?_
  clear hm3
  rintro e w8 ⟨A8, n8, c8, st8, rfl, l8⟩
  have L8 : Hid (Later w w8) := (by first | exact L7.out.trans l8.out | exact (La L7.out).trans l8.out | exact (La (La L7.out)).trans l8.out)
  clear L7 l8
  go_wp2_with (go_at_call 10; refine (hn.out _ _).mono ?_; rintro e W ⟨rfl, hw⟩; subst hw)
  go_ret
  exact ⟨by first | rfl | exact congrArg (fun t => Ending.returned (.bool (!t))) s5 | exact congrArg (fun t => Ending.returned (.bool t)) s5, by first | exact La L8.out | exact L8.out⟩
theorem l1b (a b : Int) (k j i N : Nat) (hk : wrap64 (1 + wrap64 ((IntKind.u64.wrap a).tmod 11)) = 1) (hj : wrap64 (257 + bits .and .i64 b 1023) = ((257 + j : Nat) : Int)) (hj1 : j < 1024) (hi : wrap64 (65523 + bits .and .i64 b 3) = (N : Int)) (hN : N = 65523 + i) (hi1 : 1 ≤ i ∧ i < 4) (w : World) :
    Calls Try.prog 4 #[.int .i64 a, .int .i64 b] w fun e w' => e = .returned (.bool true) ∧ Later w w' := by
  replace hk : Hid _ := hk
  replace hj : Hid _ := hj
  replace hi : Hid _ := hi
  obtain ⟨y, hy⟩ : ∃ y : Int, y = ((257 + j : Nat) : Int) := ⟨_, rfl⟩
  rw [← hy] at hj
  have r1 : (unM (hd8 ++ secB ((1 : Nat) : Int) (strOfNums (lebL y)))).2 = 1508 := by rw [un_long 1 (by decide) (by decide) y (by omega) (by simp [mo]; omega)]
  have r2 : (unM (hd8 ++ secB ((1 : Nat) : Int) (strOfNums (lebL 256)))).2 = 1506 := (by have t := un_most ⟨1, by decide⟩ (by decide) (by decide); simpa [mo] using t)
  obtain ⟨z3, r3⟩ := un_big i N (by omega) hN
  rw [if_neg (by omega)] at r3
  have zl1 := leb_size y
  have zl2 := leb_size 256
  have z1 := sec_size ((1 : Nat) : Int) (strOfNums (lebL y)) zl1
  have z2 := sec_size ((1 : Nat) : Int) (strOfNums (lebL 256)) zl2
  have zz := zb_size N
  have hl1 : Hid (∀ W : World, Calls Try.prog 11 #[.int .i64 y] W fun e w' => e = .returned (.string (strOfNums (lebL y))) ∧ Later W w') := fun W => leb_any y W
  have hl2 : Hid (∀ W : World, Calls Try.prog 11 #[.int .i64 256] W fun e w' => e = .returned (.string (strOfNums (lebL 256))) ∧ Later W w') := fun W => leb_any 256 W
  have hc1 : Hid (∀ W, Calls Try.prog 9 #[.int .i64 1, .string (strOfNums (lebL y))] W fun e w' => e = .returned (.string (secB ((1 : Nat) : Int) (strOfNums (lebL y)))) ∧ Later W w') := section_any 1 (by omega) _ (by omega)
  have hc2 : Hid (∀ W, Calls Try.prog 9 #[.int .i64 1, .string (strOfNums (lebL 256))] W fun e w' => e = .returned (.string (secB ((1 : Nat) : Int) (strOfNums (lebL 256)))) ∧ Later W w') := section_any 1 (by omega) _ (by omega)
  have hc3 : Hid (∀ W, Calls Try.prog 9 #[.int .i64 0, .string (⟨#[0]⟩ ++ zb N)] W fun e w' => e = .returned (.string (secB ((0 : Nat) : Int) (⟨#[0]⟩ ++ zb N))) ∧ Later W w') := section_any 0 (by omega) _ (by rw [ByteArray.size_append, zb_size]; show 1 + N < _; omega)
  have hm1 : Hid (∀ W, Calls Try.prog 8 #[.string (hd8 ++ secB ((1 : Nat) : Int) (strOfNums (lebL y)))] W (DcP W 1508)) := dm_code (by rw [ByteArray.size_append]; show 8 + _ < _; omega) r1
  have hm2 : Hid (∀ W, Calls Try.prog 8 #[.string (hd8 ++ secB ((1 : Nat) : Int) (strOfNums (lebL 256)))] W (DcP W 1506)) := dm_code (by rw [ByteArray.size_append]; show 8 + _ < _; omega) r2
  have hm3 : Hid (∀ W, Calls Try.prog 8 #[.string (hd8 ++ secB ((0 : Nat) : Int) (⟨#[0]⟩ ++ zb N))] W (DcP W 1508)) := dm_code (by omega) r3
  have z4 : 8 + (secB ((0 : Nat) : Int) (⟨#[0]⟩ ++ zb N)).size = 65536 + i := by rw [← z3, ByteArray.size_append]; rfl
  have q1 : ¬ 9223372036854775807 < 8 + (secB ((1 : Nat) : Int) (strOfNums (lebL y))).size := by omega
  have q2 : ¬ 9223372036854775807 < 8 + (secB ((1 : Nat) : Int) (strOfNums (lebL 256))).size := by omega
  have q3 : ¬ 9223372036854775807 < 8 + (secB ((0 : Nat) : Int) (⟨#[0]⟩ ++ zb N)).size := by omega
  have q5 : ¬ 9223372036854775807 < 1 + (zb N).size := by omega
  have mk : ∀ W : World, (Instr.makeSlice 39 (.int .i64 (N : Int)) (.int .i64 (N : Int))).run Try.prog W = .ok (.slice (some ⟨W.heap.size, 0, none⟩) N N) (W.alloc (.cells (zcs N) 5)) := mk_z N (by omega)
  have cz : ∀ (W : World) (g : Nat), g = W.heap.size → (convert 39 9 (.slice (some ⟨g, 0, none⟩) N N)).run Try.prog (W.alloc (.cells (zcs N) 5)) = .ok (.string (zb N)) (W.alloc (.cells (zcs N) 5)) := fun W g hg => by subst hg; exact conv_z N (Lz _)
  have hn : Hid (∀ x W, Calls Try.prog 10 #[.int .i64 x] W fun e w' => e = .returned (.int .i64 x) ∧ w' = W) := lnum_any
  generalize secB ((1 : Nat) : Int) (strOfNums (lebL y)) = S1 at *
  generalize secB ((1 : Nat) : Int) (strOfNums (lebL 256)) = S2 at *
  generalize secB ((0 : Nat) : Int) (⟨#[0]⟩ ++ zb N) = S3 at *
  generalize strOfNums (lebL y) = S4 at *
  generalize strOfNums (lebL 256) = S5 at *
  generalize zb N = S6 at *
  generalize zcs N = Zc at *
  have s1 : ¬ 8 + S3.size ≤ 65536 := by omega
  have s2 : ¬ (8 + S3.size : Int) ≤ 65536 := by omega
  have s3 : ¬ (((hd8 ++ S3).size : Nat) : Int) ≤ 65536 := by omega
  have s5 : decide ((8 : Int) + (S3.size : Int) ≤ 65536) = false := decide_eq_false (by omega)
  have s4 : 65536 < 8 + S3.size := by omega
  clear r1 r2 r3 z1 z2 z3 z4 zz zl1 zl2 hj1 hi1 hN hy
  replace hk := hk.out
  replace hj := hj.out
  replace hi := hi.out
  go_enter Try.func4, Try.ntmps4
  go_wp2_with (go_at_call 7; refine (awake_any _).mono ?_; rintro e w0 ⟨rfl, l0⟩; replace l0 : Hid (Later w w0) := l0.out)
  refine (hl1.out _).mono ?_
  clear hl1
  rintro e w1 ⟨rfl, l1⟩
  have L1 : Hid (Later w w1) := (by first | exact l0.out.trans l1 | exact (La l0.out).trans l1 | exact (La (La l0.out)).trans l1)
  clear l0 l1
  go_wp2_with fail
  refine (hc1.out _).mono ?_
  clear hc1
  rintro e w2 ⟨rfl, l2⟩
  have L2 : Hid (Later w w2) := (by first | exact L1.out.trans l2 | exact (La L1.out).trans l2 | exact (La (La L1.out)).trans l2)
  clear L1 l2
  go_wp2_with fail
  refine (hm1.out _).mono ?_
  clear hm1
  rintro e w3 ⟨A3, n3, c3, st3, rfl, l3⟩
  have L3 : Hid (Later w w3) := (by first | exact L2.out.trans l3.out | exact (La L2.out).trans l3.out | exact (La (La L2.out)).trans l3.out)
  clear L2 l3
  go_wp2_with fail
  refine (hl2.out _).mono ?_
  clear hl2
  rintro e w4 ⟨rfl, l4⟩
  have L4 : Hid (Later w w4) := (by first | exact L3.out.trans l4 | exact (La L3.out).trans l4 | exact (La (La L3.out)).trans l4)
  clear L3 l4
  go_wp2_with fail
  refine (hc2.out _).mono ?_
  clear hc2
  rintro e w5 ⟨rfl, l5⟩
  have L5 : Hid (Later w w5) := (by first | exact L4.out.trans l5 | exact (La L4.out).trans l5 | exact (La (La L4.out)).trans l5)
  clear L4 l5
  go_wp2_with fail
  refine (hm2.out _).mono ?_
  clear hm2
  rintro e w6 ⟨A6, n6, c6, st6, rfl, l6⟩
  have L6 : Hid (Later w w6) := (by first | exact L5.out.trans l6.out | exact (La L5.out).trans l6.out | exact (La (La L5.out)).trans l6.out)
  clear L5 l6
  go_wp2_with fail
  refine (hc3.out _).mono ?_
  clear hc3
  rintro e w7 ⟨rfl, l7⟩
  have L7 : Hid (Later w w7) := (by first | exact L6.out.trans l7 | exact (La L6.out).trans l7 | exact (La (La L6.out)).trans l7)
  clear L6 l7
  go_wp2_with fail
  refine (hm3.out _).mono ?_
  clear hm3
  rintro e w8 ⟨A8, n8, c8, st8, rfl, l8⟩
  have L8 : Hid (Later w w8) := (by first | exact L7.out.trans l8.out | exact (La L7.out).trans l8.out | exact (La (La L7.out)).trans l8.out)
  clear L7 l8
  go_wp2_with (go_at_call 10; refine (hn.out _ _).mono ?_; rintro e W ⟨rfl, hw⟩; subst hw)
  go_ret
  exact ⟨by first | rfl | exact congrArg (fun t => Ending.returned (.bool (!t))) s5 | exact congrArg (fun t => Ending.returned (.bool t)) s5, by first | exact La L8.out | exact L8.out⟩
theorem l3a (a b : Int) (k j i N : Nat) (hk : wrap64 (1 + wrap64 ((IntKind.u64.wrap a).tmod 11)) = 3) (hj : wrap64 (257 + bits .and .i64 b 1023) = ((257 + j : Nat) : Int)) (hj1 : j < 1024) (hi : wrap64 (65523 + bits .and .i64 b 3) = (N : Int)) (hN : N = 65523 + i) (hi1 : i = 0) (w : World) :
    Calls Try.prog 4 #[.int .i64 a, .int .i64 b] w fun e w' => e = .returned (.bool true) ∧ Later w w' := by
  replace hk : Hid _ := hk
  replace hj : Hid _ := hj
  replace hi : Hid _ := hi
  obtain ⟨y, hy⟩ : ∃ y : Int, y = ((257 + j : Nat) : Int) := ⟨_, rfl⟩
  rw [← hy] at hj
  have r1 : (unM (hd8 ++ secB ((3 : Nat) : Int) (strOfNums (lebL y)))).2 = 1508 := by rw [un_long 3 (by decide) (by decide) y (by omega) (by simp [mo]; omega)]
  have r2 : (unM (hd8 ++ secB ((3 : Nat) : Int) (strOfNums (lebL 256)))).2 = 1506 := (by have t := un_most ⟨3, by decide⟩ (by decide) (by decide); simpa [mo] using t)
  obtain ⟨z3, r3⟩ := un_big i N (by omega) hN
  rw [if_pos hi1] at r3
  have zl1 := leb_size y
  have zl2 := leb_size 256
  have z1 := sec_size ((3 : Nat) : Int) (strOfNums (lebL y)) zl1
  have z2 := sec_size ((3 : Nat) : Int) (strOfNums (lebL 256)) zl2
  have zz := zb_size N
  have hl1 : Hid (∀ W : World, Calls Try.prog 11 #[.int .i64 y] W fun e w' => e = .returned (.string (strOfNums (lebL y))) ∧ Later W w') := fun W => leb_any y W
  have hl2 : Hid (∀ W : World, Calls Try.prog 11 #[.int .i64 256] W fun e w' => e = .returned (.string (strOfNums (lebL 256))) ∧ Later W w') := fun W => leb_any 256 W
  have hc1 : Hid (∀ W, Calls Try.prog 9 #[.int .i64 3, .string (strOfNums (lebL y))] W fun e w' => e = .returned (.string (secB ((3 : Nat) : Int) (strOfNums (lebL y)))) ∧ Later W w') := section_any 3 (by omega) _ (by omega)
  have hc2 : Hid (∀ W, Calls Try.prog 9 #[.int .i64 3, .string (strOfNums (lebL 256))] W fun e w' => e = .returned (.string (secB ((3 : Nat) : Int) (strOfNums (lebL 256)))) ∧ Later W w') := section_any 3 (by omega) _ (by omega)
  have hc3 : Hid (∀ W, Calls Try.prog 9 #[.int .i64 0, .string (⟨#[0]⟩ ++ zb N)] W fun e w' => e = .returned (.string (secB ((0 : Nat) : Int) (⟨#[0]⟩ ++ zb N))) ∧ Later W w') := section_any 0 (by omega) _ (by rw [ByteArray.size_append, zb_size]; show 1 + N < _; omega)
  have hm1 : Hid (∀ W, Calls Try.prog 8 #[.string (hd8 ++ secB ((3 : Nat) : Int) (strOfNums (lebL y)))] W (DcP W 1508)) := dm_code (by rw [ByteArray.size_append]; show 8 + _ < _; omega) r1
  have hm2 : Hid (∀ W, Calls Try.prog 8 #[.string (hd8 ++ secB ((3 : Nat) : Int) (strOfNums (lebL 256)))] W (DcP W 1506)) := dm_code (by rw [ByteArray.size_append]; show 8 + _ < _; omega) r2
  have hm3 : Hid (∀ W, Calls Try.prog 8 #[.string (hd8 ++ secB ((0 : Nat) : Int) (⟨#[0]⟩ ++ zb N))] W (DcP W 0)) := dm_code (by omega) r3
  have z4 : 8 + (secB ((0 : Nat) : Int) (⟨#[0]⟩ ++ zb N)).size = 65536 + i := by rw [← z3, ByteArray.size_append]; rfl
  have q1 : ¬ 9223372036854775807 < 8 + (secB ((3 : Nat) : Int) (strOfNums (lebL y))).size := by omega
  have q2 : ¬ 9223372036854775807 < 8 + (secB ((3 : Nat) : Int) (strOfNums (lebL 256))).size := by omega
  have q3 : ¬ 9223372036854775807 < 8 + (secB ((0 : Nat) : Int) (⟨#[0]⟩ ++ zb N)).size := by omega
  have q5 : ¬ 9223372036854775807 < 1 + (zb N).size := by omega
  have mk : ∀ W : World, (Instr.makeSlice 39 (.int .i64 (N : Int)) (.int .i64 (N : Int))).run Try.prog W = .ok (.slice (some ⟨W.heap.size, 0, none⟩) N N) (W.alloc (.cells (zcs N) 5)) := mk_z N (by omega)
  have cz : ∀ (W : World) (g : Nat), g = W.heap.size → (convert 39 9 (.slice (some ⟨g, 0, none⟩) N N)).run Try.prog (W.alloc (.cells (zcs N) 5)) = .ok (.string (zb N)) (W.alloc (.cells (zcs N) 5)) := fun W g hg => by subst hg; exact conv_z N (Lz _)
  have hn : Hid (∀ x W, Calls Try.prog 10 #[.int .i64 x] W fun e w' => e = .returned (.int .i64 x) ∧ w' = W) := lnum_any
  generalize secB ((3 : Nat) : Int) (strOfNums (lebL y)) = S1 at *
  generalize secB ((3 : Nat) : Int) (strOfNums (lebL 256)) = S2 at *
  generalize secB ((0 : Nat) : Int) (⟨#[0]⟩ ++ zb N) = S3 at *
  generalize strOfNums (lebL y) = S4 at *
  generalize strOfNums (lebL 256) = S5 at *
  generalize zb N = S6 at *
  generalize zcs N = Zc at *
  have s1 : 8 + S3.size ≤ 65536 := by omega
  have s2 : (8 + S3.size : Int) ≤ 65536 := by omega
  have s3 : (((hd8 ++ S3).size : Nat) : Int) ≤ 65536 := by omega
  have s5 : decide ((8 : Int) + (S3.size : Int) ≤ 65536) = true := decide_eq_true (by omega)
  have s4 : ¬ 65536 < 8 + S3.size := by omega
  clear r1 r2 r3 z1 z2 z3 z4 zz zl1 zl2 hj1 hi1 hN hy
  replace hk := hk.out
  replace hj := hj.out
  replace hi := hi.out
  go_enter Try.func4, Try.ntmps4
  go_wp2_with (go_at_call 7; refine (awake_any _).mono ?_; rintro e w0 ⟨rfl, l0⟩; replace l0 : Hid (Later w w0) := l0.out)
  refine (hl1.out _).mono ?_
  clear hl1
  rintro e w1 ⟨rfl, l1⟩
  have L1 : Hid (Later w w1) := (by first | exact l0.out.trans l1 | exact (La l0.out).trans l1 | exact (La (La l0.out)).trans l1)
  clear l0 l1
  go_wp2_with fail
  refine (hc1.out _).mono ?_
  clear hc1
  rintro e w2 ⟨rfl, l2⟩
  have L2 : Hid (Later w w2) := (by first | exact L1.out.trans l2 | exact (La L1.out).trans l2 | exact (La (La L1.out)).trans l2)
  clear L1 l2
  go_wp2_with fail
  refine (hm1.out _).mono ?_
  clear hm1
  rintro e w3 ⟨A3, n3, c3, st3, rfl, l3⟩
  have L3 : Hid (Later w w3) := (by first | exact L2.out.trans l3.out | exact (La L2.out).trans l3.out | exact (La (La L2.out)).trans l3.out)
  clear L2 l3
  go_wp2_with fail
  refine (hl2.out _).mono ?_
  clear hl2
  rintro e w4 ⟨rfl, l4⟩
  have L4 : Hid (Later w w4) := (by first | exact L3.out.trans l4 | exact (La L3.out).trans l4 | exact (La (La L3.out)).trans l4)
  clear L3 l4
  go_wp2_with fail
  refine (hc2.out _).mono ?_
  clear hc2
  rintro e w5 ⟨rfl, l5⟩
  have L5 : Hid (Later w w5) := (by first | exact L4.out.trans l5 | exact (La L4.out).trans l5 | exact (La (La L4.out)).trans l5)
  clear L4 l5
  go_wp2_with fail
  refine (hm2.out _).mono ?_
  clear hm2
  rintro e w6 ⟨A6, n6, c6, st6, rfl, l6⟩
  have L6 : Hid (Later w w6) := (by first | exact L5.out.trans l6.out | exact (La L5.out).trans l6.out | exact (La (La L5.out)).trans l6.out)
  clear L5 l6
  go_wp2_with fail
  refine (hc3.out _).mono ?_
  clear hc3
  rintro e w7 ⟨rfl, l7⟩
  have L7 : Hid (Later w w7) := (by first | exact L6.out.trans l7 | exact (La L6.out).trans l7 | exact (La (La L6.out)).trans l7)
  clear L6 l7
  go_wp2_with fail
  refine (hm3.out _).mono ?_
  clear hm3
  rintro e w8 ⟨A8, n8, c8, st8, rfl, l8⟩
  have L8 : Hid (Later w w8) := (by first | exact L7.out.trans l8.out | exact (La L7.out).trans l8.out | exact (La (La L7.out)).trans l8.out)
  clear L7 l8
  go_wp2_with (go_at_call 10; refine (hn.out _ _).mono ?_; rintro e W ⟨rfl, hw⟩; subst hw)
  go_ret
  exact ⟨by first | rfl | exact congrArg (fun t => Ending.returned (.bool (!t))) s5 | exact congrArg (fun t => Ending.returned (.bool t)) s5, by first | exact La L8.out | exact L8.out⟩
theorem l3b (a b : Int) (k j i N : Nat) (hk : wrap64 (1 + wrap64 ((IntKind.u64.wrap a).tmod 11)) = 3) (hj : wrap64 (257 + bits .and .i64 b 1023) = ((257 + j : Nat) : Int)) (hj1 : j < 1024) (hi : wrap64 (65523 + bits .and .i64 b 3) = (N : Int)) (hN : N = 65523 + i) (hi1 : 1 ≤ i ∧ i < 4) (w : World) :
    Calls Try.prog 4 #[.int .i64 a, .int .i64 b] w fun e w' => e = .returned (.bool true) ∧ Later w w' := by
  replace hk : Hid _ := hk
  replace hj : Hid _ := hj
  replace hi : Hid _ := hi
  obtain ⟨y, hy⟩ : ∃ y : Int, y = ((257 + j : Nat) : Int) := ⟨_, rfl⟩
  rw [← hy] at hj
  have r1 : (unM (hd8 ++ secB ((3 : Nat) : Int) (strOfNums (lebL y)))).2 = 1508 := by rw [un_long 3 (by decide) (by decide) y (by omega) (by simp [mo]; omega)]
  have r2 : (unM (hd8 ++ secB ((3 : Nat) : Int) (strOfNums (lebL 256)))).2 = 1506 := (by have t := un_most ⟨3, by decide⟩ (by decide) (by decide); simpa [mo] using t)
  obtain ⟨z3, r3⟩ := un_big i N (by omega) hN
  rw [if_neg (by omega)] at r3
  have zl1 := leb_size y
  have zl2 := leb_size 256
  have z1 := sec_size ((3 : Nat) : Int) (strOfNums (lebL y)) zl1
  have z2 := sec_size ((3 : Nat) : Int) (strOfNums (lebL 256)) zl2
  have zz := zb_size N
  have hl1 : Hid (∀ W : World, Calls Try.prog 11 #[.int .i64 y] W fun e w' => e = .returned (.string (strOfNums (lebL y))) ∧ Later W w') := fun W => leb_any y W
  have hl2 : Hid (∀ W : World, Calls Try.prog 11 #[.int .i64 256] W fun e w' => e = .returned (.string (strOfNums (lebL 256))) ∧ Later W w') := fun W => leb_any 256 W
  have hc1 : Hid (∀ W, Calls Try.prog 9 #[.int .i64 3, .string (strOfNums (lebL y))] W fun e w' => e = .returned (.string (secB ((3 : Nat) : Int) (strOfNums (lebL y)))) ∧ Later W w') := section_any 3 (by omega) _ (by omega)
  have hc2 : Hid (∀ W, Calls Try.prog 9 #[.int .i64 3, .string (strOfNums (lebL 256))] W fun e w' => e = .returned (.string (secB ((3 : Nat) : Int) (strOfNums (lebL 256)))) ∧ Later W w') := section_any 3 (by omega) _ (by omega)
  have hc3 : Hid (∀ W, Calls Try.prog 9 #[.int .i64 0, .string (⟨#[0]⟩ ++ zb N)] W fun e w' => e = .returned (.string (secB ((0 : Nat) : Int) (⟨#[0]⟩ ++ zb N))) ∧ Later W w') := section_any 0 (by omega) _ (by rw [ByteArray.size_append, zb_size]; show 1 + N < _; omega)
  have hm1 : Hid (∀ W, Calls Try.prog 8 #[.string (hd8 ++ secB ((3 : Nat) : Int) (strOfNums (lebL y)))] W (DcP W 1508)) := dm_code (by rw [ByteArray.size_append]; show 8 + _ < _; omega) r1
  have hm2 : Hid (∀ W, Calls Try.prog 8 #[.string (hd8 ++ secB ((3 : Nat) : Int) (strOfNums (lebL 256)))] W (DcP W 1506)) := dm_code (by rw [ByteArray.size_append]; show 8 + _ < _; omega) r2
  have hm3 : Hid (∀ W, Calls Try.prog 8 #[.string (hd8 ++ secB ((0 : Nat) : Int) (⟨#[0]⟩ ++ zb N))] W (DcP W 1508)) := dm_code (by omega) r3
  have z4 : 8 + (secB ((0 : Nat) : Int) (⟨#[0]⟩ ++ zb N)).size = 65536 + i := by rw [← z3, ByteArray.size_append]; rfl
  have q1 : ¬ 9223372036854775807 < 8 + (secB ((3 : Nat) : Int) (strOfNums (lebL y))).size := by omega
  have q2 : ¬ 9223372036854775807 < 8 + (secB ((3 : Nat) : Int) (strOfNums (lebL 256))).size := by omega
  have q3 : ¬ 9223372036854775807 < 8 + (secB ((0 : Nat) : Int) (⟨#[0]⟩ ++ zb N)).size := by omega
  have q5 : ¬ 9223372036854775807 < 1 + (zb N).size := by omega
  have mk : ∀ W : World, (Instr.makeSlice 39 (.int .i64 (N : Int)) (.int .i64 (N : Int))).run Try.prog W = .ok (.slice (some ⟨W.heap.size, 0, none⟩) N N) (W.alloc (.cells (zcs N) 5)) := mk_z N (by omega)
  have cz : ∀ (W : World) (g : Nat), g = W.heap.size → (convert 39 9 (.slice (some ⟨g, 0, none⟩) N N)).run Try.prog (W.alloc (.cells (zcs N) 5)) = .ok (.string (zb N)) (W.alloc (.cells (zcs N) 5)) := fun W g hg => by subst hg; exact conv_z N (Lz _)
  have hn : Hid (∀ x W, Calls Try.prog 10 #[.int .i64 x] W fun e w' => e = .returned (.int .i64 x) ∧ w' = W) := lnum_any
  generalize secB ((3 : Nat) : Int) (strOfNums (lebL y)) = S1 at *
  generalize secB ((3 : Nat) : Int) (strOfNums (lebL 256)) = S2 at *
  generalize secB ((0 : Nat) : Int) (⟨#[0]⟩ ++ zb N) = S3 at *
  generalize strOfNums (lebL y) = S4 at *
  generalize strOfNums (lebL 256) = S5 at *
  generalize zb N = S6 at *
  generalize zcs N = Zc at *
  have s1 : ¬ 8 + S3.size ≤ 65536 := by omega
  have s2 : ¬ (8 + S3.size : Int) ≤ 65536 := by omega
  have s3 : ¬ (((hd8 ++ S3).size : Nat) : Int) ≤ 65536 := by omega
  have s5 : decide ((8 : Int) + (S3.size : Int) ≤ 65536) = false := decide_eq_false (by omega)
  have s4 : 65536 < 8 + S3.size := by omega
  clear r1 r2 r3 z1 z2 z3 z4 zz zl1 zl2 hj1 hi1 hN hy
  replace hk := hk.out
  replace hj := hj.out
  replace hi := hi.out
  go_enter Try.func4, Try.ntmps4
  go_wp2_with (go_at_call 7; refine (awake_any _).mono ?_; rintro e w0 ⟨rfl, l0⟩; replace l0 : Hid (Later w w0) := l0.out)
  refine (hl1.out _).mono ?_
  clear hl1
  rintro e w1 ⟨rfl, l1⟩
  have L1 : Hid (Later w w1) := (by first | exact l0.out.trans l1 | exact (La l0.out).trans l1 | exact (La (La l0.out)).trans l1)
  clear l0 l1
  go_wp2_with fail
  refine (hc1.out _).mono ?_
  clear hc1
  rintro e w2 ⟨rfl, l2⟩
  have L2 : Hid (Later w w2) := (by first | exact L1.out.trans l2 | exact (La L1.out).trans l2 | exact (La (La L1.out)).trans l2)
  clear L1 l2
  go_wp2_with fail
  refine (hm1.out _).mono ?_
  clear hm1
  rintro e w3 ⟨A3, n3, c3, st3, rfl, l3⟩
  have L3 : Hid (Later w w3) := (by first | exact L2.out.trans l3.out | exact (La L2.out).trans l3.out | exact (La (La L2.out)).trans l3.out)
  clear L2 l3
  go_wp2_with fail
  refine (hl2.out _).mono ?_
  clear hl2
  rintro e w4 ⟨rfl, l4⟩
  have L4 : Hid (Later w w4) := (by first | exact L3.out.trans l4 | exact (La L3.out).trans l4 | exact (La (La L3.out)).trans l4)
  clear L3 l4
  go_wp2_with fail
  refine (hc2.out _).mono ?_
  clear hc2
  rintro e w5 ⟨rfl, l5⟩
  have L5 : Hid (Later w w5) := (by first | exact L4.out.trans l5 | exact (La L4.out).trans l5 | exact (La (La L4.out)).trans l5)
  clear L4 l5
  go_wp2_with fail
  refine (hm2.out _).mono ?_
  clear hm2
  rintro e w6 ⟨A6, n6, c6, st6, rfl, l6⟩
  have L6 : Hid (Later w w6) := (by first | exact L5.out.trans l6.out | exact (La L5.out).trans l6.out | exact (La (La L5.out)).trans l6.out)
  clear L5 l6
  go_wp2_with fail
  refine (hc3.out _).mono ?_
  clear hc3
  rintro e w7 ⟨rfl, l7⟩
  have L7 : Hid (Later w w7) := (by first | exact L6.out.trans l7 | exact (La L6.out).trans l7 | exact (La (La L6.out)).trans l7)
  clear L6 l7
  go_wp2_with fail
  refine (hm3.out _).mono ?_
  clear hm3
  rintro e w8 ⟨A8, n8, c8, st8, rfl, l8⟩
  have L8 : Hid (Later w w8) := (by first | exact L7.out.trans l8.out | exact (La L7.out).trans l8.out | exact (La (La L7.out)).trans l8.out)
  clear L7 l8
  go_wp2_with (go_at_call 10; refine (hn.out _ _).mono ?_; rintro e W ⟨rfl, hw⟩; subst hw)
  go_ret
  exact ⟨by first | rfl | exact congrArg (fun t => Ending.returned (.bool (!t))) s5 | exact congrArg (fun t => Ending.returned (.bool t)) s5, by first | exact La L8.out | exact L8.out⟩
theorem l10a (a b : Int) (k j i N : Nat) (hk : wrap64 (1 + wrap64 ((IntKind.u64.wrap a).tmod 11)) = 10) (hj : wrap64 (257 + bits .and .i64 b 1023) = ((257 + j : Nat) : Int)) (hj1 : j < 1024) (hi : wrap64 (65523 + bits .and .i64 b 3) = (N : Int)) (hN : N = 65523 + i) (hi1 : i = 0) (w : World) :
    Calls Try.prog 4 #[.int .i64 a, .int .i64 b] w fun e w' => e = .returned (.bool true) ∧ Later w w' := by
  replace hk : Hid _ := hk
  replace hj : Hid _ := hj
  replace hi : Hid _ := hi
  obtain ⟨y, hy⟩ : ∃ y : Int, y = ((257 + j : Nat) : Int) := ⟨_, rfl⟩
  rw [← hy] at hj
  have r1 : (unM (hd8 ++ secB ((10 : Nat) : Int) (strOfNums (lebL y)))).2 = 1508 := by rw [un_long 10 (by decide) (by decide) y (by omega) (by simp [mo]; omega)]
  have r2 : (unM (hd8 ++ secB ((10 : Nat) : Int) (strOfNums (lebL 256)))).2 = 1506 := (by have t := un_most ⟨10, by decide⟩ (by decide) (by decide); simpa [mo] using t)
  obtain ⟨z3, r3⟩ := un_big i N (by omega) hN
  rw [if_pos hi1] at r3
  have zl1 := leb_size y
  have zl2 := leb_size 256
  have z1 := sec_size ((10 : Nat) : Int) (strOfNums (lebL y)) zl1
  have z2 := sec_size ((10 : Nat) : Int) (strOfNums (lebL 256)) zl2
  have zz := zb_size N
  have hl1 : Hid (∀ W : World, Calls Try.prog 11 #[.int .i64 y] W fun e w' => e = .returned (.string (strOfNums (lebL y))) ∧ Later W w') := fun W => leb_any y W
  have hl2 : Hid (∀ W : World, Calls Try.prog 11 #[.int .i64 256] W fun e w' => e = .returned (.string (strOfNums (lebL 256))) ∧ Later W w') := fun W => leb_any 256 W
  have hc1 : Hid (∀ W, Calls Try.prog 9 #[.int .i64 10, .string (strOfNums (lebL y))] W fun e w' => e = .returned (.string (secB ((10 : Nat) : Int) (strOfNums (lebL y)))) ∧ Later W w') := section_any 10 (by omega) _ (by omega)
  have hc2 : Hid (∀ W, Calls Try.prog 9 #[.int .i64 10, .string (strOfNums (lebL 256))] W fun e w' => e = .returned (.string (secB ((10 : Nat) : Int) (strOfNums (lebL 256)))) ∧ Later W w') := section_any 10 (by omega) _ (by omega)
  have hc3 : Hid (∀ W, Calls Try.prog 9 #[.int .i64 0, .string (⟨#[0]⟩ ++ zb N)] W fun e w' => e = .returned (.string (secB ((0 : Nat) : Int) (⟨#[0]⟩ ++ zb N))) ∧ Later W w') := section_any 0 (by omega) _ (by rw [ByteArray.size_append, zb_size]; show 1 + N < _; omega)
  have hm1 : Hid (∀ W, Calls Try.prog 8 #[.string (hd8 ++ secB ((10 : Nat) : Int) (strOfNums (lebL y)))] W (DcP W 1508)) := dm_code (by rw [ByteArray.size_append]; show 8 + _ < _; omega) r1
  have hm2 : Hid (∀ W, Calls Try.prog 8 #[.string (hd8 ++ secB ((10 : Nat) : Int) (strOfNums (lebL 256)))] W (DcP W 1506)) := dm_code (by rw [ByteArray.size_append]; show 8 + _ < _; omega) r2
  have hm3 : Hid (∀ W, Calls Try.prog 8 #[.string (hd8 ++ secB ((0 : Nat) : Int) (⟨#[0]⟩ ++ zb N))] W (DcP W 0)) := dm_code (by omega) r3
  have z4 : 8 + (secB ((0 : Nat) : Int) (⟨#[0]⟩ ++ zb N)).size = 65536 + i := by rw [← z3, ByteArray.size_append]; rfl
  have q1 : ¬ 9223372036854775807 < 8 + (secB ((10 : Nat) : Int) (strOfNums (lebL y))).size := by omega
  have q2 : ¬ 9223372036854775807 < 8 + (secB ((10 : Nat) : Int) (strOfNums (lebL 256))).size := by omega
  have q3 : ¬ 9223372036854775807 < 8 + (secB ((0 : Nat) : Int) (⟨#[0]⟩ ++ zb N)).size := by omega
  have q5 : ¬ 9223372036854775807 < 1 + (zb N).size := by omega
  have mk : ∀ W : World, (Instr.makeSlice 39 (.int .i64 (N : Int)) (.int .i64 (N : Int))).run Try.prog W = .ok (.slice (some ⟨W.heap.size, 0, none⟩) N N) (W.alloc (.cells (zcs N) 5)) := mk_z N (by omega)
  have cz : ∀ (W : World) (g : Nat), g = W.heap.size → (convert 39 9 (.slice (some ⟨g, 0, none⟩) N N)).run Try.prog (W.alloc (.cells (zcs N) 5)) = .ok (.string (zb N)) (W.alloc (.cells (zcs N) 5)) := fun W g hg => by subst hg; exact conv_z N (Lz _)
  have hn : Hid (∀ x W, Calls Try.prog 10 #[.int .i64 x] W fun e w' => e = .returned (.int .i64 x) ∧ w' = W) := lnum_any
  generalize secB ((10 : Nat) : Int) (strOfNums (lebL y)) = S1 at *
  generalize secB ((10 : Nat) : Int) (strOfNums (lebL 256)) = S2 at *
  generalize secB ((0 : Nat) : Int) (⟨#[0]⟩ ++ zb N) = S3 at *
  generalize strOfNums (lebL y) = S4 at *
  generalize strOfNums (lebL 256) = S5 at *
  generalize zb N = S6 at *
  generalize zcs N = Zc at *
  have s1 : 8 + S3.size ≤ 65536 := by omega
  have s2 : (8 + S3.size : Int) ≤ 65536 := by omega
  have s3 : (((hd8 ++ S3).size : Nat) : Int) ≤ 65536 := by omega
  have s5 : decide ((8 : Int) + (S3.size : Int) ≤ 65536) = true := decide_eq_true (by omega)
  have s4 : ¬ 65536 < 8 + S3.size := by omega
  clear r1 r2 r3 z1 z2 z3 z4 zz zl1 zl2 hj1 hi1 hN hy
  replace hk := hk.out
  replace hj := hj.out
  replace hi := hi.out
  go_enter Try.func4, Try.ntmps4
  go_wp2_with (go_at_call 7; refine (awake_any _).mono ?_; rintro e w0 ⟨rfl, l0⟩; replace l0 : Hid (Later w w0) := l0.out)
  refine (hl1.out _).mono ?_
  clear hl1
  rintro e w1 ⟨rfl, l1⟩
  have L1 : Hid (Later w w1) := (by first | exact l0.out.trans l1 | exact (La l0.out).trans l1 | exact (La (La l0.out)).trans l1)
  clear l0 l1
  go_wp2_with fail
  refine (hc1.out _).mono ?_
  clear hc1
  rintro e w2 ⟨rfl, l2⟩
  have L2 : Hid (Later w w2) := (by first | exact L1.out.trans l2 | exact (La L1.out).trans l2 | exact (La (La L1.out)).trans l2)
  clear L1 l2
  go_wp2_with fail
  refine (hm1.out _).mono ?_
  clear hm1
  rintro e w3 ⟨A3, n3, c3, st3, rfl, l3⟩
  have L3 : Hid (Later w w3) := (by first | exact L2.out.trans l3.out | exact (La L2.out).trans l3.out | exact (La (La L2.out)).trans l3.out)
  clear L2 l3
  go_wp2_with fail
  refine (hl2.out _).mono ?_
  clear hl2
  rintro e w4 ⟨rfl, l4⟩
  have L4 : Hid (Later w w4) := (by first | exact L3.out.trans l4 | exact (La L3.out).trans l4 | exact (La (La L3.out)).trans l4)
  clear L3 l4
  go_wp2_with fail
  refine (hc2.out _).mono ?_
  clear hc2
  rintro e w5 ⟨rfl, l5⟩
  have L5 : Hid (Later w w5) := (by first | exact L4.out.trans l5 | exact (La L4.out).trans l5 | exact (La (La L4.out)).trans l5)
  clear L4 l5
  go_wp2_with fail
  refine (hm2.out _).mono ?_
  clear hm2
  rintro e w6 ⟨A6, n6, c6, st6, rfl, l6⟩
  have L6 : Hid (Later w w6) := (by first | exact L5.out.trans l6.out | exact (La L5.out).trans l6.out | exact (La (La L5.out)).trans l6.out)
  clear L5 l6
  go_wp2_with fail
  refine (hc3.out _).mono ?_
  clear hc3
  rintro e w7 ⟨rfl, l7⟩
  have L7 : Hid (Later w w7) := (by first | exact L6.out.trans l7 | exact (La L6.out).trans l7 | exact (La (La L6.out)).trans l7)
  clear L6 l7
  go_wp2_with fail
  refine (hm3.out _).mono ?_
  clear hm3
  rintro e w8 ⟨A8, n8, c8, st8, rfl, l8⟩
  have L8 : Hid (Later w w8) := (by first | exact L7.out.trans l8.out | exact (La L7.out).trans l8.out | exact (La (La L7.out)).trans l8.out)
  clear L7 l8
  go_wp2_with (go_at_call 10; refine (hn.out _ _).mono ?_; rintro e W ⟨rfl, hw⟩; subst hw)
  go_ret
  exact ⟨by first | rfl | exact congrArg (fun t => Ending.returned (.bool (!t))) s5 | exact congrArg (fun t => Ending.returned (.bool t)) s5, by first | exact La L8.out | exact L8.out⟩
theorem l10b (a b : Int) (k j i N : Nat) (hk : wrap64 (1 + wrap64 ((IntKind.u64.wrap a).tmod 11)) = 10) (hj : wrap64 (257 + bits .and .i64 b 1023) = ((257 + j : Nat) : Int)) (hj1 : j < 1024) (hi : wrap64 (65523 + bits .and .i64 b 3) = (N : Int)) (hN : N = 65523 + i) (hi1 : 1 ≤ i ∧ i < 4) (w : World) :
    Calls Try.prog 4 #[.int .i64 a, .int .i64 b] w fun e w' => e = .returned (.bool true) ∧ Later w w' := by
  replace hk : Hid _ := hk
  replace hj : Hid _ := hj
  replace hi : Hid _ := hi
  obtain ⟨y, hy⟩ : ∃ y : Int, y = ((257 + j : Nat) : Int) := ⟨_, rfl⟩
  rw [← hy] at hj
  have r1 : (unM (hd8 ++ secB ((10 : Nat) : Int) (strOfNums (lebL y)))).2 = 1508 := by rw [un_long 10 (by decide) (by decide) y (by omega) (by simp [mo]; omega)]
  have r2 : (unM (hd8 ++ secB ((10 : Nat) : Int) (strOfNums (lebL 256)))).2 = 1506 := (by have t := un_most ⟨10, by decide⟩ (by decide) (by decide); simpa [mo] using t)
  obtain ⟨z3, r3⟩ := un_big i N (by omega) hN
  rw [if_neg (by omega)] at r3
  have zl1 := leb_size y
  have zl2 := leb_size 256
  have z1 := sec_size ((10 : Nat) : Int) (strOfNums (lebL y)) zl1
  have z2 := sec_size ((10 : Nat) : Int) (strOfNums (lebL 256)) zl2
  have zz := zb_size N
  have hl1 : Hid (∀ W : World, Calls Try.prog 11 #[.int .i64 y] W fun e w' => e = .returned (.string (strOfNums (lebL y))) ∧ Later W w') := fun W => leb_any y W
  have hl2 : Hid (∀ W : World, Calls Try.prog 11 #[.int .i64 256] W fun e w' => e = .returned (.string (strOfNums (lebL 256))) ∧ Later W w') := fun W => leb_any 256 W
  have hc1 : Hid (∀ W, Calls Try.prog 9 #[.int .i64 10, .string (strOfNums (lebL y))] W fun e w' => e = .returned (.string (secB ((10 : Nat) : Int) (strOfNums (lebL y)))) ∧ Later W w') := section_any 10 (by omega) _ (by omega)
  have hc2 : Hid (∀ W, Calls Try.prog 9 #[.int .i64 10, .string (strOfNums (lebL 256))] W fun e w' => e = .returned (.string (secB ((10 : Nat) : Int) (strOfNums (lebL 256)))) ∧ Later W w') := section_any 10 (by omega) _ (by omega)
  have hc3 : Hid (∀ W, Calls Try.prog 9 #[.int .i64 0, .string (⟨#[0]⟩ ++ zb N)] W fun e w' => e = .returned (.string (secB ((0 : Nat) : Int) (⟨#[0]⟩ ++ zb N))) ∧ Later W w') := section_any 0 (by omega) _ (by rw [ByteArray.size_append, zb_size]; show 1 + N < _; omega)
  have hm1 : Hid (∀ W, Calls Try.prog 8 #[.string (hd8 ++ secB ((10 : Nat) : Int) (strOfNums (lebL y)))] W (DcP W 1508)) := dm_code (by rw [ByteArray.size_append]; show 8 + _ < _; omega) r1
  have hm2 : Hid (∀ W, Calls Try.prog 8 #[.string (hd8 ++ secB ((10 : Nat) : Int) (strOfNums (lebL 256)))] W (DcP W 1506)) := dm_code (by rw [ByteArray.size_append]; show 8 + _ < _; omega) r2
  have hm3 : Hid (∀ W, Calls Try.prog 8 #[.string (hd8 ++ secB ((0 : Nat) : Int) (⟨#[0]⟩ ++ zb N))] W (DcP W 1508)) := dm_code (by omega) r3
  have z4 : 8 + (secB ((0 : Nat) : Int) (⟨#[0]⟩ ++ zb N)).size = 65536 + i := by rw [← z3, ByteArray.size_append]; rfl
  have q1 : ¬ 9223372036854775807 < 8 + (secB ((10 : Nat) : Int) (strOfNums (lebL y))).size := by omega
  have q2 : ¬ 9223372036854775807 < 8 + (secB ((10 : Nat) : Int) (strOfNums (lebL 256))).size := by omega
  have q3 : ¬ 9223372036854775807 < 8 + (secB ((0 : Nat) : Int) (⟨#[0]⟩ ++ zb N)).size := by omega
  have q5 : ¬ 9223372036854775807 < 1 + (zb N).size := by omega
  have mk : ∀ W : World, (Instr.makeSlice 39 (.int .i64 (N : Int)) (.int .i64 (N : Int))).run Try.prog W = .ok (.slice (some ⟨W.heap.size, 0, none⟩) N N) (W.alloc (.cells (zcs N) 5)) := mk_z N (by omega)
  have cz : ∀ (W : World) (g : Nat), g = W.heap.size → (convert 39 9 (.slice (some ⟨g, 0, none⟩) N N)).run Try.prog (W.alloc (.cells (zcs N) 5)) = .ok (.string (zb N)) (W.alloc (.cells (zcs N) 5)) := fun W g hg => by subst hg; exact conv_z N (Lz _)
  have hn : Hid (∀ x W, Calls Try.prog 10 #[.int .i64 x] W fun e w' => e = .returned (.int .i64 x) ∧ w' = W) := lnum_any
  generalize secB ((10 : Nat) : Int) (strOfNums (lebL y)) = S1 at *
  generalize secB ((10 : Nat) : Int) (strOfNums (lebL 256)) = S2 at *
  generalize secB ((0 : Nat) : Int) (⟨#[0]⟩ ++ zb N) = S3 at *
  generalize strOfNums (lebL y) = S4 at *
  generalize strOfNums (lebL 256) = S5 at *
  generalize zb N = S6 at *
  generalize zcs N = Zc at *
  have s1 : ¬ 8 + S3.size ≤ 65536 := by omega
  have s2 : ¬ (8 + S3.size : Int) ≤ 65536 := by omega
  have s3 : ¬ (((hd8 ++ S3).size : Nat) : Int) ≤ 65536 := by omega
  have s5 : decide ((8 : Int) + (S3.size : Int) ≤ 65536) = false := decide_eq_false (by omega)
  have s4 : 65536 < 8 + S3.size := by omega
  clear r1 r2 r3 z1 z2 z3 z4 zz zl1 zl2 hj1 hi1 hN hy
  replace hk := hk.out
  replace hj := hj.out
  replace hi := hi.out
  go_enter Try.func4, Try.ntmps4
  go_wp2_with (go_at_call 7; refine (awake_any _).mono ?_; rintro e w0 ⟨rfl, l0⟩; replace l0 : Hid (Later w w0) := l0.out)
  refine (hl1.out _).mono ?_
  clear hl1
  rintro e w1 ⟨rfl, l1⟩
  have L1 : Hid (Later w w1) := (by first | exact l0.out.trans l1 | exact (La l0.out).trans l1 | exact (La (La l0.out)).trans l1)
  clear l0 l1
  go_wp2_with fail
  refine (hc1.out _).mono ?_
  clear hc1
  rintro e w2 ⟨rfl, l2⟩
  have L2 : Hid (Later w w2) := (by first | exact L1.out.trans l2 | exact (La L1.out).trans l2 | exact (La (La L1.out)).trans l2)
  clear L1 l2
  go_wp2_with fail
  refine (hm1.out _).mono ?_
  clear hm1
  rintro e w3 ⟨A3, n3, c3, st3, rfl, l3⟩
  have L3 : Hid (Later w w3) := (by first | exact L2.out.trans l3.out | exact (La L2.out).trans l3.out | exact (La (La L2.out)).trans l3.out)
  clear L2 l3
  go_wp2_with fail
  refine (hl2.out _).mono ?_
  clear hl2
  rintro e w4 ⟨rfl, l4⟩
  have L4 : Hid (Later w w4) := (by first | exact L3.out.trans l4 | exact (La L3.out).trans l4 | exact (La (La L3.out)).trans l4)
  clear L3 l4
  go_wp2_with fail
  refine (hc2.out _).mono ?_
  clear hc2
  rintro e w5 ⟨rfl, l5⟩
  have L5 : Hid (Later w w5) := (by first | exact L4.out.trans l5 | exact (La L4.out).trans l5 | exact (La (La L4.out)).trans l5)
  clear L4 l5
  go_wp2_with fail
  refine (hm2.out _).mono ?_
  clear hm2
  rintro e w6 ⟨A6, n6, c6, st6, rfl, l6⟩
  have L6 : Hid (Later w w6) := (by first | exact L5.out.trans l6.out | exact (La L5.out).trans l6.out | exact (La (La L5.out)).trans l6.out)
  clear L5 l6
  go_wp2_with fail
  refine (hc3.out _).mono ?_
  clear hc3
  rintro e w7 ⟨rfl, l7⟩
  have L7 : Hid (Later w w7) := (by first | exact L6.out.trans l7 | exact (La L6.out).trans l7 | exact (La (La L6.out)).trans l7)
  clear L6 l7
  go_wp2_with fail
  refine (hm3.out _).mono ?_
  clear hm3
  rintro e w8 ⟨A8, n8, c8, st8, rfl, l8⟩
  have L8 : Hid (Later w w8) := (by first | exact L7.out.trans l8.out | exact (La L7.out).trans l8.out | exact (La (La L7.out)).trans l8.out)
  clear L7 l8
  go_wp2_with (go_at_call 10; refine (hn.out _ _).mono ?_; rintro e W ⟨rfl, hw⟩; subst hw)
  go_ret
  exact ⟨by first | rfl | exact congrArg (fun t => Ending.returned (.bool (!t))) s5 | exact congrArg (fun t => Ending.returned (.bool t)) s5, by first | exact La L8.out | exact L8.out⟩
theorem l8a (a b : Int) (k j i N : Nat) (hk : wrap64 (1 + wrap64 ((IntKind.u64.wrap a).tmod 11)) = 8) (hj : wrap64 (1025 + bits .and .i64 b 1023) = ((1025 + j : Nat) : Int)) (hj1 : j < 1024) (hi : wrap64 (65523 + bits .and .i64 b 3) = (N : Int)) (hN : N = 65523 + i) (hi1 : i = 0) (w : World) :
    Calls Try.prog 4 #[.int .i64 a, .int .i64 b] w fun e w' => e = .returned (.bool true) ∧ Later w w' := by
  replace hk : Hid _ := hk
  replace hj : Hid _ := hj
  replace hi : Hid _ := hi
  obtain ⟨y, hy⟩ : ∃ y : Int, y = ((1025 + j : Nat) : Int) := ⟨_, rfl⟩
  rw [← hy] at hj
  have r1 : (unM (hd8 ++ secB ((2 : Nat) : Int) (strOfNums (lebL y)))).2 = 1508 := by rw [un_long 2 (by decide) (by decide) y (by omega) (by simp [mo]; omega)]
  have r2 : (unM (hd8 ++ secB ((2 : Nat) : Int) (strOfNums (lebL 1024)))).2 = 1506 := (by have t := un_most ⟨2, by decide⟩ (by decide) (by decide); simpa [mo] using t)
  obtain ⟨z3, r3⟩ := un_big i N (by omega) hN
  rw [if_pos hi1] at r3
  have zl1 := leb_size y
  have zl2 := leb_size 1024
  have z1 := sec_size ((2 : Nat) : Int) (strOfNums (lebL y)) zl1
  have z2 := sec_size ((2 : Nat) : Int) (strOfNums (lebL 1024)) zl2
  have zz := zb_size N
  have hl1 : Hid (∀ W : World, Calls Try.prog 11 #[.int .i64 y] W fun e w' => e = .returned (.string (strOfNums (lebL y))) ∧ Later W w') := fun W => leb_any y W
  have hl2 : Hid (∀ W : World, Calls Try.prog 11 #[.int .i64 1024] W fun e w' => e = .returned (.string (strOfNums (lebL 1024))) ∧ Later W w') := fun W => leb_any 1024 W
  have hc1 : Hid (∀ W, Calls Try.prog 9 #[.int .i64 2, .string (strOfNums (lebL y))] W fun e w' => e = .returned (.string (secB ((2 : Nat) : Int) (strOfNums (lebL y)))) ∧ Later W w') := section_any 2 (by omega) _ (by omega)
  have hc2 : Hid (∀ W, Calls Try.prog 9 #[.int .i64 2, .string (strOfNums (lebL 1024))] W fun e w' => e = .returned (.string (secB ((2 : Nat) : Int) (strOfNums (lebL 1024)))) ∧ Later W w') := section_any 2 (by omega) _ (by omega)
  have hc3 : Hid (∀ W, Calls Try.prog 9 #[.int .i64 0, .string (⟨#[0]⟩ ++ zb N)] W fun e w' => e = .returned (.string (secB ((0 : Nat) : Int) (⟨#[0]⟩ ++ zb N))) ∧ Later W w') := section_any 0 (by omega) _ (by rw [ByteArray.size_append, zb_size]; show 1 + N < _; omega)
  have hm1 : Hid (∀ W, Calls Try.prog 8 #[.string (hd8 ++ secB ((2 : Nat) : Int) (strOfNums (lebL y)))] W (DcP W 1508)) := dm_code (by rw [ByteArray.size_append]; show 8 + _ < _; omega) r1
  have hm2 : Hid (∀ W, Calls Try.prog 8 #[.string (hd8 ++ secB ((2 : Nat) : Int) (strOfNums (lebL 1024)))] W (DcP W 1506)) := dm_code (by rw [ByteArray.size_append]; show 8 + _ < _; omega) r2
  have hm3 : Hid (∀ W, Calls Try.prog 8 #[.string (hd8 ++ secB ((0 : Nat) : Int) (⟨#[0]⟩ ++ zb N))] W (DcP W 0)) := dm_code (by omega) r3
  have z4 : 8 + (secB ((0 : Nat) : Int) (⟨#[0]⟩ ++ zb N)).size = 65536 + i := by rw [← z3, ByteArray.size_append]; rfl
  have q1 : ¬ 9223372036854775807 < 8 + (secB ((2 : Nat) : Int) (strOfNums (lebL y))).size := by omega
  have q2 : ¬ 9223372036854775807 < 8 + (secB ((2 : Nat) : Int) (strOfNums (lebL 1024))).size := by omega
  have q3 : ¬ 9223372036854775807 < 8 + (secB ((0 : Nat) : Int) (⟨#[0]⟩ ++ zb N)).size := by omega
  have q5 : ¬ 9223372036854775807 < 1 + (zb N).size := by omega
  have mk : ∀ W : World, (Instr.makeSlice 39 (.int .i64 (N : Int)) (.int .i64 (N : Int))).run Try.prog W = .ok (.slice (some ⟨W.heap.size, 0, none⟩) N N) (W.alloc (.cells (zcs N) 5)) := mk_z N (by omega)
  have cz : ∀ (W : World) (g : Nat), g = W.heap.size → (convert 39 9 (.slice (some ⟨g, 0, none⟩) N N)).run Try.prog (W.alloc (.cells (zcs N) 5)) = .ok (.string (zb N)) (W.alloc (.cells (zcs N) 5)) := fun W g hg => by subst hg; exact conv_z N (Lz _)
  have hn : Hid (∀ x W, Calls Try.prog 10 #[.int .i64 x] W fun e w' => e = .returned (.int .i64 x) ∧ w' = W) := lnum_any
  generalize secB ((2 : Nat) : Int) (strOfNums (lebL y)) = S1 at *
  generalize secB ((2 : Nat) : Int) (strOfNums (lebL 1024)) = S2 at *
  generalize secB ((0 : Nat) : Int) (⟨#[0]⟩ ++ zb N) = S3 at *
  generalize strOfNums (lebL y) = S4 at *
  generalize strOfNums (lebL 1024) = S5 at *
  generalize zb N = S6 at *
  generalize zcs N = Zc at *
  have s1 : 8 + S3.size ≤ 65536 := by omega
  have s2 : (8 + S3.size : Int) ≤ 65536 := by omega
  have s3 : (((hd8 ++ S3).size : Nat) : Int) ≤ 65536 := by omega
  have s5 : decide ((8 : Int) + (S3.size : Int) ≤ 65536) = true := decide_eq_true (by omega)
  have s4 : ¬ 65536 < 8 + S3.size := by omega
  clear r1 r2 r3 z1 z2 z3 z4 zz zl1 zl2 hj1 hi1 hN hy
  replace hk := hk.out
  replace hj := hj.out
  replace hi := hi.out
  go_enter Try.func4, Try.ntmps4
  go_wp2_with (go_at_call 7; refine (awake_any _).mono ?_; rintro e w0 ⟨rfl, l0⟩; replace l0 : Hid (Later w w0) := l0.out)
  refine (hl1.out _).mono ?_
  clear hl1
  rintro e w1 ⟨rfl, l1⟩
  have L1 : Hid (Later w w1) := (by first | exact l0.out.trans l1 | exact (La l0.out).trans l1 | exact (La (La l0.out)).trans l1)
  clear l0 l1
  go_wp2_with fail
  refine (hc1.out _).mono ?_
  clear hc1
  rintro e w2 ⟨rfl, l2⟩
  have L2 : Hid (Later w w2) := (by first | exact L1.out.trans l2 | exact (La L1.out).trans l2 | exact (La (La L1.out)).trans l2)
  clear L1 l2
  go_wp2_with fail
  refine (hm1.out _).mono ?_
  clear hm1
  rintro e w3 ⟨A3, n3, c3, st3, rfl, l3⟩
  have L3 : Hid (Later w w3) := (by first | exact L2.out.trans l3.out | exact (La L2.out).trans l3.out | exact (La (La L2.out)).trans l3.out)
  clear L2 l3
  go_wp2_with fail
  refine (hl2.out _).mono ?_
  clear hl2
  rintro e w4 ⟨rfl, l4⟩
  have L4 : Hid (Later w w4) := (by first | exact L3.out.trans l4 | exact (La L3.out).trans l4 | exact (La (La L3.out)).trans l4)
  clear L3 l4
  go_wp2_with fail
  refine (hc2.out _).mono ?_
  clear hc2
  rintro e w5 ⟨rfl, l5⟩
  have L5 : Hid (Later w w5) := (by first | exact L4.out.trans l5 | exact (La L4.out).trans l5 | exact (La (La L4.out)).trans l5)
  clear L4 l5
  go_wp2_with fail
  refine (hm2.out _).mono ?_
  clear hm2
  rintro e w6 ⟨A6, n6, c6, st6, rfl, l6⟩
  have L6 : Hid (Later w w6) := (by first | exact L5.out.trans l6.out | exact (La L5.out).trans l6.out | exact (La (La L5.out)).trans l6.out)
  clear L5 l6
  go_wp2_with fail
  refine (hc3.out _).mono ?_
  clear hc3
  rintro e w7 ⟨rfl, l7⟩
  have L7 : Hid (Later w w7) := (by first | exact L6.out.trans l7 | exact (La L6.out).trans l7 | exact (La (La L6.out)).trans l7)
  clear L6 l7
  go_wp2_with fail
  refine (hm3.out _).mono ?_
  clear hm3
  rintro e w8 ⟨A8, n8, c8, st8, rfl, l8⟩
  have L8 : Hid (Later w w8) := (by first | exact L7.out.trans l8.out | exact (La L7.out).trans l8.out | exact (La (La L7.out)).trans l8.out)
  clear L7 l8
  go_wp2_with (go_at_call 10; refine (hn.out _ _).mono ?_; rintro e W ⟨rfl, hw⟩; subst hw)
  go_ret
  exact ⟨by first | rfl | exact congrArg (fun t => Ending.returned (.bool (!t))) s5 | exact congrArg (fun t => Ending.returned (.bool t)) s5, by first | exact La L8.out | exact L8.out⟩
theorem l8b (a b : Int) (k j i N : Nat) (hk : wrap64 (1 + wrap64 ((IntKind.u64.wrap a).tmod 11)) = 8) (hj : wrap64 (1025 + bits .and .i64 b 1023) = ((1025 + j : Nat) : Int)) (hj1 : j < 1024) (hi : wrap64 (65523 + bits .and .i64 b 3) = (N : Int)) (hN : N = 65523 + i) (hi1 : 1 ≤ i ∧ i < 4) (w : World) :
    Calls Try.prog 4 #[.int .i64 a, .int .i64 b] w fun e w' => e = .returned (.bool true) ∧ Later w w' := by
  replace hk : Hid _ := hk
  replace hj : Hid _ := hj
  replace hi : Hid _ := hi
  obtain ⟨y, hy⟩ : ∃ y : Int, y = ((1025 + j : Nat) : Int) := ⟨_, rfl⟩
  rw [← hy] at hj
  have r1 : (unM (hd8 ++ secB ((2 : Nat) : Int) (strOfNums (lebL y)))).2 = 1508 := by rw [un_long 2 (by decide) (by decide) y (by omega) (by simp [mo]; omega)]
  have r2 : (unM (hd8 ++ secB ((2 : Nat) : Int) (strOfNums (lebL 1024)))).2 = 1506 := (by have t := un_most ⟨2, by decide⟩ (by decide) (by decide); simpa [mo] using t)
  obtain ⟨z3, r3⟩ := un_big i N (by omega) hN
  rw [if_neg (by omega)] at r3
  have zl1 := leb_size y
  have zl2 := leb_size 1024
  have z1 := sec_size ((2 : Nat) : Int) (strOfNums (lebL y)) zl1
  have z2 := sec_size ((2 : Nat) : Int) (strOfNums (lebL 1024)) zl2
  have zz := zb_size N
  have hl1 : Hid (∀ W : World, Calls Try.prog 11 #[.int .i64 y] W fun e w' => e = .returned (.string (strOfNums (lebL y))) ∧ Later W w') := fun W => leb_any y W
  have hl2 : Hid (∀ W : World, Calls Try.prog 11 #[.int .i64 1024] W fun e w' => e = .returned (.string (strOfNums (lebL 1024))) ∧ Later W w') := fun W => leb_any 1024 W
  have hc1 : Hid (∀ W, Calls Try.prog 9 #[.int .i64 2, .string (strOfNums (lebL y))] W fun e w' => e = .returned (.string (secB ((2 : Nat) : Int) (strOfNums (lebL y)))) ∧ Later W w') := section_any 2 (by omega) _ (by omega)
  have hc2 : Hid (∀ W, Calls Try.prog 9 #[.int .i64 2, .string (strOfNums (lebL 1024))] W fun e w' => e = .returned (.string (secB ((2 : Nat) : Int) (strOfNums (lebL 1024)))) ∧ Later W w') := section_any 2 (by omega) _ (by omega)
  have hc3 : Hid (∀ W, Calls Try.prog 9 #[.int .i64 0, .string (⟨#[0]⟩ ++ zb N)] W fun e w' => e = .returned (.string (secB ((0 : Nat) : Int) (⟨#[0]⟩ ++ zb N))) ∧ Later W w') := section_any 0 (by omega) _ (by rw [ByteArray.size_append, zb_size]; show 1 + N < _; omega)
  have hm1 : Hid (∀ W, Calls Try.prog 8 #[.string (hd8 ++ secB ((2 : Nat) : Int) (strOfNums (lebL y)))] W (DcP W 1508)) := dm_code (by rw [ByteArray.size_append]; show 8 + _ < _; omega) r1
  have hm2 : Hid (∀ W, Calls Try.prog 8 #[.string (hd8 ++ secB ((2 : Nat) : Int) (strOfNums (lebL 1024)))] W (DcP W 1506)) := dm_code (by rw [ByteArray.size_append]; show 8 + _ < _; omega) r2
  have hm3 : Hid (∀ W, Calls Try.prog 8 #[.string (hd8 ++ secB ((0 : Nat) : Int) (⟨#[0]⟩ ++ zb N))] W (DcP W 1508)) := dm_code (by omega) r3
  have z4 : 8 + (secB ((0 : Nat) : Int) (⟨#[0]⟩ ++ zb N)).size = 65536 + i := by rw [← z3, ByteArray.size_append]; rfl
  have q1 : ¬ 9223372036854775807 < 8 + (secB ((2 : Nat) : Int) (strOfNums (lebL y))).size := by omega
  have q2 : ¬ 9223372036854775807 < 8 + (secB ((2 : Nat) : Int) (strOfNums (lebL 1024))).size := by omega
  have q3 : ¬ 9223372036854775807 < 8 + (secB ((0 : Nat) : Int) (⟨#[0]⟩ ++ zb N)).size := by omega
  have q5 : ¬ 9223372036854775807 < 1 + (zb N).size := by omega
  have mk : ∀ W : World, (Instr.makeSlice 39 (.int .i64 (N : Int)) (.int .i64 (N : Int))).run Try.prog W = .ok (.slice (some ⟨W.heap.size, 0, none⟩) N N) (W.alloc (.cells (zcs N) 5)) := mk_z N (by omega)
  have cz : ∀ (W : World) (g : Nat), g = W.heap.size → (convert 39 9 (.slice (some ⟨g, 0, none⟩) N N)).run Try.prog (W.alloc (.cells (zcs N) 5)) = .ok (.string (zb N)) (W.alloc (.cells (zcs N) 5)) := fun W g hg => by subst hg; exact conv_z N (Lz _)
  have hn : Hid (∀ x W, Calls Try.prog 10 #[.int .i64 x] W fun e w' => e = .returned (.int .i64 x) ∧ w' = W) := lnum_any
  generalize secB ((2 : Nat) : Int) (strOfNums (lebL y)) = S1 at *
  generalize secB ((2 : Nat) : Int) (strOfNums (lebL 1024)) = S2 at *
  generalize secB ((0 : Nat) : Int) (⟨#[0]⟩ ++ zb N) = S3 at *
  generalize strOfNums (lebL y) = S4 at *
  generalize strOfNums (lebL 1024) = S5 at *
  generalize zb N = S6 at *
  generalize zcs N = Zc at *
  have s1 : ¬ 8 + S3.size ≤ 65536 := by omega
  have s2 : ¬ (8 + S3.size : Int) ≤ 65536 := by omega
  have s3 : ¬ (((hd8 ++ S3).size : Nat) : Int) ≤ 65536 := by omega
  have s5 : decide ((8 : Int) + (S3.size : Int) ≤ 65536) = false := decide_eq_false (by omega)
  have s4 : 65536 < 8 + S3.size := by omega
  clear r1 r2 r3 z1 z2 z3 z4 zz zl1 zl2 hj1 hi1 hN hy
  replace hk := hk.out
  replace hj := hj.out
  replace hi := hi.out
  go_enter Try.func4, Try.ntmps4
  go_wp2_with (go_at_call 7; refine (awake_any _).mono ?_; rintro e w0 ⟨rfl, l0⟩; replace l0 : Hid (Later w w0) := l0.out)
  refine (hl1.out _).mono ?_
  clear hl1
  rintro e w1 ⟨rfl, l1⟩
  have L1 : Hid (Later w w1) := (by first | exact l0.out.trans l1 | exact (La l0.out).trans l1 | exact (La (La l0.out)).trans l1)
  clear l0 l1
  go_wp2_with fail
  refine (hc1.out _).mono ?_
  clear hc1
  rintro e w2 ⟨rfl, l2⟩
  have L2 : Hid (Later w w2) := (by first | exact L1.out.trans l2 | exact (La L1.out).trans l2 | exact (La (La L1.out)).trans l2)
  clear L1 l2
  go_wp2_with fail
  refine (hm1.out _).mono ?_
  clear hm1
  rintro e w3 ⟨A3, n3, c3, st3, rfl, l3⟩
  have L3 : Hid (Later w w3) := (by first | exact L2.out.trans l3.out | exact (La L2.out).trans l3.out | exact (La (La L2.out)).trans l3.out)
  clear L2 l3
  go_wp2_with fail
  refine (hl2.out _).mono ?_
  clear hl2
  rintro e w4 ⟨rfl, l4⟩
  have L4 : Hid (Later w w4) := (by first | exact L3.out.trans l4 | exact (La L3.out).trans l4 | exact (La (La L3.out)).trans l4)
  clear L3 l4
  go_wp2_with fail
  refine (hc2.out _).mono ?_
  clear hc2
  rintro e w5 ⟨rfl, l5⟩
  have L5 : Hid (Later w w5) := (by first | exact L4.out.trans l5 | exact (La L4.out).trans l5 | exact (La (La L4.out)).trans l5)
  clear L4 l5
  go_wp2_with fail
  refine (hm2.out _).mono ?_
  clear hm2
  rintro e w6 ⟨A6, n6, c6, st6, rfl, l6⟩
  have L6 : Hid (Later w w6) := (by first | exact L5.out.trans l6.out | exact (La L5.out).trans l6.out | exact (La (La L5.out)).trans l6.out)
  clear L5 l6
  go_wp2_with fail
  refine (hc3.out _).mono ?_
  clear hc3
  rintro e w7 ⟨rfl, l7⟩
  have L7 : Hid (Later w w7) := (by first | exact L6.out.trans l7 | exact (La L6.out).trans l7 | exact (La (La L6.out)).trans l7)
  clear L6 l7
  go_wp2_with fail
  refine (hm3.out _).mono ?_
  clear hm3
  rintro e w8 ⟨A8, n8, c8, st8, rfl, l8⟩
  have L8 : Hid (Later w w8) := (by first | exact L7.out.trans l8.out | exact (La L7.out).trans l8.out | exact (La (La L7.out)).trans l8.out)
  clear L7 l8
  go_wp2_with (go_at_call 10; refine (hn.out _ _).mono ?_; rintro e W ⟨rfl, hw⟩; subst hw)
  go_ret
  exact ⟨by first | rfl | exact congrArg (fun t => Ending.returned (.bool (!t))) s5 | exact congrArg (fun t => Ending.returned (.bool t)) s5, by first | exact La L8.out | exact L8.out⟩
theorem lka (a b : Int) (k j i N : Nat) (hk : wrap64 (1 + wrap64 ((IntKind.u64.wrap a).tmod 11)) = (k : Int)) (hk1 : 1 ≤ k ∧ k ≤ 11) (n8 : ¬ k = 8) (n1 : ¬ k = 1) (n3 : ¬ k = 3) (n10 : ¬ k = 10) (hj : wrap64 (1025 + bits .and .i64 b 1023) = ((1025 + j : Nat) : Int)) (hj1 : j < 1024) (hi : wrap64 (65523 + bits .and .i64 b 3) = (N : Int)) (hN : N = 65523 + i) (hi1 : i = 0) (w : World) :
    Calls Try.prog 4 #[.int .i64 a, .int .i64 b] w fun e w' => e = .returned (.bool true) ∧ Later w w' := by
  replace hk : Hid _ := hk
  replace hj : Hid _ := hj
  replace hi : Hid _ := hi
  obtain ⟨y, hy⟩ : ∃ y : Int, y = ((1025 + j : Nat) : Int) := ⟨_, rfl⟩
  rw [← hy] at hj
  have r1 : (unM (hd8 ++ secB (k : Int) (strOfNums (lebL y)))).2 = 1508 := by rw [un_long k hk1 n8 y (by omega) (by simp [mo, n1, n3, n10]; omega)]
  have r2 : (unM (hd8 ++ secB (k : Int) (strOfNums (lebL 1024)))).2 = 1506 := (by have t := un_most ⟨k, by omega⟩ hk1.1 n8; simpa [mo, n1, n3, n10] using t)
  obtain ⟨z3, r3⟩ := un_big i N (by omega) hN
  rw [if_pos hi1] at r3
  have zl1 := leb_size y
  have zl2 := leb_size 1024
  have z1 := sec_size (k : Int) (strOfNums (lebL y)) zl1
  have z2 := sec_size (k : Int) (strOfNums (lebL 1024)) zl2
  have zz := zb_size N
  have hl1 : Hid (∀ W : World, Calls Try.prog 11 #[.int .i64 y] W fun e w' => e = .returned (.string (strOfNums (lebL y))) ∧ Later W w') := fun W => leb_any y W
  have hl2 : Hid (∀ W : World, Calls Try.prog 11 #[.int .i64 1024] W fun e w' => e = .returned (.string (strOfNums (lebL 1024))) ∧ Later W w') := fun W => leb_any 1024 W
  have hc1 : Hid (∀ W, Calls Try.prog 9 #[.int .i64 (k : Int), .string (strOfNums (lebL y))] W fun e w' => e = .returned (.string (secB (k : Int) (strOfNums (lebL y)))) ∧ Later W w') := section_any k (by omega) _ (by omega)
  have hc2 : Hid (∀ W, Calls Try.prog 9 #[.int .i64 (k : Int), .string (strOfNums (lebL 1024))] W fun e w' => e = .returned (.string (secB (k : Int) (strOfNums (lebL 1024)))) ∧ Later W w') := section_any k (by omega) _ (by omega)
  have hc3 : Hid (∀ W, Calls Try.prog 9 #[.int .i64 0, .string (⟨#[0]⟩ ++ zb N)] W fun e w' => e = .returned (.string (secB ((0 : Nat) : Int) (⟨#[0]⟩ ++ zb N))) ∧ Later W w') := section_any 0 (by omega) _ (by rw [ByteArray.size_append, zb_size]; show 1 + N < _; omega)
  have hm1 : Hid (∀ W, Calls Try.prog 8 #[.string (hd8 ++ secB (k : Int) (strOfNums (lebL y)))] W (DcP W 1508)) := dm_code (by rw [ByteArray.size_append]; show 8 + _ < _; omega) r1
  have hm2 : Hid (∀ W, Calls Try.prog 8 #[.string (hd8 ++ secB (k : Int) (strOfNums (lebL 1024)))] W (DcP W 1506)) := dm_code (by rw [ByteArray.size_append]; show 8 + _ < _; omega) r2
  have hm3 : Hid (∀ W, Calls Try.prog 8 #[.string (hd8 ++ secB ((0 : Nat) : Int) (⟨#[0]⟩ ++ zb N))] W (DcP W 0)) := dm_code (by omega) r3
  have z4 : 8 + (secB ((0 : Nat) : Int) (⟨#[0]⟩ ++ zb N)).size = 65536 + i := by rw [← z3, ByteArray.size_append]; rfl
  have q1 : ¬ 9223372036854775807 < 8 + (secB (k : Int) (strOfNums (lebL y))).size := by omega
  have q2 : ¬ 9223372036854775807 < 8 + (secB (k : Int) (strOfNums (lebL 1024))).size := by omega
  have q3 : ¬ 9223372036854775807 < 8 + (secB ((0 : Nat) : Int) (⟨#[0]⟩ ++ zb N)).size := by omega
  have q5 : ¬ 9223372036854775807 < 1 + (zb N).size := by omega
  have mk : ∀ W : World, (Instr.makeSlice 39 (.int .i64 (N : Int)) (.int .i64 (N : Int))).run Try.prog W = .ok (.slice (some ⟨W.heap.size, 0, none⟩) N N) (W.alloc (.cells (zcs N) 5)) := mk_z N (by omega)
  have cz : ∀ (W : World) (g : Nat), g = W.heap.size → (convert 39 9 (.slice (some ⟨g, 0, none⟩) N N)).run Try.prog (W.alloc (.cells (zcs N) 5)) = .ok (.string (zb N)) (W.alloc (.cells (zcs N) 5)) := fun W g hg => by subst hg; exact conv_z N (Lz _)
  have h8 : ((k : Int) == 8) = false := beq_false (by omega)
  have g8 : (k == 8) = false := by simpa using n8
  have h1 : ((k : Int) == 1) = false := beq_false (by omega)
  have g1 : (k == 1) = false := by simpa using n1
  have h3 : ((k : Int) == 3) = false := beq_false (by omega)
  have g3 : (k == 3) = false := by simpa using n3
  have h10 : ((k : Int) == 10) = false := beq_false (by omega)
  have g10 : (k == 10) = false := by simpa using n10
  have hn : Hid (∀ x W, Calls Try.prog 10 #[.int .i64 x] W fun e w' => e = .returned (.int .i64 x) ∧ w' = W) := lnum_any
  generalize secB (k : Int) (strOfNums (lebL y)) = S1 at *
  generalize secB (k : Int) (strOfNums (lebL 1024)) = S2 at *
  generalize secB ((0 : Nat) : Int) (⟨#[0]⟩ ++ zb N) = S3 at *
  generalize strOfNums (lebL y) = S4 at *
  generalize strOfNums (lebL 1024) = S5 at *
  generalize zb N = S6 at *
  generalize zcs N = Zc at *
  have s1 : 8 + S3.size ≤ 65536 := by omega
  have s2 : (8 + S3.size : Int) ≤ 65536 := by omega
  have s3 : (((hd8 ++ S3).size : Nat) : Int) ≤ 65536 := by omega
  have s5 : decide ((8 : Int) + (S3.size : Int) ≤ 65536) = true := decide_eq_true (by omega)
  have s4 : ¬ 65536 < 8 + S3.size := by omega
  clear r1 r2 r3 z1 z2 z3 z4 zz zl1 zl2 hj1 hi1 hN hy hk1 n8 n1 n3 n10
  replace hk := hk.out
  replace hj := hj.out
  replace hi := hi.out
  go_enter Try.func4, Try.ntmps4
  go_wp2_with (go_at_call 7; refine (awake_any _).mono ?_; rintro e w0 ⟨rfl, l0⟩; replace l0 : Hid (Later w w0) := l0.out)
  refine (hl1.out _).mono ?_
  clear hl1
  rintro e w1 ⟨rfl, l1⟩
  have L1 : Hid (Later w w1) := (by first | exact l0.out.trans l1 | exact (La l0.out).trans l1 | exact (La (La l0.out)).trans l1)
  clear l0 l1
  go_wp2_with fail
  refine (hc1.out _).mono ?_
  clear hc1
  rintro e w2 ⟨rfl, l2⟩
  have L2 : Hid (Later w w2) := (by first | exact L1.out.trans l2 | exact (La L1.out).trans l2 | exact (La (La L1.out)).trans l2)
  clear L1 l2
  go_wp2_with fail
  refine (hm1.out _).mono ?_
  clear hm1
  rintro e w3 ⟨A3, n3, c3, st3, rfl, l3⟩
  have L3 : Hid (Later w w3) := (by first | exact L2.out.trans l3.out | exact (La L2.out).trans l3.out | exact (La (La L2.out)).trans l3.out)
  clear L2 l3
  go_wp2_with fail
  refine (hl2.out _).mono ?_
  clear hl2
  rintro e w4 ⟨rfl, l4⟩
  have L4 : Hid (Later w w4) := (by first | exact L3.out.trans l4 | exact (La L3.out).trans l4 | exact (La (La L3.out)).trans l4)
  clear L3 l4
  go_wp2_with fail
  refine (hc2.out _).mono ?_
  clear hc2
  rintro e w5 ⟨rfl, l5⟩
  have L5 : Hid (Later w w5) := (by first | exact L4.out.trans l5 | exact (La L4.out).trans l5 | exact (La (La L4.out)).trans l5)
  clear L4 l5
  go_wp2_with fail
  refine (hm2.out _).mono ?_
  clear hm2
  rintro e w6 ⟨A6, n6, c6, st6, rfl, l6⟩
  have L6 : Hid (Later w w6) := (by first | exact L5.out.trans l6.out | exact (La L5.out).trans l6.out | exact (La (La L5.out)).trans l6.out)
  clear L5 l6
  go_wp2_with fail
  refine (hc3.out _).mono ?_
  clear hc3
  rintro e w7 ⟨rfl, l7⟩
  have L7 : Hid (Later w w7) := (by first | exact L6.out.trans l7 | exact (La L6.out).trans l7 | exact (La (La L6.out)).trans l7)
  clear L6 l7
  go_wp2_with fail
  refine (hm3.out _).mono ?_
  clear hm3
  rintro e w8 ⟨A8, n8, c8, st8, rfl, l8⟩
  have L8 : Hid (Later w w8) := (by first | exact L7.out.trans l8.out | exact (La L7.out).trans l8.out | exact (La (La L7.out)).trans l8.out)
  clear L7 l8
  go_wp2_with (go_at_call 10; refine (hn.out _ _).mono ?_; rintro e W ⟨rfl, hw⟩; subst hw)
  go_ret
  exact ⟨by first | rfl | exact congrArg (fun t => Ending.returned (.bool (!t))) s5 | exact congrArg (fun t => Ending.returned (.bool t)) s5, by first | exact La L8.out | exact L8.out⟩
theorem lkb (a b : Int) (k j i N : Nat) (hk : wrap64 (1 + wrap64 ((IntKind.u64.wrap a).tmod 11)) = (k : Int)) (hk1 : 1 ≤ k ∧ k ≤ 11) (n8 : ¬ k = 8) (n1 : ¬ k = 1) (n3 : ¬ k = 3) (n10 : ¬ k = 10) (hj : wrap64 (1025 + bits .and .i64 b 1023) = ((1025 + j : Nat) : Int)) (hj1 : j < 1024) (hi : wrap64 (65523 + bits .and .i64 b 3) = (N : Int)) (hN : N = 65523 + i) (hi1 : 1 ≤ i ∧ i < 4) (w : World) :
    Calls Try.prog 4 #[.int .i64 a, .int .i64 b] w fun e w' => e = .returned (.bool true) ∧ Later w w' := by
  replace hk : Hid _ := hk
  replace hj : Hid _ := hj
  replace hi : Hid _ := hi
  obtain ⟨y, hy⟩ : ∃ y : Int, y = ((1025 + j : Nat) : Int) := ⟨_, rfl⟩
  rw [← hy] at hj
  have r1 : (unM (hd8 ++ secB (k : Int) (strOfNums (lebL y)))).2 = 1508 := by rw [un_long k hk1 n8 y (by omega) (by simp [mo, n1, n3, n10]; omega)]
  have r2 : (unM (hd8 ++ secB (k : Int) (strOfNums (lebL 1024)))).2 = 1506 := (by have t := un_most ⟨k, by omega⟩ hk1.1 n8; simpa [mo, n1, n3, n10] using t)
  obtain ⟨z3, r3⟩ := un_big i N (by omega) hN
  rw [if_neg (by omega)] at r3
  have zl1 := leb_size y
  have zl2 := leb_size 1024
  have z1 := sec_size (k : Int) (strOfNums (lebL y)) zl1
  have z2 := sec_size (k : Int) (strOfNums (lebL 1024)) zl2
  have zz := zb_size N
  have hl1 : Hid (∀ W : World, Calls Try.prog 11 #[.int .i64 y] W fun e w' => e = .returned (.string (strOfNums (lebL y))) ∧ Later W w') := fun W => leb_any y W
  have hl2 : Hid (∀ W : World, Calls Try.prog 11 #[.int .i64 1024] W fun e w' => e = .returned (.string (strOfNums (lebL 1024))) ∧ Later W w') := fun W => leb_any 1024 W
  have hc1 : Hid (∀ W, Calls Try.prog 9 #[.int .i64 (k : Int), .string (strOfNums (lebL y))] W fun e w' => e = .returned (.string (secB (k : Int) (strOfNums (lebL y)))) ∧ Later W w') := section_any k (by omega) _ (by omega)
  have hc2 : Hid (∀ W, Calls Try.prog 9 #[.int .i64 (k : Int), .string (strOfNums (lebL 1024))] W fun e w' => e = .returned (.string (secB (k : Int) (strOfNums (lebL 1024)))) ∧ Later W w') := section_any k (by omega) _ (by omega)
  have hc3 : Hid (∀ W, Calls Try.prog 9 #[.int .i64 0, .string (⟨#[0]⟩ ++ zb N)] W fun e w' => e = .returned (.string (secB ((0 : Nat) : Int) (⟨#[0]⟩ ++ zb N))) ∧ Later W w') := section_any 0 (by omega) _ (by rw [ByteArray.size_append, zb_size]; show 1 + N < _; omega)
  have hm1 : Hid (∀ W, Calls Try.prog 8 #[.string (hd8 ++ secB (k : Int) (strOfNums (lebL y)))] W (DcP W 1508)) := dm_code (by rw [ByteArray.size_append]; show 8 + _ < _; omega) r1
  have hm2 : Hid (∀ W, Calls Try.prog 8 #[.string (hd8 ++ secB (k : Int) (strOfNums (lebL 1024)))] W (DcP W 1506)) := dm_code (by rw [ByteArray.size_append]; show 8 + _ < _; omega) r2
  have hm3 : Hid (∀ W, Calls Try.prog 8 #[.string (hd8 ++ secB ((0 : Nat) : Int) (⟨#[0]⟩ ++ zb N))] W (DcP W 1508)) := dm_code (by omega) r3
  have z4 : 8 + (secB ((0 : Nat) : Int) (⟨#[0]⟩ ++ zb N)).size = 65536 + i := by rw [← z3, ByteArray.size_append]; rfl
  have q1 : ¬ 9223372036854775807 < 8 + (secB (k : Int) (strOfNums (lebL y))).size := by omega
  have q2 : ¬ 9223372036854775807 < 8 + (secB (k : Int) (strOfNums (lebL 1024))).size := by omega
  have q3 : ¬ 9223372036854775807 < 8 + (secB ((0 : Nat) : Int) (⟨#[0]⟩ ++ zb N)).size := by omega
  have q5 : ¬ 9223372036854775807 < 1 + (zb N).size := by omega
  have mk : ∀ W : World, (Instr.makeSlice 39 (.int .i64 (N : Int)) (.int .i64 (N : Int))).run Try.prog W = .ok (.slice (some ⟨W.heap.size, 0, none⟩) N N) (W.alloc (.cells (zcs N) 5)) := mk_z N (by omega)
  have cz : ∀ (W : World) (g : Nat), g = W.heap.size → (convert 39 9 (.slice (some ⟨g, 0, none⟩) N N)).run Try.prog (W.alloc (.cells (zcs N) 5)) = .ok (.string (zb N)) (W.alloc (.cells (zcs N) 5)) := fun W g hg => by subst hg; exact conv_z N (Lz _)
  have h8 : ((k : Int) == 8) = false := beq_false (by omega)
  have g8 : (k == 8) = false := by simpa using n8
  have h1 : ((k : Int) == 1) = false := beq_false (by omega)
  have g1 : (k == 1) = false := by simpa using n1
  have h3 : ((k : Int) == 3) = false := beq_false (by omega)
  have g3 : (k == 3) = false := by simpa using n3
  have h10 : ((k : Int) == 10) = false := beq_false (by omega)
  have g10 : (k == 10) = false := by simpa using n10
  have hn : Hid (∀ x W, Calls Try.prog 10 #[.int .i64 x] W fun e w' => e = .returned (.int .i64 x) ∧ w' = W) := lnum_any
  generalize secB (k : Int) (strOfNums (lebL y)) = S1 at *
  generalize secB (k : Int) (strOfNums (lebL 1024)) = S2 at *
  generalize secB ((0 : Nat) : Int) (⟨#[0]⟩ ++ zb N) = S3 at *
  generalize strOfNums (lebL y) = S4 at *
  generalize strOfNums (lebL 1024) = S5 at *
  generalize zb N = S6 at *
  generalize zcs N = Zc at *
  have s1 : ¬ 8 + S3.size ≤ 65536 := by omega
  have s2 : ¬ (8 + S3.size : Int) ≤ 65536 := by omega
  have s3 : ¬ (((hd8 ++ S3).size : Nat) : Int) ≤ 65536 := by omega
  have s5 : decide ((8 : Int) + (S3.size : Int) ≤ 65536) = false := decide_eq_false (by omega)
  have s4 : 65536 < 8 + S3.size := by omega
  clear r1 r2 r3 z1 z2 z3 z4 zz zl1 zl2 hj1 hi1 hN hy hk1 n8 n1 n3 n10
  replace hk := hk.out
  replace hj := hj.out
  replace hi := hi.out
  go_enter Try.func4, Try.ntmps4
  go_wp2_with (go_at_call 7; refine (awake_any _).mono ?_; rintro e w0 ⟨rfl, l0⟩; replace l0 : Hid (Later w w0) := l0.out)
  refine (hl1.out _).mono ?_
  clear hl1
  rintro e w1 ⟨rfl, l1⟩
  have L1 : Hid (Later w w1) := (by first | exact l0.out.trans l1 | exact (La l0.out).trans l1 | exact (La (La l0.out)).trans l1)
  clear l0 l1
  go_wp2_with fail
  refine (hc1.out _).mono ?_
  clear hc1
  rintro e w2 ⟨rfl, l2⟩
  have L2 : Hid (Later w w2) := (by first | exact L1.out.trans l2 | exact (La L1.out).trans l2 | exact (La (La L1.out)).trans l2)
  clear L1 l2
  go_wp2_with fail
  refine (hm1.out _).mono ?_
  clear hm1
  rintro e w3 ⟨A3, n3, c3, st3, rfl, l3⟩
  have L3 : Hid (Later w w3) := (by first | exact L2.out.trans l3.out | exact (La L2.out).trans l3.out | exact (La (La L2.out)).trans l3.out)
  clear L2 l3
  go_wp2_with fail
  refine (hl2.out _).mono ?_
  clear hl2
  rintro e w4 ⟨rfl, l4⟩
  have L4 : Hid (Later w w4) := (by first | exact L3.out.trans l4 | exact (La L3.out).trans l4 | exact (La (La L3.out)).trans l4)
  clear L3 l4
  go_wp2_with fail
  refine (hc2.out _).mono ?_
  clear hc2
  rintro e w5 ⟨rfl, l5⟩
  have L5 : Hid (Later w w5) := (by first | exact L4.out.trans l5 | exact (La L4.out).trans l5 | exact (La (La L4.out)).trans l5)
  clear L4 l5
  go_wp2_with fail
  refine (hm2.out _).mono ?_
  clear hm2
  rintro e w6 ⟨A6, n6, c6, st6, rfl, l6⟩
  have L6 : Hid (Later w w6) := (by first | exact L5.out.trans l6.out | exact (La L5.out).trans l6.out | exact (La (La L5.out)).trans l6.out)
  clear L5 l6
  go_wp2_with fail
  refine (hc3.out _).mono ?_
  clear hc3
  rintro e w7 ⟨rfl, l7⟩
  have L7 : Hid (Later w w7) := (by first | exact L6.out.trans l7 | exact (La L6.out).trans l7 | exact (La (La L6.out)).trans l7)
  clear L6 l7
  go_wp2_with fail
  refine (hm3.out _).mono ?_
  clear hm3
  rintro e w8 ⟨A8, n8, c8, st8, rfl, l8⟩
  have L8 : Hid (Later w w8) := (by first | exact L7.out.trans l8.out | exact (La L7.out).trans l8.out | exact (La (La L7.out)).trans l8.out)
  clear L7 l8
  go_wp2_with (go_at_call 10; refine (hn.out _ _).mono ?_; rintro e W ⟨rfl, hw⟩; subst hw)
  go_ret
  exact ⟨by first | rfl | exact congrArg (fun t => Ending.returned (.bool (!t))) s5 | exact congrArg (fun t => Ending.returned (.bool t)) s5, by first | exact La L8.out | exact L8.out⟩
theorem walk (a b : Int) (w : World) : Calls Try.prog 4 #[.int .i64 a, .int .i64 b] w fun e w' => e = .returned (.bool true) ∧ Later w w' := by
  obtain ⟨k, hk, hk1⟩ := by11 a
  obtain ⟨j, hj, hj1⟩ : ∃ j : Nat, bits .and .i64 b 1023 = (j : Int) ∧ j < 1024 := by have t := and_m b 10 (by decide); simpa using t
  obtain ⟨i, hi, hi1⟩ : ∃ i : Nat, bits .and .i64 b 3 = (i : Int) ∧ i < 4 := by have t := and_m b 2 (by decide); simpa using t
  have e1 : wrap64 (257 + bits .and .i64 b 1023) = ((257 + j : Nat) : Int) := by rw [hj]; unfold wrap64; omega
  have e2 : wrap64 (1025 + bits .and .i64 b 1023) = ((1025 + j : Nat) : Int) := by rw [hj]; unfold wrap64; omega
  have e3 : wrap64 (65523 + bits .and .i64 b 3) = ((65523 + i : Nat) : Int) := by rw [hi]; unfold wrap64; omega
  by_cases i0 : i = 0
  · by_cases h1 : k = 1
    · subst h1
      exact l1a a b 1 j i _ hk e1 hj1 e3 rfl i0 w
    by_cases h3 : k = 3
    · subst h3
      exact l3a a b 3 j i _ hk e1 hj1 e3 rfl i0 w
    by_cases h10 : k = 10
    · subst h10
      exact l10a a b 10 j i _ hk e1 hj1 e3 rfl i0 w
    by_cases h8 : k = 8
    · subst h8
      exact l8a a b 8 j i _ hk e2 hj1 e3 rfl i0 w
    exact lka a b k j i _ hk (by omega) h8 h1 h3 h10 e2 hj1 e3 rfl i0 w
  · by_cases h1 : k = 1
    · subst h1
      exact l1b a b 1 j i _ hk e1 hj1 e3 rfl (by omega) w
    by_cases h3 : k = 3
    · subst h3
      exact l3b a b 3 j i _ hk e1 hj1 e3 rfl (by omega) w
    by_cases h10 : k = 10
    · subst h10
      exact l10b a b 10 j i _ hk e1 hj1 e3 rfl (by omega) w
    by_cases h8 : k = 8
    · subst h8
      exact l8b a b 8 j i _ hk e2 hj1 e3 rfl (by omega) w
    exact lkb a b k j i _ hk (by omega) h8 h1 h3 h10 e2 hj1 e3 rfl (by omega) w

set_option maxRecDepth 100000 in
theorem lifted (os : Os) (started : os.Started) (H : Type) (enc : TypeId × Value → H) :
    ReturnsInHanded {} Try.checked os 4 .any (Rows.decodeLongSpec.pre6 enc Try.prog Try.f4 Rows.decodeLongRow.domain false) (Rows.decodeLongSpec.post enc Try.prog Try.f4 false true false false) := by
  refine returnsInHanded_of_change_sized (C := Try.checked) own started (by kernel_rfl) Try.func4
    (ChangeSpec.witness6 (enc := enc) (C := Try.checked) false ⟨#[], #[.int .i64 0, .int .i64 0], []⟩ 8 (by kernel_rfl) (by kernel_rfl) (by kernel_rfl) (by kernel_rfl)) ?_
  intro W base args ds gs before hval0 hW _ _ _
  have hval : ∀ (j : Nat) t v, Try.f4.params[j]? = some t → args[j]? = some v → Value.okWide Try.prog W .any base t v := hval0
  have hW' := hW
  obtain ⟨p, q, hA0, hV, rfl, hfz, hnd⟩ := hW
  have hA : DataW.TrodAll enc Try.prog W 0 (fun _ => true) true Try.f4.params.toList args.toList ds p := hA0
  rw [Try.params4] at hA hval
  obtain ⟨v0, vs0, d0, ds0, p0, q0, hargs, rfl, rfl, h0, r0⟩ := trodAll_cons hA
  obtain ⟨v1, vs1, d1, ds1, p1, q1, rfl, rfl, rfl, h1, r1⟩ := trodAll_cons r0
  obtain ⟨rfl, rfl, rfl⟩ := trodAll_nil r1
  obtain rfl : args = #[v0, v1] := by cases args; simp_all
  obtain ⟨rfl, rfl⟩ := trodVars_none hV
  obtain ⟨a0, rfl, rfl, rfl, w0⟩ := open_int Try.underlying3 (hval 0 3 v0 rfl rfl) h0
  obtain ⟨a1, rfl, rfl, rfl, w1⟩ := open_int Try.underlying3 (hval 1 3 v1 rfl rfl) h1
  clear hA0 hval0
  simp only [List.append_nil, List.nil_append] at hW'
  have hlt : ∀ x ∈ ([] : List MemPlace), x.block < W.heap.size := fun x hx => by simpa using hW'.lt x hx
  refine (walk a0 a1 W ).mono fun e W' ⟨he, hl⟩ => ?_
  subst he
  have hbel : Below W.heap.size W W' := by obtain ⟨bs, nn, rfl⟩ := hl; exact ⟨rfl, rfl, rfl, by rw [World.far_size]; omega, fun k hk => World.far_block W bs nn k hk⟩
  have hx : ∀ sp : Nat → Bool, (∀ p ∈ ([] : List MemPlace), sp p.block = true) → DataW.TrodAll enc Try.prog W' 0 sp true [3, 3] [.int .i64 a0, .int .i64 a1] [.lit (.int .i64 a0), .lit (.int .i64 a1)] (([] : List MemPlace)) := fun sp hsp => by simpa using (trodAll_cons_mk (shut_int Try.underlying3 w0) (trodAll_cons_mk (shut_int Try.underlying3 w1) trodAll_mk0))
  exact ⟨_, rfl, post_none hW' (fun _ _ _ => (trodAll_cons_mk (shut_bool Try.underlying4 _) trodAll_mk0)) (fun sp => hx sp (fun p hp => absurd hp List.not_mem_nil)) (fun _ => rfl) (hbel.frame _) (ok_one (by kernel_rfl) rfl (okWide_bool_mk Try.underlying4 _))⟩

theorem over : Rows.decodeLongRow.holds Try.pinned (OpenSpec.ofChange Rows.decodeLongSpec) :=
  OpenClaim.holds_of_wide 4 Try.f4 rfl rfl rfl rfl rfl rfl rfl ⟨rfl, rfl, rfl, rfl, rfl⟩ rfl rfl rfl rfl rfl (by kernel_rfl) Try.func4 (by kernel_rfl)
    (of_decide_eq_true (by kernel_rfl)) (by unfold Func.isWrapper; first | (rw [if_pos (by decide +kernel)]; kernel_rfl) | (rw [if_neg (by decide +kernel)]; exact ⟨rfl, rfl⟩))
    (fun os started H enc _ => lifted os started H enc)


theorem proved : Rows.DecodeLongSaid := over
end Go.Proofs.Ytngciahmoenkiab.decodeLong
namespace Go.Proofs.Ytngciahmoenkiab
theorem decodeLong_holds : Rows.DecodeLongSaid := decodeLong.proved
#print axioms decodeLong_holds
end Go.Proofs.Ytngciahmoenkiab
