/- 'DecodeLimits' of package peloruslaw15 returns true at every three ints: limits of a table and of a memory come out as they were put, and a wrong flag or a wrong table type is refused. No condition. -/
import Derived.Test.YtngciahmoenkiaaFC
import Derived.Test.YtngciahmoenkiaaFG
import Derived.LoopTactic
import Derived.OpenShut
import Derived.ChangeMaps5
import Derived.ShutString
import Derived.SizedLaws
set_option linter.unusedVariables false
set_option linter.unusedSimpArgs false
set_option maxRecDepth 100000
set_option maxHeartbeats 8000000
namespace Go.Proofs.Ytngciahmoenkiaa.decodeLimits
open Go.ChangeShapes Go.WideShapes Go.ChangeAt Go.RowKit
theorem sec_size (id : Int) (b : ByteArray) (h : b.size < 1000000) : (secB id b).size < 2000000 := by
  unfold secB
  have := lebL_max (b.size : Int)
  rw [ByteArray.size_append, ByteArray.size_append, strOfNums_size, strOfNums_size]
  simp only [List.length_cons, List.length_nil]
  omega
theorem leb_size (y : Int) : (strOfNums (lebL y)).size ≤ 10 := by
  rw [strOfNums_size]
  exact lebL_max y
theorem at_world {F : Act → World → Prop} {a : Act} {W0 : World} (h : ∀ W, W = W0 → F a W) : F a W0 := h W0 rfl
theorem f0 (x y g : Int) (a b : Int) (hx : bits .and .i64 x 4294967295 = a) (hy : bits .and .i64 y 4294967295 = b) (hf : bits .and .i64 g 3 = 0) (w : World)
    (r1 : unM (hd8 ++ secB ((4 : Nat) : Int) (⟨#[1, 112]⟩ ++ (strOfNums [0] ++ strOfNums (lebL a)))) = ({ mdZ (-1) with ta := [(a, (-1))] }, 0)) (r2 : unM (hd8 ++ secB ((5 : Nat) : Int) (⟨#[1]⟩ ++ (strOfNums [0] ++ strOfNums (lebL a)))) = ({ mdZ (-1) with me := [(a, (-1))] }, 0)) (r3 : (unM (hd8 ++ secB ((4 : Nat) : Int) (⟨#[1, 113]⟩ ++ (strOfNums [0] ++ strOfNums (lebL a))))).2 = 1506) :
    Calls Try.prog 7 #[.int .i64 x, .int .i64 y, .int .i64 g] w fun e w' => e = .returned (.bool true) ∧ Later w w' := by
  have hl : Hid (∀ W : World, Calls Try.prog 13 #[.int .i64 a] W fun e w' => e = .returned (.string (strOfNums (lebL a))) ∧ Later W w') := fun W => leb_any a W
  have cv : ∀ (W : World) (g : Nat), g = W.heap.size → (convert 48 9 (.slice (some ⟨g, 0, none⟩) 1 1)).run Try.prog (W.alloc (.cells #[.int .u8 0] 5)) = .ok (.string (strOfNums [0])) (W.alloc (.cells #[.int .u8 0] 5)) := fun W g hg => by
    subst hg
    exact conv_l [0] (by decide) 1 rfl (Lz _)
  have cd : ∀ (W : World) (g : Nat), g = W.heap.size → (convert 48 9 (.slice (some ⟨g, 0, none⟩) 1 1)).run Try.prog ((W.alloc (.cells #[.int .u8 0] 5)).drew) = .ok (.string (strOfNums [0])) ((W.alloc (.cells #[.int .u8 0] 5)).drew) := fun W g hg => by
    subst hg
    exact conv_l [0] (by decide) 1 rfl (Ld (Lz _))
  have cl : Hid (∀ W W' : World, Later (W.alloc (.cells #[.int .u8 0] 5)) W' → (convert 48 9 (.slice (some ⟨W.heap.size, 0, none⟩) 1 1)).run Try.prog W' = .ok (.string (strOfNums [0])) W') := fun W W' h => conv_l [0] (by decide) 1 rfl h
  have s1 : (strOfNums [0]).size = 1 := strOfNums_size _
  have s2 := leb_size a
  generalize strOfNums [0] = S1 at *
  generalize strOfNums (lebL a) = S2 at *
  have u0 : (S1 ++ S2).size ≤ 11 := by rw [ByteArray.size_append]; omega
  have u1 : (⟨#[1, 112]⟩ ++ (S1 ++ S2)).size < 1000 := by rw [ByteArray.size_append]; show 2 + _ < _; omega
  have u2 : (⟨#[1]⟩ ++ (S1 ++ S2)).size < 1000 := by rw [ByteArray.size_append]; show 1 + _ < _; omega
  have u3 : (⟨#[1, 113]⟩ ++ (S1 ++ S2)).size < 1000 := by rw [ByteArray.size_append]; show 2 + _ < _; omega
  have z1 := sec_size ((4 : Nat) : Int) (⟨#[1, 112]⟩ ++ (S1 ++ S2)) (by omega)
  have z2 := sec_size ((5 : Nat) : Int) (⟨#[1]⟩ ++ (S1 ++ S2)) (by omega)
  have z3 := sec_size ((4 : Nat) : Int) (⟨#[1, 113]⟩ ++ (S1 ++ S2)) (by omega)
  have hc1 : Hid (∀ W, Calls Try.prog 16 #[.int .i64 4, .string (⟨#[1, 112]⟩ ++ (S1 ++ S2))] W fun e w' => e = .returned (.string (secB ((4 : Nat) : Int) (⟨#[1, 112]⟩ ++ (S1 ++ S2)))) ∧ Later W w') := section_any 4 (by omega) _ (by omega)
  have hc2 : Hid (∀ W, Calls Try.prog 16 #[.int .i64 5, .string (⟨#[1]⟩ ++ (S1 ++ S2))] W fun e w' => e = .returned (.string (secB ((5 : Nat) : Int) (⟨#[1]⟩ ++ (S1 ++ S2)))) ∧ Later W w') := section_any 5 (by omega) _ (by omega)
  have hc3 : Hid (∀ W, Calls Try.prog 16 #[.int .i64 4, .string (⟨#[1, 113]⟩ ++ (S1 ++ S2))] W fun e w' => e = .returned (.string (secB ((4 : Nat) : Int) (⟨#[1, 113]⟩ ++ (S1 ++ S2)))) ∧ Later W w') := section_any 4 (by omega) _ (by omega)
  have hm1 : Hid (∀ W, Calls Try.prog 9 #[.string (hd8 ++ secB ((4 : Nat) : Int) (⟨#[1, 112]⟩ ++ (S1 ++ S2)))] W (DtabP W a (-1))) := dm_tab (by rw [ByteArray.size_append]; show 8 + _ < _; omega) r1
  have hm2 : Hid (∀ W, Calls Try.prog 9 #[.string (hd8 ++ secB ((5 : Nat) : Int) (⟨#[1]⟩ ++ (S1 ++ S2)))] W (DmemP W a (-1))) := dm_mem (by rw [ByteArray.size_append]; show 8 + _ < _; omega) r2
  have hm3 : Hid (∀ W, Calls Try.prog 9 #[.string (hd8 ++ secB ((4 : Nat) : Int) (⟨#[1, 113]⟩ ++ (S1 ++ S2)))] W (DcP W 1506)) := dm_code (by rw [ByteArray.size_append]; show 8 + _ < _; omega) r3
  have q1 : ¬ 9223372036854775807 < 8 + (secB ((4 : Nat) : Int) (⟨#[1, 112]⟩ ++ (S1 ++ S2))).size := by omega
  have q2 : ¬ 9223372036854775807 < 8 + (secB ((5 : Nat) : Int) (⟨#[1]⟩ ++ (S1 ++ S2))).size := by omega
  have q3 : ¬ 9223372036854775807 < 8 + (secB ((4 : Nat) : Int) (⟨#[1, 113]⟩ ++ (S1 ++ S2))).size := by omega
  have q4 : ¬ 9223372036854775807 < S1.size + S2.size := by omega
  have q5 : ¬ 9223372036854775807 < 2 + (S1 ++ S2).size := by omega
  have q6 : ¬ 9223372036854775807 < 1 + (S1 ++ S2).size := by omega
  have q7 : ¬ 9223372036854775807 < 2 + (S1.size + S2.size) := by omega
  have q8 : ¬ 9223372036854775807 < 1 + (S1.size + S2.size) := by omega
  have hn : Hid (∀ x W, Calls Try.prog 10 #[.int .i64 x] W fun e w' => e = .returned (.int .i64 x) ∧ w' = W) := lnum_any
  generalize secB ((4 : Nat) : Int) (⟨#[1, 112]⟩ ++ (S1 ++ S2)) = T1 at *
  generalize secB ((5 : Nat) : Int) (⟨#[1]⟩ ++ (S1 ++ S2)) = T2 at *
  generalize secB ((4 : Nat) : Int) (⟨#[1, 113]⟩ ++ (S1 ++ S2)) = T3 at *
  clear r1 r2 r3 z1 z2 z3 s1 s2 u0 u1 u2 u3
  go_enter Try.func7, Try.ntmps7
  go_wp2_with (go_at_call 8; refine (awake_any _).mono ?_; rintro e w0 ⟨rfl, l0⟩; replace l0 : Hid (Later w w0) := l0.out)
  all_goals try go_wp2_with fail
  go_region_law (go_simp; go_at_call 13; refine (hl.out _).mono ?_; rintro e1 v1 ⟨rfl, l1⟩; have L0 : Hid (Later w v1) := (by first | exact (Ld (La l0.out)).trans l1 | exact (Ld l0.out).trans l1 | exact (La (Ld l0.out)).trans l1 | exact l0.out.trans l1); first | (have cw := cl.out w0 v1 ((Ld (Lz _)).trans l1)) | skip; clear l1)
  all_goals
    clear cv cd cl
    go_simp
    clear l0
    have l0 : Hid (Later w v1) := L0
    clear L0
    try clear l1
    go_wp2_with fail
    refine (hc1.out _).mono ?_
    clear hc1
    rintro e w1 ⟨rfl, l1⟩
    have L1 : Hid (Later w w1) := (by first | exact l0.out.trans l1 | exact (La l0.out).trans l1 | exact (La (La l0.out)).trans l1)
    clear l0
    replace l1 : Hid _ := l1
    go_wp2_with fail
    refine (hm1.out _).mono ?_
    clear hm1
    rintro e w2 ⟨A2, n2, c2, st2, g2, o2, rfl, G2, X2, Y2, l2⟩
    have L2 : Hid (Later w w2) := (by first | exact L1.out.trans l2.out | exact (La L1.out).trans l2.out | exact (La (La L1.out)).trans l2.out)
    clear L1
    replace l2 : Hid _ := l2
    go_wp2_with fail
    refine (hc2.out _).mono ?_
    clear hc2
    rintro e w3 ⟨rfl, l3⟩
    have L3 : Hid (Later w w3) := (by first | exact L2.out.trans l3 | exact (La L2.out).trans l3 | exact (La (La L2.out)).trans l3)
    clear L2
    replace l3 : Hid _ := l3
    go_wp2_with fail
    refine (hm2.out _).mono ?_
    clear hm2
    rintro e w4 ⟨A4, n4, c4, st4, g4, o4, rfl, G4, X4, Y4, l4⟩
    have L4 : Hid (Later w w4) := (by first | exact L3.out.trans l4.out | exact (La L3.out).trans l4.out | exact (La (La L3.out)).trans l4.out)
    clear L3
    replace l4 : Hid _ := l4
    go_wp2_with fail
    refine (hc3.out _).mono ?_
    clear hc3
    rintro e w5 ⟨rfl, l5⟩
    have L5 : Hid (Later w w5) := (by first | exact L4.out.trans l5 | exact (La L4.out).trans l5 | exact (La (La L4.out)).trans l5)
    clear L4
    replace l5 : Hid _ := l5
    go_wp2_with fail
    refine (hm3.out _).mono ?_
    clear hm3
    rintro e w6 ⟨A6, n6, c6, st6, rfl, l6⟩
    have L6 : Hid (Later w w6) := (by first | exact L5.out.trans l6.out | exact (La L5.out).trans l6.out | exact (La (La L5.out)).trans l6.out)
    clear L5
    replace l6 : Hid _ := l6
    go_wp2_with fail
    refine at_world fun W hW => ?_
    have kz : Later w6 W := by rw [hW]; exact La (Lz _)
    have k4 : Later (w4.alloc _) W := (show Later _ w5 from l5.out).trans ((show Later w5 w6 from l6.out).trans kz)
    have k2 : Later (w2.alloc _) W := (show Later _ w3 from l3.out).trans ((show Later w3 w4 from l4.out).trans (Later.trans (La (Lz w4)) k4))
    have k1 := (show Later _ w1 from l1.out).trans ((show Later w1 w2 from l2.out).trans (Later.trans (La (Lz w2)) k2))
    have x2 := (Later.trans (La (Lz w2)) k2).cell_of X2.out
    have y2 := (Later.trans (La (Lz w2)) k2).cell_of Y2.out
    have x4 := (Later.trans (La (Lz w4)) k4).cell_of X4.out
    have y4 := (Later.trans (La (Lz w4)) k4).cell_of Y4.out
    have m2 : W.cell? ⟨w2.heap.size, 3, none⟩ = some (.slice (some ⟨g2, o2, none⟩) 1 (c2 3)) := k2.cell_of (by simp [go_sem])
    have m4 : W.cell? ⟨w4.heap.size, 4, none⟩ = some (.slice (some ⟨g4, o4, none⟩) 1 (c4 4)) := k4.cell_of (by simp [go_sem])
    first
    | (have t0 : W.cell? ⟨v1.heap.size, 0, none⟩ = some (.int .i64 a) := by refine k1.cell_of ?_; simp [go_sem]; done
       have t1 : W.cell? ⟨v1.heap.size, 1, none⟩ = some (.int .i64 (-1)) := by refine k1.cell_of ?_; simp [go_sem]; done)
    | (have t0 : W.cell? ⟨v1.heap.size + 1, 0, none⟩ = some (.int .i64 a) := by refine k1.cell_of ?_; simp [go_sem]; done
       have t1 : W.cell? ⟨v1.heap.size + 1, 1, none⟩ = some (.int .i64 (-1)) := by refine k1.cell_of ?_; simp [go_sem]; done)
    have LW : Hid (Later w W) := L6.out.trans kz
    clear k1 k2 k4 kz X2 Y2 X4 Y4 l1 l2 l3 l4 l5 l6 L6 hW
    go_quiet ((go_at_call 10; exact Calls.quiet_of_same (hn.out _ _)))
    go_wp2_with fail
    go_ret
    exact ⟨rfl, by first | exact LW.out | exact Ld LW.out | exact LW.out.drewN⟩
theorem f1 (x y g : Int) (a b : Int) (hx : bits .and .i64 x 4294967295 = a) (hy : bits .and .i64 y 4294967295 = b) (hf : bits .and .i64 g 3 = 1) (w : World)
    (r1 : unM (hd8 ++ secB ((4 : Nat) : Int) (⟨#[1, 112]⟩ ++ (strOfNums [1] ++ strOfNums (lebL a) ++ strOfNums (lebL b)))) = ({ mdZ (-1) with ta := [(a, b)] }, 0)) (r2 : unM (hd8 ++ secB ((5 : Nat) : Int) (⟨#[1]⟩ ++ (strOfNums [1] ++ strOfNums (lebL a) ++ strOfNums (lebL b)))) = ({ mdZ (-1) with me := [(a, b)] }, 0)) (r3 : (unM (hd8 ++ secB ((4 : Nat) : Int) (⟨#[1, 113]⟩ ++ (strOfNums [1] ++ strOfNums (lebL a) ++ strOfNums (lebL b))))).2 = 1506) :
    Calls Try.prog 7 #[.int .i64 x, .int .i64 y, .int .i64 g] w fun e w' => e = .returned (.bool true) ∧ Later w w' := by
  have hl : Hid (∀ W : World, Calls Try.prog 13 #[.int .i64 a] W fun e w' => e = .returned (.string (strOfNums (lebL a))) ∧ Later W w') := fun W => leb_any a W
  have hl9 : Hid (∀ W : World, Calls Try.prog 13 #[.int .i64 b] W fun e w' => e = .returned (.string (strOfNums (lebL b))) ∧ Later W w') := fun W => leb_any b W
  have cv : ∀ (W : World) (g : Nat), g = W.heap.size → (convert 48 9 (.slice (some ⟨g, 0, none⟩) 1 1)).run Try.prog (W.alloc (.cells #[.int .u8 1] 5)) = .ok (.string (strOfNums [1])) (W.alloc (.cells #[.int .u8 1] 5)) := fun W g hg => by
    subst hg
    exact conv_l [1] (by decide) 1 rfl (Lz _)
  have cd : ∀ (W : World) (g : Nat), g = W.heap.size → (convert 48 9 (.slice (some ⟨g, 0, none⟩) 1 1)).run Try.prog ((W.alloc (.cells #[.int .u8 1] 5)).drew) = .ok (.string (strOfNums [1])) ((W.alloc (.cells #[.int .u8 1] 5)).drew) := fun W g hg => by
    subst hg
    exact conv_l [1] (by decide) 1 rfl (Ld (Lz _))
  have cl : Hid (∀ W W' : World, Later (W.alloc (.cells #[.int .u8 1] 5)) W' → (convert 48 9 (.slice (some ⟨W.heap.size, 0, none⟩) 1 1)).run Try.prog W' = .ok (.string (strOfNums [1])) W') := fun W W' h => conv_l [1] (by decide) 1 rfl h
  have s1 : (strOfNums [1]).size = 1 := strOfNums_size _
  have s2 := leb_size a
  have s3 := leb_size b
  generalize strOfNums [1] = S1 at *
  generalize strOfNums (lebL a) = S2 at *
  generalize strOfNums (lebL b) = S3 at *
  have u0 : (S1 ++ S2 ++ S3).size ≤ 21 := by rw [ByteArray.size_append, ByteArray.size_append]; omega
  have u1 : (⟨#[1, 112]⟩ ++ (S1 ++ S2 ++ S3)).size < 1000 := by rw [ByteArray.size_append]; show 2 + _ < _; omega
  have u2 : (⟨#[1]⟩ ++ (S1 ++ S2 ++ S3)).size < 1000 := by rw [ByteArray.size_append]; show 1 + _ < _; omega
  have u3 : (⟨#[1, 113]⟩ ++ (S1 ++ S2 ++ S3)).size < 1000 := by rw [ByteArray.size_append]; show 2 + _ < _; omega
  have z1 := sec_size ((4 : Nat) : Int) (⟨#[1, 112]⟩ ++ (S1 ++ S2 ++ S3)) (by omega)
  have z2 := sec_size ((5 : Nat) : Int) (⟨#[1]⟩ ++ (S1 ++ S2 ++ S3)) (by omega)
  have z3 := sec_size ((4 : Nat) : Int) (⟨#[1, 113]⟩ ++ (S1 ++ S2 ++ S3)) (by omega)
  have hc1 : Hid (∀ W, Calls Try.prog 16 #[.int .i64 4, .string (⟨#[1, 112]⟩ ++ (S1 ++ S2 ++ S3))] W fun e w' => e = .returned (.string (secB ((4 : Nat) : Int) (⟨#[1, 112]⟩ ++ (S1 ++ S2 ++ S3)))) ∧ Later W w') := section_any 4 (by omega) _ (by omega)
  have hc2 : Hid (∀ W, Calls Try.prog 16 #[.int .i64 5, .string (⟨#[1]⟩ ++ (S1 ++ S2 ++ S3))] W fun e w' => e = .returned (.string (secB ((5 : Nat) : Int) (⟨#[1]⟩ ++ (S1 ++ S2 ++ S3)))) ∧ Later W w') := section_any 5 (by omega) _ (by omega)
  have hc3 : Hid (∀ W, Calls Try.prog 16 #[.int .i64 4, .string (⟨#[1, 113]⟩ ++ (S1 ++ S2 ++ S3))] W fun e w' => e = .returned (.string (secB ((4 : Nat) : Int) (⟨#[1, 113]⟩ ++ (S1 ++ S2 ++ S3)))) ∧ Later W w') := section_any 4 (by omega) _ (by omega)
  have hm1 : Hid (∀ W, Calls Try.prog 9 #[.string (hd8 ++ secB ((4 : Nat) : Int) (⟨#[1, 112]⟩ ++ (S1 ++ S2 ++ S3)))] W (DtabP W a b)) := dm_tab (by rw [ByteArray.size_append]; show 8 + _ < _; omega) r1
  have hm2 : Hid (∀ W, Calls Try.prog 9 #[.string (hd8 ++ secB ((5 : Nat) : Int) (⟨#[1]⟩ ++ (S1 ++ S2 ++ S3)))] W (DmemP W a b)) := dm_mem (by rw [ByteArray.size_append]; show 8 + _ < _; omega) r2
  have hm3 : Hid (∀ W, Calls Try.prog 9 #[.string (hd8 ++ secB ((4 : Nat) : Int) (⟨#[1, 113]⟩ ++ (S1 ++ S2 ++ S3)))] W (DcP W 1506)) := dm_code (by rw [ByteArray.size_append]; show 8 + _ < _; omega) r3
  have q1 : ¬ 9223372036854775807 < 8 + (secB ((4 : Nat) : Int) (⟨#[1, 112]⟩ ++ (S1 ++ S2 ++ S3))).size := by omega
  have q2 : ¬ 9223372036854775807 < 8 + (secB ((5 : Nat) : Int) (⟨#[1]⟩ ++ (S1 ++ S2 ++ S3))).size := by omega
  have q3 : ¬ 9223372036854775807 < 8 + (secB ((4 : Nat) : Int) (⟨#[1, 113]⟩ ++ (S1 ++ S2 ++ S3))).size := by omega
  have q4 : ¬ 9223372036854775807 < S1.size + S2.size := by omega
  have q9 : ¬ 9223372036854775807 < (S1 ++ S2).size + S3.size := by rw [ByteArray.size_append]; omega
  have qa : ¬ 9223372036854775807 < S1.size + S2.size + S3.size := by omega
  have qb : ¬ 9223372036854775807 < 2 + (S1.size + S2.size + S3.size) := by omega
  have qc : ¬ 9223372036854775807 < 1 + (S1.size + S2.size + S3.size) := by omega
  have q5 : ¬ 9223372036854775807 < 2 + (S1 ++ S2 ++ S3).size := by omega
  have q6 : ¬ 9223372036854775807 < 1 + (S1 ++ S2 ++ S3).size := by omega
  have q7 : ¬ 9223372036854775807 < 2 + (S1.size + S2.size) := by omega
  have q8 : ¬ 9223372036854775807 < 1 + (S1.size + S2.size) := by omega
  have hn : Hid (∀ x W, Calls Try.prog 10 #[.int .i64 x] W fun e w' => e = .returned (.int .i64 x) ∧ w' = W) := lnum_any
  generalize secB ((4 : Nat) : Int) (⟨#[1, 112]⟩ ++ (S1 ++ S2 ++ S3)) = T1 at *
  generalize secB ((5 : Nat) : Int) (⟨#[1]⟩ ++ (S1 ++ S2 ++ S3)) = T2 at *
  generalize secB ((4 : Nat) : Int) (⟨#[1, 113]⟩ ++ (S1 ++ S2 ++ S3)) = T3 at *
  clear r1 r2 r3 z1 z2 z3 s1 s2 s3 u0 u1 u2 u3
  go_enter Try.func7, Try.ntmps7
  go_wp2_with (go_at_call 8; refine (awake_any _).mono ?_; rintro e w0 ⟨rfl, l0⟩; replace l0 : Hid (Later w w0) := l0.out)
  all_goals try go_wp2_with fail
  go_region_law (go_simp; go_at_call 13; refine (hl.out _).mono ?_; rintro e1 v1 ⟨rfl, l1⟩; have L0 : Hid (Later w v1) := (by first | exact (Ld (La l0.out)).trans l1 | exact (Ld l0.out).trans l1 | exact (La (Ld l0.out)).trans l1 | exact l0.out.trans l1); first | (have cw := cl.out w0 v1 ((Ld (Lz _)).trans l1)) | skip; clear l1)
  all_goals
    clear cv cd cl
    go_simp
    clear l0
    refine at_world fun V0 hV0 => ?_
    have l0 : Hid (Later w V0) := by first | (rw [hV0]; exact L0.out) | (rw [hV0]; exact La L0.out) | (rw [hV0]; exact Ld L0.out) | (rw [hV0]; exact La (Ld L0.out)) | (rw [hV0]; exact Ld (La L0.out))
    clear L0 hV0
    try clear l1
    have P0 : Hid (Rl (V0.alloc (.cells #[.int .i64 a, .int .i64 (-1)] 54)) V0.heap.size 54 [.int .i64 a, .int .i64 (-1)]) := row_new V0 54 [.int .i64 a, .int .i64 (-1)]
    go_wp2_with fail
    refine (hl9.out _).mono ?_
    clear hl9
    rintro e v2 ⟨rfl, l9⟩
    have p0 := P0.out.later l9
    have k0' : v2.cell? ⟨V0.heap.size, 0, none⟩ = some (.int .i64 a) := p0.cell 0 rfl
    have k1' : v2.cell? ⟨V0.heap.size, 1, none⟩ = some (.int .i64 (-1)) := p0.cell 1 rfl
    have f1' := Rl.frozen p0 1
    have hl0 := cell_lt k0'
    have R0 : Hid (Rl (v2.setCell ⟨V0.heap.size, 1, none⟩ (.int .i64 b)) V0.heap.size 54 [.int .i64 a, .int .i64 b]) := Rl.set p0 1 _
    have L9 : Hid (Later w (v2.setCell ⟨V0.heap.size, 1, none⟩ (.int .i64 b))) := by
      have hle := l0.out.size
      exact Wr.later (Wr.set ((Wr.of_later (S := fun k => k = V0.heap.size) (l0.out.trans ((La (Lz _)).trans l9)))) 1 _ (Or.inl rfl)) (fun k hk => by have hk : k = V0.heap.size := hk; omega)
    clear l0 P0 p0 l9
    go_wp2_with fail
    generalize v2.setCell ⟨V0.heap.size, 1, none⟩ (.int .i64 b) = V at *
    refine (hc1.out _).mono ?_
    clear hc1
    rintro e w1 ⟨rfl, l1⟩
    have L1 : Hid (Later w w1) := (by first | exact L9.out.trans l1 | exact (La L9.out).trans l1 | exact (La (La L9.out)).trans l1)
    clear L9
    replace l1 : Hid _ := l1
    go_wp2_with fail
    refine (hm1.out _).mono ?_
    clear hm1
    rintro e w2 ⟨A2, n2, c2, st2, g2, o2, rfl, G2, X2, Y2, l2⟩
    have L2 : Hid (Later w w2) := (by first | exact L1.out.trans l2.out | exact (La L1.out).trans l2.out | exact (La (La L1.out)).trans l2.out)
    clear L1
    replace l2 : Hid _ := l2
    go_wp2_with fail
    refine (hc2.out _).mono ?_
    clear hc2
    rintro e w3 ⟨rfl, l3⟩
    have L3 : Hid (Later w w3) := (by first | exact L2.out.trans l3 | exact (La L2.out).trans l3 | exact (La (La L2.out)).trans l3)
    clear L2
    replace l3 : Hid _ := l3
    go_wp2_with fail
    refine (hm2.out _).mono ?_
    clear hm2
    rintro e w4 ⟨A4, n4, c4, st4, g4, o4, rfl, G4, X4, Y4, l4⟩
    have L4 : Hid (Later w w4) := (by first | exact L3.out.trans l4.out | exact (La L3.out).trans l4.out | exact (La (La L3.out)).trans l4.out)
    clear L3
    replace l4 : Hid _ := l4
    go_wp2_with fail
    refine (hc3.out _).mono ?_
    clear hc3
    rintro e w5 ⟨rfl, l5⟩
    have L5 : Hid (Later w w5) := (by first | exact L4.out.trans l5 | exact (La L4.out).trans l5 | exact (La (La L4.out)).trans l5)
    clear L4
    replace l5 : Hid _ := l5
    go_wp2_with fail
    refine (hm3.out _).mono ?_
    clear hm3
    rintro e w6 ⟨A6, n6, c6, st6, rfl, l6⟩
    have L6 : Hid (Later w w6) := (by first | exact L5.out.trans l6.out | exact (La L5.out).trans l6.out | exact (La (La L5.out)).trans l6.out)
    clear L5
    replace l6 : Hid _ := l6
    go_wp2_with fail
    refine at_world fun W hW => ?_
    have kz : Later w6 W := by rw [hW]; exact La (Lz _)
    have k4 : Later (w4.alloc _) W := (show Later _ w5 from l5.out).trans ((show Later w5 w6 from l6.out).trans kz)
    have k2 : Later (w2.alloc _) W := (show Later _ w3 from l3.out).trans ((show Later w3 w4 from l4.out).trans (Later.trans (La (Lz w4)) k4))
    have k1 := (show Later _ w1 from l1.out).trans ((show Later w1 w2 from l2.out).trans (Later.trans (La (Lz w2)) k2))
    have x2 := (Later.trans (La (Lz w2)) k2).cell_of X2.out
    have y2 := (Later.trans (La (Lz w2)) k2).cell_of Y2.out
    have x4 := (Later.trans (La (Lz w4)) k4).cell_of X4.out
    have y4 := (Later.trans (La (Lz w4)) k4).cell_of Y4.out
    have m2 : W.cell? ⟨w2.heap.size, 3, none⟩ = some (.slice (some ⟨g2, o2, none⟩) 1 (c2 3)) := k2.cell_of (by simp [go_sem])
    have m4 : W.cell? ⟨w4.heap.size, 4, none⟩ = some (.slice (some ⟨g4, o4, none⟩) 1 (c4 4)) := k4.cell_of (by simp [go_sem])
    have t0 : W.cell? ⟨V0.heap.size, 0, none⟩ = some (.int .i64 a) := k1.cell_of (R0.out.cell 0 rfl)
    have t1 : W.cell? ⟨V0.heap.size, 1, none⟩ = some (.int .i64 b) := k1.cell_of (R0.out.cell 1 rfl)
    clear R0 k0' k1' f1'
    have LW : Hid (Later w W) := L6.out.trans kz
    clear k1 k2 k4 kz X2 Y2 X4 Y4 l1 l2 l3 l4 l5 l6 L6 hW
    go_quiet ((go_at_call 10; exact Calls.quiet_of_same (hn.out _ _)))
    go_wp2_with fail
    go_ret
    exact ⟨rfl, by first | exact LW.out | exact Ld LW.out | exact LW.out.drewN⟩
theorem f2 (x y g : Int) (a b : Int) (hx : bits .and .i64 x 4294967295 = a) (hy : bits .and .i64 y 4294967295 = b) (hf : bits .and .i64 g 3 = 2) (w : World)
    (r1 : (unM (hd8 ++ secB ((4 : Nat) : Int) (⟨#[1, 112]⟩ ++ (strOfNums [2] ++ strOfNums (lebL a))))).2 = 1506) (r2 : (unM (hd8 ++ secB ((5 : Nat) : Int) (⟨#[1]⟩ ++ (strOfNums [2] ++ strOfNums (lebL a))))).2 = 1506) (r3 : (unM (hd8 ++ secB ((4 : Nat) : Int) (⟨#[1, 113]⟩ ++ (strOfNums [2] ++ strOfNums (lebL a))))).2 = 1506) :
    Calls Try.prog 7 #[.int .i64 x, .int .i64 y, .int .i64 g] w fun e w' => e = .returned (.bool true) ∧ Later w w' := by
  have hl : Hid (∀ W : World, Calls Try.prog 13 #[.int .i64 a] W fun e w' => e = .returned (.string (strOfNums (lebL a))) ∧ Later W w') := fun W => leb_any a W
  have cv : ∀ (W : World) (g : Nat), g = W.heap.size → (convert 48 9 (.slice (some ⟨g, 0, none⟩) 1 1)).run Try.prog (W.alloc (.cells #[.int .u8 2] 5)) = .ok (.string (strOfNums [2])) (W.alloc (.cells #[.int .u8 2] 5)) := fun W g hg => by
    subst hg
    exact conv_l [2] (by decide) 1 rfl (Lz _)
  have cd : ∀ (W : World) (g : Nat), g = W.heap.size → (convert 48 9 (.slice (some ⟨g, 0, none⟩) 1 1)).run Try.prog ((W.alloc (.cells #[.int .u8 2] 5)).drew) = .ok (.string (strOfNums [2])) ((W.alloc (.cells #[.int .u8 2] 5)).drew) := fun W g hg => by
    subst hg
    exact conv_l [2] (by decide) 1 rfl (Ld (Lz _))
  have cl : Hid (∀ W W' : World, Later (W.alloc (.cells #[.int .u8 2] 5)) W' → (convert 48 9 (.slice (some ⟨W.heap.size, 0, none⟩) 1 1)).run Try.prog W' = .ok (.string (strOfNums [2])) W') := fun W W' h => conv_l [2] (by decide) 1 rfl h
  have s1 : (strOfNums [2]).size = 1 := strOfNums_size _
  have s2 := leb_size a
  generalize strOfNums [2] = S1 at *
  generalize strOfNums (lebL a) = S2 at *
  have u0 : (S1 ++ S2).size ≤ 11 := by rw [ByteArray.size_append]; omega
  have u1 : (⟨#[1, 112]⟩ ++ (S1 ++ S2)).size < 1000 := by rw [ByteArray.size_append]; show 2 + _ < _; omega
  have u2 : (⟨#[1]⟩ ++ (S1 ++ S2)).size < 1000 := by rw [ByteArray.size_append]; show 1 + _ < _; omega
  have u3 : (⟨#[1, 113]⟩ ++ (S1 ++ S2)).size < 1000 := by rw [ByteArray.size_append]; show 2 + _ < _; omega
  have z1 := sec_size ((4 : Nat) : Int) (⟨#[1, 112]⟩ ++ (S1 ++ S2)) (by omega)
  have z2 := sec_size ((5 : Nat) : Int) (⟨#[1]⟩ ++ (S1 ++ S2)) (by omega)
  have z3 := sec_size ((4 : Nat) : Int) (⟨#[1, 113]⟩ ++ (S1 ++ S2)) (by omega)
  have hc1 : Hid (∀ W, Calls Try.prog 16 #[.int .i64 4, .string (⟨#[1, 112]⟩ ++ (S1 ++ S2))] W fun e w' => e = .returned (.string (secB ((4 : Nat) : Int) (⟨#[1, 112]⟩ ++ (S1 ++ S2)))) ∧ Later W w') := section_any 4 (by omega) _ (by omega)
  have hc2 : Hid (∀ W, Calls Try.prog 16 #[.int .i64 5, .string (⟨#[1]⟩ ++ (S1 ++ S2))] W fun e w' => e = .returned (.string (secB ((5 : Nat) : Int) (⟨#[1]⟩ ++ (S1 ++ S2)))) ∧ Later W w') := section_any 5 (by omega) _ (by omega)
  have hc3 : Hid (∀ W, Calls Try.prog 16 #[.int .i64 4, .string (⟨#[1, 113]⟩ ++ (S1 ++ S2))] W fun e w' => e = .returned (.string (secB ((4 : Nat) : Int) (⟨#[1, 113]⟩ ++ (S1 ++ S2)))) ∧ Later W w') := section_any 4 (by omega) _ (by omega)
  have hm1 : Hid (∀ W, Calls Try.prog 9 #[.string (hd8 ++ secB ((4 : Nat) : Int) (⟨#[1, 112]⟩ ++ (S1 ++ S2)))] W (DcP W 1506)) := dm_code (by rw [ByteArray.size_append]; show 8 + _ < _; omega) r1
  have hm2 : Hid (∀ W, Calls Try.prog 9 #[.string (hd8 ++ secB ((5 : Nat) : Int) (⟨#[1]⟩ ++ (S1 ++ S2)))] W (DcP W 1506)) := dm_code (by rw [ByteArray.size_append]; show 8 + _ < _; omega) r2
  have hm3 : Hid (∀ W, Calls Try.prog 9 #[.string (hd8 ++ secB ((4 : Nat) : Int) (⟨#[1, 113]⟩ ++ (S1 ++ S2)))] W (DcP W 1506)) := dm_code (by rw [ByteArray.size_append]; show 8 + _ < _; omega) r3
  have q1 : ¬ 9223372036854775807 < 8 + (secB ((4 : Nat) : Int) (⟨#[1, 112]⟩ ++ (S1 ++ S2))).size := by omega
  have q2 : ¬ 9223372036854775807 < 8 + (secB ((5 : Nat) : Int) (⟨#[1]⟩ ++ (S1 ++ S2))).size := by omega
  have q3 : ¬ 9223372036854775807 < 8 + (secB ((4 : Nat) : Int) (⟨#[1, 113]⟩ ++ (S1 ++ S2))).size := by omega
  have q4 : ¬ 9223372036854775807 < S1.size + S2.size := by omega
  have q5 : ¬ 9223372036854775807 < 2 + (S1 ++ S2).size := by omega
  have q6 : ¬ 9223372036854775807 < 1 + (S1 ++ S2).size := by omega
  have q7 : ¬ 9223372036854775807 < 2 + (S1.size + S2.size) := by omega
  have q8 : ¬ 9223372036854775807 < 1 + (S1.size + S2.size) := by omega
  have hn : Hid (∀ x W, Calls Try.prog 10 #[.int .i64 x] W fun e w' => e = .returned (.int .i64 x) ∧ w' = W) := lnum_any
  generalize secB ((4 : Nat) : Int) (⟨#[1, 112]⟩ ++ (S1 ++ S2)) = T1 at *
  generalize secB ((5 : Nat) : Int) (⟨#[1]⟩ ++ (S1 ++ S2)) = T2 at *
  generalize secB ((4 : Nat) : Int) (⟨#[1, 113]⟩ ++ (S1 ++ S2)) = T3 at *
  clear r1 r2 r3 z1 z2 z3 s1 s2 u0 u1 u2 u3
  go_enter Try.func7, Try.ntmps7
  go_wp2_with (go_at_call 8; refine (awake_any _).mono ?_; rintro e w0 ⟨rfl, l0⟩; replace l0 : Hid (Later w w0) := l0.out)
  all_goals try go_wp2_with fail
  go_region_law (go_simp; go_at_call 13; refine (hl.out _).mono ?_; rintro e1 v1 ⟨rfl, l1⟩; have L0 : Hid (Later w v1) := (by first | exact (Ld (La l0.out)).trans l1 | exact (Ld l0.out).trans l1 | exact (La (Ld l0.out)).trans l1 | exact l0.out.trans l1); first | (have cw := cl.out w0 v1 ((Ld (Lz _)).trans l1)) | skip; clear l1)
  all_goals
    clear cv cd cl
    go_simp
    clear l0
    have l0 : Hid (Later w v1) := L0
    clear L0
    try clear l1
    go_wp2_with fail
    refine (hc1.out _).mono ?_
    clear hc1
    rintro e w1 ⟨rfl, l1⟩
    have L1 : Hid (Later w w1) := (by first | exact l0.out.trans l1 | exact (La l0.out).trans l1 | exact (La (La l0.out)).trans l1)
    clear l0 l1
    go_wp2_with fail
    refine (hm1.out _).mono ?_
    clear hm1
    rintro e w2 ⟨A2, n2, c2, st2, rfl, l2⟩
    have L2 : Hid (Later w w2) := (by first | exact L1.out.trans l2.out | exact (La L1.out).trans l2.out | exact (La (La L1.out)).trans l2.out)
    clear L1 l2
    go_wp2_with fail
    refine (hc2.out _).mono ?_
    clear hc2
    rintro e w3 ⟨rfl, l3⟩
    have L3 : Hid (Later w w3) := (by first | exact L2.out.trans l3 | exact (La L2.out).trans l3 | exact (La (La L2.out)).trans l3)
    clear L2 l3
    go_wp2_with fail
    refine (hm2.out _).mono ?_
    clear hm2
    rintro e w4 ⟨A4, n4, c4, st4, rfl, l4⟩
    have L4 : Hid (Later w w4) := (by first | exact L3.out.trans l4.out | exact (La L3.out).trans l4.out | exact (La (La L3.out)).trans l4.out)
    clear L3 l4
    go_wp2_with fail
    refine (hc3.out _).mono ?_
    clear hc3
    rintro e w5 ⟨rfl, l5⟩
    have L5 : Hid (Later w w5) := (by first | exact L4.out.trans l5 | exact (La L4.out).trans l5 | exact (La (La L4.out)).trans l5)
    clear L4 l5
    go_wp2_with fail
    refine (hm3.out _).mono ?_
    clear hm3
    rintro e w6 ⟨A6, n6, c6, st6, rfl, l6⟩
    have L6 : Hid (Later w w6) := (by first | exact L5.out.trans l6.out | exact (La L5.out).trans l6.out | exact (La (La L5.out)).trans l6.out)
    clear L5 l6
    go_wp2_with (go_at_call 10; refine (hn.out _ _).mono ?_; rintro e W ⟨rfl, hw⟩; subst hw)
    go_ret
    exact ⟨rfl, by first | exact La L6.out | exact L6.out⟩
theorem f3 (x y g : Int) (a b : Int) (hx : bits .and .i64 x 4294967295 = a) (hy : bits .and .i64 y 4294967295 = b) (hf : bits .and .i64 g 3 = 3) (w : World)
    (r1 : (unM (hd8 ++ secB ((4 : Nat) : Int) (⟨#[1, 112]⟩ ++ (strOfNums [3] ++ strOfNums (lebL a))))).2 = 1506) (r2 : (unM (hd8 ++ secB ((5 : Nat) : Int) (⟨#[1]⟩ ++ (strOfNums [3] ++ strOfNums (lebL a))))).2 = 1506) (r3 : (unM (hd8 ++ secB ((4 : Nat) : Int) (⟨#[1, 113]⟩ ++ (strOfNums [3] ++ strOfNums (lebL a))))).2 = 1506) :
    Calls Try.prog 7 #[.int .i64 x, .int .i64 y, .int .i64 g] w fun e w' => e = .returned (.bool true) ∧ Later w w' := by
  have hl : Hid (∀ W : World, Calls Try.prog 13 #[.int .i64 a] W fun e w' => e = .returned (.string (strOfNums (lebL a))) ∧ Later W w') := fun W => leb_any a W
  have cv : ∀ (W : World) (g : Nat), g = W.heap.size → (convert 48 9 (.slice (some ⟨g, 0, none⟩) 1 1)).run Try.prog (W.alloc (.cells #[.int .u8 3] 5)) = .ok (.string (strOfNums [3])) (W.alloc (.cells #[.int .u8 3] 5)) := fun W g hg => by
    subst hg
    exact conv_l [3] (by decide) 1 rfl (Lz _)
  have cd : ∀ (W : World) (g : Nat), g = W.heap.size → (convert 48 9 (.slice (some ⟨g, 0, none⟩) 1 1)).run Try.prog ((W.alloc (.cells #[.int .u8 3] 5)).drew) = .ok (.string (strOfNums [3])) ((W.alloc (.cells #[.int .u8 3] 5)).drew) := fun W g hg => by
    subst hg
    exact conv_l [3] (by decide) 1 rfl (Ld (Lz _))
  have cl : Hid (∀ W W' : World, Later (W.alloc (.cells #[.int .u8 3] 5)) W' → (convert 48 9 (.slice (some ⟨W.heap.size, 0, none⟩) 1 1)).run Try.prog W' = .ok (.string (strOfNums [3])) W') := fun W W' h => conv_l [3] (by decide) 1 rfl h
  have s1 : (strOfNums [3]).size = 1 := strOfNums_size _
  have s2 := leb_size a
  generalize strOfNums [3] = S1 at *
  generalize strOfNums (lebL a) = S2 at *
  have u0 : (S1 ++ S2).size ≤ 11 := by rw [ByteArray.size_append]; omega
  have u1 : (⟨#[1, 112]⟩ ++ (S1 ++ S2)).size < 1000 := by rw [ByteArray.size_append]; show 2 + _ < _; omega
  have u2 : (⟨#[1]⟩ ++ (S1 ++ S2)).size < 1000 := by rw [ByteArray.size_append]; show 1 + _ < _; omega
  have u3 : (⟨#[1, 113]⟩ ++ (S1 ++ S2)).size < 1000 := by rw [ByteArray.size_append]; show 2 + _ < _; omega
  have z1 := sec_size ((4 : Nat) : Int) (⟨#[1, 112]⟩ ++ (S1 ++ S2)) (by omega)
  have z2 := sec_size ((5 : Nat) : Int) (⟨#[1]⟩ ++ (S1 ++ S2)) (by omega)
  have z3 := sec_size ((4 : Nat) : Int) (⟨#[1, 113]⟩ ++ (S1 ++ S2)) (by omega)
  have hc1 : Hid (∀ W, Calls Try.prog 16 #[.int .i64 4, .string (⟨#[1, 112]⟩ ++ (S1 ++ S2))] W fun e w' => e = .returned (.string (secB ((4 : Nat) : Int) (⟨#[1, 112]⟩ ++ (S1 ++ S2)))) ∧ Later W w') := section_any 4 (by omega) _ (by omega)
  have hc2 : Hid (∀ W, Calls Try.prog 16 #[.int .i64 5, .string (⟨#[1]⟩ ++ (S1 ++ S2))] W fun e w' => e = .returned (.string (secB ((5 : Nat) : Int) (⟨#[1]⟩ ++ (S1 ++ S2)))) ∧ Later W w') := section_any 5 (by omega) _ (by omega)
  have hc3 : Hid (∀ W, Calls Try.prog 16 #[.int .i64 4, .string (⟨#[1, 113]⟩ ++ (S1 ++ S2))] W fun e w' => e = .returned (.string (secB ((4 : Nat) : Int) (⟨#[1, 113]⟩ ++ (S1 ++ S2)))) ∧ Later W w') := section_any 4 (by omega) _ (by omega)
  have hm1 : Hid (∀ W, Calls Try.prog 9 #[.string (hd8 ++ secB ((4 : Nat) : Int) (⟨#[1, 112]⟩ ++ (S1 ++ S2)))] W (DcP W 1506)) := dm_code (by rw [ByteArray.size_append]; show 8 + _ < _; omega) r1
  have hm2 : Hid (∀ W, Calls Try.prog 9 #[.string (hd8 ++ secB ((5 : Nat) : Int) (⟨#[1]⟩ ++ (S1 ++ S2)))] W (DcP W 1506)) := dm_code (by rw [ByteArray.size_append]; show 8 + _ < _; omega) r2
  have hm3 : Hid (∀ W, Calls Try.prog 9 #[.string (hd8 ++ secB ((4 : Nat) : Int) (⟨#[1, 113]⟩ ++ (S1 ++ S2)))] W (DcP W 1506)) := dm_code (by rw [ByteArray.size_append]; show 8 + _ < _; omega) r3
  have q1 : ¬ 9223372036854775807 < 8 + (secB ((4 : Nat) : Int) (⟨#[1, 112]⟩ ++ (S1 ++ S2))).size := by omega
  have q2 : ¬ 9223372036854775807 < 8 + (secB ((5 : Nat) : Int) (⟨#[1]⟩ ++ (S1 ++ S2))).size := by omega
  have q3 : ¬ 9223372036854775807 < 8 + (secB ((4 : Nat) : Int) (⟨#[1, 113]⟩ ++ (S1 ++ S2))).size := by omega
  have q4 : ¬ 9223372036854775807 < S1.size + S2.size := by omega
  have q5 : ¬ 9223372036854775807 < 2 + (S1 ++ S2).size := by omega
  have q6 : ¬ 9223372036854775807 < 1 + (S1 ++ S2).size := by omega
  have q7 : ¬ 9223372036854775807 < 2 + (S1.size + S2.size) := by omega
  have q8 : ¬ 9223372036854775807 < 1 + (S1.size + S2.size) := by omega
  have hn : Hid (∀ x W, Calls Try.prog 10 #[.int .i64 x] W fun e w' => e = .returned (.int .i64 x) ∧ w' = W) := lnum_any
  generalize secB ((4 : Nat) : Int) (⟨#[1, 112]⟩ ++ (S1 ++ S2)) = T1 at *
  generalize secB ((5 : Nat) : Int) (⟨#[1]⟩ ++ (S1 ++ S2)) = T2 at *
  generalize secB ((4 : Nat) : Int) (⟨#[1, 113]⟩ ++ (S1 ++ S2)) = T3 at *
  clear r1 r2 r3 z1 z2 z3 s1 s2 u0 u1 u2 u3
  go_enter Try.func7, Try.ntmps7
  go_wp2_with (go_at_call 8; refine (awake_any _).mono ?_; rintro e w0 ⟨rfl, l0⟩; replace l0 : Hid (Later w w0) := l0.out)
  all_goals try go_wp2_with fail
  go_region_law (go_simp; go_at_call 13; refine (hl.out _).mono ?_; rintro e1 v1 ⟨rfl, l1⟩; have L0 : Hid (Later w v1) := (by first | exact (Ld (La l0.out)).trans l1 | exact (Ld l0.out).trans l1 | exact (La (Ld l0.out)).trans l1 | exact l0.out.trans l1); first | (have cw := cl.out w0 v1 ((Ld (Lz _)).trans l1)) | skip; clear l1)
  all_goals
    clear cv cd cl
    go_simp
    clear l0
    have l0 : Hid (Later w v1) := L0
    clear L0
    try clear l1
    go_wp2_with fail
    refine (hc1.out _).mono ?_
    clear hc1
    rintro e w1 ⟨rfl, l1⟩
    have L1 : Hid (Later w w1) := (by first | exact l0.out.trans l1 | exact (La l0.out).trans l1 | exact (La (La l0.out)).trans l1)
    clear l0 l1
    go_wp2_with fail
    refine (hm1.out _).mono ?_
    clear hm1
    rintro e w2 ⟨A2, n2, c2, st2, rfl, l2⟩
    have L2 : Hid (Later w w2) := (by first | exact L1.out.trans l2.out | exact (La L1.out).trans l2.out | exact (La (La L1.out)).trans l2.out)
    clear L1 l2
    go_wp2_with fail
    refine (hc2.out _).mono ?_
    clear hc2
    rintro e w3 ⟨rfl, l3⟩
    have L3 : Hid (Later w w3) := (by first | exact L2.out.trans l3 | exact (La L2.out).trans l3 | exact (La (La L2.out)).trans l3)
    clear L2 l3
    go_wp2_with fail
    refine (hm2.out _).mono ?_
    clear hm2
    rintro e w4 ⟨A4, n4, c4, st4, rfl, l4⟩
    have L4 : Hid (Later w w4) := (by first | exact L3.out.trans l4.out | exact (La L3.out).trans l4.out | exact (La (La L3.out)).trans l4.out)
    clear L3 l4
    go_wp2_with fail
    refine (hc3.out _).mono ?_
    clear hc3
    rintro e w5 ⟨rfl, l5⟩
    have L5 : Hid (Later w w5) := (by first | exact L4.out.trans l5 | exact (La L4.out).trans l5 | exact (La (La L4.out)).trans l5)
    clear L4 l5
    go_wp2_with fail
    refine (hm3.out _).mono ?_
    clear hm3
    rintro e w6 ⟨A6, n6, c6, st6, rfl, l6⟩
    have L6 : Hid (Later w w6) := (by first | exact L5.out.trans l6.out | exact (La L5.out).trans l6.out | exact (La (La L5.out)).trans l6.out)
    clear L5 l6
    go_wp2_with (go_at_call 10; refine (hn.out _ _).mono ?_; rintro e W ⟨rfl, hw⟩; subst hw)
    go_ret
    exact ⟨rfl, by first | exact La L6.out | exact L6.out⟩
theorem app2 (a b : List Int) : strOfNums a ++ strOfNums b = strOfNums (a ++ b) := by
  apply ByteArray.ext
  simp [strOfNums, ByteArray.data_append]
theorem lit_tab : (⟨#[1, 112]⟩ : ByteArray) = strOfNums [1, 112] := by kernel_rfl
theorem lit_bad : (⟨#[1, 113]⟩ : ByteArray) = strOfNums [1, 113] := by kernel_rfl
theorem lit_mem : (⟨#[1]⟩ : ByteArray) = strOfNums [1] := by kernel_rfl
theorem st_bl (L : List Int) (hL : ∀ x ∈ L, 0 ≤ x ∧ x < 256) (p : List Int) (hp : ∀ x ∈ p, 0 ≤ x ∧ x < 256) : bl (strOfNums (p ++ L)) 0 (p ++ L) := bl_num (p ++ L) (fun x hx => by
  rcases List.mem_append.1 hx with h | h
  · exact hp x h
  · exact hL x h)
theorem limL_byte {f a b : Int} (hf : 0 ≤ f ∧ f < 256) : ∀ x ∈ limL f a b, 0 ≤ x ∧ x < 256 := by
  intro x hx
  unfold limL at hx
  rcases List.mem_cons.1 hx with h | h
  · subst h
    exact hf
  · rcases List.mem_append.1 h with h | h
    · exact lebL_byte a x h
    · split at h
      · exact lebL_byte b x h
      · cases h
theorem limL_len (f a b : Int) : (limL f a b).length ≤ 21 := by
  have h1 := lebL_max a
  have h2 := lebL_max b
  unfold limL
  split <;> simp only [List.length_cons, List.length_append, List.length_nil] <;> omega
theorem rt0 (a b : Int) (ha : 0 ≤ a ∧ a < 4294967296) (hb : 0 ≤ b ∧ b < 4294967296) : unM (hd8 ++ secB ((4 : Nat) : Int) (⟨#[1, 112]⟩ ++ (strOfNums [0] ++ strOfNums (lebL a)))) = ({ mdZ (-1) with ta := [(a, -1)] }, 0) := by
  have e : (⟨#[1, 112]⟩ ++ (strOfNums [0] ++ strOfNums (lebL a)) : ByteArray) = strOfNums ([1, 112] ++ limL 0 a b) := by
    rw [lit_tab, app2, app2]
    simp [limL]
  have hl := limL_len 0 a b
  have t := un_tab (strOfNums ([1, 112] ++ limL 0 a b)) 0 a b (Or.inl rfl) ha hb (st_bl _ (limL_byte (by decide)) [1, 112] (by decide)) (by rw [strOfNums_size]; rfl) (by rw [strOfNums_size, List.length_append]; show 2 + _ ≤ _; omega)
  rw [if_neg (by decide)] at t
  rw [e]
  exact t
theorem rm0 (a b : Int) (ha : 0 ≤ a ∧ a < 4294967296) (hb : 0 ≤ b ∧ b < 4294967296) : unM (hd8 ++ secB ((5 : Nat) : Int) (⟨#[1]⟩ ++ (strOfNums [0] ++ strOfNums (lebL a)))) = ({ mdZ (-1) with me := [(a, -1)] }, 0) := by
  have e : (⟨#[1]⟩ ++ (strOfNums [0] ++ strOfNums (lebL a)) : ByteArray) = strOfNums ([1] ++ limL 0 a b) := by
    rw [lit_mem, app2, app2]
    simp [limL]
  have hl := limL_len 0 a b
  have t := un_mem (strOfNums ([1] ++ limL 0 a b)) 0 a b (Or.inl rfl) ha hb (st_bl _ (limL_byte (by decide)) [1] (by decide)) (by rw [strOfNums_size]; rfl) (by rw [strOfNums_size, List.length_append]; show 1 + _ ≤ _; omega)
  rw [if_neg (by decide)] at t
  rw [e]
  exact t
theorem rt1 (a b : Int) (ha : 0 ≤ a ∧ a < 4294967296) (hb : 0 ≤ b ∧ b < 4294967296) : unM (hd8 ++ secB ((4 : Nat) : Int) (⟨#[1, 112]⟩ ++ (strOfNums [1] ++ strOfNums (lebL a) ++ strOfNums (lebL b)))) = ({ mdZ (-1) with ta := [(a, b)] }, 0) := by
  have e : (⟨#[1, 112]⟩ ++ (strOfNums [1] ++ strOfNums (lebL a) ++ strOfNums (lebL b)) : ByteArray) = strOfNums ([1, 112] ++ limL 1 a b) := by
    rw [lit_tab, app2, app2, app2]
    simp [limL]
  have hl := limL_len 1 a b
  have t := un_tab (strOfNums ([1, 112] ++ limL 1 a b)) 1 a b (Or.inr rfl) ha hb (st_bl _ (limL_byte (by decide)) [1, 112] (by decide)) (by rw [strOfNums_size]; rfl) (by rw [strOfNums_size, List.length_append]; show 2 + _ ≤ _; omega)
  rw [if_pos rfl] at t
  rw [e]
  exact t
theorem rm1 (a b : Int) (ha : 0 ≤ a ∧ a < 4294967296) (hb : 0 ≤ b ∧ b < 4294967296) : unM (hd8 ++ secB ((5 : Nat) : Int) (⟨#[1]⟩ ++ (strOfNums [1] ++ strOfNums (lebL a) ++ strOfNums (lebL b)))) = ({ mdZ (-1) with me := [(a, b)] }, 0) := by
  have e : (⟨#[1]⟩ ++ (strOfNums [1] ++ strOfNums (lebL a) ++ strOfNums (lebL b)) : ByteArray) = strOfNums ([1] ++ limL 1 a b) := by
    rw [lit_mem, app2, app2, app2]
    simp [limL]
  have hl := limL_len 1 a b
  have t := un_mem (strOfNums ([1] ++ limL 1 a b)) 1 a b (Or.inr rfl) ha hb (st_bl _ (limL_byte (by decide)) [1] (by decide)) (by rw [strOfNums_size]; rfl) (by rw [strOfNums_size, List.length_append]; show 1 + _ ≤ _; omega)
  rw [if_pos rfl] at t
  rw [e]
  exact t
theorem r71 (d : List Int) (hd : ∀ x ∈ d, 0 ≤ x ∧ x < 256) (hl : d.length ≤ 100) (u : ByteArray) (e : u = strOfNums ([1, 113] ++ d)) : (unM (hd8 ++ secB ((4 : Nat) : Int) u)).2 = 1506 := by
  subst e
  rw [un_71 (strOfNums ([1, 113] ++ d)) d (st_bl d hd [1, 113] (by decide)) (by rw [strOfNums_size, List.length_append]; show 2 + _ ≤ _; omega)]
theorem rtf (f : Int) (hf : 1 < f ∧ f < 256) (d : List Int) (hd : ∀ x ∈ d, 0 ≤ x ∧ x < 256) (hl : d.length ≤ 100) (u : ByteArray) (e : u = strOfNums ([1, 112] ++ (f :: d))) : (unM (hd8 ++ secB ((4 : Nat) : Int) u)).2 = 1506 := by
  subst e
  rw [un_tabf (strOfNums ([1, 112] ++ (f :: d))) f d hf.1 (st_bl (f :: d) (fun x hx => by
    rcases List.mem_cons.1 hx with h | h
    · subst h
      omega
    · exact hd x h) [1, 112] (by decide)) (by rw [strOfNums_size, List.length_append]; show 2 + (d.length + 1) ≤ _; omega)]
theorem rmf (f : Int) (hf : 1 < f ∧ f < 256) (d : List Int) (hd : ∀ x ∈ d, 0 ≤ x ∧ x < 256) (hl : d.length ≤ 100) (u : ByteArray) (e : u = strOfNums ([1] ++ (f :: d))) : (unM (hd8 ++ secB ((5 : Nat) : Int) u)).2 = 1506 := by
  subst e
  rw [un_memf (strOfNums ([1] ++ (f :: d))) f d hf.1 (st_bl (f :: d) (fun x hx => by
    rcases List.mem_cons.1 hx with h | h
    · subst h
      omega
    · exact hd x h) [1] (by decide)) (by rw [strOfNums_size, List.length_append]; show 1 + (d.length + 1) ≤ _; omega)]
theorem walk (x y g : Int) (w : World) : Calls Try.prog 7 #[.int .i64 x, .int .i64 y, .int .i64 g] w fun e w' => e = .returned (.bool true) ∧ Later w w' := by
  obtain ⟨a, ha, ha1⟩ : ∃ j : Nat, bits .and .i64 x 4294967295 = (j : Int) ∧ j < 4294967296 := by have t := and_m x 32 (by decide); simpa using t
  obtain ⟨b, hb, hb1⟩ : ∃ j : Nat, bits .and .i64 y 4294967295 = (j : Int) ∧ j < 4294967296 := by have t := and_m y 32 (by decide); simpa using t
  obtain ⟨f, hf, hf1⟩ : ∃ j : Nat, bits .and .i64 g 3 = (j : Int) ∧ j < 4 := by have t := and_m g 2 (by decide); simpa using t
  have A2 : 0 ≤ (a : Int) ∧ (a : Int) < 4294967296 := by omega
  have B2 : 0 ≤ (b : Int) ∧ (b : Int) < 4294967296 := by omega
  have la := lebL_max (a : Int)
  have lb := lebL_max (b : Int)
  have ba := lebL_byte (a : Int)
  have bb := lebL_byte (b : Int)
  obtain rfl | rfl | rfl | rfl : f = 0 ∨ f = 1 ∨ f = 2 ∨ f = 3 := by omega
  · refine f0 x y g a b ha hb hf w (rt0 a b A2 B2) (rm0 a b A2 B2) (r71 (limL 0 a b) (limL_byte (by decide)) (by have := limL_len 0 a b; omega) _ ?_)
    rw [lit_bad, app2, app2]
    simp [limL]
  · refine f1 x y g a b ha hb hf w (rt1 a b A2 B2) (rm1 a b A2 B2) (r71 (limL 1 a b) (limL_byte (by decide)) (by have := limL_len 1 a b; omega) _ ?_)
    rw [lit_bad, app2, app2, app2]
    simp [limL]
  · refine f2 x y g a b ha hb hf w (rtf 2 (by decide) (lebL a) ba (by omega) _ ?_) (rmf 2 (by decide) (lebL a) ba (by omega) _ ?_) (r71 (limL 2 a b) (limL_byte (by decide)) (by have := limL_len 2 a b; omega) _ ?_)
    · rw [lit_tab, app2, app2]
      simp
    · rw [lit_mem, app2, app2]
      simp
    · rw [lit_bad, app2, app2]
      simp [limL]
  · refine f3 x y g a b ha hb hf w (rtf 3 (by decide) (lebL a) ba (by omega) _ ?_) (rmf 3 (by decide) (lebL a) ba (by omega) _ ?_) (r71 (limL 3 a b) (limL_byte (by decide)) (by have := limL_len 3 a b; omega) _ ?_)
    · rw [lit_tab, app2, app2]
      simp
    · rw [lit_mem, app2, app2]
      simp
    · rw [lit_bad, app2, app2]
      simp [limL]

set_option maxRecDepth 100000 in
theorem lifted (os : Os) (started : os.Started) (H : Type) (enc : TypeId × Value → H) :
    ReturnsInHanded {} Try.checked os 7 .any (Rows.decodeLimitsSpec.pre6 enc Try.prog Try.f7 Rows.decodeLimitsRow.domain false) (Rows.decodeLimitsSpec.post enc Try.prog Try.f7 false true false false) := by
  refine returnsInHanded_of_change_sized (C := Try.checked) own started (by kernel_rfl) Try.func7
    (ChangeSpec.witness6 (enc := enc) (C := Try.checked) false ⟨#[], #[.int .i64 0, .int .i64 0, .int .i64 0], []⟩ 8 (by kernel_rfl) (by kernel_rfl) (by kernel_rfl) (by kernel_rfl)) ?_
  intro W base args ds gs before hval0 hW _ _ _
  have hval : ∀ (j : Nat) t v, Try.f7.params[j]? = some t → args[j]? = some v → Value.okWide Try.prog W .any base t v := hval0
  have hW' := hW
  obtain ⟨p, q, hA0, hV, rfl, hfz, hnd⟩ := hW
  have hA : DataW.TrodAll enc Try.prog W 0 (fun _ => true) true Try.f7.params.toList args.toList ds p := hA0
  rw [Try.params7] at hA hval
  obtain ⟨v0, vs0, d0, ds0, p0, q0, hargs, rfl, rfl, h0, r0⟩ := trodAll_cons hA
  obtain ⟨v1, vs1, d1, ds1, p1, q1, rfl, rfl, rfl, h1, r1⟩ := trodAll_cons r0
  obtain ⟨v2, vs2, d2, ds2, p2, q2, rfl, rfl, rfl, h2, r2⟩ := trodAll_cons r1
  obtain ⟨rfl, rfl, rfl⟩ := trodAll_nil r2
  obtain rfl : args = #[v0, v1, v2] := by cases args; simp_all
  obtain ⟨rfl, rfl⟩ := trodVars_none hV
  obtain ⟨a0, rfl, rfl, rfl, w0⟩ := open_int Try.underlying3 (hval 0 3 v0 rfl rfl) h0
  obtain ⟨a1, rfl, rfl, rfl, w1⟩ := open_int Try.underlying3 (hval 1 3 v1 rfl rfl) h1
  obtain ⟨a2, rfl, rfl, rfl, w2⟩ := open_int Try.underlying3 (hval 2 3 v2 rfl rfl) h2
  clear hA0 hval0
  simp only [List.append_nil, List.nil_append] at hW'
  have hlt : ∀ x ∈ ([] : List MemPlace), x.block < W.heap.size := fun x hx => by simpa using hW'.lt x hx
  refine (walk a0 a1 a2 W ).mono fun e W' ⟨he, hl⟩ => ?_
  subst he
  have hbel : Below W.heap.size W W' := by obtain ⟨bs, nn, rfl⟩ := hl; exact ⟨rfl, rfl, rfl, by rw [World.far_size]; omega, fun k hk => World.far_block W bs nn k hk⟩
  have hx : ∀ sp : Nat → Bool, (∀ p ∈ ([] : List MemPlace), sp p.block = true) → DataW.TrodAll enc Try.prog W' 0 sp true [3, 3, 3] [.int .i64 a0, .int .i64 a1, .int .i64 a2] [.lit (.int .i64 a0), .lit (.int .i64 a1), .lit (.int .i64 a2)] (([] : List MemPlace)) := fun sp hsp => by simpa using (trodAll_cons_mk (shut_int Try.underlying3 w0) (trodAll_cons_mk (shut_int Try.underlying3 w1) (trodAll_cons_mk (shut_int Try.underlying3 w2) trodAll_mk0)))
  exact ⟨_, rfl, post_none hW' (fun _ _ _ => (trodAll_cons_mk (shut_bool Try.underlying4 _) trodAll_mk0)) (fun sp => hx sp (fun p hp => absurd hp List.not_mem_nil)) (fun _ => rfl) (hbel.frame _) (ok_one (by kernel_rfl) rfl (okWide_bool_mk Try.underlying4 _))⟩

theorem over : Rows.decodeLimitsRow.holds Try.pinned (OpenSpec.ofChange Rows.decodeLimitsSpec) :=
  OpenClaim.holds_of_wide 7 Try.f7 rfl rfl rfl rfl rfl rfl rfl ⟨rfl, rfl, rfl, rfl, rfl⟩ rfl rfl rfl rfl rfl (by kernel_rfl) Try.func7 (by kernel_rfl)
    (of_decide_eq_true (by kernel_rfl)) (by unfold Func.isWrapper; first | (rw [if_pos (by decide +kernel)]; kernel_rfl) | (rw [if_neg (by decide +kernel)]; exact ⟨rfl, rfl⟩))
    (fun os started H enc _ => lifted os started H enc)


theorem proved : Rows.DecodeLimitsSaid := over
end Go.Proofs.Ytngciahmoenkiaa.decodeLimits
namespace Go.Proofs.Ytngciahmoenkiaa
theorem decodeLimits_holds : Rows.DecodeLimitsSaid := decodeLimits.proved
#print axioms decodeLimits_holds
end Go.Proofs.Ytngciahmoenkiaa
