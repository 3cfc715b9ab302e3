/- 'DecodeLocals' of package peloruslaw15 returns true at every three ints: runs of locals come out one behind the other, up to 256 of them, and a code of another size is refused. No condition. -/
import Derived.Test.YtngciahmoenkiabFC
import Derived.Test.YtngciahmoenkiabFN
import Derived.LoopTactic
import Derived.OpenShut
import Derived.ChangeMaps5
import Derived.ShutString
import Derived.SizedLaws
set_option linter.unusedVariables false
set_option linter.unusedSimpArgs false
set_option maxRecDepth 100000
set_option maxHeartbeats 8000000
namespace Go.Proofs.Ytngciahmoenkiab.decodeLocals
open Go.ChangeShapes Go.WideShapes Go.ChangeAt Go.RowKit
theorem at_world {F : Act → World → Prop} {a : Act} {W0 : World} (h : ∀ W, W = W0 → F a W) : F a W0 := h W0 rfl
theorem sec_size (id : Int) (b : ByteArray) (h : b.size < 1000000) : (secB id b).size < 2000000 := by
  unfold secB
  have := lebL_max (b.size : Int)
  rw [ByteArray.size_append, ByteArray.size_append, strOfNums_size, strOfNums_size]
  simp only [List.length_cons, List.length_nil]
  omega
theorem leb_size (y : Int) : (strOfNums (lebL y)).size ≤ 10 := by
  rw [strOfNums_size]
  exact lebL_max y
theorem at_call {P : Program} {f : FuncId} {args : Array Value} {W0 : World} {Q : Ending → World → Prop} (h : ∀ W, W = W0 → Calls P f args W Q) : Calls P f args W0 Q := h W0 rfl
theorem loc_a (x y : Nat) (k : Int) (d : Nat) (h : d < x) : (List.replicate x k ++ List.replicate y (127 : Int)).getD d 0 = k := by
  rw [List.getD_eq_getElem?_getD, List.getElem?_append_left (by simpa using h), List.getElem?_replicate, if_pos h]
  rfl
theorem loc_b (x y : Nat) (k : Int) (d : Nat) (h : ¬ d < x) (h2 : d < x + y) : (List.replicate x k ++ List.replicate y (127 : Int)).getD d 0 = 127 := by
  rw [List.getD_eq_getElem?_getD, List.getElem?_append_right (by simp; omega), List.getElem?_replicate, if_pos (by simp; omega)]
  rfl
theorem loc_z {N a b c : Nat} (h : N = 1 + a + b + c + 2) : (1 + (a : Int) + (b : Int) + (c : Int) + 2 + 1) = ((N + 1 : Nat) : Int) := by omega
theorem loc_y {N a b c : Nat} (h : N = 1 + a + b + c + 2) : (1 + (a : Int) + (b : Int) + (c : Int) + 3) = ((N + 1 : Nat) : Int) := by omega
theorem lf (a b t : Int) (x y N : Nat) (k : Int) (hx : bits .and .i64 a 255 = (x : Int)) (hy : bits .and .i64 b 255 = (y : Int)) (hk : IntKind.u8.wrap (wrap64 (127 - wrap64 ((IntKind.u64.wrap t).tmod 4))) = k) (hk1 : 124 ≤ k ∧ k ≤ 127) (hx1 : x < 256) (hy1 : y < 256) (hl : x + y ≤ 256) (hN : N = (⟨#[2]⟩ ++ strOfNums (lebL (x : Int)) ++ strOfNums [k] ++ strOfNums (lebL (y : Int)) ++ ⟨#[127, 11]⟩).size)
    (r1 : unM (hd8 ++ secB ((3 : Nat) : Int) ⟨#[1, 0]⟩ ++ secB ((10 : Nat) : Int) (⟨#[1]⟩ ++ (strOfNums (lebL (N : Int)) ++ (⟨#[2]⟩ ++ strOfNums (lebL (x : Int)) ++ strOfNums [k] ++ strOfNums (lebL (y : Int)) ++ ⟨#[127, 11]⟩)))) = ({ mdZ (-1) with fu := [0], co := [(List.replicate x k ++ List.replicate y 127, .nil)] }, 0)) (r2 : (unM (hd8 ++ secB ((3 : Nat) : Int) ⟨#[1, 0]⟩ ++ secB ((10 : Nat) : Int) (⟨#[1]⟩ ++ strOfNums (lebL ((N + 1 : Nat) : Int)) ++ (⟨#[2]⟩ ++ strOfNums (lebL (x : Int)) ++ strOfNums [k] ++ strOfNums (lebL (y : Int)) ++ ⟨#[127, 11]⟩)))).2 = 1504) (w : World) :
    Calls Try.prog 6 #[.int .i64 a, .int .i64 b, .int .i64 t] w fun e w' => e = .returned (.bool true) ∧ Later w w' := by
  replace hx : Hid _ := hx
  replace hy : Hid _ := hy
  replace hk : Hid _ := hk
  have hl1 : Hid (∀ W : World, Calls Try.prog 11 #[.int .i64 (x : Int)] W fun e w' => e = .returned (.string (strOfNums (lebL (x : Int)))) ∧ Later W w') := fun W => leb_any _ W
  have hl2 : Hid (∀ W : World, Calls Try.prog 11 #[.int .i64 (y : Int)] W fun e w' => e = .returned (.string (strOfNums (lebL (y : Int)))) ∧ Later W w') := fun W => leb_any _ W
  have hl3 : Hid (∀ W : World, Calls Try.prog 11 #[.int .i64 (N : Int)] W fun e w' => e = .returned (.string (strOfNums (lebL (N : Int)))) ∧ Later W w') := fun W => leb_any _ W
  have hl4 : Hid (∀ W : World, Calls Try.prog 11 #[.int .i64 ((N + 1 : Nat) : Int)] W fun e w' => e = .returned (.string (strOfNums (lebL ((N + 1 : Nat) : Int)))) ∧ Later W w') := fun W => leb_any _ W
  have cv : ∀ (W : World) (g : Nat), g = W.heap.size → (convert 39 9 (.slice (some ⟨g, 0, none⟩) 1 1)).run Try.prog (W.alloc (.cells #[.int .u8 k] 5)) = .ok (.string (strOfNums [k])) (W.alloc (.cells #[.int .u8 k] 5)) := fun W g hg => by
    subst hg
    exact conv_l [k] (by simp; omega) 1 rfl (Lz _)
  have cd : ∀ (W : World) (g : Nat), g = W.heap.size → (convert 39 9 (.slice (some ⟨g, 0, none⟩) 1 1)).run Try.prog ((W.alloc (.cells #[.int .u8 k] 5)).drew) = .ok (.string (strOfNums [k])) ((W.alloc (.cells #[.int .u8 k] 5)).drew) := fun W g hg => by
    subst hg
    exact conv_l [k] (by simp; omega) 1 rfl (Ld (Lz _))
  have cl : Hid (∀ W W' : World, Later (W.alloc (.cells #[.int .u8 k] 5)) W' → (convert 39 9 (.slice (some ⟨W.heap.size, 0, none⟩) 1 1)).run Try.prog W' = .ok (.string (strOfNums [k])) W') := fun W W' h => conv_l [k] (by simp; omega) 1 rfl h
  have s1 : (strOfNums [k]).size = 1 := strOfNums_size _
  have s2 := leb_size (x : Int)
  have s3 := leb_size (y : Int)
  have s4 := leb_size (N : Int)
  have s5 := leb_size ((N + 1 : Nat) : Int)
  have hbs : Hid (∀ S1 S2 : ByteArray, ((⟨#[2]⟩ ++ S2 : ByteArray)).size = 1 + S2.size) := fun S1 S2 => by rw [ByteArray.size_append]; rfl
  generalize strOfNums [k] = S1 at *
  generalize strOfNums (lebL (x : Int)) = S2 at *
  generalize strOfNums (lebL (y : Int)) = S3 at *
  generalize strOfNums (lebL (N : Int)) = S4 at *
  generalize strOfNums (lebL ((N + 1 : Nat) : Int)) = S5 at *
  have hB : (⟨#[2]⟩ ++ S2 ++ S1 ++ S3 ++ ⟨#[127, 11]⟩ : ByteArray).size = 1 + S2.size + S1.size + S3.size + 2 := by rw [ByteArray.size_append, ByteArray.size_append, ByteArray.size_append, ByteArray.size_append]; rfl
  have u0 : N ≤ 30 := by omega
  have u1 : (⟨#[1]⟩ ++ (S4 ++ (⟨#[2]⟩ ++ S2 ++ S1 ++ S3 ++ ⟨#[127, 11]⟩)) : ByteArray).size < 1000 := by rw [ByteArray.size_append, ByteArray.size_append]; show 1 + _ < _; omega
  have u2 : (⟨#[1]⟩ ++ S5 ++ (⟨#[2]⟩ ++ S2 ++ S1 ++ S3 ++ ⟨#[127, 11]⟩) : ByteArray).size < 1000 := by rw [ByteArray.size_append, ByteArray.size_append]; show 1 + _ + _ < _; omega
  have z0 := sec_size ((3 : Nat) : Int) ⟨#[1, 0]⟩ (by decide)
  have z1 := sec_size ((10 : Nat) : Int) (⟨#[1]⟩ ++ (S4 ++ (⟨#[2]⟩ ++ S2 ++ S1 ++ S3 ++ ⟨#[127, 11]⟩))) (by omega)
  have z2 := sec_size ((10 : Nat) : Int) (⟨#[1]⟩ ++ S5 ++ (⟨#[2]⟩ ++ S2 ++ S1 ++ S3 ++ ⟨#[127, 11]⟩)) (by omega)
  have hc0 : Hid (∀ W, Calls Try.prog 9 #[.int .i64 3, .string ⟨#[1, 0]⟩] W fun e w' => e = .returned (.string (secB ((3 : Nat) : Int) ⟨#[1, 0]⟩)) ∧ Later W w') := section_any 3 (by omega) _ (by decide)
  have hc0b : Hid _ := hc0
  have hc1 : Hid (∀ W, Calls Try.prog 9 #[.int .i64 10, .string (⟨#[1]⟩ ++ (S4 ++ (⟨#[2]⟩ ++ S2 ++ S1 ++ S3 ++ ⟨#[127, 11]⟩)))] W fun e w' => e = .returned (.string (secB ((10 : Nat) : Int) (⟨#[1]⟩ ++ (S4 ++ (⟨#[2]⟩ ++ S2 ++ S1 ++ S3 ++ ⟨#[127, 11]⟩))))) ∧ Later W w') := section_any 10 (by omega) _ (by omega)
  have hc2 : Hid (∀ W, Calls Try.prog 9 #[.int .i64 10, .string (⟨#[1]⟩ ++ S5 ++ (⟨#[2]⟩ ++ S2 ++ S1 ++ S3 ++ ⟨#[127, 11]⟩))] W fun e w' => e = .returned (.string (secB ((10 : Nat) : Int) (⟨#[1]⟩ ++ S5 ++ (⟨#[2]⟩ ++ S2 ++ S1 ++ S3 ++ ⟨#[127, 11]⟩)))) ∧ Later W w') := section_any 10 (by omega) _ (by omega)
  generalize hT0 : secB ((3 : Nat) : Int) ⟨#[1, 0]⟩ = T0 at *
  generalize hT1 : secB ((10 : Nat) : Int) (⟨#[1]⟩ ++ (S4 ++ (⟨#[2]⟩ ++ S2 ++ S1 ++ S3 ++ ⟨#[127, 11]⟩))) = T1 at *
  generalize hT2 : secB ((10 : Nat) : Int) (⟨#[1]⟩ ++ S5 ++ (⟨#[2]⟩ ++ S2 ++ S1 ++ S3 ++ ⟨#[127, 11]⟩)) = T2 at *
  clear hT0 hT1 hT2
  have q0 : (hd8 ++ T0).size = 8 + T0.size := by rw [ByteArray.size_append]; rfl
  have hm1 : Hid (∀ W, Calls Try.prog 8 #[.string (hd8 ++ T0 ++ T1)] W (DcoP W (List.replicate x k ++ List.replicate y 127))) := dm_co (by rw [ByteArray.size_append]; omega) r1
  have hm2 : Hid (∀ W, Calls Try.prog 8 #[.string (hd8 ++ T0 ++ T2)] W (DcP W 1504)) := dm_code (by rw [ByteArray.size_append]; omega) r2
  have qa : ¬ 9223372036854775807 < 1 + S2.size := by omega
  have qb : ¬ 9223372036854775807 < 1 + S2.size + S1.size := by omega
  have qc : ¬ 9223372036854775807 < 1 + S2.size + S1.size + S3.size := by omega
  have qd : ¬ 9223372036854775807 < 1 + S2.size + S1.size + S3.size + 2 := by omega
  have qe : ¬ 9223372036854775807 < S4.size + (1 + S2.size + S1.size + S3.size + 2) := by omega
  have qf : ¬ 9223372036854775807 < 1 + (S4.size + (1 + S2.size + S1.size + S3.size + 2)) := by omega
  have qg : ¬ 9223372036854775807 < 1 + S5.size := by omega
  have qh : ¬ 9223372036854775807 < 1 + S5.size + (1 + S2.size + S1.size + S3.size + 2) := by omega
  have qi : ¬ 9223372036854775807 < 8 + T0.size := by omega
  have qj : ¬ 9223372036854775807 < 8 + T0.size + T1.size := by omega
  have qk : ¬ 9223372036854775807 < 8 + T0.size + T2.size := by omega
  have hNs : N = 1 + S2.size + S1.size + S3.size + 2 := by rw [hN, hB]
  have hla : Hid (∀ W : World, Calls Try.prog 11 #[.int .i64 (1 + (S2.size : Int) + (S1.size : Int) + (S3.size : Int) + 2)] W fun e w' => e = .returned (.string S4) ∧ Later W w') := fun W => by
    have t := hl3.out W
    rw [hNs] at t
    exact t
  have hlb : Hid (∀ (W : World) (z : Int), z = ((N + 1 : Nat) : Int) → Calls Try.prog 11 #[.int .i64 z] W fun e w' => e = .returned (.string S5) ∧ Later W w') := fun W z hz => by
    subst hz
    exact hl4.out W
  clear hl3 hl4
  replace hNs : Hid _ := hNs
  replace hN : Hid True := trivial
  have hsz : ¬ 9223372036854775807 < N := by omega
  have hn : Hid (∀ x W, Calls Try.prog 10 #[.int .i64 x] W fun e w' => e = .returned (.int .i64 x) ∧ w' = W) := lnum_any
  clear r1 r2 z0 z1 z2 u1 u2 s1 s2 s3 s4 s5 q0 hB hbs
  replace hx := hx.out
  replace hy := hy.out
  replace hk := hk.out
  go_enter Try.func6, Try.ntmps6
  go_wp2_with (go_at_call 7; refine (awake_any _).mono ?_; rintro e w0 ⟨rfl, l0⟩; replace l0 : Hid (Later w w0) := l0.out)
  all_goals try go_wp2_with fail
  go_region_law (first | (go_simp; go_at_call 11; refine (hl1.out _).mono ?_; clear hl1; rintro e1 v1 ⟨rfl, l1⟩; replace l1 : Hid _ := l1; first | (have cw := cl.out w0 v1 ((Ld (Lz _)).trans l1.out)) | (have cw := cl.out w0 v1 l1.out) | skip) | (go_simp; go_at_call 11; refine (hl2.out _).mono ?_; clear hl2; rintro e2 v2 ⟨rfl, l2⟩; replace l2 : Hid _ := l2; first | (have cx := cl.out w0 v2 ((Later.trans (Ld (Lz _)) l1.out).trans l2.out)) | (have cx := cl.out v1 v2 l2.out) | skip))
  all_goals
    clear cv cd cl
    try clear cw
    try clear cx
    go_simp
    refine at_world fun V0 hV0 => ?_
    have LV : Hid (Later w V0) := by
      show Later w V0
      rw [hV0]
      repeat first | exact l0.out | exact Lz _ | apply La | apply Ld | refine Later.trans ?_ l2.out | refine Later.trans ?_ l1.out
    clear l0 l1 l2 hV0
    have l0 : Hid (Later w V0) := LV
    clear LV
    go_wp2_with fail
    refine (hla.out _).mono ?_
    clear hla
    rintro e w1 ⟨rfl, l1⟩
    have L1 : Hid (Later w w1) := (by first | exact l0.out.trans l1 | exact (La l0.out).trans l1 | exact (La (La l0.out)).trans l1)
    clear l0 l1
    go_wp2_with fail
    refine (hc0.out _).mono ?_
    clear hc0
    rintro e w2 ⟨rfl, l2⟩
    have L2 : Hid (Later w w2) := (by first | exact L1.out.trans l2 | exact (La L1.out).trans l2 | exact (La (La L1.out)).trans l2)
    clear L1 l2
    go_wp2_with fail
    refine (hc1.out _).mono ?_
    clear hc1
    rintro e w3 ⟨rfl, l3⟩
    have L3 : Hid (Later w w3) := (by first | exact L2.out.trans l3 | exact (La L2.out).trans l3 | exact (La (La L2.out)).trans l3)
    clear L2 l3
    go_wp2_with fail
    refine (hm1.out _).mono ?_
    clear hm1
    rintro e w4 ⟨A4, n4, c4, st4, g4, o4, B4, D4, cb4, cd4, rfl, X4, Y4, Z4, l4⟩
    have L4 : Hid (Later w w4) := L3.out.trans l4.out
    clear L3 l4
    go_wp2_with fail
    refine (hc0b.out _).mono ?_
    clear hc0b
    rintro e w5 ⟨rfl, l5⟩
    have L5 : Hid (Later w w5) := (by first | exact L4.out.trans l5 | exact (La L4.out).trans l5 | exact (La (La L4.out)).trans l5)
    have j5 : Later w4 w5 := (La (Lz _)).trans l5
    have m9 : w5.cell? ⟨w4.heap.size, 9, none⟩ = some (.slice (some ⟨g4, o4, none⟩) 1 (c4 9)) := l5.cell_of (by simp [go_sem])
    have x4 := j5.cell_of X4.out
    have y4 := j5.cell_of Y4.out
    have z4 : Hid (Lst w5 B4 (List.replicate x k ++ List.replicate y 127).length (fun j => (List.replicate x k ++ List.replicate y 127).getD j 0)) := Z4.out.later j5
    clear X4 Y4 Z4 j5
    clear L4 l5
    have K5 : Hid (Later w5 w5) := Lz _
    go_wp2_with fail
    refine (hlb.out _ _ (by first | exact loc_z hNs.out | exact loc_y hNs.out)).mono ?_
    clear hlb
    rintro e w6 ⟨rfl, l6⟩
    have L6 : Hid (Later w w6) := (by first | exact L5.out.trans l6 | exact (La L5.out).trans l6 | exact (La (La L5.out)).trans l6)
    have K6 : Hid (Later w5 w6) := (by first | exact K5.out.trans l6 | exact (La K5.out).trans l6 | exact (La (La K5.out)).trans l6)
    clear K5
    clear L5 l6
    go_wp2_with fail
    refine (hc2.out _).mono ?_
    clear hc2
    rintro e w7 ⟨rfl, l7⟩
    have L7 : Hid (Later w w7) := (by first | exact L6.out.trans l7 | exact (La L6.out).trans l7 | exact (La (La L6.out)).trans l7)
    have K7 : Hid (Later w5 w7) := (by first | exact K6.out.trans l7 | exact (La K6.out).trans l7 | exact (La (La K6.out)).trans l7)
    clear K6
    clear L6 l7
    go_wp2_with fail
    refine (hm2.out _).mono ?_
    clear hm2
    rintro e w8 ⟨A8, n8, c8, st8, rfl, l8⟩
    have L8 : Hid (Later w w8) := (by first | exact L7.out.trans l8.out | exact (La L7.out).trans l8.out | exact (La (La L7.out)).trans l8.out)
    have K8 : Hid (Later w5 w8) := (by first | exact K7.out.trans l8.out | exact (La K7.out).trans l8.out | exact (La (La K7.out)).trans l8.out)
    clear K7
    clear L7 l8
    go_wp2_with fail
    refine at_call fun W hW => ?_
    have kz : Later w8 W := by rw [hW]; exact La (Lz _)
    have kw : Later w5 W := K8.out.trans kz
    replace m9 := kw.cell_of m9
    replace x4 := kw.cell_of x4
    replace y4 := kw.cell_of y4
    replace z4 : Hid (Lst W B4 (List.replicate x k ++ List.replicate y 127).length (fun j => (List.replicate x k ++ List.replicate y 127).getD j 0)) := z4.out.later kw
    have LW : Hid (Later w W) := L8.out.trans kz
    clear K8 L8 kz kw hW
    have ln9 := cell_lt m9
    have lx9 := cell_lt x4
    refine (hn.out _ _).mono ?_
    rintro e W2 ⟨rfl, hw2⟩
    subst hw2
    go_wp2_with (go_at_call 10; refine (hn.out _ _).mono ?_; rintro e W ⟨rfl, hw⟩; subst hw)
    go_loopw [16] (fun i wr => ∃ d : Nat, d ≤ x + y ∧ i = .int .i64 (d : Int) ∧ Later W wr) (fun i _ => x + y - (intOf i).toNat)
    case atStart => exact ⟨0, Nat.zero_le _, rfl, Lz _⟩
    case round =>
      obtain ⟨d, hd, rfl, hL⟩ := hrel
      replace m9 := hL.cell_of m9
      replace x4 := hL.cell_of x4
      have ln9 := cell_lt m9
      have lx9 := cell_lt x4
      by_cases hlt : d < x + y
      · have hl1 : (d : Int) < (x : Int) + (y : Int) := by omega
        obtain ⟨gb, ob, rfl, hz⟩ := (Lst.later z4.out hL).resolve_left (by rw [List.length_append, List.length_replicate, List.length_replicate]; omega)
        by_cases hx : d < x
        · have e : (List.replicate x k ++ List.replicate y (127 : Int)).getD d 0 = k := loc_a x y k d hx
          have hc := hz d (by rw [List.length_append, List.length_replicate, List.length_replicate]; omega)
          simp only [e] at hc
          have i1 : (d : Int) < (x : Int) := by omega
          have i2 : ¬ (x : Int) ≤ (d : Int) := by omega
          have i3 : decide ((x : Int) ≤ (d : Int)) = false := decide_eq_false i2
          have i4 : decide (x ≤ d) = false := decide_eq_false (by omega)
          have lb := cell_lt hc
          clear hz e
          replace hL : Hid _ := hL
          go_wp2_with fail
          try go_quiet (fail)
          try go_wp2_with fail
          refine ⟨⟨d + 1, by omega, by simp, Later.trans hL.out (by repeat first | exact Lz _ | apply La | apply Ld | apply Ln)⟩, ?_⟩
          simp [intOf]
          omega
        · have e : (List.replicate x k ++ List.replicate y (127 : Int)).getD d 0 = 127 := loc_b x y k d hx hlt
          have hc := hz d (by rw [List.length_append, List.length_replicate, List.length_replicate]; omega)
          simp only [e] at hc
          have i1 : ¬ (d : Int) < (x : Int) := by omega
          have i2 : (x : Int) ≤ (d : Int) := by omega
          have i3 : decide ((d : Int) < (x : Int)) = false := decide_eq_false i1
          have i4 : decide (d < x) = false := decide_eq_false hx
          have lb := cell_lt hc
          clear hz e
          replace hL : Hid _ := hL
          go_wp2_with fail
          try go_quiet (fail)
          try go_wp2_with fail
          refine ⟨⟨d + 1, by omega, by simp, Later.trans hL.out (by repeat first | exact Lz _ | apply La | apply Ld | apply Ln)⟩, ?_⟩
          simp [intOf]
          omega
      · have hde : d = x + y := by omega
        have hl1 : ¬ (d : Int) < (x : Int) + (y : Int) := by omega
        have LL : Hid (Later w wr) := LW.out.trans hL
        clear hL LW
        go_wp2_with fail
        go_ret
        exact ⟨rfl, LL.out⟩
theorem ll (a b t : Int) (x y N : Nat) (k : Int) (hx : bits .and .i64 a 255 = (x : Int)) (hy : bits .and .i64 b 255 = (y : Int)) (hk : IntKind.u8.wrap (wrap64 (127 - wrap64 ((IntKind.u64.wrap t).tmod 4))) = k) (hk1 : 124 ≤ k ∧ k ≤ 127) (hx1 : x < 256) (hy1 : y < 256) (hl : 256 < x + y) (hN : N = (⟨#[2]⟩ ++ strOfNums (lebL (x : Int)) ++ strOfNums [k] ++ strOfNums (lebL (y : Int)) ++ ⟨#[127, 11]⟩).size)
    (r1 : (unM (hd8 ++ secB ((3 : Nat) : Int) ⟨#[1, 0]⟩ ++ secB ((10 : Nat) : Int) (⟨#[1]⟩ ++ (strOfNums (lebL (N : Int)) ++ (⟨#[2]⟩ ++ strOfNums (lebL (x : Int)) ++ strOfNums [k] ++ strOfNums (lebL (y : Int)) ++ ⟨#[127, 11]⟩))))).2 = 1508) (r2 : (unM (hd8 ++ secB ((3 : Nat) : Int) ⟨#[1, 0]⟩ ++ secB ((10 : Nat) : Int) (⟨#[1]⟩ ++ strOfNums (lebL ((N + 1 : Nat) : Int)) ++ (⟨#[2]⟩ ++ strOfNums (lebL (x : Int)) ++ strOfNums [k] ++ strOfNums (lebL (y : Int)) ++ ⟨#[127, 11]⟩)))).2 = 1508) (w : World) :
    Calls Try.prog 6 #[.int .i64 a, .int .i64 b, .int .i64 t] w fun e w' => e = .returned (.bool true) ∧ Later w w' := by
  replace hx : Hid _ := hx
  replace hy : Hid _ := hy
  replace hk : Hid _ := hk
  have hl1 : Hid (∀ W : World, Calls Try.prog 11 #[.int .i64 (x : Int)] W fun e w' => e = .returned (.string (strOfNums (lebL (x : Int)))) ∧ Later W w') := fun W => leb_any _ W
  have hl2 : Hid (∀ W : World, Calls Try.prog 11 #[.int .i64 (y : Int)] W fun e w' => e = .returned (.string (strOfNums (lebL (y : Int)))) ∧ Later W w') := fun W => leb_any _ W
  have hl3 : Hid (∀ W : World, Calls Try.prog 11 #[.int .i64 (N : Int)] W fun e w' => e = .returned (.string (strOfNums (lebL (N : Int)))) ∧ Later W w') := fun W => leb_any _ W
  have hl4 : Hid (∀ W : World, Calls Try.prog 11 #[.int .i64 ((N + 1 : Nat) : Int)] W fun e w' => e = .returned (.string (strOfNums (lebL ((N + 1 : Nat) : Int)))) ∧ Later W w') := fun W => leb_any _ W
  have cv : ∀ (W : World) (g : Nat), g = W.heap.size → (convert 39 9 (.slice (some ⟨g, 0, none⟩) 1 1)).run Try.prog (W.alloc (.cells #[.int .u8 k] 5)) = .ok (.string (strOfNums [k])) (W.alloc (.cells #[.int .u8 k] 5)) := fun W g hg => by
    subst hg
    exact conv_l [k] (by simp; omega) 1 rfl (Lz _)
  have cd : ∀ (W : World) (g : Nat), g = W.heap.size → (convert 39 9 (.slice (some ⟨g, 0, none⟩) 1 1)).run Try.prog ((W.alloc (.cells #[.int .u8 k] 5)).drew) = .ok (.string (strOfNums [k])) ((W.alloc (.cells #[.int .u8 k] 5)).drew) := fun W g hg => by
    subst hg
    exact conv_l [k] (by simp; omega) 1 rfl (Ld (Lz _))
  have cl : Hid (∀ W W' : World, Later (W.alloc (.cells #[.int .u8 k] 5)) W' → (convert 39 9 (.slice (some ⟨W.heap.size, 0, none⟩) 1 1)).run Try.prog W' = .ok (.string (strOfNums [k])) W') := fun W W' h => conv_l [k] (by simp; omega) 1 rfl h
  have s1 : (strOfNums [k]).size = 1 := strOfNums_size _
  have s2 := leb_size (x : Int)
  have s3 := leb_size (y : Int)
  have s4 := leb_size (N : Int)
  have s5 := leb_size ((N + 1 : Nat) : Int)
  have hbs : Hid (∀ S1 S2 : ByteArray, ((⟨#[2]⟩ ++ S2 : ByteArray)).size = 1 + S2.size) := fun S1 S2 => by rw [ByteArray.size_append]; rfl
  generalize strOfNums [k] = S1 at *
  generalize strOfNums (lebL (x : Int)) = S2 at *
  generalize strOfNums (lebL (y : Int)) = S3 at *
  generalize strOfNums (lebL (N : Int)) = S4 at *
  generalize strOfNums (lebL ((N + 1 : Nat) : Int)) = S5 at *
  have hB : (⟨#[2]⟩ ++ S2 ++ S1 ++ S3 ++ ⟨#[127, 11]⟩ : ByteArray).size = 1 + S2.size + S1.size + S3.size + 2 := by rw [ByteArray.size_append, ByteArray.size_append, ByteArray.size_append, ByteArray.size_append]; rfl
  have u0 : N ≤ 30 := by omega
  have u1 : (⟨#[1]⟩ ++ (S4 ++ (⟨#[2]⟩ ++ S2 ++ S1 ++ S3 ++ ⟨#[127, 11]⟩)) : ByteArray).size < 1000 := by rw [ByteArray.size_append, ByteArray.size_append]; show 1 + _ < _; omega
  have u2 : (⟨#[1]⟩ ++ S5 ++ (⟨#[2]⟩ ++ S2 ++ S1 ++ S3 ++ ⟨#[127, 11]⟩) : ByteArray).size < 1000 := by rw [ByteArray.size_append, ByteArray.size_append]; show 1 + _ + _ < _; omega
  have z0 := sec_size ((3 : Nat) : Int) ⟨#[1, 0]⟩ (by decide)
  have z1 := sec_size ((10 : Nat) : Int) (⟨#[1]⟩ ++ (S4 ++ (⟨#[2]⟩ ++ S2 ++ S1 ++ S3 ++ ⟨#[127, 11]⟩))) (by omega)
  have z2 := sec_size ((10 : Nat) : Int) (⟨#[1]⟩ ++ S5 ++ (⟨#[2]⟩ ++ S2 ++ S1 ++ S3 ++ ⟨#[127, 11]⟩)) (by omega)
  have hc0 : Hid (∀ W, Calls Try.prog 9 #[.int .i64 3, .string ⟨#[1, 0]⟩] W fun e w' => e = .returned (.string (secB ((3 : Nat) : Int) ⟨#[1, 0]⟩)) ∧ Later W w') := section_any 3 (by omega) _ (by decide)
  have hc0b : Hid _ := hc0
  have hc1 : Hid (∀ W, Calls Try.prog 9 #[.int .i64 10, .string (⟨#[1]⟩ ++ (S4 ++ (⟨#[2]⟩ ++ S2 ++ S1 ++ S3 ++ ⟨#[127, 11]⟩)))] W fun e w' => e = .returned (.string (secB ((10 : Nat) : Int) (⟨#[1]⟩ ++ (S4 ++ (⟨#[2]⟩ ++ S2 ++ S1 ++ S3 ++ ⟨#[127, 11]⟩))))) ∧ Later W w') := section_any 10 (by omega) _ (by omega)
  have hc2 : Hid (∀ W, Calls Try.prog 9 #[.int .i64 10, .string (⟨#[1]⟩ ++ S5 ++ (⟨#[2]⟩ ++ S2 ++ S1 ++ S3 ++ ⟨#[127, 11]⟩))] W fun e w' => e = .returned (.string (secB ((10 : Nat) : Int) (⟨#[1]⟩ ++ S5 ++ (⟨#[2]⟩ ++ S2 ++ S1 ++ S3 ++ ⟨#[127, 11]⟩)))) ∧ Later W w') := section_any 10 (by omega) _ (by omega)
  generalize hT0 : secB ((3 : Nat) : Int) ⟨#[1, 0]⟩ = T0 at *
  generalize hT1 : secB ((10 : Nat) : Int) (⟨#[1]⟩ ++ (S4 ++ (⟨#[2]⟩ ++ S2 ++ S1 ++ S3 ++ ⟨#[127, 11]⟩))) = T1 at *
  generalize hT2 : secB ((10 : Nat) : Int) (⟨#[1]⟩ ++ S5 ++ (⟨#[2]⟩ ++ S2 ++ S1 ++ S3 ++ ⟨#[127, 11]⟩)) = T2 at *
  clear hT0 hT1 hT2
  have q0 : (hd8 ++ T0).size = 8 + T0.size := by rw [ByteArray.size_append]; rfl
  have hm1 : Hid (∀ W, Calls Try.prog 8 #[.string (hd8 ++ T0 ++ T1)] W (DcP W 1508)) := dm_code (by rw [ByteArray.size_append]; omega) r1
  have hm2 : Hid (∀ W, Calls Try.prog 8 #[.string (hd8 ++ T0 ++ T2)] W (DcP W 1508)) := dm_code (by rw [ByteArray.size_append]; omega) r2
  have qa : ¬ 9223372036854775807 < 1 + S2.size := by omega
  have qb : ¬ 9223372036854775807 < 1 + S2.size + S1.size := by omega
  have qc : ¬ 9223372036854775807 < 1 + S2.size + S1.size + S3.size := by omega
  have qd : ¬ 9223372036854775807 < 1 + S2.size + S1.size + S3.size + 2 := by omega
  have qe : ¬ 9223372036854775807 < S4.size + (1 + S2.size + S1.size + S3.size + 2) := by omega
  have qf : ¬ 9223372036854775807 < 1 + (S4.size + (1 + S2.size + S1.size + S3.size + 2)) := by omega
  have qg : ¬ 9223372036854775807 < 1 + S5.size := by omega
  have qh : ¬ 9223372036854775807 < 1 + S5.size + (1 + S2.size + S1.size + S3.size + 2) := by omega
  have qi : ¬ 9223372036854775807 < 8 + T0.size := by omega
  have qj : ¬ 9223372036854775807 < 8 + T0.size + T1.size := by omega
  have qk : ¬ 9223372036854775807 < 8 + T0.size + T2.size := by omega
  have hNs : N = 1 + S2.size + S1.size + S3.size + 2 := by rw [hN, hB]
  have hla : Hid (∀ W : World, Calls Try.prog 11 #[.int .i64 (1 + (S2.size : Int) + (S1.size : Int) + (S3.size : Int) + 2)] W fun e w' => e = .returned (.string S4) ∧ Later W w') := fun W => by
    have t := hl3.out W
    rw [hNs] at t
    exact t
  have hlb : Hid (∀ (W : World) (z : Int), z = ((N + 1 : Nat) : Int) → Calls Try.prog 11 #[.int .i64 z] W fun e w' => e = .returned (.string S5) ∧ Later W w') := fun W z hz => by
    subst hz
    exact hl4.out W
  clear hl3 hl4
  replace hNs : Hid _ := hNs
  replace hN : Hid True := trivial
  have hsz : ¬ 9223372036854775807 < N := by omega
  have hn : Hid (∀ x W, Calls Try.prog 10 #[.int .i64 x] W fun e w' => e = .returned (.int .i64 x) ∧ w' = W) := lnum_any
  clear r1 r2 z0 z1 z2 u1 u2 s1 s2 s3 s4 s5 q0 hB hbs
  replace hx := hx.out
  replace hy := hy.out
  replace hk := hk.out
  go_enter Try.func6, Try.ntmps6
  go_wp2_with (go_at_call 7; refine (awake_any _).mono ?_; rintro e w0 ⟨rfl, l0⟩; replace l0 : Hid (Later w w0) := l0.out)
  all_goals try go_wp2_with fail
  go_region_law (first | (go_simp; go_at_call 11; refine (hl1.out _).mono ?_; clear hl1; rintro e1 v1 ⟨rfl, l1⟩; replace l1 : Hid _ := l1; first | (have cw := cl.out w0 v1 ((Ld (Lz _)).trans l1.out)) | (have cw := cl.out w0 v1 l1.out) | skip) | (go_simp; go_at_call 11; refine (hl2.out _).mono ?_; clear hl2; rintro e2 v2 ⟨rfl, l2⟩; replace l2 : Hid _ := l2; first | (have cx := cl.out w0 v2 ((Later.trans (Ld (Lz _)) l1.out).trans l2.out)) | (have cx := cl.out v1 v2 l2.out) | skip))
  all_goals
    clear cv cd cl
    try clear cw
    try clear cx
    go_simp
    refine at_world fun V0 hV0 => ?_
    have LV : Hid (Later w V0) := by
      show Later w V0
      rw [hV0]
      repeat first | exact l0.out | exact Lz _ | apply La | apply Ld | refine Later.trans ?_ l2.out | refine Later.trans ?_ l1.out
    clear l0 l1 l2 hV0
    have l0 : Hid (Later w V0) := LV
    clear LV
    go_wp2_with fail
    refine (hla.out _).mono ?_
    clear hla
    rintro e w1 ⟨rfl, l1⟩
    have L1 : Hid (Later w w1) := (by first | exact l0.out.trans l1 | exact (La l0.out).trans l1 | exact (La (La l0.out)).trans l1)
    clear l0 l1
    go_wp2_with fail
    refine (hc0.out _).mono ?_
    clear hc0
    rintro e w2 ⟨rfl, l2⟩
    have L2 : Hid (Later w w2) := (by first | exact L1.out.trans l2 | exact (La L1.out).trans l2 | exact (La (La L1.out)).trans l2)
    clear L1 l2
    go_wp2_with fail
    refine (hc1.out _).mono ?_
    clear hc1
    rintro e w3 ⟨rfl, l3⟩
    have L3 : Hid (Later w w3) := (by first | exact L2.out.trans l3 | exact (La L2.out).trans l3 | exact (La (La L2.out)).trans l3)
    clear L2 l3
    go_wp2_with fail
    refine (hm1.out _).mono ?_
    clear hm1
    rintro e w4 ⟨A4, n4, c4, st4, rfl, l4⟩
    have L4 : Hid (Later w w4) := (by first | exact L3.out.trans l4.out | exact (La L3.out).trans l4.out | exact (La (La L3.out)).trans l4.out)
    clear L3 l4
    go_wp2_with fail
    refine (hc0b.out _).mono ?_
    clear hc0b
    rintro e w5 ⟨rfl, l5⟩
    have L5 : Hid (Later w w5) := (by first | exact L4.out.trans l5 | exact (La L4.out).trans l5 | exact (La (La L4.out)).trans l5)
    clear L4 l5
    go_wp2_with fail
    refine (hlb.out _ _ (by first | exact loc_z hNs.out | exact loc_y hNs.out)).mono ?_
    clear hlb
    rintro e w6 ⟨rfl, l6⟩
    have L6 : Hid (Later w w6) := (by first | exact L5.out.trans l6 | exact (La L5.out).trans l6 | exact (La (La L5.out)).trans l6)
    clear L5 l6
    go_wp2_with fail
    refine (hc2.out _).mono ?_
    clear hc2
    rintro e w7 ⟨rfl, l7⟩
    have L7 : Hid (Later w w7) := (by first | exact L6.out.trans l7 | exact (La L6.out).trans l7 | exact (La (La L6.out)).trans l7)
    clear L6 l7
    go_wp2_with fail
    refine (hm2.out _).mono ?_
    clear hm2
    rintro e w8 ⟨A8, n8, c8, st8, rfl, l8⟩
    have L8 : Hid (Later w w8) := (by first | exact L7.out.trans l8.out | exact (La L7.out).trans l8.out | exact (La (La L7.out)).trans l8.out)
    clear L7 l8
    go_wp2_with (go_at_call 10; refine (hn.out _ _).mono ?_; rintro e W ⟨rfl, hw⟩; subst hw)
    go_ret
    exact ⟨rfl, by first | exact La L8.out | exact L8.out⟩
theorem app2 (a b : List Int) : strOfNums a ++ strOfNums b = strOfNums (a ++ b) := by
  apply ByteArray.ext
  simp [strOfNums, ByteArray.data_append]
theorem lit_a : (⟨#[1]⟩ : ByteArray) = strOfNums [1] := by kernel_rfl
theorem lit_b : (⟨#[2]⟩ : ByteArray) = strOfNums [2] := by kernel_rfl
theorem lit_c : (⟨#[127, 11]⟩ : ByteArray) = strOfNums [127, 11] := by kernel_rfl
theorem body_is (x y k : Int) : (⟨#[2]⟩ ++ strOfNums (lebL x) ++ strOfNums [k] ++ strOfNums (lebL y) ++ ⟨#[127, 11]⟩ : ByteArray) = strOfNums (locL x k y) := by
  rw [lit_b, lit_c, app2, app2, app2, app2]
  simp [locL]
theorem byte_k (t : Int) : ∃ k : Int, IntKind.u8.wrap (wrap64 (127 - wrap64 ((IntKind.u64.wrap t).tmod 4))) = k ∧ 124 ≤ k ∧ k ≤ 127 := by
  have h0 : 0 ≤ IntKind.u64.wrap t ∧ IntKind.u64.wrap t < 18446744073709551616 := by rw [IntKind.wrap_u64]; omega
  generalize IntKind.u64.wrap t = u at *
  refine ⟨127 - u % 4, ?_, by omega, by omega⟩
  rw [Int.tmod_eq_emod_of_nonneg h0.1, IntKind.wrap_u8]
  unfold wrap64
  omega
theorem walk (a b t : Int) (w : World) : Calls Try.prog 6 #[.int .i64 a, .int .i64 b, .int .i64 t] w fun e w' => e = .returned (.bool true) ∧ Later w w' := by
  obtain ⟨x, hx, hx1⟩ : ∃ j : Nat, bits .and .i64 a 255 = (j : Int) ∧ j < 256 := by have t := and_m a 8 (by decide); simpa using t
  obtain ⟨y, hy, hy1⟩ : ∃ j : Nat, bits .and .i64 b 255 = (j : Int) ∧ j < 256 := by have t := and_m b 8 (by decide); simpa using t
  obtain ⟨k, hk, hk1⟩ := byte_k t
  have hz := body_is x y k
  have hN : ((locL x k y).length : Nat) = (⟨#[2]⟩ ++ strOfNums (lebL (x : Int)) ++ strOfNums [k] ++ strOfNums (lebL (y : Int)) ++ ⟨#[127, 11]⟩ : ByteArray).size := by rw [hz, strOfNums_size]
  have lx := lebL_max (x : Int)
  have ly := lebL_max (y : Int)
  have hll := locL_len x k y
  have e1 : (⟨#[1]⟩ ++ (strOfNums (lebL (((locL x k y).length : Nat) : Int)) ++ (⟨#[2]⟩ ++ strOfNums (lebL (x : Int)) ++ strOfNums [k] ++ strOfNums (lebL (y : Int)) ++ ⟨#[127, 11]⟩)) : ByteArray) = strOfNums (codL (((locL x k y).length : Nat) : Int) x k y) := by
    rw [hz, lit_a, app2, app2]
    rfl
  have e2 : (⟨#[1]⟩ ++ strOfNums (lebL (((locL x k y).length + 1 : Nat) : Int)) ++ (⟨#[2]⟩ ++ strOfNums (lebL (x : Int)) ++ strOfNums [k] ++ strOfNums (lebL (y : Int)) ++ ⟨#[127, 11]⟩) : ByteArray) = strOfNums (codL (((locL x k y).length + 1 : Nat) : Int) x k y) := by
    rw [hz, lit_a, app2, app2]
    simp [codL]
  have x2 : 0 ≤ (x : Int) ∧ (x : Int) < 4294967296 := by omega
  have y2 : 0 ≤ (y : Int) ∧ (y : Int) < 4294967296 := by omega
  by_cases hl : x + y ≤ 256
  · refine lf a b t x y _ k hx hy hk hk1 hx1 hy1 hl hN ?_ ?_ w
    · rw [e1, loc_ok _ x k y rfl x2 y2 hk1 (by omega), Int.toNat_natCast, Int.toNat_natCast]
    · rw [e2]
      exact loc_size _ x k y (by omega) x2 y2 hk1 (by omega)
  · refine ll a b t x y _ k hx hy hk hk1 hx1 hy1 (by omega) hN ?_ ?_ w
    · rw [e1]
      exact loc_long _ x k y (by omega) ⟨by omega, by omega⟩ y2 hk1 (by omega)
    · rw [e2]
      exact loc_long _ x k y (by omega) ⟨by omega, by omega⟩ y2 hk1 (by omega)

set_option maxRecDepth 100000 in
theorem lifted (os : Os) (started : os.Started) (H : Type) (enc : TypeId × Value → H) :
    ReturnsInHanded {} Try.checked os 6 .any (Rows.decodeLocalsSpec.pre6 enc Try.prog Try.f6 Rows.decodeLocalsRow.domain false) (Rows.decodeLocalsSpec.post enc Try.prog Try.f6 false true false false) := by
  refine returnsInHanded_of_change_sized (C := Try.checked) own started (by kernel_rfl) Try.func6
    (ChangeSpec.witness6 (enc := enc) (C := Try.checked) false ⟨#[], #[.int .i64 0, .int .i64 0, .int .i64 0], []⟩ 8 (by kernel_rfl) (by kernel_rfl) (by kernel_rfl) (by kernel_rfl)) ?_
  intro W base args ds gs before hval0 hW _ _ _
  have hval : ∀ (j : Nat) t v, Try.f6.params[j]? = some t → args[j]? = some v → Value.okWide Try.prog W .any base t v := hval0
  have hW' := hW
  obtain ⟨p, q, hA0, hV, rfl, hfz, hnd⟩ := hW
  have hA : DataW.TrodAll enc Try.prog W 0 (fun _ => true) true Try.f6.params.toList args.toList ds p := hA0
  rw [Try.params6] at hA hval
  obtain ⟨v0, vs0, d0, ds0, p0, q0, hargs, rfl, rfl, h0, r0⟩ := trodAll_cons hA
  obtain ⟨v1, vs1, d1, ds1, p1, q1, rfl, rfl, rfl, h1, r1⟩ := trodAll_cons r0
  obtain ⟨v2, vs2, d2, ds2, p2, q2, rfl, rfl, rfl, h2, r2⟩ := trodAll_cons r1
  obtain ⟨rfl, rfl, rfl⟩ := trodAll_nil r2
  obtain rfl : args = #[v0, v1, v2] := by cases args; simp_all
  obtain ⟨rfl, rfl⟩ := trodVars_none hV
  obtain ⟨a0, rfl, rfl, rfl, w0⟩ := open_int Try.underlying3 (hval 0 3 v0 rfl rfl) h0
  obtain ⟨a1, rfl, rfl, rfl, w1⟩ := open_int Try.underlying3 (hval 1 3 v1 rfl rfl) h1
  obtain ⟨a2, rfl, rfl, rfl, w2⟩ := open_int Try.underlying3 (hval 2 3 v2 rfl rfl) h2
  clear hA0 hval0
  simp only [List.append_nil, List.nil_append] at hW'
  have hlt : ∀ x ∈ ([] : List MemPlace), x.block < W.heap.size := fun x hx => by simpa using hW'.lt x hx
  refine (walk a0 a1 a2 W ).mono fun e W' ⟨he, hl⟩ => ?_
  subst he
  have hbel : Below W.heap.size W W' := by obtain ⟨bs, nn, rfl⟩ := hl; exact ⟨rfl, rfl, rfl, by rw [World.far_size]; omega, fun k hk => World.far_block W bs nn k hk⟩
  have hx : ∀ sp : Nat → Bool, (∀ p ∈ ([] : List MemPlace), sp p.block = true) → DataW.TrodAll enc Try.prog W' 0 sp true [3, 3, 3] [.int .i64 a0, .int .i64 a1, .int .i64 a2] [.lit (.int .i64 a0), .lit (.int .i64 a1), .lit (.int .i64 a2)] (([] : List MemPlace)) := fun sp hsp => by simpa using (trodAll_cons_mk (shut_int Try.underlying3 w0) (trodAll_cons_mk (shut_int Try.underlying3 w1) (trodAll_cons_mk (shut_int Try.underlying3 w2) trodAll_mk0)))
  exact ⟨_, rfl, post_none hW' (fun _ _ _ => (trodAll_cons_mk (shut_bool Try.underlying4 _) trodAll_mk0)) (fun sp => hx sp (fun p hp => absurd hp List.not_mem_nil)) (fun _ => rfl) (hbel.frame _) (ok_one (by kernel_rfl) rfl (okWide_bool_mk Try.underlying4 _))⟩

theorem over : Rows.decodeLocalsRow.holds Try.pinned (OpenSpec.ofChange Rows.decodeLocalsSpec) :=
  OpenClaim.holds_of_wide 6 Try.f6 rfl rfl rfl rfl rfl rfl rfl ⟨rfl, rfl, rfl, rfl, rfl⟩ rfl rfl rfl rfl rfl (by kernel_rfl) Try.func6 (by kernel_rfl)
    (of_decide_eq_true (by kernel_rfl)) (by unfold Func.isWrapper; first | (rw [if_pos (by decide +kernel)]; kernel_rfl) | (rw [if_neg (by decide +kernel)]; exact ⟨rfl, rfl⟩))
    (fun os started H enc _ => lifted os started H enc)


theorem proved : Rows.DecodeLocalsSaid := over
end Go.Proofs.Ytngciahmoenkiab.decodeLocals
namespace Go.Proofs.Ytngciahmoenkiab
theorem decodeLocals_holds : Rows.DecodeLocalsSaid := decodeLocals.proved
#print axioms decodeLocals_holds
end Go.Proofs.Ytngciahmoenkiab
