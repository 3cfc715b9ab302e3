/- 'DecodeCounts' of package peloruslaw15 returns true at every two ints: as many functions as codes come out, and other numbers of them are refused with 1505. No condition. -/
import Derived.Test.YtngciahmoenkiabFC
import Derived.Test.YtngciahmoenkiabFCu
import Derived.Test.YtngciahmoenkiabFZ
import Derived.LoopTactic
import Derived.OpenShut
import Derived.ChangeMaps5
import Derived.ShutString
import Derived.SizedLaws
set_option linter.unusedVariables false
set_option linter.unusedSimpArgs false
set_option maxRecDepth 100000
set_option maxHeartbeats 8000000
namespace Go.Proofs.Ytngciahmoenkiab.decodeCounts
open Go.ChangeShapes Go.WideShapes Go.ChangeAt Go.RowKit
/-- so many functions, their types nought -/
def fnB (x i : Nat) : ByteArray := strOfNums ((x : Int) :: List.replicate i 0)
/-- so many codes without locals and instructions -/
def cdB (y i : Nat) : ByteArray := strOfNums ((y : Int) :: (List.replicate i [2, 0, 11]).flatten)
theorem at_world {F : Act → World → Prop} {a : Act} {W0 : World} (h : ∀ W, W = W0 → F a W) : F a W0 := h W0 rfl
theorem app2 (a b : List Int) : strOfNums a ++ strOfNums b = strOfNums (a ++ b) := by
  apply ByteArray.ext
  simp [strOfNums, ByteArray.data_append]
theorem fn_more (x i : Nat) : fnB x i ++ ⟨#[0]⟩ = fnB x (i + 1) := by
  unfold fnB
  rw [show (⟨#[0]⟩ : ByteArray) = strOfNums [0] by kernel_rfl, app2, List.replicate_succ', List.cons_append]
theorem cd_more (y i : Nat) : cdB y i ++ ⟨#[2, 0, 11]⟩ = cdB y (i + 1) := by
  unfold cdB
  rw [show (⟨#[2, 0, 11]⟩ : ByteArray) = strOfNums [2, 0, 11] by kernel_rfl, app2, List.replicate_succ', List.cons_append, List.flatten_append]
  rfl
theorem fn_size (x i : Nat) : (fnB x i).size = i + 1 := by
  unfold fnB
  rw [strOfNums_size, List.length_cons, List.length_replicate]
theorem cd_size (y i : Nat) : (cdB y i).size ≤ 3 * i + 1 := by
  unfold cdB
  rw [strOfNums_size, List.length_cons]
  simp
  omega
theorem counts_all : ∀ x y : Fin 8, (unM (hd8 ++ secB ((3 : Nat) : Int) (fnB x.val x.val) ++ secB ((10 : Nat) : Int) (cdB y.val y.val))).2 = (if x.val = y.val then 0 else 1505) ∧ (x.val = y.val → (unM (hd8 ++ secB ((3 : Nat) : Int) (fnB x.val x.val) ++ secB ((10 : Nat) : Int) (cdB y.val y.val))).1.fu.length = x.val ∧ (unM (hd8 ++ secB ((3 : Nat) : Int) (fnB x.val x.val) ++ secB ((10 : Nat) : Int) (cdB y.val y.val))).1.co.length = x.val) := by decide +kernel
/-- Module's answer where only how many functions and codes there are is looked at -/
def DlP (W : World) (x : Nat) (e : Ending) (w' : World) : Prop := ∃ (A : Nat → Option Addr) (n c : Nat → Nat) (st : Int), e = .returned (.tuple #[.agg #[.slice (A 0) (n 0) (c 0), .slice (A 1) (n 1) (c 1), .slice (A 2) x (c 2), .slice (A 3) (n 3) (c 3), .slice (A 4) (n 4) (c 4), .slice (A 5) (n 5) (c 5), .slice (A 6) (n 6) (c 6), .int .i64 st, .slice (A 8) (n 8) (c 8), .slice (A 9) x (c 9), .slice (A 10) (n 10) (c 10)], .int .i64 0]) ∧ Hid (Later W w')
theorem dm_len {s : ByteArray} {x : Nat} (hs : s.size < 9223372036854775000) (hr : (unM s).2 = 0) (h1 : (unM s).1.fu.length = x) (h2 : (unM s).1.co.length = x) (W : World) : Calls Try.prog 8 #[.string s] W (DlP W x) := by
  obtain ⟨m, hm⟩ : ∃ m, unM s = (m, 0) := ⟨(unM s).1, Prod.ext rfl hr⟩
  rw [hm] at h1 h2
  have h1 : m.fu.length = x := h1
  have h2 : m.co.length = x := h2
  refine (dm_is hs hm W).mono ?_
  rintro e w' ⟨A, c, rfl, _, l⟩
  rw [h1, h2]
  exact ⟨A, fun k => [m.ty.length, m.im.length, 0, m.ta.length, m.me.length, m.gl.length, m.ex.length, 0, m.el.length, 0, m.da.length].getD k 0, c, m.st, rfl, l⟩
theorem sec_size (id : Int) (b : ByteArray) (h : b.size < 1000000) : (secB id b).size < 2000000 := by
  unfold secB
  have := lebL_max (b.size : Int)
  rw [ByteArray.size_append, ByteArray.size_append, strOfNums_size, strOfNums_size]
  simp only [List.length_cons, List.length_nil]
  omega
theorem ce (a b : Int) (x y : Nat) (hx : bits .and .i64 a 7 = (x : Int)) (hy : bits .and .i64 b 7 = (y : Int)) (hx1 : x < 8) (hy1 : y < 8) (hxy : x = y) (w : World) :
    Calls Try.prog 5 #[.int .i64 a, .int .i64 b] w fun e w' => e = .returned (.bool true) ∧ Later w w' := by
  obtain ⟨r1, r2⟩ := counts_all ⟨x, hx1⟩ ⟨y, hy1⟩
  simp only [] at r1 r2
  rw [if_pos hxy] at r1
  have y1 := fn_size x x
  have y2 := cd_size y y
  have z1 := sec_size ((3 : Nat) : Int) (fnB x x) (by omega)
  have z2 := sec_size ((10 : Nat) : Int) (cdB y y) (by omega)
  have hc1 : Hid (∀ W, Calls Try.prog 9 #[.int .i64 3, .string (fnB x x)] W fun e w' => e = .returned (.string (secB ((3 : Nat) : Int) (fnB x x))) ∧ Later W w') := section_any 3 (by omega) _ (by omega)
  have hc2 : Hid (∀ W, Calls Try.prog 9 #[.int .i64 10, .string (cdB y y)] W fun e w' => e = .returned (.string (secB ((10 : Nat) : Int) (cdB y y))) ∧ Later W w') := section_any 10 (by omega) _ (by omega)
  have q0 : (hd8 ++ secB ((3 : Nat) : Int) (fnB x x) ++ secB ((10 : Nat) : Int) (cdB y y)).size < 9223372036854775000 := by rw [ByteArray.size_append, ByteArray.size_append]; show 8 + _ + _ < _; omega
  have hm1 : Hid (∀ W, Calls Try.prog 8 #[.string (hd8 ++ secB ((3 : Nat) : Int) (fnB x x) ++ secB ((10 : Nat) : Int) (cdB y y))] W (DlP W x)) := dm_len q0 r1 (r2 hxy).1 (r2 hxy).2
  have q1 : ¬ 9223372036854775807 < 8 + (secB ((3 : Nat) : Int) (fnB x x)).size := by omega
  have q2 : ¬ 9223372036854775807 < 8 + (secB ((3 : Nat) : Int) (fnB x x)).size + (secB ((10 : Nat) : Int) (cdB y y)).size := by omega
  clear r1 r2 y1 y2 z1 z2 q0
  have bx : IntKind.u8.wrap (x : Int) = (x : Int) := by rw [IntKind.wrap_u8]; omega
  have by_ : IntKind.u8.wrap (y : Int) = (y : Int) := by rw [IntKind.wrap_u8]; omega
  have cv : ∀ (v : Nat), v < 8 → ∀ (W W' : World) (g : Nat), g = W.heap.size → Later (W.alloc (.cells #[.int .u8 (v : Int)] 5)) W' → (convert 39 9 (.slice (some ⟨g, 0, none⟩) 1 1)).run Try.prog W' = .ok (.string (strOfNums [(v : Int)])) W' := fun v hv W W' g hg hl => by
    subst hg
    exact conv_l [(v : Int)] (by simp; omega) 1 rfl hl
  replace hxy : Hid _ := hxy
  have cvx0 : ∀ (W : World) (g : Nat), g = W.heap.size → (convert 39 9 (.slice (some ⟨g, 0, none⟩) 1 1)).run Try.prog (W.alloc (.cells #[.int .u8 (x : Int)] 5)) = .ok (.string (strOfNums [(x : Int)])) (W.alloc (.cells #[.int .u8 (x : Int)] 5)) := fun W g hg => cv x hx1 W _ g hg (Lz _)
  have cvx1 : ∀ (W : World) (g : Nat), g = W.heap.size → (convert 39 9 (.slice (some ⟨g, 0, none⟩) 1 1)).run Try.prog ((W.alloc (.cells #[.int .u8 (x : Int)] 5)).drew) = .ok (.string (strOfNums [(x : Int)])) ((W.alloc (.cells #[.int .u8 (x : Int)] 5)).drew) := fun W g hg => cv x hx1 W _ g hg (Ld (Lz _))
  have cvx2 : ∀ (W : World) (g : Nat), g = W.heap.size → (convert 39 9 (.slice (some ⟨g, 0, none⟩) 1 1)).run Try.prog ((W.alloc (.cells #[.int .u8 (x : Int)] 5)).alloc (.cells #[.int .u8 (y : Int)] 5)) = .ok (.string (strOfNums [(x : Int)])) ((W.alloc (.cells #[.int .u8 (x : Int)] 5)).alloc (.cells #[.int .u8 (y : Int)] 5)) := fun W g hg => cv x hx1 W _ g hg (La (Lz _))
  have cvx3 : ∀ (W : World) (g : Nat), g = W.heap.size → (convert 39 9 (.slice (some ⟨g, 0, none⟩) 1 1)).run Try.prog (((W.alloc (.cells #[.int .u8 (x : Int)] 5)).alloc (.cells #[.int .u8 (y : Int)] 5)).drew) = .ok (.string (strOfNums [(x : Int)])) (((W.alloc (.cells #[.int .u8 (x : Int)] 5)).alloc (.cells #[.int .u8 (y : Int)] 5)).drew) := fun W g hg => cv x hx1 W _ g hg (Ld (La (Lz _)))
  have cvy0 : ∀ (W : World) (g : Nat), g = W.heap.size → (convert 39 9 (.slice (some ⟨g, 0, none⟩) 1 1)).run Try.prog (W.alloc (.cells #[.int .u8 (y : Int)] 5)) = .ok (.string (strOfNums [(y : Int)])) (W.alloc (.cells #[.int .u8 (y : Int)] 5)) := fun W g hg => cv y hy1 W _ g hg (Lz _)
  have cvy1 : ∀ (W : World) (g : Nat), g = W.heap.size → (convert 39 9 (.slice (some ⟨g, 0, none⟩) 1 1)).run Try.prog ((W.alloc (.cells #[.int .u8 (y : Int)] 5)).drew) = .ok (.string (strOfNums [(y : Int)])) ((W.alloc (.cells #[.int .u8 (y : Int)] 5)).drew) := fun W g hg => cv y hy1 W _ g hg (Ld (Lz _))
  have cvy2 : ∀ (W : World) (g : Nat), g = W.heap.size → (convert 39 9 (.slice (some ⟨g, 0, none⟩) 1 1)).run Try.prog ((W.alloc (.cells #[.int .u8 (y : Int)] 5)).alloc (.cells #[.int .u8 (x : Int)] 5)) = .ok (.string (strOfNums [(y : Int)])) ((W.alloc (.cells #[.int .u8 (y : Int)] 5)).alloc (.cells #[.int .u8 (x : Int)] 5)) := fun W g hg => cv y hy1 W _ g hg (La (Lz _))
  have cvy3 : ∀ (W : World) (g : Nat), g = W.heap.size → (convert 39 9 (.slice (some ⟨g, 0, none⟩) 1 1)).run Try.prog (((W.alloc (.cells #[.int .u8 (y : Int)] 5)).alloc (.cells #[.int .u8 (x : Int)] 5)).drew) = .ok (.string (strOfNums [(y : Int)])) (((W.alloc (.cells #[.int .u8 (y : Int)] 5)).alloc (.cells #[.int .u8 (x : Int)] 5)).drew) := fun W g hg => cv y hy1 W _ g hg (Ld (La (Lz _)))
  clear cv
  have hfm : Hid (∀ x i : Nat, _) := fn_more
  have hcm : Hid (∀ x i : Nat, _) := cd_more
  generalize secB ((3 : Nat) : Int) (fnB x x) = T1 at *
  generalize secB ((10 : Nat) : Int) (cdB y y) = T2 at *
  have hn : Hid (∀ x W, Calls Try.prog 10 #[.int .i64 x] W fun e w' => e = .returned (.int .i64 x) ∧ w' = W) := lnum_any
  go_enter Try.func5, Try.ntmps5
  go_wp2_with (go_at_call 7; refine (awake_any _).mono ?_; rintro e w0 ⟨rfl, l0⟩; replace l0 : Hid (Later w w0) := l0.out)
  all_goals try go_wp2_with fail
  go_region_law (fail)
  all_goals
    go_simp
    refine at_world fun V hV => ?_
    have LV : Hid (Later w V) := by
      show Later w V
      rw [hV]
      repeat first | exact l0.out | exact Lz _ | apply La | apply Ld
    clear l0 hV cvx0 cvx1 cvx2 cvx3 cvy0 cvy1 cvy2 cvy3
    go_wp2_with fail
    go_loopw [7, 9] (fun f i wr => ∃ d : Nat, f = .string (fnB x d) ∧ i = .int .i64 (d : Int) ∧ d ≤ x ∧ wr = V) (fun _ i _ => x - (intOf i).toNat)
    case atStart => exact ⟨0, rfl, rfl, Nat.zero_le _, rfl⟩
    case round =>
      obtain ⟨d, rfl, rfl, hd, hw⟩ := hrel
      obtain rfl : V = wr := hw.symm
      by_cases hlt : d < x
      · have hl1 : (d : Int) < (x : Int) := by omega
        have hs := fn_size x d
        have e := hfm.out x d
        have p1 : ¬ 9223372036854775807 < (fnB x d).size + 1 := by omega
        clear hs
        go_wp2_with fail
        refine ⟨⟨d + 1, by first | rfl | rw [e], by simp, by omega, by first | rfl | trivial⟩, ?_⟩
        simp [intOf]
        omega
      · obtain rfl : d = x := by omega
        clear hd hlt
        go_wp2_with fail
        go_loopw [8, 10] (fun c i wr => ∃ k : Nat, c = .string (cdB y k) ∧ i = .int .i64 (k : Int) ∧ k ≤ y ∧ wr = V) (fun _ i _ => y - (intOf i).toNat)
        case atStart => exact ⟨0, rfl, rfl, Nat.zero_le _, rfl⟩
        case round =>
          obtain ⟨k, rfl, rfl, hk, hw⟩ := hrel
          obtain rfl : V = wr := hw.symm
          by_cases hlt : k < y
          · have hl1 : (k : Int) < (y : Int) := by omega
            have hs := cd_size y k
            have e := hcm.out y k
            have p1 : ¬ 9223372036854775807 < (cdB y k).size + 3 := by omega
            clear hs
            go_wp2_with fail
            refine ⟨⟨k + 1, by first | rfl | rw [e], by simp, by omega, by first | rfl | trivial⟩, ?_⟩
            simp [intOf]
            omega
          · obtain rfl : k = y := by omega
            clear hk hlt
            go_wp2_with fail
            refine (hc1.out _).mono ?_
            clear hc1
            rintro e w1 ⟨rfl, l1⟩
            have L1 : Hid (Later w w1) := LV.out.trans l1
            clear LV l1
            go_wp2_with fail
            refine (hc2.out _).mono ?_
            clear hc2
            rintro e w2 ⟨rfl, l2⟩
            have L2 : Hid (Later w w2) := L1.out.trans l2
            clear L1 l2
            go_wp2_with fail
            refine (hm1.out _).mono ?_
            clear hm1
            rintro e w3 ⟨A3, n3, c3, st3, rfl, l3⟩
            have L3 : Hid (Later w w3) := L2.out.trans l3.out
            clear L2 l3
            have hdk : d = k := hxy.out
            have hne : ((d : Int) != (k : Int)) = false := by rw [hdk]; simp
            have hnx : ¬ (d != k) = true := by rw [hdk]; simp
            clear hdk
            go_wp2_with (go_at_call 10; refine (hn.out _ _).mono ?_; rintro e W ⟨rfl, hw⟩; subst hw)
            go_ret
            exact ⟨rfl, La L3.out⟩
theorem cn (a b : Int) (x y : Nat) (hx : bits .and .i64 a 7 = (x : Int)) (hy : bits .and .i64 b 7 = (y : Int)) (hx1 : x < 8) (hy1 : y < 8) (hxy : ¬ x = y) (w : World) :
    Calls Try.prog 5 #[.int .i64 a, .int .i64 b] w fun e w' => e = .returned (.bool true) ∧ Later w w' := by
  obtain ⟨r1, r2⟩ := counts_all ⟨x, hx1⟩ ⟨y, hy1⟩
  simp only [] at r1 r2
  rw [if_neg hxy] at r1
  have y1 := fn_size x x
  have y2 := cd_size y y
  have z1 := sec_size ((3 : Nat) : Int) (fnB x x) (by omega)
  have z2 := sec_size ((10 : Nat) : Int) (cdB y y) (by omega)
  have hc1 : Hid (∀ W, Calls Try.prog 9 #[.int .i64 3, .string (fnB x x)] W fun e w' => e = .returned (.string (secB ((3 : Nat) : Int) (fnB x x))) ∧ Later W w') := section_any 3 (by omega) _ (by omega)
  have hc2 : Hid (∀ W, Calls Try.prog 9 #[.int .i64 10, .string (cdB y y)] W fun e w' => e = .returned (.string (secB ((10 : Nat) : Int) (cdB y y))) ∧ Later W w') := section_any 10 (by omega) _ (by omega)
  have q0 : (hd8 ++ secB ((3 : Nat) : Int) (fnB x x) ++ secB ((10 : Nat) : Int) (cdB y y)).size < 9223372036854775000 := by rw [ByteArray.size_append, ByteArray.size_append]; show 8 + _ + _ < _; omega
  have hm1 : Hid (∀ W, Calls Try.prog 8 #[.string (hd8 ++ secB ((3 : Nat) : Int) (fnB x x) ++ secB ((10 : Nat) : Int) (cdB y y))] W (DzP W 1505)) := dm_zero q0 (Prod.ext (unM_bad (by rw [r1]; decide)) r1)
  have q1 : ¬ 9223372036854775807 < 8 + (secB ((3 : Nat) : Int) (fnB x x)).size := by omega
  have q2 : ¬ 9223372036854775807 < 8 + (secB ((3 : Nat) : Int) (fnB x x)).size + (secB ((10 : Nat) : Int) (cdB y y)).size := by omega
  clear r1 r2 y1 y2 z1 z2 q0
  have bx : IntKind.u8.wrap (x : Int) = (x : Int) := by rw [IntKind.wrap_u8]; omega
  have by_ : IntKind.u8.wrap (y : Int) = (y : Int) := by rw [IntKind.wrap_u8]; omega
  have cv : ∀ (v : Nat), v < 8 → ∀ (W W' : World) (g : Nat), g = W.heap.size → Later (W.alloc (.cells #[.int .u8 (v : Int)] 5)) W' → (convert 39 9 (.slice (some ⟨g, 0, none⟩) 1 1)).run Try.prog W' = .ok (.string (strOfNums [(v : Int)])) W' := fun v hv W W' g hg hl => by
    subst hg
    exact conv_l [(v : Int)] (by simp; omega) 1 rfl hl
  replace hxy : Hid _ := hxy
  have cvx0 : ∀ (W : World) (g : Nat), g = W.heap.size → (convert 39 9 (.slice (some ⟨g, 0, none⟩) 1 1)).run Try.prog (W.alloc (.cells #[.int .u8 (x : Int)] 5)) = .ok (.string (strOfNums [(x : Int)])) (W.alloc (.cells #[.int .u8 (x : Int)] 5)) := fun W g hg => cv x hx1 W _ g hg (Lz _)
  have cvx1 : ∀ (W : World) (g : Nat), g = W.heap.size → (convert 39 9 (.slice (some ⟨g, 0, none⟩) 1 1)).run Try.prog ((W.alloc (.cells #[.int .u8 (x : Int)] 5)).drew) = .ok (.string (strOfNums [(x : Int)])) ((W.alloc (.cells #[.int .u8 (x : Int)] 5)).drew) := fun W g hg => cv x hx1 W _ g hg (Ld (Lz _))
  have cvx2 : ∀ (W : World) (g : Nat), g = W.heap.size → (convert 39 9 (.slice (some ⟨g, 0, none⟩) 1 1)).run Try.prog ((W.alloc (.cells #[.int .u8 (x : Int)] 5)).alloc (.cells #[.int .u8 (y : Int)] 5)) = .ok (.string (strOfNums [(x : Int)])) ((W.alloc (.cells #[.int .u8 (x : Int)] 5)).alloc (.cells #[.int .u8 (y : Int)] 5)) := fun W g hg => cv x hx1 W _ g hg (La (Lz _))
  have cvx3 : ∀ (W : World) (g : Nat), g = W.heap.size → (convert 39 9 (.slice (some ⟨g, 0, none⟩) 1 1)).run Try.prog (((W.alloc (.cells #[.int .u8 (x : Int)] 5)).alloc (.cells #[.int .u8 (y : Int)] 5)).drew) = .ok (.string (strOfNums [(x : Int)])) (((W.alloc (.cells #[.int .u8 (x : Int)] 5)).alloc (.cells #[.int .u8 (y : Int)] 5)).drew) := fun W g hg => cv x hx1 W _ g hg (Ld (La (Lz _)))
  have cvy0 : ∀ (W : World) (g : Nat), g = W.heap.size → (convert 39 9 (.slice (some ⟨g, 0, none⟩) 1 1)).run Try.prog (W.alloc (.cells #[.int .u8 (y : Int)] 5)) = .ok (.string (strOfNums [(y : Int)])) (W.alloc (.cells #[.int .u8 (y : Int)] 5)) := fun W g hg => cv y hy1 W _ g hg (Lz _)
  have cvy1 : ∀ (W : World) (g : Nat), g = W.heap.size → (convert 39 9 (.slice (some ⟨g, 0, none⟩) 1 1)).run Try.prog ((W.alloc (.cells #[.int .u8 (y : Int)] 5)).drew) = .ok (.string (strOfNums [(y : Int)])) ((W.alloc (.cells #[.int .u8 (y : Int)] 5)).drew) := fun W g hg => cv y hy1 W _ g hg (Ld (Lz _))
  have cvy2 : ∀ (W : World) (g : Nat), g = W.heap.size → (convert 39 9 (.slice (some ⟨g, 0, none⟩) 1 1)).run Try.prog ((W.alloc (.cells #[.int .u8 (y : Int)] 5)).alloc (.cells #[.int .u8 (x : Int)] 5)) = .ok (.string (strOfNums [(y : Int)])) ((W.alloc (.cells #[.int .u8 (y : Int)] 5)).alloc (.cells #[.int .u8 (x : Int)] 5)) := fun W g hg => cv y hy1 W _ g hg (La (Lz _))
  have cvy3 : ∀ (W : World) (g : Nat), g = W.heap.size → (convert 39 9 (.slice (some ⟨g, 0, none⟩) 1 1)).run Try.prog (((W.alloc (.cells #[.int .u8 (y : Int)] 5)).alloc (.cells #[.int .u8 (x : Int)] 5)).drew) = .ok (.string (strOfNums [(y : Int)])) (((W.alloc (.cells #[.int .u8 (y : Int)] 5)).alloc (.cells #[.int .u8 (x : Int)] 5)).drew) := fun W g hg => cv y hy1 W _ g hg (Ld (La (Lz _)))
  clear cv
  have hfm : Hid (∀ x i : Nat, _) := fn_more
  have hcm : Hid (∀ x i : Nat, _) := cd_more
  generalize secB ((3 : Nat) : Int) (fnB x x) = T1 at *
  generalize secB ((10 : Nat) : Int) (cdB y y) = T2 at *
  have hn : Hid (∀ x W, Calls Try.prog 10 #[.int .i64 x] W fun e w' => e = .returned (.int .i64 x) ∧ w' = W) := lnum_any
  go_enter Try.func5, Try.ntmps5
  go_wp2_with (go_at_call 7; refine (awake_any _).mono ?_; rintro e w0 ⟨rfl, l0⟩; replace l0 : Hid (Later w w0) := l0.out)
  all_goals try go_wp2_with fail
  go_region_law (fail)
  all_goals
    go_simp
    refine at_world fun V hV => ?_
    have LV : Hid (Later w V) := by
      show Later w V
      rw [hV]
      repeat first | exact l0.out | exact Lz _ | apply La | apply Ld
    clear l0 hV cvx0 cvx1 cvx2 cvx3 cvy0 cvy1 cvy2 cvy3
    go_wp2_with fail
    go_loopw [7, 9] (fun f i wr => ∃ d : Nat, f = .string (fnB x d) ∧ i = .int .i64 (d : Int) ∧ d ≤ x ∧ wr = V) (fun _ i _ => x - (intOf i).toNat)
    case atStart => exact ⟨0, rfl, rfl, Nat.zero_le _, rfl⟩
    case round =>
      obtain ⟨d, rfl, rfl, hd, hw⟩ := hrel
      obtain rfl : V = wr := hw.symm
      by_cases hlt : d < x
      · have hl1 : (d : Int) < (x : Int) := by omega
        have hs := fn_size x d
        have e := hfm.out x d
        have p1 : ¬ 9223372036854775807 < (fnB x d).size + 1 := by omega
        clear hs
        go_wp2_with fail
        refine ⟨⟨d + 1, by first | rfl | rw [e], by simp, by omega, by first | rfl | trivial⟩, ?_⟩
        simp [intOf]
        omega
      · obtain rfl : d = x := by omega
        clear hd hlt
        go_wp2_with fail
        go_loopw [8, 10] (fun c i wr => ∃ k : Nat, c = .string (cdB y k) ∧ i = .int .i64 (k : Int) ∧ k ≤ y ∧ wr = V) (fun _ i _ => y - (intOf i).toNat)
        case atStart => exact ⟨0, rfl, rfl, Nat.zero_le _, rfl⟩
        case round =>
          obtain ⟨k, rfl, rfl, hk, hw⟩ := hrel
          obtain rfl : V = wr := hw.symm
          by_cases hlt : k < y
          · have hl1 : (k : Int) < (y : Int) := by omega
            have hs := cd_size y k
            have e := hcm.out y k
            have p1 : ¬ 9223372036854775807 < (cdB y k).size + 3 := by omega
            clear hs
            go_wp2_with fail
            refine ⟨⟨k + 1, by first | rfl | rw [e], by simp, by omega, by first | rfl | trivial⟩, ?_⟩
            simp [intOf]
            omega
          · obtain rfl : k = y := by omega
            clear hk hlt
            go_wp2_with fail
            refine (hc1.out _).mono ?_
            clear hc1
            rintro e w1 ⟨rfl, l1⟩
            have L1 : Hid (Later w w1) := LV.out.trans l1
            clear LV l1
            go_wp2_with fail
            refine (hc2.out _).mono ?_
            clear hc2
            rintro e w2 ⟨rfl, l2⟩
            have L2 : Hid (Later w w2) := L1.out.trans l2
            clear L1 l2
            go_wp2_with fail
            refine (hm1.out _).mono ?_
            clear hm1
            rintro e w3 ⟨A3, c3, rfl, C3, l3⟩
            have L3 : Hid (Later w w3) := L2.out.trans l3.out
            have hz : Hid (∀ W, Later w3 W → _) := same_zero C3
            clear L2 l3 C3
            have hnx : ¬ (d : Int) = (k : Int) := fun h => hxy.out (Int.ofNat_inj.1 h)
            have hnb : ((d : Int) == (k : Int)) = false := beq_false hnx
            go_wp2_with (first | (go_at_call 10; refine (hn.out _ _).mono ?_; rintro e W ⟨rfl, hw⟩; subst hw) | (go_at_call 12; refine (hz.out _ (by repeat first | exact Lz _ | apply La | apply Ld)).mono ?_; clear hz; rintro e w4 ⟨rfl, l4⟩; replace l4 : Hid _ := l4))
            go_ret
            exact ⟨rfl, L3.out.trans (Later.trans (by repeat first | exact Lz _ | apply La | apply Ld) l4.out)⟩
theorem walk (a b : Int) (w : World) :
    Calls Try.prog 5 #[.int .i64 a, .int .i64 b] w fun e w' => e = .returned (.bool true) ∧ Later w w' := by
  obtain ⟨x, hx, hx1⟩ : ∃ j : Nat, bits .and .i64 a 7 = (j : Int) ∧ j < 8 := by have t := and_m a 3 (by decide); simpa using t
  obtain ⟨y, hy, hy1⟩ : ∃ j : Nat, bits .and .i64 b 7 = (j : Int) ∧ j < 8 := by have t := and_m b 3 (by decide); simpa using t
  by_cases h : x = y
  · exact ce a b x y hx hy hx1 hy1 h w
  · exact cn a b x y hx hy hx1 hy1 h w

set_option maxRecDepth 100000 in
theorem lifted (os : Os) (started : os.Started) (H : Type) (enc : TypeId × Value → H) :
    ReturnsInHanded {} Try.checked os 5 .any (Rows.decodeCountsSpec.pre6 enc Try.prog Try.f5 Rows.decodeCountsRow.domain false) (Rows.decodeCountsSpec.post enc Try.prog Try.f5 false true false false) := by
  refine returnsInHanded_of_change_sized (C := Try.checked) own started (by kernel_rfl) Try.func5
    (ChangeSpec.witness6 (enc := enc) (C := Try.checked) false ⟨#[], #[.int .i64 0, .int .i64 0], []⟩ 8 (by kernel_rfl) (by kernel_rfl) (by kernel_rfl) (by kernel_rfl)) ?_
  intro W base args ds gs before hval0 hW _ _ _
  have hval : ∀ (j : Nat) t v, Try.f5.params[j]? = some t → args[j]? = some v → Value.okWide Try.prog W .any base t v := hval0
  have hW' := hW
  obtain ⟨p, q, hA0, hV, rfl, hfz, hnd⟩ := hW
  have hA : DataW.TrodAll enc Try.prog W 0 (fun _ => true) true Try.f5.params.toList args.toList ds p := hA0
  rw [Try.params5] at hA hval
  obtain ⟨v0, vs0, d0, ds0, p0, q0, hargs, rfl, rfl, h0, r0⟩ := trodAll_cons hA
  obtain ⟨v1, vs1, d1, ds1, p1, q1, rfl, rfl, rfl, h1, r1⟩ := trodAll_cons r0
  obtain ⟨rfl, rfl, rfl⟩ := trodAll_nil r1
  obtain rfl : args = #[v0, v1] := by cases args; simp_all
  obtain ⟨rfl, rfl⟩ := trodVars_none hV
  obtain ⟨a0, rfl, rfl, rfl, w0⟩ := open_int Try.underlying3 (hval 0 3 v0 rfl rfl) h0
  obtain ⟨a1, rfl, rfl, rfl, w1⟩ := open_int Try.underlying3 (hval 1 3 v1 rfl rfl) h1
  clear hA0 hval0
  simp only [List.append_nil, List.nil_append] at hW'
  have hlt : ∀ x ∈ ([] : List MemPlace), x.block < W.heap.size := fun x hx => by simpa using hW'.lt x hx
  refine (walk a0 a1 W ).mono fun e W' ⟨he, hl⟩ => ?_
  subst he
  have hbel : Below W.heap.size W W' := by obtain ⟨bs, nn, rfl⟩ := hl; exact ⟨rfl, rfl, rfl, by rw [World.far_size]; omega, fun k hk => World.far_block W bs nn k hk⟩
  have hx : ∀ sp : Nat → Bool, (∀ p ∈ ([] : List MemPlace), sp p.block = true) → DataW.TrodAll enc Try.prog W' 0 sp true [3, 3] [.int .i64 a0, .int .i64 a1] [.lit (.int .i64 a0), .lit (.int .i64 a1)] (([] : List MemPlace)) := fun sp hsp => by simpa using (trodAll_cons_mk (shut_int Try.underlying3 w0) (trodAll_cons_mk (shut_int Try.underlying3 w1) trodAll_mk0))
  exact ⟨_, rfl, post_none hW' (fun _ _ _ => (trodAll_cons_mk (shut_bool Try.underlying4 _) trodAll_mk0)) (fun sp => hx sp (fun p hp => absurd hp List.not_mem_nil)) (fun _ => rfl) (hbel.frame _) (ok_one (by kernel_rfl) rfl (okWide_bool_mk Try.underlying4 _))⟩

theorem over : Rows.decodeCountsRow.holds Try.pinned (OpenSpec.ofChange Rows.decodeCountsSpec) :=
  OpenClaim.holds_of_wide 5 Try.f5 rfl rfl rfl rfl rfl rfl rfl ⟨rfl, rfl, rfl, rfl, rfl⟩ rfl rfl rfl rfl rfl (by kernel_rfl) Try.func5 (by kernel_rfl)
    (of_decide_eq_true (by kernel_rfl)) (by unfold Func.isWrapper; first | (rw [if_pos (by decide +kernel)]; kernel_rfl) | (rw [if_neg (by decide +kernel)]; exact ⟨rfl, rfl⟩))
    (fun os started H enc _ => lifted os started H enc)


theorem proved : Rows.DecodeCountsSaid := over
end Go.Proofs.Ytngciahmoenkiab.decodeCounts
namespace Go.Proofs.Ytngciahmoenkiab
theorem decodeCounts_holds : Rows.DecodeCountsSaid := decodeCounts.proved
#print axioms decodeCounts_holds
end Go.Proofs.Ytngciahmoenkiab
