/- 'DecodeTypes' of package peloruslaw15 returns true at every three ints: a type of one parameter and one result comes out as it was put, and any other byte there is refused. No condition. -/
import Derived.Test.YtngciahmoenkiaaFC
import Derived.Test.YtngciahmoenkiaaFY
import Derived.Test.YtngciahmoenkiaaFZ
import Derived.LoopTactic
import Derived.OpenShut
import Derived.ChangeMaps5
import Derived.ShutString
import Derived.SizedLaws
set_option linter.unusedVariables false
set_option linter.unusedSimpArgs false
set_option maxRecDepth 100000
set_option maxHeartbeats 8000000
namespace Go.Proofs.Ytngciahmoenkiaa.decodeTypes
open Go.ChangeShapes Go.WideShapes Go.ChangeAt Go.RowKit
theorem at_world {F : Act → World → Prop} {a : Act} {W0 : World} (h : ∀ W, W = W0 → F a W) : F a W0 := h W0 rfl
theorem sec_size (id : Int) (b : ByteArray) (h : b.size < 1000000) : (secB id b).size < 2000000 := by
  unfold secB
  have := lebL_max (b.size : Int)
  rw [ByteArray.size_append, ByteArray.size_append, strOfNums_size, strOfNums_size]
  simp only [List.length_cons, List.length_nil]
  omega
theorem type_lit {Z : Nat → Prop} {w2 : World} {B D : Option Addr} {p q : Int} {cb cd : Nat} (P : Hid (Lq Z w2 B [p])) (Q : Hid (Lq Z w2 D [q])) (W : World) (x y n k : Nat) (hW : Later w2 W) (hx : W.cell? ⟨x, 0, none⟩ = some (.int .i64 p)) (hy : W.cell? ⟨y, 0, none⟩ = some (.int .i64 q)) :
    Calls Try.prog 17 #[.agg #[.slice B 1 cb, .slice D 1 cd], .agg #[.slice (some ⟨x, 0, none⟩) 1 n, .slice (some ⟨y, 0, none⟩) 1 k]] W fun e w' => e = .returned (.bool true) ∧ Hid (Later W w') := by
  have one : ∀ (b : Nat) (v : Int), W.cell? ⟨b, 0, none⟩ = some (.int .i64 v) → Lq (fun _ => True) W (some ⟨b, 0, none⟩) [v] := fun b v hb => ⟨Or.inr ⟨b, 0, rfl, fun j hj => by
    obtain rfl : j = 0 := by simp at hj; omega
    exact hb⟩, fun _ _ _ => trivial⟩
  exact stype_any Z (fun _ => True) ([p], [q]) ⟨by simp, by simp⟩ W B D _ _ cb cd n k (P.out.later hW) (Q.out.later hW) (one x p hx) (one y q hy)
theorem tz (a b g : Int) (p q f : Int) (hp : IntKind.u8.wrap a = p) (hq : IntKind.u8.wrap b = q) (hz : bits .and .i64 g 7 = 0) (hf : g / 8 % 256 = f) (f0 : 0 ≤ f ∧ f < 256) (p0 : 0 ≤ p ∧ p < 256) (q0 : 0 ≤ q ∧ q < 256) (hn_ : f = 96 ∧ (124 ≤ p ∧ p ≤ 127) ∧ (124 ≤ q ∧ q ≤ 127)) (w : World) :
    Calls Try.prog 6 #[.int .i64 a, .int .i64 b, .int .i64 g] w fun e w' => e = .returned (.bool true) ∧ Later w w' := by
  have r1 : unM (hd8 ++ secB ((1 : Nat) : Int) (strOfNums [1, f, 1, p, 1, q])) = ({ mdZ (-1) with ty := [([p], [q])] }, 0) := un_ty f p q hn_.1 hn_.2.1 hn_.2.2
  have cv : ∀ (W : World) (g : Nat), g = W.heap.size → (convert 48 9 (.slice (some ⟨g, 0, none⟩) 6 6)).run Try.prog (W.alloc (.cells #[.int .u8 1, .int .u8 f, .int .u8 1, .int .u8 p, .int .u8 1, .int .u8 q] 5)) = .ok (.string (strOfNums [1, f, 1, p, 1, q])) (W.alloc (.cells #[.int .u8 1, .int .u8 f, .int .u8 1, .int .u8 p, .int .u8 1, .int .u8 q] 5)) := fun W g hg => by
    subst hg
    exact conv_l [1, f, 1, p, 1, q] (by simp; omega) 6 rfl (Lz _)
  have z0 : (strOfNums [1, f, 1, p, 1, q]).size = 6 := strOfNums_size _
  have z1 := sec_size ((1 : Nat) : Int) (strOfNums [1, f, 1, p, 1, q]) (by omega)
  have hc1 : Hid (∀ W, Calls Try.prog 16 #[.int .i64 1, .string (strOfNums [1, f, 1, p, 1, q])] W fun e w' => e = .returned (.string (secB ((1 : Nat) : Int) (strOfNums [1, f, 1, p, 1, q]))) ∧ Later W w') := section_any 1 (by omega) _ (by omega)
  have hm1 : Hid (∀ W, Calls Try.prog 9 #[.string (hd8 ++ secB ((1 : Nat) : Int) (strOfNums [1, f, 1, p, 1, q]))] W (DtyP W [p] [q])) := dm_ty (by rw [ByteArray.size_append]; show 8 + _ < _; omega) r1
  have q1 : ¬ 9223372036854775807 < 8 + (secB ((1 : Nat) : Int) (strOfNums [1, f, 1, p, 1, q])).size := by omega
  have hn : Hid (∀ x W, Calls Try.prog 10 #[.int .i64 x] W fun e w' => e = .returned (.int .i64 x) ∧ w' = W) := lnum_any
  generalize strOfNums [1, f, 1, p, 1, q] = S1 at *
  generalize secB ((1 : Nat) : Int) S1 = T1 at *
  clear r1 z0 z1
  replace hn_ : Hid _ := hn_
  replace hc1 : Hid _ := hc1
  go_enter Try.func6, Try.ntmps6
  go_wp2_with (go_at_call 8; refine (awake_any _).mono ?_; rintro e w0 ⟨rfl, l0⟩; replace l0 : Hid (Later w w0) := l0.out)
  refine (hc1.out _).mono ?_
  clear hc1
  rintro e w1 ⟨rfl, l1⟩
  have L1 : Hid (Later w w1) := (by first | exact l0.out.trans l1 | exact (La l0.out).trans l1 | exact (La (La l0.out)).trans l1)
  clear l0 l1
  go_wp2_with fail
  refine (hm1.out _).mono ?_
  clear hm1
  rintro e w2 ⟨A2, c2, g2, o2, B2, D2, cb2, cd2, rfl, X2, Y2, P2, Q2, l2⟩
  have L2 : Hid (Later w w2) := L1.out.trans l2.out
  clear L1 l2
  obtain ⟨e96, pb, qb⟩ := hn_.out
  have e1 : decide (124 ≤ p) = true := decide_eq_true pb.1
  have e2 : decide (p ≤ 127) = true := decide_eq_true pb.2
  have e3 : decide (124 ≤ q) = true := decide_eq_true qb.1
  have e4 : decide (q ≤ 127) = true := decide_eq_true qb.2
  have x2 := X2.out
  have y2 := Y2.out
  have lx2 := cell_lt x2
  simp only [List.length_cons, List.length_nil, Nat.zero_add] at x2 y2
  clear X2 Y2
  go_wp2_with (go_at_call 10; refine (hn.out _ _).mono ?_; rintro e W ⟨rfl, hw⟩; subst hw)
  refine (type_lit P2 Q2 _ _ _ 1 1 (by repeat first | exact Lz _ | apply La | apply Ld) (by simp [go_sem]) (by simp [go_sem])).mono ?_
  rintro e w3 ⟨rfl, l3⟩
  go_wp2_with fail
  go_ret
  exact ⟨rfl, L2.out.trans (Later.trans (by repeat first | exact Lz _ | apply La | apply Ld) l3.out)⟩
theorem tn (a b g : Int) (p q f : Int) (hp : IntKind.u8.wrap a = p) (hq : IntKind.u8.wrap b = q) (hz : bits .and .i64 g 7 = 0) (hf : g / 8 % 256 = f) (f0 : 0 ≤ f ∧ f < 256) (p0 : 0 ≤ p ∧ p < 256) (q0 : 0 ≤ q ∧ q < 256) (hn_ : ¬ (f = 96 ∧ (124 ≤ p ∧ p ≤ 127) ∧ (124 ≤ q ∧ q ≤ 127))) (w : World) :
    Calls Try.prog 6 #[.int .i64 a, .int .i64 b, .int .i64 g] w fun e w' => e = .returned (.bool true) ∧ Later w w' := by
  have r1 : unM (hd8 ++ secB ((1 : Nat) : Int) (strOfNums [1, f, 1, p, 1, q])) = (mdZ 0, 1506) := un_ty_no f p q f0 p0 q0 hn_
  have cv : ∀ (W : World) (g : Nat), g = W.heap.size → (convert 48 9 (.slice (some ⟨g, 0, none⟩) 6 6)).run Try.prog (W.alloc (.cells #[.int .u8 1, .int .u8 f, .int .u8 1, .int .u8 p, .int .u8 1, .int .u8 q] 5)) = .ok (.string (strOfNums [1, f, 1, p, 1, q])) (W.alloc (.cells #[.int .u8 1, .int .u8 f, .int .u8 1, .int .u8 p, .int .u8 1, .int .u8 q] 5)) := fun W g hg => by
    subst hg
    exact conv_l [1, f, 1, p, 1, q] (by simp; omega) 6 rfl (Lz _)
  have z0 : (strOfNums [1, f, 1, p, 1, q]).size = 6 := strOfNums_size _
  have z1 := sec_size ((1 : Nat) : Int) (strOfNums [1, f, 1, p, 1, q]) (by omega)
  have hc1 : Hid (∀ W, Calls Try.prog 16 #[.int .i64 1, .string (strOfNums [1, f, 1, p, 1, q])] W fun e w' => e = .returned (.string (secB ((1 : Nat) : Int) (strOfNums [1, f, 1, p, 1, q]))) ∧ Later W w') := section_any 1 (by omega) _ (by omega)
  have hm1 : Hid (∀ W, Calls Try.prog 9 #[.string (hd8 ++ secB ((1 : Nat) : Int) (strOfNums [1, f, 1, p, 1, q]))] W (DzP W 1506)) := dm_zero (by rw [ByteArray.size_append]; show 8 + _ < _; omega) r1
  have q1 : ¬ 9223372036854775807 < 8 + (secB ((1 : Nat) : Int) (strOfNums [1, f, 1, p, 1, q])).size := by omega
  have hn : Hid (∀ x W, Calls Try.prog 10 #[.int .i64 x] W fun e w' => e = .returned (.int .i64 x) ∧ w' = W) := lnum_any
  generalize strOfNums [1, f, 1, p, 1, q] = S1 at *
  generalize secB ((1 : Nat) : Int) S1 = T1 at *
  clear r1 z0 z1
  replace hn_ : Hid _ := hn_
  replace hc1 : Hid _ := hc1
  go_enter Try.func6, Try.ntmps6
  go_wp2_with (go_at_call 8; refine (awake_any _).mono ?_; rintro e w0 ⟨rfl, l0⟩; replace l0 : Hid (Later w w0) := l0.out)
  refine (hc1.out _).mono ?_
  clear hc1
  rintro e w1 ⟨rfl, l1⟩
  have L1 : Hid (Later w w1) := (by first | exact l0.out.trans l1 | exact (La l0.out).trans l1 | exact (La (La l0.out)).trans l1)
  clear l0 l1
  go_wp2_with fail
  refine (hm1.out _).mono ?_
  clear hm1
  rintro e w2 ⟨A2, c2, rfl, C2, l2⟩
  have L2 : Hid (Later w w2) := L1.out.trans l2.out
  clear L1 l2
  have hs : Hid (∀ W, Later w2 W → _) := same_zero C2
  have en : ¬ (f = 96 ∧ (124 ≤ p ∧ p ≤ 127) ∧ (124 ≤ q ∧ q ≤ 127)) := hn_
  have hcase : ¬ f = 96 ∨ (f = 96 ∧ ¬ 124 ≤ p) ∨ (f = 96 ∧ 124 ≤ p ∧ ¬ p ≤ 127) ∨ (f = 96 ∧ 124 ≤ p ∧ p ≤ 127 ∧ ¬ 124 ≤ q) ∨ (f = 96 ∧ 124 ≤ p ∧ p ≤ 127 ∧ 124 ≤ q ∧ ¬ q ≤ 127) := by omega
  clear hn_ C2 en f0 p0 q0
  rcases hcase with k1 | ⟨k1, k2⟩ | ⟨k1, k2, k3⟩ | ⟨k1, k2, k3, k4⟩ | ⟨k1, k2, k3, k4, k5⟩
  · have kk : (f == 96) = false := by simpa using k1
    go_wp2_with (first | (go_at_call 10; refine (hn.out _ _).mono ?_; rintro e W ⟨rfl, hw⟩; subst hw) | (go_at_call 12; refine (hs.out _ (by repeat first | exact Lz _ | apply La | apply Ld)).mono ?_; clear hs; rintro e w3 ⟨rfl, l3⟩; replace l3 : Hid _ := l3))
    go_ret
    exact ⟨rfl, L2.out.trans (Later.trans (by repeat first | exact Lz _ | apply La | apply Ld) l3.out)⟩
  · have kk : decide (124 ≤ p) = false := decide_eq_false k2
    go_wp2_with (first | (go_at_call 10; refine (hn.out _ _).mono ?_; rintro e W ⟨rfl, hw⟩; subst hw) | (go_at_call 12; refine (hs.out _ (by repeat first | exact Lz _ | apply La | apply Ld)).mono ?_; clear hs; rintro e w3 ⟨rfl, l3⟩; replace l3 : Hid _ := l3))
    go_ret
    exact ⟨rfl, L2.out.trans (Later.trans (by repeat first | exact Lz _ | apply La | apply Ld) l3.out)⟩
  · have kk : decide (p ≤ 127) = false := decide_eq_false k3
    go_wp2_with (first | (go_at_call 10; refine (hn.out _ _).mono ?_; rintro e W ⟨rfl, hw⟩; subst hw) | (go_at_call 12; refine (hs.out _ (by repeat first | exact Lz _ | apply La | apply Ld)).mono ?_; clear hs; rintro e w3 ⟨rfl, l3⟩; replace l3 : Hid _ := l3))
    go_ret
    exact ⟨rfl, L2.out.trans (Later.trans (by repeat first | exact Lz _ | apply La | apply Ld) l3.out)⟩
  · have kk : decide (124 ≤ q) = false := decide_eq_false k4
    go_wp2_with (first | (go_at_call 10; refine (hn.out _ _).mono ?_; rintro e W ⟨rfl, hw⟩; subst hw) | (go_at_call 12; refine (hs.out _ (by repeat first | exact Lz _ | apply La | apply Ld)).mono ?_; clear hs; rintro e w3 ⟨rfl, l3⟩; replace l3 : Hid _ := l3))
    go_ret
    exact ⟨rfl, L2.out.trans (Later.trans (by repeat first | exact Lz _ | apply La | apply Ld) l3.out)⟩
  · have kk : decide (q ≤ 127) = false := decide_eq_false k5
    go_wp2_with (first | (go_at_call 10; refine (hn.out _ _).mono ?_; rintro e W ⟨rfl, hw⟩; subst hw) | (go_at_call 12; refine (hs.out _ (by repeat first | exact Lz _ | apply La | apply Ld)).mono ?_; clear hs; rintro e w3 ⟨rfl, l3⟩; replace l3 : Hid _ := l3))
    go_ret
    exact ⟨rfl, L2.out.trans (Later.trans (by repeat first | exact Lz _ | apply La | apply Ld) l3.out)⟩
theorem sz (a b g : Int) (p q : Int) (hp : IntKind.u8.wrap a = p) (hq : IntKind.u8.wrap b = q) (hz : ¬ bits .and .i64 g 7 = 0) (f0 : 0 ≤ (96 : Int) ∧ (96 : Int) < 256) (p0 : 0 ≤ p ∧ p < 256) (q0 : 0 ≤ q ∧ q < 256) (hn_ : (96 : Int) = 96 ∧ (124 ≤ p ∧ p ≤ 127) ∧ (124 ≤ q ∧ q ≤ 127)) (w : World) :
    Calls Try.prog 6 #[.int .i64 a, .int .i64 b, .int .i64 g] w fun e w' => e = .returned (.bool true) ∧ Later w w' := by
  have r1 : unM (hd8 ++ secB ((1 : Nat) : Int) (strOfNums [1, (96 : Int), 1, p, 1, q])) = ({ mdZ (-1) with ty := [([p], [q])] }, 0) := un_ty (96 : Int) p q hn_.1 hn_.2.1 hn_.2.2
  have cv : ∀ (W : World) (g : Nat), g = W.heap.size → (convert 48 9 (.slice (some ⟨g, 0, none⟩) 6 6)).run Try.prog (W.alloc (.cells #[.int .u8 1, .int .u8 (96 : Int), .int .u8 1, .int .u8 p, .int .u8 1, .int .u8 q] 5)) = .ok (.string (strOfNums [1, (96 : Int), 1, p, 1, q])) (W.alloc (.cells #[.int .u8 1, .int .u8 (96 : Int), .int .u8 1, .int .u8 p, .int .u8 1, .int .u8 q] 5)) := fun W g hg => by
    subst hg
    exact conv_l [1, (96 : Int), 1, p, 1, q] (by simp; omega) 6 rfl (Lz _)
  have z0 : (strOfNums [1, (96 : Int), 1, p, 1, q]).size = 6 := strOfNums_size _
  have z1 := sec_size ((1 : Nat) : Int) (strOfNums [1, (96 : Int), 1, p, 1, q]) (by omega)
  have hc1 : Hid (∀ W, Calls Try.prog 16 #[.int .i64 1, .string (strOfNums [1, (96 : Int), 1, p, 1, q])] W fun e w' => e = .returned (.string (secB ((1 : Nat) : Int) (strOfNums [1, (96 : Int), 1, p, 1, q]))) ∧ Later W w') := section_any 1 (by omega) _ (by omega)
  have hm1 : Hid (∀ W, Calls Try.prog 9 #[.string (hd8 ++ secB ((1 : Nat) : Int) (strOfNums [1, (96 : Int), 1, p, 1, q]))] W (DtyP W [p] [q])) := dm_ty (by rw [ByteArray.size_append]; show 8 + _ < _; omega) r1
  have q1 : ¬ 9223372036854775807 < 8 + (secB ((1 : Nat) : Int) (strOfNums [1, (96 : Int), 1, p, 1, q])).size := by omega
  have hn : Hid (∀ x W, Calls Try.prog 10 #[.int .i64 x] W fun e w' => e = .returned (.int .i64 x) ∧ w' = W) := lnum_any
  generalize strOfNums [1, (96 : Int), 1, p, 1, q] = S1 at *
  generalize secB ((1 : Nat) : Int) S1 = T1 at *
  clear r1 z0 z1
  replace hn_ : Hid _ := hn_
  replace hc1 : Hid _ := hc1
  go_enter Try.func6, Try.ntmps6
  go_wp2_with (go_at_call 8; refine (awake_any _).mono ?_; rintro e w0 ⟨rfl, l0⟩; replace l0 : Hid (Later w w0) := l0.out)
  refine (hc1.out _).mono ?_
  clear hc1
  rintro e w1 ⟨rfl, l1⟩
  have L1 : Hid (Later w w1) := (by first | exact l0.out.trans l1 | exact (La l0.out).trans l1 | exact (La (La l0.out)).trans l1)
  clear l0 l1
  go_wp2_with fail
  refine (hm1.out _).mono ?_
  clear hm1
  rintro e w2 ⟨A2, c2, g2, o2, B2, D2, cb2, cd2, rfl, X2, Y2, P2, Q2, l2⟩
  have L2 : Hid (Later w w2) := L1.out.trans l2.out
  clear L1 l2
  obtain ⟨e96, pb, qb⟩ := hn_.out
  have e1 : decide (124 ≤ p) = true := decide_eq_true pb.1
  have e2 : decide (p ≤ 127) = true := decide_eq_true pb.2
  have e3 : decide (124 ≤ q) = true := decide_eq_true qb.1
  have e4 : decide (q ≤ 127) = true := decide_eq_true qb.2
  have x2 := X2.out
  have y2 := Y2.out
  have lx2 := cell_lt x2
  simp only [List.length_cons, List.length_nil, Nat.zero_add] at x2 y2
  clear X2 Y2
  go_wp2_with (go_at_call 10; refine (hn.out _ _).mono ?_; rintro e W ⟨rfl, hw⟩; subst hw)
  refine (type_lit P2 Q2 _ _ _ 1 1 (by repeat first | exact Lz _ | apply La | apply Ld) (by simp [go_sem]) (by simp [go_sem])).mono ?_
  rintro e w3 ⟨rfl, l3⟩
  go_wp2_with fail
  go_ret
  exact ⟨rfl, L2.out.trans (Later.trans (by repeat first | exact Lz _ | apply La | apply Ld) l3.out)⟩
theorem sn (a b g : Int) (p q : Int) (hp : IntKind.u8.wrap a = p) (hq : IntKind.u8.wrap b = q) (hz : ¬ bits .and .i64 g 7 = 0) (f0 : 0 ≤ (96 : Int) ∧ (96 : Int) < 256) (p0 : 0 ≤ p ∧ p < 256) (q0 : 0 ≤ q ∧ q < 256) (hn_ : ¬ ((96 : Int) = 96 ∧ (124 ≤ p ∧ p ≤ 127) ∧ (124 ≤ q ∧ q ≤ 127))) (w : World) :
    Calls Try.prog 6 #[.int .i64 a, .int .i64 b, .int .i64 g] w fun e w' => e = .returned (.bool true) ∧ Later w w' := by
  have r1 : unM (hd8 ++ secB ((1 : Nat) : Int) (strOfNums [1, (96 : Int), 1, p, 1, q])) = (mdZ 0, 1506) := un_ty_no (96 : Int) p q f0 p0 q0 hn_
  have cv : ∀ (W : World) (g : Nat), g = W.heap.size → (convert 48 9 (.slice (some ⟨g, 0, none⟩) 6 6)).run Try.prog (W.alloc (.cells #[.int .u8 1, .int .u8 (96 : Int), .int .u8 1, .int .u8 p, .int .u8 1, .int .u8 q] 5)) = .ok (.string (strOfNums [1, (96 : Int), 1, p, 1, q])) (W.alloc (.cells #[.int .u8 1, .int .u8 (96 : Int), .int .u8 1, .int .u8 p, .int .u8 1, .int .u8 q] 5)) := fun W g hg => by
    subst hg
    exact conv_l [1, (96 : Int), 1, p, 1, q] (by simp; omega) 6 rfl (Lz _)
  have z0 : (strOfNums [1, (96 : Int), 1, p, 1, q]).size = 6 := strOfNums_size _
  have z1 := sec_size ((1 : Nat) : Int) (strOfNums [1, (96 : Int), 1, p, 1, q]) (by omega)
  have hc1 : Hid (∀ W, Calls Try.prog 16 #[.int .i64 1, .string (strOfNums [1, (96 : Int), 1, p, 1, q])] W fun e w' => e = .returned (.string (secB ((1 : Nat) : Int) (strOfNums [1, (96 : Int), 1, p, 1, q]))) ∧ Later W w') := section_any 1 (by omega) _ (by omega)
  have hm1 : Hid (∀ W, Calls Try.prog 9 #[.string (hd8 ++ secB ((1 : Nat) : Int) (strOfNums [1, (96 : Int), 1, p, 1, q]))] W (DzP W 1506)) := dm_zero (by rw [ByteArray.size_append]; show 8 + _ < _; omega) r1
  have q1 : ¬ 9223372036854775807 < 8 + (secB ((1 : Nat) : Int) (strOfNums [1, (96 : Int), 1, p, 1, q])).size := by omega
  have hn : Hid (∀ x W, Calls Try.prog 10 #[.int .i64 x] W fun e w' => e = .returned (.int .i64 x) ∧ w' = W) := lnum_any
  generalize strOfNums [1, (96 : Int), 1, p, 1, q] = S1 at *
  generalize secB ((1 : Nat) : Int) S1 = T1 at *
  clear r1 z0 z1
  replace hn_ : Hid _ := hn_
  replace hc1 : Hid _ := hc1
  go_enter Try.func6, Try.ntmps6
  go_wp2_with (go_at_call 8; refine (awake_any _).mono ?_; rintro e w0 ⟨rfl, l0⟩; replace l0 : Hid (Later w w0) := l0.out)
  refine (hc1.out _).mono ?_
  clear hc1
  rintro e w1 ⟨rfl, l1⟩
  have L1 : Hid (Later w w1) := (by first | exact l0.out.trans l1 | exact (La l0.out).trans l1 | exact (La (La l0.out)).trans l1)
  clear l0 l1
  go_wp2_with fail
  refine (hm1.out _).mono ?_
  clear hm1
  rintro e w2 ⟨A2, c2, rfl, C2, l2⟩
  have L2 : Hid (Later w w2) := L1.out.trans l2.out
  clear L1 l2
  have hs : Hid (∀ W, Later w2 W → _) := same_zero C2
  have en : ¬ ((96 : Int) = 96 ∧ (124 ≤ p ∧ p ≤ 127) ∧ (124 ≤ q ∧ q ≤ 127)) := by have t := hn_.out; simpa using t
  have hcase : ¬ (96 : Int) = 96 ∨ ((96 : Int) = 96 ∧ ¬ 124 ≤ p) ∨ ((96 : Int) = 96 ∧ 124 ≤ p ∧ ¬ p ≤ 127) ∨ ((96 : Int) = 96 ∧ 124 ≤ p ∧ p ≤ 127 ∧ ¬ 124 ≤ q) ∨ ((96 : Int) = 96 ∧ 124 ≤ p ∧ p ≤ 127 ∧ 124 ≤ q ∧ ¬ q ≤ 127) := by omega
  clear hn_ C2 en f0 p0 q0
  rcases hcase with k1 | ⟨k1, k2⟩ | ⟨k1, k2, k3⟩ | ⟨k1, k2, k3, k4⟩ | ⟨k1, k2, k3, k4, k5⟩
  · exact absurd rfl k1
  · have kk : decide (124 ≤ p) = false := decide_eq_false k2
    go_wp2_with (first | (go_at_call 10; refine (hn.out _ _).mono ?_; rintro e W ⟨rfl, hw⟩; subst hw) | (go_at_call 12; refine (hs.out _ (by repeat first | exact Lz _ | apply La | apply Ld)).mono ?_; clear hs; rintro e w3 ⟨rfl, l3⟩; replace l3 : Hid _ := l3))
    go_ret
    exact ⟨rfl, L2.out.trans (Later.trans (by repeat first | exact Lz _ | apply La | apply Ld) l3.out)⟩
  · have kk : decide (p ≤ 127) = false := decide_eq_false k3
    go_wp2_with (first | (go_at_call 10; refine (hn.out _ _).mono ?_; rintro e W ⟨rfl, hw⟩; subst hw) | (go_at_call 12; refine (hs.out _ (by repeat first | exact Lz _ | apply La | apply Ld)).mono ?_; clear hs; rintro e w3 ⟨rfl, l3⟩; replace l3 : Hid _ := l3))
    go_ret
    exact ⟨rfl, L2.out.trans (Later.trans (by repeat first | exact Lz _ | apply La | apply Ld) l3.out)⟩
  · have kk : decide (124 ≤ q) = false := decide_eq_false k4
    go_wp2_with (first | (go_at_call 10; refine (hn.out _ _).mono ?_; rintro e W ⟨rfl, hw⟩; subst hw) | (go_at_call 12; refine (hs.out _ (by repeat first | exact Lz _ | apply La | apply Ld)).mono ?_; clear hs; rintro e w3 ⟨rfl, l3⟩; replace l3 : Hid _ := l3))
    go_ret
    exact ⟨rfl, L2.out.trans (Later.trans (by repeat first | exact Lz _ | apply La | apply Ld) l3.out)⟩
  · have kk : decide (q ≤ 127) = false := decide_eq_false k5
    go_wp2_with (first | (go_at_call 10; refine (hn.out _ _).mono ?_; rintro e W ⟨rfl, hw⟩; subst hw) | (go_at_call 12; refine (hs.out _ (by repeat first | exact Lz _ | apply La | apply Ld)).mono ?_; clear hs; rintro e w3 ⟨rfl, l3⟩; replace l3 : Hid _ := l3))
    go_ret
    exact ⟨rfl, L2.out.trans (Later.trans (by repeat first | exact Lz _ | apply La | apply Ld) l3.out)⟩
theorem walk (a b g : Int) (w : World) : Calls Try.prog 6 #[.int .i64 a, .int .i64 b, .int .i64 g] w fun e w' => e = .returned (.bool true) ∧ Later w w' := by
  have h8 : ∀ x : Int, 0 ≤ IntKind.u8.wrap x ∧ IntKind.u8.wrap x < 256 := fun x => by rw [IntKind.wrap_u8]; omega
  by_cases hz : bits .and .i64 g 7 = 0
  · by_cases hn : g / 8 % 256 = 96 ∧ (124 ≤ IntKind.u8.wrap a ∧ IntKind.u8.wrap a ≤ 127) ∧ (124 ≤ IntKind.u8.wrap b ∧ IntKind.u8.wrap b ≤ 127)
    · exact tz a b g _ _ _ rfl rfl hz rfl (by omega) (h8 a) (h8 b) hn w
    · exact tn a b g _ _ _ rfl rfl hz rfl (by omega) (h8 a) (h8 b) hn w
  · by_cases hn : (96 : Int) = 96 ∧ (124 ≤ IntKind.u8.wrap a ∧ IntKind.u8.wrap a ≤ 127) ∧ (124 ≤ IntKind.u8.wrap b ∧ IntKind.u8.wrap b ≤ 127)
    · exact sz a b g _ _ rfl rfl hz (by decide) (h8 a) (h8 b) hn w
    · exact sn a b g _ _ rfl rfl hz (by decide) (h8 a) (h8 b) hn w

set_option maxRecDepth 100000 in
theorem lifted (os : Os) (started : os.Started) (H : Type) (enc : TypeId × Value → H) :
    ReturnsInHanded {} Try.checked os 6 .any (Rows.decodeTypesSpec.pre6 enc Try.prog Try.f6 Rows.decodeTypesRow.domain false) (Rows.decodeTypesSpec.post enc Try.prog Try.f6 false true false false) := by
  refine returnsInHanded_of_change_sized (C := Try.checked) own started (by kernel_rfl) Try.func6
    (ChangeSpec.witness6 (enc := enc) (C := Try.checked) false ⟨#[], #[.int .i64 0, .int .i64 0, .int .i64 0], []⟩ 8 (by kernel_rfl) (by kernel_rfl) (by kernel_rfl) (by kernel_rfl)) ?_
  intro W base args ds gs before hval0 hW _ _ _
  have hval : ∀ (j : Nat) t v, Try.f6.params[j]? = some t → args[j]? = some v → Value.okWide Try.prog W .any base t v := hval0
  have hW' := hW
  obtain ⟨p, q, hA0, hV, rfl, hfz, hnd⟩ := hW
  have hA : DataW.TrodAll enc Try.prog W 0 (fun _ => true) true Try.f6.params.toList args.toList ds p := hA0
  rw [Try.params6] at hA hval
  obtain ⟨v0, vs0, d0, ds0, p0, q0, hargs, rfl, rfl, h0, r0⟩ := trodAll_cons hA
  obtain ⟨v1, vs1, d1, ds1, p1, q1, rfl, rfl, rfl, h1, r1⟩ := trodAll_cons r0
  obtain ⟨v2, vs2, d2, ds2, p2, q2, rfl, rfl, rfl, h2, r2⟩ := trodAll_cons r1
  obtain ⟨rfl, rfl, rfl⟩ := trodAll_nil r2
  obtain rfl : args = #[v0, v1, v2] := by cases args; simp_all
  obtain ⟨rfl, rfl⟩ := trodVars_none hV
  obtain ⟨a0, rfl, rfl, rfl, w0⟩ := open_int Try.underlying3 (hval 0 3 v0 rfl rfl) h0
  obtain ⟨a1, rfl, rfl, rfl, w1⟩ := open_int Try.underlying3 (hval 1 3 v1 rfl rfl) h1
  obtain ⟨a2, rfl, rfl, rfl, w2⟩ := open_int Try.underlying3 (hval 2 3 v2 rfl rfl) h2
  clear hA0 hval0
  simp only [List.append_nil, List.nil_append] at hW'
  have hlt : ∀ x ∈ ([] : List MemPlace), x.block < W.heap.size := fun x hx => by simpa using hW'.lt x hx
  refine (walk a0 a1 a2 W ).mono fun e W' ⟨he, hl⟩ => ?_
  subst he
  have hbel : Below W.heap.size W W' := by obtain ⟨bs, nn, rfl⟩ := hl; exact ⟨rfl, rfl, rfl, by rw [World.far_size]; omega, fun k hk => World.far_block W bs nn k hk⟩
  have hx : ∀ sp : Nat → Bool, (∀ p ∈ ([] : List MemPlace), sp p.block = true) → DataW.TrodAll enc Try.prog W' 0 sp true [3, 3, 3] [.int .i64 a0, .int .i64 a1, .int .i64 a2] [.lit (.int .i64 a0), .lit (.int .i64 a1), .lit (.int .i64 a2)] (([] : List MemPlace)) := fun sp hsp => by simpa using (trodAll_cons_mk (shut_int Try.underlying3 w0) (trodAll_cons_mk (shut_int Try.underlying3 w1) (trodAll_cons_mk (shut_int Try.underlying3 w2) trodAll_mk0)))
  exact ⟨_, rfl, post_none hW' (fun _ _ _ => (trodAll_cons_mk (shut_bool Try.underlying4 _) trodAll_mk0)) (fun sp => hx sp (fun p hp => absurd hp List.not_mem_nil)) (fun _ => rfl) (hbel.frame _) (ok_one (by kernel_rfl) rfl (okWide_bool_mk Try.underlying4 _))⟩

theorem over : Rows.decodeTypesRow.holds Try.pinned (OpenSpec.ofChange Rows.decodeTypesSpec) :=
  OpenClaim.holds_of_wide 6 Try.f6 rfl rfl rfl rfl rfl rfl rfl ⟨rfl, rfl, rfl, rfl, rfl⟩ rfl rfl rfl rfl rfl (by kernel_rfl) Try.func6 (by kernel_rfl)
    (of_decide_eq_true (by kernel_rfl)) (by unfold Func.isWrapper; first | (rw [if_pos (by decide +kernel)]; kernel_rfl) | (rw [if_neg (by decide +kernel)]; exact ⟨rfl, rfl⟩))
    (fun os started H enc _ => lifted os started H enc)


theorem proved : Rows.DecodeTypesSaid := over
end Go.Proofs.Ytngciahmoenkiaa.decodeTypes
namespace Go.Proofs.Ytngciahmoenkiaa
theorem decodeTypes_holds : Rows.DecodeTypesSaid := decodeTypes.proved
#print axioms decodeTypes_holds
end Go.Proofs.Ytngciahmoenkiaa
