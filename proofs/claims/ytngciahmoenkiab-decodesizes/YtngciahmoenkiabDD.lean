/- package decode's reader: lists of numbers and of types. -/
import Derived.Test.YtngciahmoenkiabEQ
import Derived.Test.YtngciahmoenkiabDC
set_option linter.unusedVariables false
set_option linter.unusedSimpArgs false
set_option maxRecDepth 100000
set_option maxHeartbeats 4000000
namespace Go.Proofs.Ytngciahmoenkiab
open Go.RowKit
variable {q b : Nat} {w w' wr wr' : World} {v u s : ByteArray} {st st' : Sst} {a a' : Int}
/-- a list in new memory -/
def pR {α : Type} (f : α → List Fd) (B : Nat) (xs : List α) (y : Value) (w' : World) : Prop := ∃ A c, y = .slice A xs.length c ∧ Rt f (Zf B w') w' A xs
/-- a struct, what it holds in new memory -/
def pS {α : Type} (f : α → List Fd) (B : Nat) (x : α) (y : Value) (w' : World) : Prop := ∃ c : List Value, y = .agg c.toArray ∧ itc (Zf B w') w' (f x) c
/-- one struct more, behind what was read -/
theorem Mn.got {α : Type} {f : α → List Fd} {e t : TypeId} {k by_ : Nat} {x0 : Value} {xs : List α} (hM : Mn f w.heap.size e k wr x0 xs) (R : Ds q b w wr v a) (hq : q < w.heap.size) (hT : Ti t e k by_) (ty : TypeId) (x : α) (hf : (f x).length = k) (c : List Value) (hn : (xs.length + 1) * by_ ≤ 140737488355328) (h63 : xs.length + 1 ≤ 1000000000) {w2 : World} (R2 : Ds q b wr w2 v a') (hc : itc (Zf wr.heap.size w2) w2 (f x) c) :
    ∃ g cap w', (Builtin.append_ #[t, t] ty #[x0, .slice (some ⟨w2.heap.size, 0, none⟩) 1 1]).run Try.prog (w2.alloc (.cells c.toArray e)) = .ok (.slice (some ⟨g, 0, none⟩) (xs.length + 1) cap) w' ∧ Mn f w.heap.size e k w' (.slice (some ⟨g, 0, none⟩) (xs.length + 1) cap) (xs ++ [x]) ∧ Ds q b w w' v a' := by
  obtain ⟨g, cap', w', r, M', W'⟩ := hM.more (w := w2) hT ty R.size R2.size (fun j hj hl => R2.1.block j hl (fun e => by have e : j = q := e; omega)) x hf c hc hn h63
  exact ⟨g, cap', w', r, M', (R.trans R2).above W' (Nat.le_refl _) hq⟩
theorem srep_end {α : Type} (f : Sst → α × Sst) {k : Nat} {st st3 : Sst} {d : List α} {m : Nat} (h : srep f k st = (d ++ (srep f m st3).1, (srep f m st3).2)) (hc : ¬ st3.code = 0) : (srep f k st).2 = st3 := by
  rw [h, srep_bad f m st3 hc]
theorem nums_any (m : Int) (hm : 0 ≤ m ∧ m ≤ 1024) (hv : v.size < 9223372036854775000) (hS : Shf b v u) (hc : st.code = 0) (hin : Sin u st) (w : World) (h : w.rowIs q 82 2 (dF v b st.at_)) :
    Calls Try.prog 33 #[.pointer (some ⟨q, 0, none⟩), .int .i64 m, .func (.func 34) #[.pointer (some ⟨q, 0, none⟩)] #[]] w (Got q b w v (pR f1 w.heap.size) (srep (snum u) (smany u m st).1.toNat (smany u m st).2)) := by
  have hq := h.lt
  have hct : Hid (Calls Try.prog 51 #[.pointer (some ⟨q, 0, none⟩), .int .i64 m] w (Got q b w v pN (smany u m st))) := count_any m hm.1 hv hS hc hin w h
  have hrg := smany_rng (s := u) (st := st) (m := m) hm.1
  have hi1 := smany_in hin m
  generalize hr : srep (snum u) (smany u m st).1.toNat (smany u m st).2 = r
  generalize smany u m st = K at *
  obtain ⟨k0, a1, cd1⟩ := K
  simp only [] at hct hrg hi1 hr
  obtain ⟨k, rfl⟩ := Int.eq_ofNat_of_zero_le hrg.1
  rw [Int.toNat_natCast] at hr
  have hk : k ≤ 1024 := by have := hm.2; omega
  replace hi1 : Hid (Sin u ⟨a1, cd1⟩) := hi1
  replace hr : Hid (srep (snum u) k ⟨a1, cd1⟩ = r) := hr
  have hit : Hid (∀ (a2 : Int) (W : World), Sin u ⟨a2, 0⟩ → W.rowIs q 82 2 (dF v b a2) → Calls Try.prog 34 #[.pointer (some ⟨q, 0, none⟩)] W (Got q b W v (pN) ((snum u) ⟨a2, 0⟩))) := fun a2 W hi hW => number_any hv hS rfl hi W hW
  have hgin : Hid (∀ st, Sin u st → Sin u ((snum u) st).2) := fun st hi => snum_in hi
  clear hin h hrg hm hc hS hv
  go_enter Try.func33, Try.ntmps33
  go_wp2_with fail
  refine hct.out.mono ?_
  clear hct
  rintro e w1 (⟨hc1, ⟨y, rfl, hy⟩, D1⟩ | ⟨hc1, rfl, W1⟩)
  rotate_left
  · replace hc1 : ¬ cd1 = 0 := hc1
    refine ⟨rfl, Got.bad hc1 ?_ W1⟩
    rw [← hr.out, srep_bad _ _ _ hc1]
  obtain rfl : cd1 = 0 := hc1
  obtain rfl : y = .int .i64 (k : Int) := hy
  replace D1 : Hid (Ds q b w w1 v a1) := D1
  go_wp2_with fail
  go_loopw [7, 11] (fun x0 i wr => ∃ (d : List Int) (a2 : Int), i = .int .i64 (d.length : Nat) ∧ d.length ≤ k ∧ Mn f1 w.heap.size 3 1 wr x0 d ∧ Ds q b w wr v a2 ∧ Sin u ⟨a2, 0⟩ ∧ srep (snum u) k ⟨a1, 0⟩ = (d ++ (srep (snum u) (k - d.length) ⟨a2, 0⟩).1, (srep (snum u) (k - d.length) ⟨a2, 0⟩).2)) (fun x0 i _ => k - (intOf i).toNat)
  case atStart => exact ⟨[], a1, rfl, Nat.zero_le _, Mn.start _, D1.out, hi1.out, rfl⟩
  case round =>
    obtain ⟨d, a2, rfl, hd, hM, R2, hi2, htot⟩ := hrel
    obtain ⟨A, cap, rfl⟩ := hM.form
    clear D1 hi1
    by_cases hlt : d.length < k
    · have hl1 : (d.length : Int) < (k : Int) := by omega
      have hkd := hit.out a2 wr hi2 R2.2
      clear hit
      obtain ⟨m, hm2⟩ : ∃ m, k - d.length = m + 1 := ⟨k - d.length - 1, by omega⟩
      rw [hm2, srep_ok _ _ _ rfl] at htot
      have hi3 := hgin.out _ hi2
      clear hgin
      generalize hK3 : (snum u) ⟨a2, 0⟩ = K3 at *
      obtain ⟨x, a3, cd3⟩ := K3
      clear hK3
      simp only [] at hkd htot hi3
      replace hkd : Hid (Calls Try.prog 34 #[.pointer (some ⟨q, 0, none⟩)] wr (Got q b wr v (pN) (x, ⟨a3, cd3⟩))) := hkd
      have hmore : Hid (∀ (w2 : World) , Ds q b wr w2 v a3 → itc (Zf wr.heap.size w2) w2 (f1 x) [.int .i64 x] → ∃ g cap' w', (Builtin.append_ #[26, 26] 26 #[.slice A d.length cap, .slice (some ⟨w2.heap.size, 0, none⟩) 1 1]).run Try.prog (w2.alloc (.cells #[.int .i64 x] 3)) = .ok (.slice (some ⟨g, 0, none⟩) (d.length + 1) cap') w' ∧ Mn f1 w.heap.size 3 1 w' (.slice (some ⟨g, 0, none⟩) (d.length + 1) cap') (d ++ [x]) ∧ Ds q b w w' v a3) := fun w2  R3 hc => hM.got R2 hq ti_int 26 x rfl [.int .i64 x] (by omega) (by omega) R3 hc
      have hfin : Hid (d.length + 1 ≤ k ∧ Sin u ⟨a3, cd3⟩ ∧ srep (snum u) k ⟨a1, 0⟩ = ((d ++ [x]) ++ (srep (snum u) (k - (d ++ [x]).length) ⟨a3, cd3⟩).1, (srep (snum u) (k - (d ++ [x]).length) ⟨a3, cd3⟩).2)) := by
        refine ⟨hlt, hi3, ?_⟩
        rw [show k - (d ++ [x]).length = m by rw [List.length_append, List.length_singleton]; omega, htot, List.append_assoc]
        rfl
      have R2w : Hid (Wr (· = q) w wr) := R2.1
      clear htot hM R2 hi2 hi3 hm2 hd
      go_wp2_with fail
      refine hkd.out.mono ?_
      clear hkd
      rintro e1 w2 (⟨hc3, ⟨y, rfl, hy⟩, D3⟩ | ⟨hc3, rfl, W3⟩)
      · obtain rfl : cd3 = 0 := hc3
        obtain rfl : y = .int .i64 x := hy
        have hitc : itc (Zf wr.heap.size w2) w2 (f1 x) [.int .i64 x] := ⟨_, [], rfl, rfl, rfl⟩
        obtain ⟨g, cap', w', r2, M', R4⟩ := hmore.out w2  D3 hitc
        clear hmore hitc
        replace r2 : Hid _ := r2
        replace M' : Hid _ := M'
        replace R4 : Hid _ := R4
        clear D3
        go_wp2_with (at_builtin; refine wpList_app rfl _ _ 26 rfl _ _ _ rfl rfl r2.out ?_; clear r2)
        go_roundw
        case rel => exact ⟨d ++ [x], a3, by rw [List.length_append]; go_num, by rw [List.length_append]; exact hfin.out.1, M'.out, R4.out, hfin.out.2⟩
        case measure => simp [intOf]; omega
      · replace hc3 : ¬ cd3 = 0 := hc3
        refine ⟨rfl, Got.bad hc3 ?_ (R2w.out.trans W3)⟩
        rw [← hr.out, srep_end _ hfin.out.2.2 hc3]
    · have hl1 : ¬ (d.length : Int) < (k : Int) := by omega
      rw [show k - d.length = 0 by omega] at htot
      simp only [srep, List.append_nil] at htot
      have hr2 : Hid ((d, (⟨a2, 0⟩ : Sst)) = r) := by rw [← hr.out, htot]; rfl
      have hfin : Hid (Rt f1 (Zf w.heap.size wr) wr A d ∧ Ds q b w wr v a2) := ⟨hM.rt, R2⟩
      clear hM R2 hi2 hr htot hit hgin
      go_wp2_with fail
      go_ret
      rw [← hr2.out]
      exact Got.ok rfl ⟨A, cap, rfl, hfin.out.1⟩ hfin.out.2
theorem vtypes_any (m : Int) (hm : 0 ≤ m ∧ m ≤ 1024) (hv : v.size < 9223372036854775000) (hS : Shf b v u) (hc : st.code = 0) (hin : Sin u st) (w : World) (h : w.rowIs q 82 2 (dF v b st.at_)) :
    Calls Try.prog 33 #[.pointer (some ⟨q, 0, none⟩), .int .i64 m, .func (.func 53) #[.pointer (some ⟨q, 0, none⟩)] #[]] w (Got q b w v (pR f1 w.heap.size) (srep (skind u) (smany u m st).1.toNat (smany u m st).2)) := by
  have hq := h.lt
  have hct : Hid (Calls Try.prog 51 #[.pointer (some ⟨q, 0, none⟩), .int .i64 m] w (Got q b w v pN (smany u m st))) := count_any m hm.1 hv hS hc hin w h
  have hrg := smany_rng (s := u) (st := st) (m := m) hm.1
  have hi1 := smany_in hin m
  generalize hr : srep (skind u) (smany u m st).1.toNat (smany u m st).2 = r
  generalize smany u m st = K at *
  obtain ⟨k0, a1, cd1⟩ := K
  simp only [] at hct hrg hi1 hr
  obtain ⟨k, rfl⟩ := Int.eq_ofNat_of_zero_le hrg.1
  rw [Int.toNat_natCast] at hr
  have hk : k ≤ 1024 := by have := hm.2; omega
  replace hi1 : Hid (Sin u ⟨a1, cd1⟩) := hi1
  replace hr : Hid (srep (skind u) k ⟨a1, cd1⟩ = r) := hr
  have hit : Hid (∀ (a2 : Int) (W : World), Sin u ⟨a2, 0⟩ → W.rowIs q 82 2 (dF v b a2) → Calls Try.prog 53 #[.pointer (some ⟨q, 0, none⟩)] W (Got q b W v (pN) ((skind u) ⟨a2, 0⟩))) := fun a2 W hi hW => vtype_any hv hS rfl hi W hW
  have hgin : Hid (∀ st, Sin u st → Sin u ((skind u) st).2) := fun st hi => skind_in hi
  clear hin h hrg hm hc hS hv
  go_enter Try.func33, Try.ntmps33
  go_wp2_with fail
  refine hct.out.mono ?_
  clear hct
  rintro e w1 (⟨hc1, ⟨y, rfl, hy⟩, D1⟩ | ⟨hc1, rfl, W1⟩)
  rotate_left
  · replace hc1 : ¬ cd1 = 0 := hc1
    refine ⟨rfl, Got.bad hc1 ?_ W1⟩
    rw [← hr.out, srep_bad _ _ _ hc1]
  obtain rfl : cd1 = 0 := hc1
  obtain rfl : y = .int .i64 (k : Int) := hy
  replace D1 : Hid (Ds q b w w1 v a1) := D1
  go_wp2_with fail
  go_loopw [7, 11] (fun x0 i wr => ∃ (d : List Int) (a2 : Int), i = .int .i64 (d.length : Nat) ∧ d.length ≤ k ∧ Mn f1 w.heap.size 3 1 wr x0 d ∧ Ds q b w wr v a2 ∧ Sin u ⟨a2, 0⟩ ∧ srep (skind u) k ⟨a1, 0⟩ = (d ++ (srep (skind u) (k - d.length) ⟨a2, 0⟩).1, (srep (skind u) (k - d.length) ⟨a2, 0⟩).2)) (fun x0 i _ => k - (intOf i).toNat)
  case atStart => exact ⟨[], a1, rfl, Nat.zero_le _, Mn.start _, D1.out, hi1.out, rfl⟩
  case round =>
    obtain ⟨d, a2, rfl, hd, hM, R2, hi2, htot⟩ := hrel
    obtain ⟨A, cap, rfl⟩ := hM.form
    clear D1 hi1
    by_cases hlt : d.length < k
    · have hl1 : (d.length : Int) < (k : Int) := by omega
      have hkd := hit.out a2 wr hi2 R2.2
      clear hit
      obtain ⟨m, hm2⟩ : ∃ m, k - d.length = m + 1 := ⟨k - d.length - 1, by omega⟩
      rw [hm2, srep_ok _ _ _ rfl] at htot
      have hi3 := hgin.out _ hi2
      clear hgin
      generalize hK3 : (skind u) ⟨a2, 0⟩ = K3 at *
      obtain ⟨x, a3, cd3⟩ := K3
      clear hK3
      simp only [] at hkd htot hi3
      replace hkd : Hid (Calls Try.prog 53 #[.pointer (some ⟨q, 0, none⟩)] wr (Got q b wr v (pN) (x, ⟨a3, cd3⟩))) := hkd
      have hmore : Hid (∀ (w2 : World) , Ds q b wr w2 v a3 → itc (Zf wr.heap.size w2) w2 (f1 x) [.int .i64 x] → ∃ g cap' w', (Builtin.append_ #[26, 26] 26 #[.slice A d.length cap, .slice (some ⟨w2.heap.size, 0, none⟩) 1 1]).run Try.prog (w2.alloc (.cells #[.int .i64 x] 3)) = .ok (.slice (some ⟨g, 0, none⟩) (d.length + 1) cap') w' ∧ Mn f1 w.heap.size 3 1 w' (.slice (some ⟨g, 0, none⟩) (d.length + 1) cap') (d ++ [x]) ∧ Ds q b w w' v a3) := fun w2  R3 hc => hM.got R2 hq ti_int 26 x rfl [.int .i64 x] (by omega) (by omega) R3 hc
      have hfin : Hid (d.length + 1 ≤ k ∧ Sin u ⟨a3, cd3⟩ ∧ srep (skind u) k ⟨a1, 0⟩ = ((d ++ [x]) ++ (srep (skind u) (k - (d ++ [x]).length) ⟨a3, cd3⟩).1, (srep (skind u) (k - (d ++ [x]).length) ⟨a3, cd3⟩).2)) := by
        refine ⟨hlt, hi3, ?_⟩
        rw [show k - (d ++ [x]).length = m by rw [List.length_append, List.length_singleton]; omega, htot, List.append_assoc]
        rfl
      have R2w : Hid (Wr (· = q) w wr) := R2.1
      clear htot hM R2 hi2 hi3 hm2 hd
      go_wp2_with fail
      refine hkd.out.mono ?_
      clear hkd
      rintro e1 w2 (⟨hc3, ⟨y, rfl, hy⟩, D3⟩ | ⟨hc3, rfl, W3⟩)
      · obtain rfl : cd3 = 0 := hc3
        obtain rfl : y = .int .i64 x := hy
        have hitc : itc (Zf wr.heap.size w2) w2 (f1 x) [.int .i64 x] := ⟨_, [], rfl, rfl, rfl⟩
        obtain ⟨g, cap', w', r2, M', R4⟩ := hmore.out w2  D3 hitc
        clear hmore hitc
        replace r2 : Hid _ := r2
        replace M' : Hid _ := M'
        replace R4 : Hid _ := R4
        clear D3
        go_wp2_with (at_builtin; refine wpList_app rfl _ _ 26 rfl _ _ _ rfl rfl r2.out ?_; clear r2)
        go_roundw
        case rel => exact ⟨d ++ [x], a3, by rw [List.length_append]; go_num, by rw [List.length_append]; exact hfin.out.1, M'.out, R4.out, hfin.out.2⟩
        case measure => simp [intOf]; omega
      · replace hc3 : ¬ cd3 = 0 := hc3
        refine ⟨rfl, Got.bad hc3 ?_ (R2w.out.trans W3)⟩
        rw [← hr.out, srep_end _ hfin.out.2.2 hc3]
    · have hl1 : ¬ (d.length : Int) < (k : Int) := by omega
      rw [show k - d.length = 0 by omega] at htot
      simp only [srep, List.append_nil] at htot
      have hr2 : Hid ((d, (⟨a2, 0⟩ : Sst)) = r) := by rw [← hr.out, htot]; rfl
      have hfin : Hid (Rt f1 (Zf w.heap.size wr) wr A d ∧ Ds q b w wr v a2) := ⟨hM.rt, R2⟩
      clear hM R2 hi2 hr htot hit hgin
      go_wp2_with fail
      go_ret
      rw [← hr2.out]
      exact Got.ok rfl ⟨A, cap, rfl, hfin.out.1⟩ hfin.out.2
end Go.Proofs.Ytngciahmoenkiab
