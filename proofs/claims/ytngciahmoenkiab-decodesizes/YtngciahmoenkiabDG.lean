/- package decode's reader: lists of structs. -/
import Derived.Test.YtngciahmoenkiabEQ
import Derived.Test.YtngciahmoenkiabDF
import Derived.Test.YtngciahmoenkiabXY
set_option linter.unusedVariables false
set_option linter.unusedSimpArgs false
set_option maxRecDepth 100000
set_option maxHeartbeats 4000000
namespace Go.Proofs.Ytngciahmoenkiab
open Go.RowKit
variable {q b : Nat} {w w' wr wr' : World} {v u s : ByteArray} {st st' : Sst} {a a' : Int}
/-- a table -/
def stab (s : ByteArray) (st : Sst) : (Int × Int) × Sst := slim s (smust s 112 st)
theorem ftypes_any (m : Int) (hm : 0 ≤ m ∧ m ≤ 1024) (hv : v.size < 9223372036854775000) (hS : Shf b v u) (hc : st.code = 0) (hin : Sin u st) (w : World) (h : w.rowIs q 82 2 (dF v b st.at_)) :
    Calls Try.prog 29 #[.pointer (some ⟨q, 0, none⟩), .int .i64 m, .func (.func 30) #[.pointer (some ⟨q, 0, none⟩)] #[]] w (Got q b w v (pR fTy w.heap.size) (srep (sty u) (smany u m st).1.toNat (smany u m st).2)) := by
  have hq := h.lt
  have hct : Hid (Calls Try.prog 51 #[.pointer (some ⟨q, 0, none⟩), .int .i64 m] w (Got q b w v pN (smany u m st))) := count_any m hm.1 hv hS hc hin w h
  have hrg := smany_rng (s := u) (st := st) (m := m) hm.1
  have hi1 := smany_in hin m
  generalize hr : srep (sty u) (smany u m st).1.toNat (smany u m st).2 = r
  generalize smany u m st = K at *
  obtain ⟨k0, a1, cd1⟩ := K
  simp only [] at hct hrg hi1 hr
  obtain ⟨k, rfl⟩ := Int.eq_ofNat_of_zero_le hrg.1
  rw [Int.toNat_natCast] at hr
  have hk : k ≤ 1024 := by have := hm.2; omega
  replace hi1 : Hid (Sin u ⟨a1, cd1⟩) := hi1
  replace hr : Hid (srep (sty u) k ⟨a1, cd1⟩ = r) := hr
  have hit : Hid (∀ (a2 : Int) (W : World), Sin u ⟨a2, 0⟩ → W.rowIs q 82 2 (dF v b a2) → Calls Try.prog 30 #[.pointer (some ⟨q, 0, none⟩)] W (Got q b W v (pS fTy W.heap.size) ((sty u) ⟨a2, 0⟩))) := fun a2 W hi hW => ftype_any hv hS rfl hi W hW
  have hgin : Hid (∀ st, Sin u st → Sin u ((sty u) st).2) := fun st hi => skinds_in (skinds_in (smust_in hi 96))
  clear hin h hrg hm hc hS hv
  go_enter Try.func29, Try.ntmps29
  go_wp2_with fail
  refine hct.out.mono ?_
  clear hct
  rintro e w1 (⟨hc1, ⟨y, rfl, hy⟩, D1⟩ | ⟨hc1, rfl, W1⟩)
  rotate_left
  · replace hc1 : ¬ cd1 = 0 := hc1
    refine ⟨rfl, Got.bad hc1 ?_ W1⟩
    rw [← hr.out, srep_bad _ _ _ hc1]
  obtain rfl : cd1 = 0 := hc1
  obtain rfl : y = .int .i64 (k : Int) := hy
  replace D1 : Hid (Ds q b w w1 v a1) := D1
  go_wp2_with fail
  go_loopw [7, 11] (fun x0 i wr => ∃ (d : List (List Int × List Int)) (a2 : Int), i = .int .i64 (d.length : Nat) ∧ d.length ≤ k ∧ Mn fTy w.heap.size 63 2 wr x0 d ∧ Ds q b w wr v a2 ∧ Sin u ⟨a2, 0⟩ ∧ srep (sty u) k ⟨a1, 0⟩ = (d ++ (srep (sty u) (k - d.length) ⟨a2, 0⟩).1, (srep (sty u) (k - d.length) ⟨a2, 0⟩).2)) (fun x0 i _ => k - (intOf i).toNat)
  case atStart => exact ⟨[], a1, rfl, Nat.zero_le _, Mn.start _, D1.out, hi1.out, rfl⟩
  case round =>
    obtain ⟨d, a2, rfl, hd, hM, R2, hi2, htot⟩ := hrel
    obtain ⟨A, cap, rfl⟩ := hM.form
    clear D1 hi1
    by_cases hlt : d.length < k
    · have hl1 : (d.length : Int) < (k : Int) := by omega
      have hkd := hit.out a2 wr hi2 R2.2
      clear hit
      obtain ⟨m, hm2⟩ : ∃ m, k - d.length = m + 1 := ⟨k - d.length - 1, by omega⟩
      rw [hm2, srep_ok _ _ _ rfl] at htot
      have hi3 := hgin.out _ hi2
      clear hgin
      generalize hK3 : (sty u) ⟨a2, 0⟩ = K3 at *
      obtain ⟨x, a3, cd3⟩ := K3
      clear hK3
      simp only [] at hkd htot hi3
      replace hkd : Hid (Calls Try.prog 30 #[.pointer (some ⟨q, 0, none⟩)] wr (Got q b wr v (pS fTy wr.heap.size) (x, ⟨a3, cd3⟩))) := hkd
      have hmore : Hid (∀ (w2 : World) (A1 A2 : Option Addr) (n1 n2 : Nat), Ds q b wr w2 v a3 → itc (Zf wr.heap.size w2) w2 (fTy x) [.slice A1 x.1.length n1, .slice A2 x.2.length n2] → ∃ g cap' w', (Builtin.append_ #[24, 24] 24 #[.slice A d.length cap, .slice (some ⟨w2.heap.size, 0, none⟩) 1 1]).run Try.prog (w2.alloc (.cells #[.slice A1 x.1.length n1, .slice A2 x.2.length n2] 63)) = .ok (.slice (some ⟨g, 0, none⟩) (d.length + 1) cap') w' ∧ Mn fTy w.heap.size 63 2 w' (.slice (some ⟨g, 0, none⟩) (d.length + 1) cap') (d ++ [x]) ∧ Ds q b w w' v a3) := fun w2 A1 A2 n1 n2 R3 hc => hM.got R2 hq ti_fty 24 x rfl [.slice A1 x.1.length n1, .slice A2 x.2.length n2] (by omega) (by omega) R3 hc
      have hfin : Hid (d.length + 1 ≤ k ∧ Sin u ⟨a3, cd3⟩ ∧ srep (sty u) k ⟨a1, 0⟩ = ((d ++ [x]) ++ (srep (sty u) (k - (d ++ [x]).length) ⟨a3, cd3⟩).1, (srep (sty u) (k - (d ++ [x]).length) ⟨a3, cd3⟩).2)) := by
        refine ⟨hlt, hi3, ?_⟩
        rw [show k - (d ++ [x]).length = m by rw [List.length_append, List.length_singleton]; omega, htot, List.append_assoc]
        rfl
      have R2w : Hid (Wr (· = q) w wr) := R2.1
      clear htot hM R2 hi2 hi3 hm2 hd
      go_wp2_with fail
      refine hkd.out.mono ?_
      clear hkd
      rintro e1 w2 (⟨hc3, ⟨y, rfl, hy⟩, D3⟩ | ⟨hc3, rfl, W3⟩)
      · obtain rfl : cd3 = 0 := hc3
        obtain ⟨cc, rfl, hitc⟩ := hy
        have hitc2 := hitc
        obtain ⟨_, _, rfl, ⟨A1, n1, rfl, _⟩, _, _, rfl, ⟨A2, n2, rfl, _⟩, rfl⟩ := hitc2
        obtain ⟨g, cap', w', r2, M', R4⟩ := hmore.out w2 A1 A2 n1 n2 D3 hitc
        clear hmore hitc
        replace r2 : Hid _ := r2
        replace M' : Hid _ := M'
        replace R4 : Hid _ := R4
        clear D3
        go_wp2_with (at_builtin; refine wpList_app rfl _ _ 24 rfl _ _ _ rfl rfl r2.out ?_; clear r2)
        go_roundw
        case rel => exact ⟨d ++ [x], a3, by rw [List.length_append]; go_num, by rw [List.length_append]; exact hfin.out.1, M'.out, R4.out, hfin.out.2⟩
        case measure => simp [intOf]; omega
      · replace hc3 : ¬ cd3 = 0 := hc3
        refine ⟨rfl, Got.bad hc3 ?_ (R2w.out.trans W3)⟩
        rw [← hr.out, srep_end _ hfin.out.2.2 hc3]
    · have hl1 : ¬ (d.length : Int) < (k : Int) := by omega
      rw [show k - d.length = 0 by omega] at htot
      simp only [srep, List.append_nil] at htot
      have hr2 : Hid ((d, (⟨a2, 0⟩ : Sst)) = r) := by rw [← hr.out, htot]; rfl
      have hfin : Hid (Rt fTy (Zf w.heap.size wr) wr A d ∧ Ds q b w wr v a2) := ⟨hM.rt, R2⟩
      clear hM R2 hi2 hr htot hit hgin
      go_wp2_with fail
      go_ret
      rw [← hr2.out]
      exact Got.ok rfl ⟨A, cap, rfl, hfin.out.1⟩ hfin.out.2
theorem imps_any (m : Int) (hm : 0 ≤ m ∧ m ≤ 1024) (hv : v.size < 9223372036854775000) (hS : Shf b v u) (hc : st.code = 0) (hin : Sin u st) (w : World) (h : w.rowIs q 82 2 (dF v b st.at_)) :
    Calls Try.prog 31 #[.pointer (some ⟨q, 0, none⟩), .int .i64 m, .func (.func 32) #[.pointer (some ⟨q, 0, none⟩)] #[]] w (Got q b w v (pR fIm w.heap.size) (srep (spart u) (smany u m st).1.toNat (smany u m st).2)) := by
  have hq := h.lt
  have hct : Hid (Calls Try.prog 51 #[.pointer (some ⟨q, 0, none⟩), .int .i64 m] w (Got q b w v pN (smany u m st))) := count_any m hm.1 hv hS hc hin w h
  have hrg := smany_rng (s := u) (st := st) (m := m) hm.1
  have hi1 := smany_in hin m
  generalize hr : srep (spart u) (smany u m st).1.toNat (smany u m st).2 = r
  generalize smany u m st = K at *
  obtain ⟨k0, a1, cd1⟩ := K
  simp only [] at hct hrg hi1 hr
  obtain ⟨k, rfl⟩ := Int.eq_ofNat_of_zero_le hrg.1
  rw [Int.toNat_natCast] at hr
  have hk : k ≤ 1024 := by have := hm.2; omega
  replace hi1 : Hid (Sin u ⟨a1, cd1⟩) := hi1
  replace hr : Hid (srep (spart u) k ⟨a1, cd1⟩ = r) := hr
  have hit : Hid (∀ (a2 : Int) (W : World), Sin u ⟨a2, 0⟩ → W.rowIs q 82 2 (dF v b a2) → Calls Try.prog 32 #[.pointer (some ⟨q, 0, none⟩)] W (Got q b W v (pS fIm W.heap.size) ((spart u) ⟨a2, 0⟩))) := fun a2 W hi hW => imported_any hv hS rfl hi W hW
  have hgin : Hid (∀ st, Sin u st → Sin u ((spart u) st).2) := fun st hi => spart_in hi
  clear hin h hrg hm hc hS hv
  go_enter Try.func31, Try.ntmps31
  go_wp2_with fail
  refine hct.out.mono ?_
  clear hct
  rintro e w1 (⟨hc1, ⟨y, rfl, hy⟩, D1⟩ | ⟨hc1, rfl, W1⟩)
  rotate_left
  · replace hc1 : ¬ cd1 = 0 := hc1
    refine ⟨rfl, Got.bad hc1 ?_ W1⟩
    rw [← hr.out, srep_bad _ _ _ hc1]
  obtain rfl : cd1 = 0 := hc1
  obtain rfl : y = .int .i64 (k : Int) := hy
  replace D1 : Hid (Ds q b w w1 v a1) := D1
  go_wp2_with fail
  go_loopw [7, 11] (fun x0 i wr => ∃ (d : List Imp) (a2 : Int), i = .int .i64 (d.length : Nat) ∧ d.length ≤ k ∧ Mn fIm w.heap.size 67 7 wr x0 d ∧ Ds q b w wr v a2 ∧ Sin u ⟨a2, 0⟩ ∧ srep (spart u) k ⟨a1, 0⟩ = (d ++ (srep (spart u) (k - d.length) ⟨a2, 0⟩).1, (srep (spart u) (k - d.length) ⟨a2, 0⟩).2)) (fun x0 i _ => k - (intOf i).toNat)
  case atStart => exact ⟨[], a1, rfl, Nat.zero_le _, Mn.start _, D1.out, hi1.out, rfl⟩
  case round =>
    obtain ⟨d, a2, rfl, hd, hM, R2, hi2, htot⟩ := hrel
    obtain ⟨A, cap, rfl⟩ := hM.form
    clear D1 hi1
    by_cases hlt : d.length < k
    · have hl1 : (d.length : Int) < (k : Int) := by omega
      have hkd := hit.out a2 wr hi2 R2.2
      clear hit
      obtain ⟨m, hm2⟩ : ∃ m, k - d.length = m + 1 := ⟨k - d.length - 1, by omega⟩
      rw [hm2, srep_ok _ _ _ rfl] at htot
      have hi3 := hgin.out _ hi2
      clear hgin
      generalize hK3 : (spart u) ⟨a2, 0⟩ = K3 at *
      obtain ⟨x, a3, cd3⟩ := K3
      clear hK3
      simp only [] at hkd htot hi3
      replace hkd : Hid (Calls Try.prog 32 #[.pointer (some ⟨q, 0, none⟩)] wr (Got q b wr v (pS fIm wr.heap.size) (x, ⟨a3, cd3⟩))) := hkd
      have hmore : Hid (∀ (w2 : World) , Ds q b wr w2 v a3 → itc (Zf wr.heap.size w2) w2 (fIm x) [.string x.1, .string x.2.1, .int .i64 x.2.2.1, .int .i64 x.2.2.2.1, .bool x.2.2.2.2.1, .int .i64 x.2.2.2.2.2.1, .int .i64 x.2.2.2.2.2.2] → ∃ g cap' w', (Builtin.append_ #[25, 25] 25 #[.slice A d.length cap, .slice (some ⟨w2.heap.size, 0, none⟩) 1 1]).run Try.prog (w2.alloc (.cells #[.string x.1, .string x.2.1, .int .i64 x.2.2.1, .int .i64 x.2.2.2.1, .bool x.2.2.2.2.1, .int .i64 x.2.2.2.2.2.1, .int .i64 x.2.2.2.2.2.2] 67)) = .ok (.slice (some ⟨g, 0, none⟩) (d.length + 1) cap') w' ∧ Mn fIm w.heap.size 67 7 w' (.slice (some ⟨g, 0, none⟩) (d.length + 1) cap') (d ++ [x]) ∧ Ds q b w w' v a3) := fun w2  R3 hc => hM.got R2 hq ti_imp 25 x rfl [.string x.1, .string x.2.1, .int .i64 x.2.2.1, .int .i64 x.2.2.2.1, .bool x.2.2.2.2.1, .int .i64 x.2.2.2.2.2.1, .int .i64 x.2.2.2.2.2.2] (by omega) (by omega) R3 hc
      have hfin : Hid (d.length + 1 ≤ k ∧ Sin u ⟨a3, cd3⟩ ∧ srep (spart u) k ⟨a1, 0⟩ = ((d ++ [x]) ++ (srep (spart u) (k - (d ++ [x]).length) ⟨a3, cd3⟩).1, (srep (spart u) (k - (d ++ [x]).length) ⟨a3, cd3⟩).2)) := by
        refine ⟨hlt, hi3, ?_⟩
        rw [show k - (d ++ [x]).length = m by rw [List.length_append, List.length_singleton]; omega, htot, List.append_assoc]
        rfl
      have R2w : Hid (Wr (· = q) w wr) := R2.1
      clear htot hM R2 hi2 hi3 hm2 hd
      go_wp2_with fail
      refine hkd.out.mono ?_
      clear hkd
      rintro e1 w2 (⟨hc3, ⟨y, rfl, hy⟩, D3⟩ | ⟨hc3, rfl, W3⟩)
      · obtain rfl : cd3 = 0 := hc3
        obtain ⟨cc, rfl, hitc⟩ := hy
        have hitc2 := hitc
        obtain ⟨_, _, rfl, rfl, _, _, rfl, rfl, _, _, rfl, rfl, _, _, rfl, rfl, _, _, rfl, rfl, _, _, rfl, rfl, _, _, rfl, rfl, rfl⟩ := hitc2
        obtain ⟨g, cap', w', r2, M', R4⟩ := hmore.out w2  D3 hitc
        clear hmore hitc
        replace r2 : Hid _ := r2
        replace M' : Hid _ := M'
        replace R4 : Hid _ := R4
        clear D3
        go_wp2_with (at_builtin; refine wpList_app rfl _ _ 25 rfl _ _ _ rfl rfl r2.out ?_; clear r2)
        go_roundw
        case rel => exact ⟨d ++ [x], a3, by rw [List.length_append]; go_num, by rw [List.length_append]; exact hfin.out.1, M'.out, R4.out, hfin.out.2⟩
        case measure => simp [intOf]; omega
      · replace hc3 : ¬ cd3 = 0 := hc3
        refine ⟨rfl, Got.bad hc3 ?_ (R2w.out.trans W3)⟩
        rw [← hr.out, srep_end _ hfin.out.2.2 hc3]
    · have hl1 : ¬ (d.length : Int) < (k : Int) := by omega
      rw [show k - d.length = 0 by omega] at htot
      simp only [srep, List.append_nil] at htot
      have hr2 : Hid ((d, (⟨a2, 0⟩ : Sst)) = r) := by rw [← hr.out, htot]; rfl
      have hfin : Hid (Rt fIm (Zf w.heap.size wr) wr A d ∧ Ds q b w wr v a2) := ⟨hM.rt, R2⟩
      clear hM R2 hi2 hr htot hit hgin
      go_wp2_with fail
      go_ret
      rw [← hr2.out]
      exact Got.ok rfl ⟨A, cap, rfl, hfin.out.1⟩ hfin.out.2
theorem globs_any (m : Int) (hm : 0 ≤ m ∧ m ≤ 1024) (hv : v.size < 9223372036854775000) (hS : Shf b v u) (hc : st.code = 0) (hin : Sin u st) (w : World) (h : w.rowIs q 82 2 (dF v b st.at_)) :
    Calls Try.prog 38 #[.pointer (some ⟨q, 0, none⟩), .int .i64 m, .func (.func 39) #[.pointer (some ⟨q, 0, none⟩)] #[]] w (Got q b w v (pR fGl w.heap.size) (srep (sglo u) (smany u m st).1.toNat (smany u m st).2)) := by
  have hq := h.lt
  have hct : Hid (Calls Try.prog 51 #[.pointer (some ⟨q, 0, none⟩), .int .i64 m] w (Got q b w v pN (smany u m st))) := count_any m hm.1 hv hS hc hin w h
  have hrg := smany_rng (s := u) (st := st) (m := m) hm.1
  have hi1 := smany_in hin m
  generalize hr : srep (sglo u) (smany u m st).1.toNat (smany u m st).2 = r
  generalize smany u m st = K at *
  obtain ⟨k0, a1, cd1⟩ := K
  simp only [] at hct hrg hi1 hr
  obtain ⟨k, rfl⟩ := Int.eq_ofNat_of_zero_le hrg.1
  rw [Int.toNat_natCast] at hr
  have hk : k ≤ 1024 := by have := hm.2; omega
  replace hi1 : Hid (Sin u ⟨a1, cd1⟩) := hi1
  replace hr : Hid (srep (sglo u) k ⟨a1, cd1⟩ = r) := hr
  have hit : Hid (∀ (a2 : Int) (W : World), Sin u ⟨a2, 0⟩ → W.rowIs q 82 2 (dF v b a2) → Calls Try.prog 39 #[.pointer (some ⟨q, 0, none⟩)] W (Got q b W v (pS fGl W.heap.size) ((sglo u) ⟨a2, 0⟩))) := fun a2 W hi hW => global_any hv hS rfl hi W hW
  have hgin : Hid (∀ st, Sin u st → Sin u ((sglo u) st).2) := fun st hi => sinstrs_in (sflag_in (skind_in hi))
  clear hin h hrg hm hc hS hv
  go_enter Try.func38, Try.ntmps38
  go_wp2_with fail
  refine hct.out.mono ?_
  clear hct
  rintro e w1 (⟨hc1, ⟨y, rfl, hy⟩, D1⟩ | ⟨hc1, rfl, W1⟩)
  rotate_left
  · replace hc1 : ¬ cd1 = 0 := hc1
    refine ⟨rfl, Got.bad hc1 ?_ W1⟩
    rw [← hr.out, srep_bad _ _ _ hc1]
  obtain rfl : cd1 = 0 := hc1
  obtain rfl : y = .int .i64 (k : Int) := hy
  replace D1 : Hid (Ds q b w w1 v a1) := D1
  go_wp2_with fail
  go_loopw [7, 11] (fun x0 i wr => ∃ (d : List (Int × Bool × Fs)) (a2 : Int), i = .int .i64 (d.length : Nat) ∧ d.length ≤ k ∧ Mn fGl w.heap.size 51 3 wr x0 d ∧ Ds q b w wr v a2 ∧ Sin u ⟨a2, 0⟩ ∧ srep (sglo u) k ⟨a1, 0⟩ = (d ++ (srep (sglo u) (k - d.length) ⟨a2, 0⟩).1, (srep (sglo u) (k - d.length) ⟨a2, 0⟩).2)) (fun x0 i _ => k - (intOf i).toNat)
  case atStart => exact ⟨[], a1, rfl, Nat.zero_le _, Mn.start _, D1.out, hi1.out, rfl⟩
  case round =>
    obtain ⟨d, a2, rfl, hd, hM, R2, hi2, htot⟩ := hrel
    obtain ⟨A, cap, rfl⟩ := hM.form
    clear D1 hi1
    by_cases hlt : d.length < k
    · have hl1 : (d.length : Int) < (k : Int) := by omega
      have hkd := hit.out a2 wr hi2 R2.2
      clear hit
      obtain ⟨m, hm2⟩ : ∃ m, k - d.length = m + 1 := ⟨k - d.length - 1, by omega⟩
      rw [hm2, srep_ok _ _ _ rfl] at htot
      have hi3 := hgin.out _ hi2
      clear hgin
      generalize hK3 : (sglo u) ⟨a2, 0⟩ = K3 at *
      obtain ⟨x, a3, cd3⟩ := K3
      clear hK3
      simp only [] at hkd htot hi3
      replace hkd : Hid (Calls Try.prog 39 #[.pointer (some ⟨q, 0, none⟩)] wr (Got q b wr v (pS fGl wr.heap.size) (x, ⟨a3, cd3⟩))) := hkd
      have hmore : Hid (∀ (w2 : World) (A3 : Option Addr) (n3 : Nat), Ds q b wr w2 v a3 → itc (Zf wr.heap.size w2) w2 (fGl x) [.int .i64 x.1, .bool x.2.1, .slice A3 x.2.2.len n3] → ∃ g cap' w', (Builtin.append_ #[28, 28] 28 #[.slice A d.length cap, .slice (some ⟨w2.heap.size, 0, none⟩) 1 1]).run Try.prog (w2.alloc (.cells #[.int .i64 x.1, .bool x.2.1, .slice A3 x.2.2.len n3] 51)) = .ok (.slice (some ⟨g, 0, none⟩) (d.length + 1) cap') w' ∧ Mn fGl w.heap.size 51 3 w' (.slice (some ⟨g, 0, none⟩) (d.length + 1) cap') (d ++ [x]) ∧ Ds q b w w' v a3) := fun w2 A3 n3 R3 hc => hM.got R2 hq ti_glo 28 x rfl [.int .i64 x.1, .bool x.2.1, .slice A3 x.2.2.len n3] (by omega) (by omega) R3 hc
      have hfin : Hid (d.length + 1 ≤ k ∧ Sin u ⟨a3, cd3⟩ ∧ srep (sglo u) k ⟨a1, 0⟩ = ((d ++ [x]) ++ (srep (sglo u) (k - (d ++ [x]).length) ⟨a3, cd3⟩).1, (srep (sglo u) (k - (d ++ [x]).length) ⟨a3, cd3⟩).2)) := by
        refine ⟨hlt, hi3, ?_⟩
        rw [show k - (d ++ [x]).length = m by rw [List.length_append, List.length_singleton]; omega, htot, List.append_assoc]
        rfl
      have R2w : Hid (Wr (· = q) w wr) := R2.1
      clear htot hM R2 hi2 hi3 hm2 hd
      go_wp2_with fail
      refine hkd.out.mono ?_
      clear hkd
      rintro e1 w2 (⟨hc3, ⟨y, rfl, hy⟩, D3⟩ | ⟨hc3, rfl, W3⟩)
      · obtain rfl : cd3 = 0 := hc3
        obtain ⟨cc, rfl, hitc⟩ := hy
        have hitc2 := hitc
        obtain ⟨_, _, rfl, rfl, _, _, rfl, rfl, _, _, rfl, ⟨A3, n3, rfl, _⟩, rfl⟩ := hitc2
        obtain ⟨g, cap', w', r2, M', R4⟩ := hmore.out w2 A3 n3 D3 hitc
        clear hmore hitc
        replace r2 : Hid _ := r2
        replace M' : Hid _ := M'
        replace R4 : Hid _ := R4
        clear D3
        go_wp2_with (at_builtin; refine wpList_app rfl _ _ 28 rfl _ _ _ rfl rfl r2.out ?_; clear r2)
        go_roundw
        case rel => exact ⟨d ++ [x], a3, by rw [List.length_append]; go_num, by rw [List.length_append]; exact hfin.out.1, M'.out, R4.out, hfin.out.2⟩
        case measure => simp [intOf]; omega
      · replace hc3 : ¬ cd3 = 0 := hc3
        refine ⟨rfl, Got.bad hc3 ?_ (R2w.out.trans W3)⟩
        rw [← hr.out, srep_end _ hfin.out.2.2 hc3]
    · have hl1 : ¬ (d.length : Int) < (k : Int) := by omega
      rw [show k - d.length = 0 by omega] at htot
      simp only [srep, List.append_nil] at htot
      have hr2 : Hid ((d, (⟨a2, 0⟩ : Sst)) = r) := by rw [← hr.out, htot]; rfl
      have hfin : Hid (Rt fGl (Zf w.heap.size wr) wr A d ∧ Ds q b w wr v a2) := ⟨hM.rt, R2⟩
      clear hM R2 hi2 hr htot hit hgin
      go_wp2_with fail
      go_ret
      rw [← hr2.out]
      exact Got.ok rfl ⟨A, cap, rfl, hfin.out.1⟩ hfin.out.2
theorem exps_any (m : Int) (hm : 0 ≤ m ∧ m ≤ 1024) (hv : v.size < 9223372036854775000) (hS : Shf b v u) (hc : st.code = 0) (hin : Sin u st) (w : World) (h : w.rowIs q 82 2 (dF v b st.at_)) :
    Calls Try.prog 40 #[.pointer (some ⟨q, 0, none⟩), .int .i64 m, .func (.func 41) #[.pointer (some ⟨q, 0, none⟩)] #[]] w (Got q b w v (pR fEx w.heap.size) (srep (sexp u) (smany u m st).1.toNat (smany u m st).2)) := by
  have hq := h.lt
  have hct : Hid (Calls Try.prog 51 #[.pointer (some ⟨q, 0, none⟩), .int .i64 m] w (Got q b w v pN (smany u m st))) := count_any m hm.1 hv hS hc hin w h
  have hrg := smany_rng (s := u) (st := st) (m := m) hm.1
  have hi1 := smany_in hin m
  generalize hr : srep (sexp u) (smany u m st).1.toNat (smany u m st).2 = r
  generalize smany u m st = K at *
  obtain ⟨k0, a1, cd1⟩ := K
  simp only [] at hct hrg hi1 hr
  obtain ⟨k, rfl⟩ := Int.eq_ofNat_of_zero_le hrg.1
  rw [Int.toNat_natCast] at hr
  have hk : k ≤ 1024 := by have := hm.2; omega
  replace hi1 : Hid (Sin u ⟨a1, cd1⟩) := hi1
  replace hr : Hid (srep (sexp u) k ⟨a1, cd1⟩ = r) := hr
  have hit : Hid (∀ (a2 : Int) (W : World), Sin u ⟨a2, 0⟩ → W.rowIs q 82 2 (dF v b a2) → Calls Try.prog 41 #[.pointer (some ⟨q, 0, none⟩)] W (Got q b W v (pS fEx W.heap.size) ((sexp u) ⟨a2, 0⟩))) := fun a2 W hi hW => export_any hv hS rfl hi W hW
  have hgin : Hid (∀ st, Sin u st → Sin u ((sexp u) st).2) := fun st hi => sexp_in hi
  clear hin h hrg hm hc hS hv
  go_enter Try.func40, Try.ntmps40
  go_wp2_with fail
  refine hct.out.mono ?_
  clear hct
  rintro e w1 (⟨hc1, ⟨y, rfl, hy⟩, D1⟩ | ⟨hc1, rfl, W1⟩)
  rotate_left
  · replace hc1 : ¬ cd1 = 0 := hc1
    refine ⟨rfl, Got.bad hc1 ?_ W1⟩
    rw [← hr.out, srep_bad _ _ _ hc1]
  obtain rfl : cd1 = 0 := hc1
  obtain rfl : y = .int .i64 (k : Int) := hy
  replace D1 : Hid (Ds q b w w1 v a1) := D1
  go_wp2_with fail
  go_loopw [7, 11] (fun x0 i wr => ∃ (d : List (ByteArray × Int × Int)) (a2 : Int), i = .int .i64 (d.length : Nat) ∧ d.length ≤ k ∧ Mn fEx w.heap.size 54 3 wr x0 d ∧ Ds q b w wr v a2 ∧ Sin u ⟨a2, 0⟩ ∧ srep (sexp u) k ⟨a1, 0⟩ = (d ++ (srep (sexp u) (k - d.length) ⟨a2, 0⟩).1, (srep (sexp u) (k - d.length) ⟨a2, 0⟩).2)) (fun x0 i _ => k - (intOf i).toNat)
  case atStart => exact ⟨[], a1, rfl, Nat.zero_le _, Mn.start _, D1.out, hi1.out, rfl⟩
  case round =>
    obtain ⟨d, a2, rfl, hd, hM, R2, hi2, htot⟩ := hrel
    obtain ⟨A, cap, rfl⟩ := hM.form
    clear D1 hi1
    by_cases hlt : d.length < k
    · have hl1 : (d.length : Int) < (k : Int) := by omega
      have hkd := hit.out a2 wr hi2 R2.2
      clear hit
      obtain ⟨m, hm2⟩ : ∃ m, k - d.length = m + 1 := ⟨k - d.length - 1, by omega⟩
      rw [hm2, srep_ok _ _ _ rfl] at htot
      have hi3 := hgin.out _ hi2
      clear hgin
      generalize hK3 : (sexp u) ⟨a2, 0⟩ = K3 at *
      obtain ⟨x, a3, cd3⟩ := K3
      clear hK3
      simp only [] at hkd htot hi3
      replace hkd : Hid (Calls Try.prog 41 #[.pointer (some ⟨q, 0, none⟩)] wr (Got q b wr v (pS fEx wr.heap.size) (x, ⟨a3, cd3⟩))) := hkd
      have hmore : Hid (∀ (w2 : World) , Ds q b wr w2 v a3 → itc (Zf wr.heap.size w2) w2 (fEx x) [.string x.1, .int .i64 x.2.1, .int .i64 x.2.2] → ∃ g cap' w', (Builtin.append_ #[29, 29] 29 #[.slice A d.length cap, .slice (some ⟨w2.heap.size, 0, none⟩) 1 1]).run Try.prog (w2.alloc (.cells #[.string x.1, .int .i64 x.2.1, .int .i64 x.2.2] 54)) = .ok (.slice (some ⟨g, 0, none⟩) (d.length + 1) cap') w' ∧ Mn fEx w.heap.size 54 3 w' (.slice (some ⟨g, 0, none⟩) (d.length + 1) cap') (d ++ [x]) ∧ Ds q b w w' v a3) := fun w2  R3 hc => hM.got R2 hq ti_exp 29 x rfl [.string x.1, .int .i64 x.2.1, .int .i64 x.2.2] (by omega) (by omega) R3 hc
      have hfin : Hid (d.length + 1 ≤ k ∧ Sin u ⟨a3, cd3⟩ ∧ srep (sexp u) k ⟨a1, 0⟩ = ((d ++ [x]) ++ (srep (sexp u) (k - (d ++ [x]).length) ⟨a3, cd3⟩).1, (srep (sexp u) (k - (d ++ [x]).length) ⟨a3, cd3⟩).2)) := by
        refine ⟨hlt, hi3, ?_⟩
        rw [show k - (d ++ [x]).length = m by rw [List.length_append, List.length_singleton]; omega, htot, List.append_assoc]
        rfl
      have R2w : Hid (Wr (· = q) w wr) := R2.1
      clear htot hM R2 hi2 hi3 hm2 hd
      go_wp2_with fail
      refine hkd.out.mono ?_
      clear hkd
      rintro e1 w2 (⟨hc3, ⟨y, rfl, hy⟩, D3⟩ | ⟨hc3, rfl, W3⟩)
      · obtain rfl : cd3 = 0 := hc3
        obtain ⟨cc, rfl, hitc⟩ := hy
        have hitc2 := hitc
        obtain ⟨_, _, rfl, rfl, _, _, rfl, rfl, _, _, rfl, rfl, rfl⟩ := hitc2
        obtain ⟨g, cap', w', r2, M', R4⟩ := hmore.out w2  D3 hitc
        clear hmore hitc
        replace r2 : Hid _ := r2
        replace M' : Hid _ := M'
        replace R4 : Hid _ := R4
        clear D3
        go_wp2_with (at_builtin; refine wpList_app rfl _ _ 29 rfl _ _ _ rfl rfl r2.out ?_; clear r2)
        go_roundw
        case rel => exact ⟨d ++ [x], a3, by rw [List.length_append]; go_num, by rw [List.length_append]; exact hfin.out.1, M'.out, R4.out, hfin.out.2⟩
        case measure => simp [intOf]; omega
      · replace hc3 : ¬ cd3 = 0 := hc3
        refine ⟨rfl, Got.bad hc3 ?_ (R2w.out.trans W3)⟩
        rw [← hr.out, srep_end _ hfin.out.2.2 hc3]
    · have hl1 : ¬ (d.length : Int) < (k : Int) := by omega
      rw [show k - d.length = 0 by omega] at htot
      simp only [srep, List.append_nil] at htot
      have hr2 : Hid ((d, (⟨a2, 0⟩ : Sst)) = r) := by rw [← hr.out, htot]; rfl
      have hfin : Hid (Rt fEx (Zf w.heap.size wr) wr A d ∧ Ds q b w wr v a2) := ⟨hM.rt, R2⟩
      clear hM R2 hi2 hr htot hit hgin
      go_wp2_with fail
      go_ret
      rw [← hr2.out]
      exact Got.ok rfl ⟨A, cap, rfl, hfin.out.1⟩ hfin.out.2
theorem elems_any (m : Int) (hm : 0 ≤ m ∧ m ≤ 1024) (hv : v.size < 9223372036854775000) (hS : Shf b v u) (hc : st.code = 0) (hin : Sin u st) (w : World) (h : w.rowIs q 82 2 (dF v b st.at_)) :
    Calls Try.prog 42 #[.pointer (some ⟨q, 0, none⟩), .int .i64 m, .func (.func 43) #[.pointer (some ⟨q, 0, none⟩)] #[]] w (Got q b w v (pR fEl w.heap.size) (srep (selm u) (smany u m st).1.toNat (smany u m st).2)) := by
  have hq := h.lt
  have hct : Hid (Calls Try.prog 51 #[.pointer (some ⟨q, 0, none⟩), .int .i64 m] w (Got q b w v pN (smany u m st))) := count_any m hm.1 hv hS hc hin w h
  have hrg := smany_rng (s := u) (st := st) (m := m) hm.1
  have hi1 := smany_in hin m
  generalize hr : srep (selm u) (smany u m st).1.toNat (smany u m st).2 = r
  generalize smany u m st = K at *
  obtain ⟨k0, a1, cd1⟩ := K
  simp only [] at hct hrg hi1 hr
  obtain ⟨k, rfl⟩ := Int.eq_ofNat_of_zero_le hrg.1
  rw [Int.toNat_natCast] at hr
  have hk : k ≤ 1024 := by have := hm.2; omega
  replace hi1 : Hid (Sin u ⟨a1, cd1⟩) := hi1
  replace hr : Hid (srep (selm u) k ⟨a1, cd1⟩ = r) := hr
  have hit : Hid (∀ (a2 : Int) (W : World), Sin u ⟨a2, 0⟩ → W.rowIs q 82 2 (dF v b a2) → Calls Try.prog 43 #[.pointer (some ⟨q, 0, none⟩)] W (Got q b W v (pS fEl W.heap.size) ((selm u) ⟨a2, 0⟩))) := fun a2 W hi hW => elem_any hv hS rfl hi W hW
  have hgin : Hid (∀ st, Sin u st → Sin u ((selm u) st).2) := fun st hi => selm_in hi
  clear hin h hrg hm hc hS hv
  go_enter Try.func42, Try.ntmps42
  go_wp2_with fail
  refine hct.out.mono ?_
  clear hct
  rintro e w1 (⟨hc1, ⟨y, rfl, hy⟩, D1⟩ | ⟨hc1, rfl, W1⟩)
  rotate_left
  · replace hc1 : ¬ cd1 = 0 := hc1
    refine ⟨rfl, Got.bad hc1 ?_ W1⟩
    rw [← hr.out, srep_bad _ _ _ hc1]
  obtain rfl : cd1 = 0 := hc1
  obtain rfl : y = .int .i64 (k : Int) := hy
  replace D1 : Hid (Ds q b w w1 v a1) := D1
  go_wp2_with fail
  go_loopw [7, 11] (fun x0 i wr => ∃ (d : List (Fs × List Int)) (a2 : Int), i = .int .i64 (d.length : Nat) ∧ d.length ≤ k ∧ Mn fEl w.heap.size 56 2 wr x0 d ∧ Ds q b w wr v a2 ∧ Sin u ⟨a2, 0⟩ ∧ srep (selm u) k ⟨a1, 0⟩ = (d ++ (srep (selm u) (k - d.length) ⟨a2, 0⟩).1, (srep (selm u) (k - d.length) ⟨a2, 0⟩).2)) (fun x0 i _ => k - (intOf i).toNat)
  case atStart => exact ⟨[], a1, rfl, Nat.zero_le _, Mn.start _, D1.out, hi1.out, rfl⟩
  case round =>
    obtain ⟨d, a2, rfl, hd, hM, R2, hi2, htot⟩ := hrel
    obtain ⟨A, cap, rfl⟩ := hM.form
    clear D1 hi1
    by_cases hlt : d.length < k
    · have hl1 : (d.length : Int) < (k : Int) := by omega
      have hkd := hit.out a2 wr hi2 R2.2
      clear hit
      obtain ⟨m, hm2⟩ : ∃ m, k - d.length = m + 1 := ⟨k - d.length - 1, by omega⟩
      rw [hm2, srep_ok _ _ _ rfl] at htot
      have hi3 := hgin.out _ hi2
      clear hgin
      generalize hK3 : (selm u) ⟨a2, 0⟩ = K3 at *
      obtain ⟨x, a3, cd3⟩ := K3
      clear hK3
      simp only [] at hkd htot hi3
      replace hkd : Hid (Calls Try.prog 43 #[.pointer (some ⟨q, 0, none⟩)] wr (Got q b wr v (pS fEl wr.heap.size) (x, ⟨a3, cd3⟩))) := hkd
      have hmore : Hid (∀ (w2 : World) (A1 A2 : Option Addr) (n1 n2 : Nat), Ds q b wr w2 v a3 → itc (Zf wr.heap.size w2) w2 (fEl x) [.slice A1 x.1.len n1, .slice A2 x.2.length n2] → ∃ g cap' w', (Builtin.append_ #[30, 30] 30 #[.slice A d.length cap, .slice (some ⟨w2.heap.size, 0, none⟩) 1 1]).run Try.prog (w2.alloc (.cells #[.slice A1 x.1.len n1, .slice A2 x.2.length n2] 56)) = .ok (.slice (some ⟨g, 0, none⟩) (d.length + 1) cap') w' ∧ Mn fEl w.heap.size 56 2 w' (.slice (some ⟨g, 0, none⟩) (d.length + 1) cap') (d ++ [x]) ∧ Ds q b w w' v a3) := fun w2 A1 A2 n1 n2 R3 hc => hM.got R2 hq ti_elm 30 x rfl [.slice A1 x.1.len n1, .slice A2 x.2.length n2] (by omega) (by omega) R3 hc
      have hfin : Hid (d.length + 1 ≤ k ∧ Sin u ⟨a3, cd3⟩ ∧ srep (selm u) k ⟨a1, 0⟩ = ((d ++ [x]) ++ (srep (selm u) (k - (d ++ [x]).length) ⟨a3, cd3⟩).1, (srep (selm u) (k - (d ++ [x]).length) ⟨a3, cd3⟩).2)) := by
        refine ⟨hlt, hi3, ?_⟩
        rw [show k - (d ++ [x]).length = m by rw [List.length_append, List.length_singleton]; omega, htot, List.append_assoc]
        rfl
      have R2w : Hid (Wr (· = q) w wr) := R2.1
      clear htot hM R2 hi2 hi3 hm2 hd
      go_wp2_with fail
      refine hkd.out.mono ?_
      clear hkd
      rintro e1 w2 (⟨hc3, ⟨y, rfl, hy⟩, D3⟩ | ⟨hc3, rfl, W3⟩)
      · obtain rfl : cd3 = 0 := hc3
        obtain ⟨cc, rfl, hitc⟩ := hy
        have hitc2 := hitc
        obtain ⟨_, _, rfl, ⟨A1, n1, rfl, _⟩, _, _, rfl, ⟨A2, n2, rfl, _⟩, rfl⟩ := hitc2
        obtain ⟨g, cap', w', r2, M', R4⟩ := hmore.out w2 A1 A2 n1 n2 D3 hitc
        clear hmore hitc
        replace r2 : Hid _ := r2
        replace M' : Hid _ := M'
        replace R4 : Hid _ := R4
        clear D3
        go_wp2_with (at_builtin; refine wpList_app rfl _ _ 30 rfl _ _ _ rfl rfl r2.out ?_; clear r2)
        go_roundw
        case rel => exact ⟨d ++ [x], a3, by rw [List.length_append]; go_num, by rw [List.length_append]; exact hfin.out.1, M'.out, R4.out, hfin.out.2⟩
        case measure => simp [intOf]; omega
      · replace hc3 : ¬ cd3 = 0 := hc3
        refine ⟨rfl, Got.bad hc3 ?_ (R2w.out.trans W3)⟩
        rw [← hr.out, srep_end _ hfin.out.2.2 hc3]
    · have hl1 : ¬ (d.length : Int) < (k : Int) := by omega
      rw [show k - d.length = 0 by omega] at htot
      simp only [srep, List.append_nil] at htot
      have hr2 : Hid ((d, (⟨a2, 0⟩ : Sst)) = r) := by rw [← hr.out, htot]; rfl
      have hfin : Hid (Rt fEl (Zf w.heap.size wr) wr A d ∧ Ds q b w wr v a2) := ⟨hM.rt, R2⟩
      clear hM R2 hi2 hr htot hit hgin
      go_wp2_with fail
      go_ret
      rw [← hr2.out]
      exact Got.ok rfl ⟨A, cap, rfl, hfin.out.1⟩ hfin.out.2
theorem codes_any (m : Int) (hm : 0 ≤ m ∧ m ≤ 1024) (hv : v.size < 9223372036854775000) (hS : Shf b v u) (hc : st.code = 0) (hin : Sin u st) (w : World) (h : w.rowIs q 82 2 (dF v b st.at_)) :
    Calls Try.prog 44 #[.pointer (some ⟨q, 0, none⟩), .int .i64 m, .func (.func 45) #[.pointer (some ⟨q, 0, none⟩)] #[]] w (Got q b w v (pR fCo w.heap.size) (srep (sbody u) (smany u m st).1.toNat (smany u m st).2)) := by
  have hq := h.lt
  have hct : Hid (Calls Try.prog 51 #[.pointer (some ⟨q, 0, none⟩), .int .i64 m] w (Got q b w v pN (smany u m st))) := count_any m hm.1 hv hS hc hin w h
  have hrg := smany_rng (s := u) (st := st) (m := m) hm.1
  have hi1 := smany_in hin m
  generalize hr : srep (sbody u) (smany u m st).1.toNat (smany u m st).2 = r
  generalize smany u m st = K at *
  obtain ⟨k0, a1, cd1⟩ := K
  simp only [] at hct hrg hi1 hr
  obtain ⟨k, rfl⟩ := Int.eq_ofNat_of_zero_le hrg.1
  rw [Int.toNat_natCast] at hr
  have hk : k ≤ 1024 := by have := hm.2; omega
  replace hi1 : Hid (Sin u ⟨a1, cd1⟩) := hi1
  replace hr : Hid (srep (sbody u) k ⟨a1, cd1⟩ = r) := hr
  have hit : Hid (∀ (a2 : Int) (W : World), Sin u ⟨a2, 0⟩ → W.rowIs q 82 2 (dF v b a2) → Calls Try.prog 45 #[.pointer (some ⟨q, 0, none⟩)] W (Got q b W v (pS fCo W.heap.size) ((sbody u) ⟨a2, 0⟩))) := fun a2 W hi hW => code_any hv hS rfl hi W hW
  have hgin : Hid (∀ st, Sin u st → Sin u ((sbody u) st).2) := fun st hi => sbody_in hi
  clear hin h hrg hm hc hS hv
  go_enter Try.func44, Try.ntmps44
  go_wp2_with fail
  refine hct.out.mono ?_
  clear hct
  rintro e w1 (⟨hc1, ⟨y, rfl, hy⟩, D1⟩ | ⟨hc1, rfl, W1⟩)
  rotate_left
  · replace hc1 : ¬ cd1 = 0 := hc1
    refine ⟨rfl, Got.bad hc1 ?_ W1⟩
    rw [← hr.out, srep_bad _ _ _ hc1]
  obtain rfl : cd1 = 0 := hc1
  obtain rfl : y = .int .i64 (k : Int) := hy
  replace D1 : Hid (Ds q b w w1 v a1) := D1
  go_wp2_with fail
  go_loopw [7, 11] (fun x0 i wr => ∃ (d : List (List Int × Fs)) (a2 : Int), i = .int .i64 (d.length : Nat) ∧ d.length ≤ k ∧ Mn fCo w.heap.size 46 2 wr x0 d ∧ Ds q b w wr v a2 ∧ Sin u ⟨a2, 0⟩ ∧ srep (sbody u) k ⟨a1, 0⟩ = (d ++ (srep (sbody u) (k - d.length) ⟨a2, 0⟩).1, (srep (sbody u) (k - d.length) ⟨a2, 0⟩).2)) (fun x0 i _ => k - (intOf i).toNat)
  case atStart => exact ⟨[], a1, rfl, Nat.zero_le _, Mn.start _, D1.out, hi1.out, rfl⟩
  case round =>
    obtain ⟨d, a2, rfl, hd, hM, R2, hi2, htot⟩ := hrel
    obtain ⟨A, cap, rfl⟩ := hM.form
    clear D1 hi1
    by_cases hlt : d.length < k
    · have hl1 : (d.length : Int) < (k : Int) := by omega
      have hkd := hit.out a2 wr hi2 R2.2
      clear hit
      obtain ⟨m, hm2⟩ : ∃ m, k - d.length = m + 1 := ⟨k - d.length - 1, by omega⟩
      rw [hm2, srep_ok _ _ _ rfl] at htot
      have hi3 := hgin.out _ hi2
      clear hgin
      generalize hK3 : (sbody u) ⟨a2, 0⟩ = K3 at *
      obtain ⟨x, a3, cd3⟩ := K3
      clear hK3
      simp only [] at hkd htot hi3
      replace hkd : Hid (Calls Try.prog 45 #[.pointer (some ⟨q, 0, none⟩)] wr (Got q b wr v (pS fCo wr.heap.size) (x, ⟨a3, cd3⟩))) := hkd
      have hmore : Hid (∀ (w2 : World) (A1 A2 : Option Addr) (n1 n2 : Nat), Ds q b wr w2 v a3 → itc (Zf wr.heap.size w2) w2 (fCo x) [.slice A1 x.1.length n1, .slice A2 x.2.len n2] → ∃ g cap' w', (Builtin.append_ #[31, 31] 31 #[.slice A d.length cap, .slice (some ⟨w2.heap.size, 0, none⟩) 1 1]).run Try.prog (w2.alloc (.cells #[.slice A1 x.1.length n1, .slice A2 x.2.len n2] 46)) = .ok (.slice (some ⟨g, 0, none⟩) (d.length + 1) cap') w' ∧ Mn fCo w.heap.size 46 2 w' (.slice (some ⟨g, 0, none⟩) (d.length + 1) cap') (d ++ [x]) ∧ Ds q b w w' v a3) := fun w2 A1 A2 n1 n2 R3 hc => hM.got R2 hq ti_cod 31 x rfl [.slice A1 x.1.length n1, .slice A2 x.2.len n2] (by omega) (by omega) R3 hc
      have hfin : Hid (d.length + 1 ≤ k ∧ Sin u ⟨a3, cd3⟩ ∧ srep (sbody u) k ⟨a1, 0⟩ = ((d ++ [x]) ++ (srep (sbody u) (k - (d ++ [x]).length) ⟨a3, cd3⟩).1, (srep (sbody u) (k - (d ++ [x]).length) ⟨a3, cd3⟩).2)) := by
        refine ⟨hlt, hi3, ?_⟩
        rw [show k - (d ++ [x]).length = m by rw [List.length_append, List.length_singleton]; omega, htot, List.append_assoc]
        rfl
      have R2w : Hid (Wr (· = q) w wr) := R2.1
      clear htot hM R2 hi2 hi3 hm2 hd
      go_wp2_with fail
      refine hkd.out.mono ?_
      clear hkd
      rintro e1 w2 (⟨hc3, ⟨y, rfl, hy⟩, D3⟩ | ⟨hc3, rfl, W3⟩)
      · obtain rfl : cd3 = 0 := hc3
        obtain ⟨cc, rfl, hitc⟩ := hy
        have hitc2 := hitc
        obtain ⟨_, _, rfl, ⟨A1, n1, rfl, _⟩, _, _, rfl, ⟨A2, n2, rfl, _⟩, rfl⟩ := hitc2
        obtain ⟨g, cap', w', r2, M', R4⟩ := hmore.out w2 A1 A2 n1 n2 D3 hitc
        clear hmore hitc
        replace r2 : Hid _ := r2
        replace M' : Hid _ := M'
        replace R4 : Hid _ := R4
        clear D3
        go_wp2_with (at_builtin; refine wpList_app rfl _ _ 31 rfl _ _ _ rfl rfl r2.out ?_; clear r2)
        go_roundw
        case rel => exact ⟨d ++ [x], a3, by rw [List.length_append]; go_num, by rw [List.length_append]; exact hfin.out.1, M'.out, R4.out, hfin.out.2⟩
        case measure => simp [intOf]; omega
      · replace hc3 : ¬ cd3 = 0 := hc3
        refine ⟨rfl, Got.bad hc3 ?_ (R2w.out.trans W3)⟩
        rw [← hr.out, srep_end _ hfin.out.2.2 hc3]
    · have hl1 : ¬ (d.length : Int) < (k : Int) := by omega
      rw [show k - d.length = 0 by omega] at htot
      simp only [srep, List.append_nil] at htot
      have hr2 : Hid ((d, (⟨a2, 0⟩ : Sst)) = r) := by rw [← hr.out, htot]; rfl
      have hfin : Hid (Rt fCo (Zf w.heap.size wr) wr A d ∧ Ds q b w wr v a2) := ⟨hM.rt, R2⟩
      clear hM R2 hi2 hr htot hit hgin
      go_wp2_with fail
      go_ret
      rw [← hr2.out]
      exact Got.ok rfl ⟨A, cap, rfl, hfin.out.1⟩ hfin.out.2
theorem datas_any (hz : v.size ≤ 65536) (m : Int) (hm : 0 ≤ m ∧ m ≤ 1024) (hv : v.size < 9223372036854775000) (hS : Shf b v u) (hc : st.code = 0) (hin : Sin u st) (w : World) (h : w.rowIs q 82 2 (dF v b st.at_)) :
    Calls Try.prog 46 #[.pointer (some ⟨q, 0, none⟩), .int .i64 m, .func (.func 47) #[.pointer (some ⟨q, 0, none⟩)] #[]] w (Got q b w v (pR fDa w.heap.size) (srep (sdat u) (smany u m st).1.toNat (smany u m st).2)) := by
  have hq := h.lt
  have hct : Hid (Calls Try.prog 51 #[.pointer (some ⟨q, 0, none⟩), .int .i64 m] w (Got q b w v pN (smany u m st))) := count_any m hm.1 hv hS hc hin w h
  have hrg := smany_rng (s := u) (st := st) (m := m) hm.1
  have hi1 := smany_in hin m
  generalize hr : srep (sdat u) (smany u m st).1.toNat (smany u m st).2 = r
  generalize smany u m st = K at *
  obtain ⟨k0, a1, cd1⟩ := K
  simp only [] at hct hrg hi1 hr
  obtain ⟨k, rfl⟩ := Int.eq_ofNat_of_zero_le hrg.1
  rw [Int.toNat_natCast] at hr
  have hk : k ≤ 1024 := by have := hm.2; omega
  replace hi1 : Hid (Sin u ⟨a1, cd1⟩) := hi1
  replace hr : Hid (srep (sdat u) k ⟨a1, cd1⟩ = r) := hr
  have hit : Hid (∀ (a2 : Int) (W : World), Sin u ⟨a2, 0⟩ → W.rowIs q 82 2 (dF v b a2) → Calls Try.prog 47 #[.pointer (some ⟨q, 0, none⟩)] W (Got q b W v (pS fDa W.heap.size) ((sdat u) ⟨a2, 0⟩))) := fun a2 W hi hW => data_any hz hv hS rfl hi W hW
  have hgin : Hid (∀ st, Sin u st → Sin u ((sdat u) st).2) := fun st hi => sdat_in hi
  clear hin h hrg hm hc hS hv
  go_enter Try.func46, Try.ntmps46
  go_wp2_with fail
  refine hct.out.mono ?_
  clear hct
  rintro e w1 (⟨hc1, ⟨y, rfl, hy⟩, D1⟩ | ⟨hc1, rfl, W1⟩)
  rotate_left
  · replace hc1 : ¬ cd1 = 0 := hc1
    refine ⟨rfl, Got.bad hc1 ?_ W1⟩
    rw [← hr.out, srep_bad _ _ _ hc1]
  obtain rfl : cd1 = 0 := hc1
  obtain rfl : y = .int .i64 (k : Int) := hy
  replace D1 : Hid (Ds q b w w1 v a1) := D1
  go_wp2_with fail
  go_loopw [7, 11] (fun x0 i wr => ∃ (d : List (Fs × ByteArray)) (a2 : Int), i = .int .i64 (d.length : Nat) ∧ d.length ≤ k ∧ Mn fDa w.heap.size 59 2 wr x0 d ∧ Ds q b w wr v a2 ∧ Sin u ⟨a2, 0⟩ ∧ srep (sdat u) k ⟨a1, 0⟩ = (d ++ (srep (sdat u) (k - d.length) ⟨a2, 0⟩).1, (srep (sdat u) (k - d.length) ⟨a2, 0⟩).2)) (fun x0 i _ => k - (intOf i).toNat)
  case atStart => exact ⟨[], a1, rfl, Nat.zero_le _, Mn.start _, D1.out, hi1.out, rfl⟩
  case round =>
    obtain ⟨d, a2, rfl, hd, hM, R2, hi2, htot⟩ := hrel
    obtain ⟨A, cap, rfl⟩ := hM.form
    clear D1 hi1
    by_cases hlt : d.length < k
    · have hl1 : (d.length : Int) < (k : Int) := by omega
      have hkd := hit.out a2 wr hi2 R2.2
      clear hit
      obtain ⟨m, hm2⟩ : ∃ m, k - d.length = m + 1 := ⟨k - d.length - 1, by omega⟩
      rw [hm2, srep_ok _ _ _ rfl] at htot
      have hi3 := hgin.out _ hi2
      clear hgin
      generalize hK3 : (sdat u) ⟨a2, 0⟩ = K3 at *
      obtain ⟨x, a3, cd3⟩ := K3
      clear hK3
      simp only [] at hkd htot hi3
      replace hkd : Hid (Calls Try.prog 47 #[.pointer (some ⟨q, 0, none⟩)] wr (Got q b wr v (pS fDa wr.heap.size) (x, ⟨a3, cd3⟩))) := hkd
      have hmore : Hid (∀ (w2 : World) (A1 : Option Addr) (n1 : Nat), Ds q b wr w2 v a3 → itc (Zf wr.heap.size w2) w2 (fDa x) [.slice A1 x.1.len n1, .string x.2] → ∃ g cap' w', (Builtin.append_ #[32, 32] 32 #[.slice A d.length cap, .slice (some ⟨w2.heap.size, 0, none⟩) 1 1]).run Try.prog (w2.alloc (.cells #[.slice A1 x.1.len n1, .string x.2] 59)) = .ok (.slice (some ⟨g, 0, none⟩) (d.length + 1) cap') w' ∧ Mn fDa w.heap.size 59 2 w' (.slice (some ⟨g, 0, none⟩) (d.length + 1) cap') (d ++ [x]) ∧ Ds q b w w' v a3) := fun w2 A1 n1 R3 hc => hM.got R2 hq ti_dat 32 x rfl [.slice A1 x.1.len n1, .string x.2] (by omega) (by omega) R3 hc
      have hfin : Hid (d.length + 1 ≤ k ∧ Sin u ⟨a3, cd3⟩ ∧ srep (sdat u) k ⟨a1, 0⟩ = ((d ++ [x]) ++ (srep (sdat u) (k - (d ++ [x]).length) ⟨a3, cd3⟩).1, (srep (sdat u) (k - (d ++ [x]).length) ⟨a3, cd3⟩).2)) := by
        refine ⟨hlt, hi3, ?_⟩
        rw [show k - (d ++ [x]).length = m by rw [List.length_append, List.length_singleton]; omega, htot, List.append_assoc]
        rfl
      have R2w : Hid (Wr (· = q) w wr) := R2.1
      clear htot hM R2 hi2 hi3 hm2 hd
      go_wp2_with fail
      refine hkd.out.mono ?_
      clear hkd
      rintro e1 w2 (⟨hc3, ⟨y, rfl, hy⟩, D3⟩ | ⟨hc3, rfl, W3⟩)
      · obtain rfl : cd3 = 0 := hc3
        obtain ⟨cc, rfl, hitc⟩ := hy
        have hitc2 := hitc
        obtain ⟨_, _, rfl, ⟨A1, n1, rfl, _⟩, _, _, rfl, rfl, rfl⟩ := hitc2
        obtain ⟨g, cap', w', r2, M', R4⟩ := hmore.out w2 A1 n1 D3 hitc
        clear hmore hitc
        replace r2 : Hid _ := r2
        replace M' : Hid _ := M'
        replace R4 : Hid _ := R4
        clear D3
        go_wp2_with (at_builtin; refine wpList_app rfl _ _ 32 rfl _ _ _ rfl rfl r2.out ?_; clear r2)
        go_roundw
        case rel => exact ⟨d ++ [x], a3, by rw [List.length_append]; go_num, by rw [List.length_append]; exact hfin.out.1, M'.out, R4.out, hfin.out.2⟩
        case measure => simp [intOf]; omega
      · replace hc3 : ¬ cd3 = 0 := hc3
        refine ⟨rfl, Got.bad hc3 ?_ (R2w.out.trans W3)⟩
        rw [← hr.out, srep_end _ hfin.out.2.2 hc3]
    · have hl1 : ¬ (d.length : Int) < (k : Int) := by omega
      rw [show k - d.length = 0 by omega] at htot
      simp only [srep, List.append_nil] at htot
      have hr2 : Hid ((d, (⟨a2, 0⟩ : Sst)) = r) := by rw [← hr.out, htot]; rfl
      have hfin : Hid (Rt fDa (Zf w.heap.size wr) wr A d ∧ Ds q b w wr v a2) := ⟨hM.rt, R2⟩
      clear hM R2 hi2 hr htot hit hgin
      go_wp2_with fail
      go_ret
      rw [← hr2.out]
      exact Got.ok rfl ⟨A, cap, rfl, hfin.out.1⟩ hfin.out.2
theorem tabs_any (m : Int) (hm : 0 ≤ m ∧ m ≤ 1024) (hv : v.size < 9223372036854775000) (hS : Shf b v u) (hc : st.code = 0) (hin : Sin u st) (w : World) (h : w.rowIs q 82 2 (dF v b st.at_)) :
    Calls Try.prog 35 #[.pointer (some ⟨q, 0, none⟩), .int .i64 m, .func (.func 36) #[.pointer (some ⟨q, 0, none⟩)] #[]] w (Got q b w v (pR fLi w.heap.size) (srep (stab u) (smany u m st).1.toNat (smany u m st).2)) := by
  have hq := h.lt
  have hct : Hid (Calls Try.prog 51 #[.pointer (some ⟨q, 0, none⟩), .int .i64 m] w (Got q b w v pN (smany u m st))) := count_any m hm.1 hv hS hc hin w h
  have hrg := smany_rng (s := u) (st := st) (m := m) hm.1
  have hi1 := smany_in hin m
  generalize hr : srep (stab u) (smany u m st).1.toNat (smany u m st).2 = r
  generalize smany u m st = K at *
  obtain ⟨k0, a1, cd1⟩ := K
  simp only [] at hct hrg hi1 hr
  obtain ⟨k, rfl⟩ := Int.eq_ofNat_of_zero_le hrg.1
  rw [Int.toNat_natCast] at hr
  have hk : k ≤ 1024 := by have := hm.2; omega
  replace hi1 : Hid (Sin u ⟨a1, cd1⟩) := hi1
  replace hr : Hid (srep (stab u) k ⟨a1, cd1⟩ = r) := hr
  have hit : Hid (∀ (a2 : Int) (W : World), Sin u ⟨a2, 0⟩ → W.rowIs q 82 2 (dF v b a2) → Calls Try.prog 36 #[.pointer (some ⟨q, 0, none⟩)] W (Got q b W v (pL) ((stab u) ⟨a2, 0⟩))) := fun a2 W hi hW => table_any hv hS rfl hi W hW
  have hgin : Hid (∀ st, Sin u st → Sin u ((stab u) st).2) := fun st hi => slim_in (smust_in hi 112)
  clear hin h hrg hm hc hS hv
  go_enter Try.func35, Try.ntmps35
  go_wp2_with fail
  refine hct.out.mono ?_
  clear hct
  rintro e w1 (⟨hc1, ⟨y, rfl, hy⟩, D1⟩ | ⟨hc1, rfl, W1⟩)
  rotate_left
  · replace hc1 : ¬ cd1 = 0 := hc1
    refine ⟨rfl, Got.bad hc1 ?_ W1⟩
    rw [← hr.out, srep_bad _ _ _ hc1]
  obtain rfl : cd1 = 0 := hc1
  obtain rfl : y = .int .i64 (k : Int) := hy
  replace D1 : Hid (Ds q b w w1 v a1) := D1
  go_wp2_with fail
  go_loopw [7, 11] (fun x0 i wr => ∃ (d : List (Int × Int)) (a2 : Int), i = .int .i64 (d.length : Nat) ∧ d.length ≤ k ∧ Mn fLi w.heap.size 65 2 wr x0 d ∧ Ds q b w wr v a2 ∧ Sin u ⟨a2, 0⟩ ∧ srep (stab u) k ⟨a1, 0⟩ = (d ++ (srep (stab u) (k - d.length) ⟨a2, 0⟩).1, (srep (stab u) (k - d.length) ⟨a2, 0⟩).2)) (fun x0 i _ => k - (intOf i).toNat)
  case atStart => exact ⟨[], a1, rfl, Nat.zero_le _, Mn.start _, D1.out, hi1.out, rfl⟩
  case round =>
    obtain ⟨d, a2, rfl, hd, hM, R2, hi2, htot⟩ := hrel
    obtain ⟨A, cap, rfl⟩ := hM.form
    clear D1 hi1
    by_cases hlt : d.length < k
    · have hl1 : (d.length : Int) < (k : Int) := by omega
      have hkd := hit.out a2 wr hi2 R2.2
      clear hit
      obtain ⟨m, hm2⟩ : ∃ m, k - d.length = m + 1 := ⟨k - d.length - 1, by omega⟩
      rw [hm2, srep_ok _ _ _ rfl] at htot
      have hi3 := hgin.out _ hi2
      clear hgin
      generalize hK3 : (stab u) ⟨a2, 0⟩ = K3 at *
      obtain ⟨x, a3, cd3⟩ := K3
      clear hK3
      simp only [] at hkd htot hi3
      replace hkd : Hid (Calls Try.prog 36 #[.pointer (some ⟨q, 0, none⟩)] wr (Got q b wr v (pL) (x, ⟨a3, cd3⟩))) := hkd
      have hmore : Hid (∀ (w2 : World) , Ds q b wr w2 v a3 → itc (Zf wr.heap.size w2) w2 (fLi x) [.int .i64 x.1, .int .i64 x.2] → ∃ g cap' w', (Builtin.append_ #[27, 27] 27 #[.slice A d.length cap, .slice (some ⟨w2.heap.size, 0, none⟩) 1 1]).run Try.prog (w2.alloc (.cells #[.int .i64 x.1, .int .i64 x.2] 65)) = .ok (.slice (some ⟨g, 0, none⟩) (d.length + 1) cap') w' ∧ Mn fLi w.heap.size 65 2 w' (.slice (some ⟨g, 0, none⟩) (d.length + 1) cap') (d ++ [x]) ∧ Ds q b w w' v a3) := fun w2  R3 hc => hM.got R2 hq ti_lim 27 x rfl [.int .i64 x.1, .int .i64 x.2] (by omega) (by omega) R3 hc
      have hfin : Hid (d.length + 1 ≤ k ∧ Sin u ⟨a3, cd3⟩ ∧ srep (stab u) k ⟨a1, 0⟩ = ((d ++ [x]) ++ (srep (stab u) (k - (d ++ [x]).length) ⟨a3, cd3⟩).1, (srep (stab u) (k - (d ++ [x]).length) ⟨a3, cd3⟩).2)) := by
        refine ⟨hlt, hi3, ?_⟩
        rw [show k - (d ++ [x]).length = m by rw [List.length_append, List.length_singleton]; omega, htot, List.append_assoc]
        rfl
      have R2w : Hid (Wr (· = q) w wr) := R2.1
      clear htot hM R2 hi2 hi3 hm2 hd
      go_wp2_with fail
      refine hkd.out.mono ?_
      clear hkd
      rintro e1 w2 (⟨hc3, ⟨y, rfl, hy⟩, D3⟩ | ⟨hc3, rfl, W3⟩)
      · obtain rfl : cd3 = 0 := hc3
        obtain rfl : y = .agg #[.int .i64 x.1, .int .i64 x.2] := hy
        have hitc : itc (Zf wr.heap.size w2) w2 (fLi x) [.int .i64 x.1, .int .i64 x.2] := ⟨_, _, rfl, rfl, _, _, rfl, rfl, rfl⟩
        obtain ⟨g, cap', w', r2, M', R4⟩ := hmore.out w2  D3 hitc
        clear hmore hitc
        replace r2 : Hid _ := r2
        replace M' : Hid _ := M'
        replace R4 : Hid _ := R4
        clear D3
        go_wp2_with (at_builtin; refine wpList_app rfl _ _ 27 rfl _ _ _ rfl rfl r2.out ?_; clear r2)
        go_roundw
        case rel => exact ⟨d ++ [x], a3, by rw [List.length_append]; go_num, by rw [List.length_append]; exact hfin.out.1, M'.out, R4.out, hfin.out.2⟩
        case measure => simp [intOf]; omega
      · replace hc3 : ¬ cd3 = 0 := hc3
        refine ⟨rfl, Got.bad hc3 ?_ (R2w.out.trans W3)⟩
        rw [← hr.out, srep_end _ hfin.out.2.2 hc3]
    · have hl1 : ¬ (d.length : Int) < (k : Int) := by omega
      rw [show k - d.length = 0 by omega] at htot
      simp only [srep, List.append_nil] at htot
      have hr2 : Hid ((d, (⟨a2, 0⟩ : Sst)) = r) := by rw [← hr.out, htot]; rfl
      have hfin : Hid (Rt fLi (Zf w.heap.size wr) wr A d ∧ Ds q b w wr v a2) := ⟨hM.rt, R2⟩
      clear hM R2 hi2 hr htot hit hgin
      go_wp2_with fail
      go_ret
      rw [← hr2.out]
      exact Got.ok rfl ⟨A, cap, rfl, hfin.out.1⟩ hfin.out.2
theorem mems_any (m : Int) (hm : 0 ≤ m ∧ m ≤ 1024) (hv : v.size < 9223372036854775000) (hS : Shf b v u) (hc : st.code = 0) (hin : Sin u st) (w : World) (h : w.rowIs q 82 2 (dF v b st.at_)) :
    Calls Try.prog 35 #[.pointer (some ⟨q, 0, none⟩), .int .i64 m, .func (.func 37) #[.pointer (some ⟨q, 0, none⟩)] #[]] w (Got q b w v (pR fLi w.heap.size) (srep (slim u) (smany u m st).1.toNat (smany u m st).2)) := by
  have hq := h.lt
  have hct : Hid (Calls Try.prog 51 #[.pointer (some ⟨q, 0, none⟩), .int .i64 m] w (Got q b w v pN (smany u m st))) := count_any m hm.1 hv hS hc hin w h
  have hrg := smany_rng (s := u) (st := st) (m := m) hm.1
  have hi1 := smany_in hin m
  generalize hr : srep (slim u) (smany u m st).1.toNat (smany u m st).2 = r
  generalize smany u m st = K at *
  obtain ⟨k0, a1, cd1⟩ := K
  simp only [] at hct hrg hi1 hr
  obtain ⟨k, rfl⟩ := Int.eq_ofNat_of_zero_le hrg.1
  rw [Int.toNat_natCast] at hr
  have hk : k ≤ 1024 := by have := hm.2; omega
  replace hi1 : Hid (Sin u ⟨a1, cd1⟩) := hi1
  replace hr : Hid (srep (slim u) k ⟨a1, cd1⟩ = r) := hr
  have hit : Hid (∀ (a2 : Int) (W : World), Sin u ⟨a2, 0⟩ → W.rowIs q 82 2 (dF v b a2) → Calls Try.prog 37 #[.pointer (some ⟨q, 0, none⟩)] W (Got q b W v (pL) ((slim u) ⟨a2, 0⟩))) := fun a2 W hi hW => limits_any hv hS rfl hi W hW
  have hgin : Hid (∀ st, Sin u st → Sin u ((slim u) st).2) := fun st hi => slim_in hi
  clear hin h hrg hm hc hS hv
  go_enter Try.func35, Try.ntmps35
  go_wp2_with fail
  refine hct.out.mono ?_
  clear hct
  rintro e w1 (⟨hc1, ⟨y, rfl, hy⟩, D1⟩ | ⟨hc1, rfl, W1⟩)
  rotate_left
  · replace hc1 : ¬ cd1 = 0 := hc1
    refine ⟨rfl, Got.bad hc1 ?_ W1⟩
    rw [← hr.out, srep_bad _ _ _ hc1]
  obtain rfl : cd1 = 0 := hc1
  obtain rfl : y = .int .i64 (k : Int) := hy
  replace D1 : Hid (Ds q b w w1 v a1) := D1
  go_wp2_with fail
  go_loopw [7, 11] (fun x0 i wr => ∃ (d : List (Int × Int)) (a2 : Int), i = .int .i64 (d.length : Nat) ∧ d.length ≤ k ∧ Mn fLi w.heap.size 65 2 wr x0 d ∧ Ds q b w wr v a2 ∧ Sin u ⟨a2, 0⟩ ∧ srep (slim u) k ⟨a1, 0⟩ = (d ++ (srep (slim u) (k - d.length) ⟨a2, 0⟩).1, (srep (slim u) (k - d.length) ⟨a2, 0⟩).2)) (fun x0 i _ => k - (intOf i).toNat)
  case atStart => exact ⟨[], a1, rfl, Nat.zero_le _, Mn.start _, D1.out, hi1.out, rfl⟩
  case round =>
    obtain ⟨d, a2, rfl, hd, hM, R2, hi2, htot⟩ := hrel
    obtain ⟨A, cap, rfl⟩ := hM.form
    clear D1 hi1
    by_cases hlt : d.length < k
    · have hl1 : (d.length : Int) < (k : Int) := by omega
      have hkd := hit.out a2 wr hi2 R2.2
      clear hit
      obtain ⟨m, hm2⟩ : ∃ m, k - d.length = m + 1 := ⟨k - d.length - 1, by omega⟩
      rw [hm2, srep_ok _ _ _ rfl] at htot
      have hi3 := hgin.out _ hi2
      clear hgin
      generalize hK3 : (slim u) ⟨a2, 0⟩ = K3 at *
      obtain ⟨x, a3, cd3⟩ := K3
      clear hK3
      simp only [] at hkd htot hi3
      replace hkd : Hid (Calls Try.prog 37 #[.pointer (some ⟨q, 0, none⟩)] wr (Got q b wr v (pL) (x, ⟨a3, cd3⟩))) := hkd
      have hmore : Hid (∀ (w2 : World) , Ds q b wr w2 v a3 → itc (Zf wr.heap.size w2) w2 (fLi x) [.int .i64 x.1, .int .i64 x.2] → ∃ g cap' w', (Builtin.append_ #[27, 27] 27 #[.slice A d.length cap, .slice (some ⟨w2.heap.size, 0, none⟩) 1 1]).run Try.prog (w2.alloc (.cells #[.int .i64 x.1, .int .i64 x.2] 65)) = .ok (.slice (some ⟨g, 0, none⟩) (d.length + 1) cap') w' ∧ Mn fLi w.heap.size 65 2 w' (.slice (some ⟨g, 0, none⟩) (d.length + 1) cap') (d ++ [x]) ∧ Ds q b w w' v a3) := fun w2  R3 hc => hM.got R2 hq ti_lim 27 x rfl [.int .i64 x.1, .int .i64 x.2] (by omega) (by omega) R3 hc
      have hfin : Hid (d.length + 1 ≤ k ∧ Sin u ⟨a3, cd3⟩ ∧ srep (slim u) k ⟨a1, 0⟩ = ((d ++ [x]) ++ (srep (slim u) (k - (d ++ [x]).length) ⟨a3, cd3⟩).1, (srep (slim u) (k - (d ++ [x]).length) ⟨a3, cd3⟩).2)) := by
        refine ⟨hlt, hi3, ?_⟩
        rw [show k - (d ++ [x]).length = m by rw [List.length_append, List.length_singleton]; omega, htot, List.append_assoc]
        rfl
      have R2w : Hid (Wr (· = q) w wr) := R2.1
      clear htot hM R2 hi2 hi3 hm2 hd
      go_wp2_with fail
      refine hkd.out.mono ?_
      clear hkd
      rintro e1 w2 (⟨hc3, ⟨y, rfl, hy⟩, D3⟩ | ⟨hc3, rfl, W3⟩)
      · obtain rfl : cd3 = 0 := hc3
        obtain rfl : y = .agg #[.int .i64 x.1, .int .i64 x.2] := hy
        have hitc : itc (Zf wr.heap.size w2) w2 (fLi x) [.int .i64 x.1, .int .i64 x.2] := ⟨_, _, rfl, rfl, _, _, rfl, rfl, rfl⟩
        obtain ⟨g, cap', w', r2, M', R4⟩ := hmore.out w2  D3 hitc
        clear hmore hitc
        replace r2 : Hid _ := r2
        replace M' : Hid _ := M'
        replace R4 : Hid _ := R4
        clear D3
        go_wp2_with (at_builtin; refine wpList_app rfl _ _ 27 rfl _ _ _ rfl rfl r2.out ?_; clear r2)
        go_roundw
        case rel => exact ⟨d ++ [x], a3, by rw [List.length_append]; go_num, by rw [List.length_append]; exact hfin.out.1, M'.out, R4.out, hfin.out.2⟩
        case measure => simp [intOf]; omega
      · replace hc3 : ¬ cd3 = 0 := hc3
        refine ⟨rfl, Got.bad hc3 ?_ (R2w.out.trans W3)⟩
        rw [← hr.out, srep_end _ hfin.out.2.2 hc3]
    · have hl1 : ¬ (d.length : Int) < (k : Int) := by omega
      rw [show k - d.length = 0 by omega] at htot
      simp only [srep, List.append_nil] at htot
      have hr2 : Hid ((d, (⟨a2, 0⟩ : Sst)) = r) := by rw [← hr.out, htot]; rfl
      have hfin : Hid (Rt fLi (Zf w.heap.size wr) wr A d ∧ Ds q b w wr v a2) := ⟨hM.rt, R2⟩
      clear hM R2 hi2 hr htot hit hgin
      go_wp2_with fail
      go_ret
      rw [← hr2.out]
      exact Got.ok rfl ⟨A, cap, rfl, hfin.out.1⟩ hfin.out.2
end Go.Proofs.Ytngciahmoenkiab
