/- package decode's reader: limits, tables, bytes, customs, locals. -/
import Derived.Test.YtngciahmoenkiabEQ
import Derived.Test.YtngciahmoenkiabDD
import Derived.Test.YtngciahmoenkiabXY
set_option linter.unusedVariables false
set_option linter.unusedSimpArgs false
set_option maxRecDepth 100000
set_option maxHeartbeats 4000000
namespace Go.Proofs.Ytngciahmoenkiab
open Go.RowKit
variable {q b : Nat} {w w' wr wr' : World} {v u s : ByteArray} {st st' : Sst} {a a' : Int}
theorem slocs2_bad (h : ¬ st.code = 0) : slocs s (smany s 1024 st).1.toNat [] (smany s 1024 st).2 = ([], st) := by
  rw [smany_bad h (by decide)]
  rfl
theorem limits_f (hv : v.size < 9223372036854775000) (hS : Shf b v u) (hc : st.code = 0) (hin : Sin u st) (w : World) (h : w.rowIs q 82 2 (dF v b st.at_)) (hx : (sflag u st).1 = false) :
    Calls Try.prog 37 #[.pointer (some ⟨q, 0, none⟩)] w (Got q b w v (pL) (slim u st)) := by
  have hq := h.lt
  obtain ⟨a0, cd0⟩ := st
  obtain rfl : cd0 = 0 := hc
  have i0 : Sin u ⟨a0, 0⟩ := hin
  generalize hr : slim u ⟨a0, 0⟩ = r
  obtain ⟨x1, ⟨a1, cd1⟩, e1⟩ : ∃ x s, sflag u ⟨a0, 0⟩ = (x, s) := ⟨_, _, rfl⟩
  have i1 : Sin u ⟨a1, cd1⟩ := by have t := sflag_in i0; rwa [e1] at t
  have H1 : Hid (∀ W : World, (0 : Int) = 0 → W.rowIs q 82 2 (dF v b a0) → Calls Try.prog 55 #[.pointer (some ⟨q, 0, none⟩)] W (Got q b W v (pB) (x1, ⟨a1, cd1⟩))) := fun W hc hW => by
    have t := flag_any hv hS (st := ⟨a0, 0⟩) hc i0 W hW
    rwa [e1] at t
  obtain ⟨x2, ⟨a2, cd2⟩, e2⟩ : ∃ x s, snum u ⟨a1, cd1⟩ = (x, s) := ⟨_, _, rfl⟩
  have i2 : Sin u ⟨a2, cd2⟩ := by have t := snum_in i1; rwa [e2] at t
  have H2 : Hid (∀ W : World, (cd1 : Int) = 0 → W.rowIs q 82 2 (dF v b a1) → Calls Try.prog 34 #[.pointer (some ⟨q, 0, none⟩)] W (Got q b W v (pN) (x2, ⟨a2, cd2⟩))) := fun W hc hW => by
    have t := number_any hv hS (st := ⟨a1, cd1⟩) hc i1 W hW
    rwa [e2] at t
  obtain rfl : x1 = false := by rw [e1] at hx; exact hx
  clear hx
  replace e1 : Hid (sflag u ⟨a0, 0⟩ = (false, ⟨a1, cd1⟩)) := e1
  replace e2 : Hid (snum u ⟨a1, cd1⟩ = (x2, ⟨a2, cd2⟩)) := e2
  replace hr : Hid (slim u ⟨a0, 0⟩ = r) := hr
  have hp : Hid ((w.alloc (.cells #[.int .i64 0, .int .i64 0] 65)).rowIs w.heap.size 65 2 (fun j => [.int .i64 0, .int .i64 0].getD j undef)) := row_new w 65 [.int .i64 0, .int .i64 0]
  have D0 : Hid (Ds q b w (w.alloc (.cells #[.int .i64 0, .int .i64 0] 65)) v a0) := (Ds.start h).later (La (Lz _))
  have E0 : Hid (Wr (· = q) (w.alloc (.cells #[.int .i64 0, .int .i64 0] 65)) (w.alloc (.cells #[.int .i64 0, .int .i64 0] 65))) := Wr.refl _ _
  have z0 : w.heap.size + 1 ≤ (w.alloc (.cells #[.int .i64 0, .int .i64 0] 65)).heap.size := by simp
  clear h hin hS hv i0 i1 i2
  go_enter Try.func37, Try.ntmps37
  go_wp2_with fail
  refine (H1.out _ (by first | rfl | trivial) D0.out.2).mono ?_
  clear H1
  rintro e w1 (⟨hc1, ⟨y1, rfl, hy1⟩, G1⟩ | ⟨hc1, rfl, V1⟩)
  rotate_left
  · replace hc1 : ¬ cd1 = 0 := hc1
    refine ⟨rfl, Got.bad hc1 ?_ (D0.out.1.trans V1)⟩
    rw [← hr.out]
    have e1 := e1.out
    simp only [slim, if_true, Bool.true_eq_false, if_false, e1, snum_bad (s := u) (st := ⟨a1, cd1⟩) hc1, sname_bad (s := u) (st := ⟨a1, cd1⟩) hc1, skind_bad (s := u) (st := ⟨a1, cd1⟩) hc1, sflag_bad (s := u) (st := ⟨a1, cd1⟩) hc1, sinstrs_bad (s := u) (st := ⟨a1, cd1⟩) hc1, skinds_bad (s := u) (st := ⟨a1, cd1⟩) hc1, snums_bad (s := u) (st := ⟨a1, cd1⟩) hc1, sbyte_bad (s := u) (st := ⟨a1, cd1⟩) hc1, slim_bad (s := u) (st := ⟨a1, cd1⟩) hc1, smust_bad (s := u) (st := ⟨a1, cd1⟩) hc1, snil_bad (st := ⟨a1, cd1⟩) hc1, sover_bad (st := ⟨a1, cd1⟩) hc1, sbytes_bad (s := u) (st := ⟨a1, cd1⟩) hc1, sclose_bad (st := ⟨a1, cd1⟩) hc1, slocs2_bad (s := u) (st := ⟨a1, cd1⟩) hc1]
  obtain rfl : cd1 = 0 := hc1
  obtain rfl : y1 = .bool false := hy1
  have D1 : Hid (Ds q b w w1 v a1) := D0.out.trans G1
  have E1 : Hid (Wr (· = q) (w.alloc (.cells #[.int .i64 0, .int .i64 0] 65)) w1) := E0.out.trans G1.1
  replace G1 : Hid _ := G1
  have z1 : w.heap.size + 1 ≤ w1.heap.size := Nat.le_trans z0 (Ds.size G1.out)
  go_wp2_with fail
  refine (H2.out _ (by first | rfl | trivial) D1.out.2).mono ?_
  clear H2
  rintro e w2 (⟨hc2, ⟨y2, rfl, hy2⟩, G2⟩ | ⟨hc2, rfl, V2⟩)
  rotate_left
  · replace hc2 : ¬ cd2 = 0 := hc2
    refine ⟨rfl, Got.bad hc2 ?_ (D1.out.1.trans V2)⟩
    rw [← hr.out]
    have e1 := e1.out
    have e2 := e2.out
    simp only [slim, if_true, Bool.true_eq_false, if_false, e1, e2, snum_bad (s := u) (st := ⟨a2, cd2⟩) hc2, sname_bad (s := u) (st := ⟨a2, cd2⟩) hc2, skind_bad (s := u) (st := ⟨a2, cd2⟩) hc2, sflag_bad (s := u) (st := ⟨a2, cd2⟩) hc2, sinstrs_bad (s := u) (st := ⟨a2, cd2⟩) hc2, skinds_bad (s := u) (st := ⟨a2, cd2⟩) hc2, snums_bad (s := u) (st := ⟨a2, cd2⟩) hc2, sbyte_bad (s := u) (st := ⟨a2, cd2⟩) hc2, slim_bad (s := u) (st := ⟨a2, cd2⟩) hc2, smust_bad (s := u) (st := ⟨a2, cd2⟩) hc2, snil_bad (st := ⟨a2, cd2⟩) hc2, sover_bad (st := ⟨a2, cd2⟩) hc2, sbytes_bad (s := u) (st := ⟨a2, cd2⟩) hc2, sclose_bad (st := ⟨a2, cd2⟩) hc2, slocs2_bad (s := u) (st := ⟨a2, cd2⟩) hc2]
  obtain rfl : cd2 = 0 := hc2
  obtain rfl : y2 = .int .i64 x2 := hy2
  have D2 : Hid (Ds q b w w2 v a2) := D1.out.trans G2
  have E2 : Hid (Wr (· = q) (w.alloc (.cells #[.int .i64 0, .int .i64 0] 65)) w2) := E1.out.trans G2.1
  replace G2 : Hid _ := G2
  have z2 : w.heap.size + 1 ≤ w2.heap.size := Nat.le_trans z1 (Ds.size G2.out)
  have rp := E2.out.row (by show ¬ w.heap.size = q; omega) hp.out
  have k0' : w2.cell? ⟨w.heap.size, 0, none⟩ = some (.int .i64 0) := rp.cell (i := 0) (by decide)
  have g0' := rp.frozen 0
  have k1' : w2.cell? ⟨w.heap.size, 1, none⟩ = some (.int .i64 0) := rp.cell (i := 1) (by decide)
  have g1' := rp.frozen 1
  have hlt := cell_lt k0'
  clear rp hp
  have hr2 : slim u ⟨a0, 0⟩ = r := hr.out
  have e1 := e1.out
  have e2 := e2.out
  simp only [slim, if_true, Bool.true_eq_false, if_false, e1, e2] at hr2
  replace hr2 : Hid (_ = r) := hr2
  clear hr e1 e2
  go_wp2_with fail
  rw [← hr2.out]
  refine bodyPost_ret (v := .agg #[.int .i64 x2, .int .i64 (-1)]) (by simp [results, Try.results37, go_sem, k0', k1', hlt]) rfl (Got.ok rfl ?_ (((D2.out).put (Nat.le_refl _) hq 0 _).put (Nat.le_refl _) hq 1 _))
  exact rfl
theorem limits_t (hv : v.size < 9223372036854775000) (hS : Shf b v u) (hc : st.code = 0) (hin : Sin u st) (w : World) (h : w.rowIs q 82 2 (dF v b st.at_)) (hx : (sflag u st).1 = true) :
    Calls Try.prog 37 #[.pointer (some ⟨q, 0, none⟩)] w (Got q b w v (pL) (slim u st)) := by
  have hq := h.lt
  obtain ⟨a0, cd0⟩ := st
  obtain rfl : cd0 = 0 := hc
  have i0 : Sin u ⟨a0, 0⟩ := hin
  generalize hr : slim u ⟨a0, 0⟩ = r
  obtain ⟨x1, ⟨a1, cd1⟩, e1⟩ : ∃ x s, sflag u ⟨a0, 0⟩ = (x, s) := ⟨_, _, rfl⟩
  have i1 : Sin u ⟨a1, cd1⟩ := by have t := sflag_in i0; rwa [e1] at t
  have H1 : Hid (∀ W : World, (0 : Int) = 0 → W.rowIs q 82 2 (dF v b a0) → Calls Try.prog 55 #[.pointer (some ⟨q, 0, none⟩)] W (Got q b W v (pB) (x1, ⟨a1, cd1⟩))) := fun W hc hW => by
    have t := flag_any hv hS (st := ⟨a0, 0⟩) hc i0 W hW
    rwa [e1] at t
  obtain ⟨x2, ⟨a2, cd2⟩, e2⟩ : ∃ x s, snum u ⟨a1, cd1⟩ = (x, s) := ⟨_, _, rfl⟩
  have i2 : Sin u ⟨a2, cd2⟩ := by have t := snum_in i1; rwa [e2] at t
  have H2 : Hid (∀ W : World, (cd1 : Int) = 0 → W.rowIs q 82 2 (dF v b a1) → Calls Try.prog 34 #[.pointer (some ⟨q, 0, none⟩)] W (Got q b W v (pN) (x2, ⟨a2, cd2⟩))) := fun W hc hW => by
    have t := number_any hv hS (st := ⟨a1, cd1⟩) hc i1 W hW
    rwa [e2] at t
  obtain ⟨x3, ⟨a3, cd3⟩, e3⟩ : ∃ x s, snum u ⟨a2, cd2⟩ = (x, s) := ⟨_, _, rfl⟩
  have i3 : Sin u ⟨a3, cd3⟩ := by have t := snum_in i2; rwa [e3] at t
  have H3 : Hid (∀ W : World, (cd2 : Int) = 0 → W.rowIs q 82 2 (dF v b a2) → Calls Try.prog 34 #[.pointer (some ⟨q, 0, none⟩)] W (Got q b W v (pN) (x3, ⟨a3, cd3⟩))) := fun W hc hW => by
    have t := number_any hv hS (st := ⟨a2, cd2⟩) hc i2 W hW
    rwa [e3] at t
  obtain rfl : x1 = true := by rw [e1] at hx; exact hx
  clear hx
  replace e1 : Hid (sflag u ⟨a0, 0⟩ = (true, ⟨a1, cd1⟩)) := e1
  replace e2 : Hid (snum u ⟨a1, cd1⟩ = (x2, ⟨a2, cd2⟩)) := e2
  replace e3 : Hid (snum u ⟨a2, cd2⟩ = (x3, ⟨a3, cd3⟩)) := e3
  replace hr : Hid (slim u ⟨a0, 0⟩ = r) := hr
  have hp : Hid ((w.alloc (.cells #[.int .i64 0, .int .i64 0] 65)).rowIs w.heap.size 65 2 (fun j => [.int .i64 0, .int .i64 0].getD j undef)) := row_new w 65 [.int .i64 0, .int .i64 0]
  have D0 : Hid (Ds q b w (w.alloc (.cells #[.int .i64 0, .int .i64 0] 65)) v a0) := (Ds.start h).later (La (Lz _))
  have E0 : Hid (Wr (· = q) (w.alloc (.cells #[.int .i64 0, .int .i64 0] 65)) (w.alloc (.cells #[.int .i64 0, .int .i64 0] 65))) := Wr.refl _ _
  have z0 : w.heap.size + 1 ≤ (w.alloc (.cells #[.int .i64 0, .int .i64 0] 65)).heap.size := by simp
  clear h hin hS hv i0 i1 i2 i3
  go_enter Try.func37, Try.ntmps37
  go_wp2_with fail
  refine (H1.out _ (by first | rfl | trivial) D0.out.2).mono ?_
  clear H1
  rintro e w1 (⟨hc1, ⟨y1, rfl, hy1⟩, G1⟩ | ⟨hc1, rfl, V1⟩)
  rotate_left
  · replace hc1 : ¬ cd1 = 0 := hc1
    refine ⟨rfl, Got.bad hc1 ?_ (D0.out.1.trans V1)⟩
    rw [← hr.out]
    have e1 := e1.out
    simp only [slim, if_true, Bool.true_eq_false, if_false, e1, snum_bad (s := u) (st := ⟨a1, cd1⟩) hc1, sname_bad (s := u) (st := ⟨a1, cd1⟩) hc1, skind_bad (s := u) (st := ⟨a1, cd1⟩) hc1, sflag_bad (s := u) (st := ⟨a1, cd1⟩) hc1, sinstrs_bad (s := u) (st := ⟨a1, cd1⟩) hc1, skinds_bad (s := u) (st := ⟨a1, cd1⟩) hc1, snums_bad (s := u) (st := ⟨a1, cd1⟩) hc1, sbyte_bad (s := u) (st := ⟨a1, cd1⟩) hc1, slim_bad (s := u) (st := ⟨a1, cd1⟩) hc1, smust_bad (s := u) (st := ⟨a1, cd1⟩) hc1, snil_bad (st := ⟨a1, cd1⟩) hc1, sover_bad (st := ⟨a1, cd1⟩) hc1, sbytes_bad (s := u) (st := ⟨a1, cd1⟩) hc1, sclose_bad (st := ⟨a1, cd1⟩) hc1, slocs2_bad (s := u) (st := ⟨a1, cd1⟩) hc1]
  obtain rfl : cd1 = 0 := hc1
  obtain rfl : y1 = .bool true := hy1
  have D1 : Hid (Ds q b w w1 v a1) := D0.out.trans G1
  have E1 : Hid (Wr (· = q) (w.alloc (.cells #[.int .i64 0, .int .i64 0] 65)) w1) := E0.out.trans G1.1
  replace G1 : Hid _ := G1
  have z1 : w.heap.size + 1 ≤ w1.heap.size := Nat.le_trans z0 (Ds.size G1.out)
  go_wp2_with fail
  refine (H2.out _ (by first | rfl | trivial) D1.out.2).mono ?_
  clear H2
  rintro e w2 (⟨hc2, ⟨y2, rfl, hy2⟩, G2⟩ | ⟨hc2, rfl, V2⟩)
  rotate_left
  · replace hc2 : ¬ cd2 = 0 := hc2
    refine ⟨rfl, Got.bad hc2 ?_ (D1.out.1.trans V2)⟩
    rw [← hr.out]
    have e1 := e1.out
    have e2 := e2.out
    simp only [slim, if_true, Bool.true_eq_false, if_false, e1, e2, snum_bad (s := u) (st := ⟨a2, cd2⟩) hc2, sname_bad (s := u) (st := ⟨a2, cd2⟩) hc2, skind_bad (s := u) (st := ⟨a2, cd2⟩) hc2, sflag_bad (s := u) (st := ⟨a2, cd2⟩) hc2, sinstrs_bad (s := u) (st := ⟨a2, cd2⟩) hc2, skinds_bad (s := u) (st := ⟨a2, cd2⟩) hc2, snums_bad (s := u) (st := ⟨a2, cd2⟩) hc2, sbyte_bad (s := u) (st := ⟨a2, cd2⟩) hc2, slim_bad (s := u) (st := ⟨a2, cd2⟩) hc2, smust_bad (s := u) (st := ⟨a2, cd2⟩) hc2, snil_bad (st := ⟨a2, cd2⟩) hc2, sover_bad (st := ⟨a2, cd2⟩) hc2, sbytes_bad (s := u) (st := ⟨a2, cd2⟩) hc2, sclose_bad (st := ⟨a2, cd2⟩) hc2, slocs2_bad (s := u) (st := ⟨a2, cd2⟩) hc2]
  obtain rfl : cd2 = 0 := hc2
  obtain rfl : y2 = .int .i64 x2 := hy2
  have D2 : Hid (Ds q b w w2 v a2) := D1.out.trans G2
  have E2 : Hid (Wr (· = q) (w.alloc (.cells #[.int .i64 0, .int .i64 0] 65)) w2) := E1.out.trans G2.1
  replace G2 : Hid _ := G2
  have z2 : w.heap.size + 1 ≤ w2.heap.size := Nat.le_trans z1 (Ds.size G2.out)
  go_wp2_with fail
  refine (H3.out _ (by first | rfl | trivial) D2.out.2).mono ?_
  clear H3
  rintro e w3 (⟨hc3, ⟨y3, rfl, hy3⟩, G3⟩ | ⟨hc3, rfl, V3⟩)
  rotate_left
  · replace hc3 : ¬ cd3 = 0 := hc3
    refine ⟨rfl, Got.bad hc3 ?_ (D2.out.1.trans V3)⟩
    rw [← hr.out]
    have e1 := e1.out
    have e2 := e2.out
    have e3 := e3.out
    simp only [slim, if_true, Bool.true_eq_false, if_false, e1, e2, e3, snum_bad (s := u) (st := ⟨a3, cd3⟩) hc3, sname_bad (s := u) (st := ⟨a3, cd3⟩) hc3, skind_bad (s := u) (st := ⟨a3, cd3⟩) hc3, sflag_bad (s := u) (st := ⟨a3, cd3⟩) hc3, sinstrs_bad (s := u) (st := ⟨a3, cd3⟩) hc3, skinds_bad (s := u) (st := ⟨a3, cd3⟩) hc3, snums_bad (s := u) (st := ⟨a3, cd3⟩) hc3, sbyte_bad (s := u) (st := ⟨a3, cd3⟩) hc3, slim_bad (s := u) (st := ⟨a3, cd3⟩) hc3, smust_bad (s := u) (st := ⟨a3, cd3⟩) hc3, snil_bad (st := ⟨a3, cd3⟩) hc3, sover_bad (st := ⟨a3, cd3⟩) hc3, sbytes_bad (s := u) (st := ⟨a3, cd3⟩) hc3, sclose_bad (st := ⟨a3, cd3⟩) hc3, slocs2_bad (s := u) (st := ⟨a3, cd3⟩) hc3]
  obtain rfl : cd3 = 0 := hc3
  obtain rfl : y3 = .int .i64 x3 := hy3
  have D3 : Hid (Ds q b w w3 v a3) := D2.out.trans G3
  have E3 : Hid (Wr (· = q) (w.alloc (.cells #[.int .i64 0, .int .i64 0] 65)) w3) := E2.out.trans G3.1
  replace G3 : Hid _ := G3
  have z3 : w.heap.size + 1 ≤ w3.heap.size := Nat.le_trans z2 (Ds.size G3.out)
  have rp := E3.out.row (by show ¬ w.heap.size = q; omega) hp.out
  have k0' : w3.cell? ⟨w.heap.size, 0, none⟩ = some (.int .i64 0) := rp.cell (i := 0) (by decide)
  have g0' := rp.frozen 0
  have k1' : w3.cell? ⟨w.heap.size, 1, none⟩ = some (.int .i64 0) := rp.cell (i := 1) (by decide)
  have g1' := rp.frozen 1
  have hlt := cell_lt k0'
  clear rp hp
  have hr2 : slim u ⟨a0, 0⟩ = r := hr.out
  have e1 := e1.out
  have e2 := e2.out
  have e3 := e3.out
  simp only [slim, if_true, Bool.true_eq_false, if_false, e1, e2, e3] at hr2
  replace hr2 : Hid (_ = r) := hr2
  clear hr e1 e2 e3
  go_wp2_with fail
  rw [← hr2.out]
  refine bodyPost_ret (v := .agg #[.int .i64 x2, .int .i64 x3]) (by simp [results, Try.results37, go_sem, k0', k1', hlt]) rfl (Got.ok rfl ?_ (((D3.out).put (Nat.le_refl _) hq 0 _).put (Nat.le_refl _) hq 1 _))
  exact rfl
theorem limits_any (hv : v.size < 9223372036854775000) (hS : Shf b v u) (hc : st.code = 0) (hin : Sin u st) (w : World) (h : w.rowIs q 82 2 (dF v b st.at_)) :
    Calls Try.prog 37 #[.pointer (some ⟨q, 0, none⟩)] w (Got q b w v pL (slim u st)) := by
  cases hx : (sflag u st).1 with
  | false => exact limits_f hv hS hc hin w h hx
  | true => exact limits_t hv hS hc hin w h hx
theorem table_any (hv : v.size < 9223372036854775000) (hS : Shf b v u) (hc : st.code = 0) (hin : Sin u st) (w : World) (h : w.rowIs q 82 2 (dF v b st.at_)) :
    Calls Try.prog 36 #[.pointer (some ⟨q, 0, none⟩)] w (Got q b w v (pL) ((fun st => slim u (smust u 112 st)) st)) := by
  have hq := h.lt
  obtain ⟨a0, cd0⟩ := st
  obtain rfl : cd0 = 0 := hc
  have i0 : Sin u ⟨a0, 0⟩ := hin
  generalize hr : (fun st => slim u (smust u 112 st)) ⟨a0, 0⟩ = r
  obtain ⟨⟨a1, cd1⟩, e1⟩ : ∃ s, smust u 112 ⟨a0, 0⟩ = s := ⟨_, rfl⟩
  have i1 : Sin u ⟨a1, cd1⟩ := by have t := smust_in i0 112; rwa [e1] at t
  have H1 : Hid (∀ W : World, (0 : Int) = 0 → W.rowIs q 82 2 (dF v b a0) → Calls Try.prog 52 #[.pointer (some ⟨q, 0, none⟩), .int .i64 112] W (Got q b W v (pU) ((), ⟨a1, cd1⟩))) := fun W hc hW => by
    have t := must_any 112 hv hS (st := ⟨a0, 0⟩) hc i0 W hW
    rwa [e1] at t
  obtain ⟨x2, ⟨a2, cd2⟩, e2⟩ : ∃ x s, slim u ⟨a1, cd1⟩ = (x, s) := ⟨_, _, rfl⟩
  have i2 : Sin u ⟨a2, cd2⟩ := by have t := slim_in i1; rwa [e2] at t
  have H2 : Hid (∀ W : World, (cd1 : Int) = 0 → W.rowIs q 82 2 (dF v b a1) → Calls Try.prog 37 #[.pointer (some ⟨q, 0, none⟩)] W (Got q b W v (pL) (x2, ⟨a2, cd2⟩))) := fun W hc hW => by
    have t := limits_any hv hS (st := ⟨a1, cd1⟩) hc i1 W hW
    rwa [e2] at t
  replace e1 : Hid (smust u 112 ⟨a0, 0⟩ = ⟨a1, cd1⟩) := e1
  replace e2 : Hid (slim u ⟨a1, cd1⟩ = (x2, ⟨a2, cd2⟩)) := e2
  replace hr : Hid ((fun st => slim u (smust u 112 st)) ⟨a0, 0⟩ = r) := hr
  have hp : Hid ((w.alloc (.cells #[.int .i64 0, .int .i64 0] 65)).rowIs w.heap.size 65 2 (fun j => [.int .i64 0, .int .i64 0].getD j undef)) := row_new w 65 [.int .i64 0, .int .i64 0]
  have D0 : Hid (Ds q b w (w.alloc (.cells #[.int .i64 0, .int .i64 0] 65)) v a0) := (Ds.start h).later (La (Lz _))
  have E0 : Hid (Wr (· = q) (w.alloc (.cells #[.int .i64 0, .int .i64 0] 65)) (w.alloc (.cells #[.int .i64 0, .int .i64 0] 65))) := Wr.refl _ _
  have z0 : w.heap.size + 1 ≤ (w.alloc (.cells #[.int .i64 0, .int .i64 0] 65)).heap.size := by simp
  clear h hin hS hv i0 i1 i2
  go_enter Try.func36, Try.ntmps36
  go_wp2_with fail
  refine (H1.out _ (by first | rfl | trivial) D0.out.2).mono ?_
  clear H1
  rintro e w1 (⟨hc1, ⟨y1, rfl, hy1⟩, G1⟩ | ⟨hc1, rfl, V1⟩)
  rotate_left
  · replace hc1 : ¬ cd1 = 0 := hc1
    refine ⟨rfl, Got.bad hc1 ?_ (D0.out.1.trans V1)⟩
    rw [← hr.out]
    have e1 := e1.out
    simp only [e1, snum_bad (s := u) (st := ⟨a1, cd1⟩) hc1, sname_bad (s := u) (st := ⟨a1, cd1⟩) hc1, skind_bad (s := u) (st := ⟨a1, cd1⟩) hc1, sflag_bad (s := u) (st := ⟨a1, cd1⟩) hc1, sinstrs_bad (s := u) (st := ⟨a1, cd1⟩) hc1, skinds_bad (s := u) (st := ⟨a1, cd1⟩) hc1, snums_bad (s := u) (st := ⟨a1, cd1⟩) hc1, sbyte_bad (s := u) (st := ⟨a1, cd1⟩) hc1, slim_bad (s := u) (st := ⟨a1, cd1⟩) hc1, smust_bad (s := u) (st := ⟨a1, cd1⟩) hc1, snil_bad (st := ⟨a1, cd1⟩) hc1, sover_bad (st := ⟨a1, cd1⟩) hc1, sbytes_bad (s := u) (st := ⟨a1, cd1⟩) hc1, sclose_bad (st := ⟨a1, cd1⟩) hc1, slocs2_bad (s := u) (st := ⟨a1, cd1⟩) hc1]
  obtain rfl : cd1 = 0 := hc1
  obtain rfl : y1 = .tuple #[] := hy1
  have D1 : Hid (Ds q b w w1 v a1) := D0.out.trans G1
  have E1 : Hid (Wr (· = q) (w.alloc (.cells #[.int .i64 0, .int .i64 0] 65)) w1) := E0.out.trans G1.1
  replace G1 : Hid _ := G1
  have z1 : w.heap.size + 1 ≤ w1.heap.size := Nat.le_trans z0 (Ds.size G1.out)
  go_wp2_with fail
  refine (H2.out _ (by first | rfl | trivial) D1.out.2).mono ?_
  clear H2
  rintro e w2 (⟨hc2, ⟨y2, rfl, hy2⟩, G2⟩ | ⟨hc2, rfl, V2⟩)
  rotate_left
  · replace hc2 : ¬ cd2 = 0 := hc2
    refine ⟨rfl, Got.bad hc2 ?_ (D1.out.1.trans V2)⟩
    rw [← hr.out]
    have e1 := e1.out
    have e2 := e2.out
    simp only [e1, e2, snum_bad (s := u) (st := ⟨a2, cd2⟩) hc2, sname_bad (s := u) (st := ⟨a2, cd2⟩) hc2, skind_bad (s := u) (st := ⟨a2, cd2⟩) hc2, sflag_bad (s := u) (st := ⟨a2, cd2⟩) hc2, sinstrs_bad (s := u) (st := ⟨a2, cd2⟩) hc2, skinds_bad (s := u) (st := ⟨a2, cd2⟩) hc2, snums_bad (s := u) (st := ⟨a2, cd2⟩) hc2, sbyte_bad (s := u) (st := ⟨a2, cd2⟩) hc2, slim_bad (s := u) (st := ⟨a2, cd2⟩) hc2, smust_bad (s := u) (st := ⟨a2, cd2⟩) hc2, snil_bad (st := ⟨a2, cd2⟩) hc2, sover_bad (st := ⟨a2, cd2⟩) hc2, sbytes_bad (s := u) (st := ⟨a2, cd2⟩) hc2, sclose_bad (st := ⟨a2, cd2⟩) hc2, slocs2_bad (s := u) (st := ⟨a2, cd2⟩) hc2]
  obtain rfl : cd2 = 0 := hc2
  obtain rfl : y2 = .agg #[.int .i64 x2.1, .int .i64 x2.2] := hy2
  have D2 : Hid (Ds q b w w2 v a2) := D1.out.trans G2
  have E2 : Hid (Wr (· = q) (w.alloc (.cells #[.int .i64 0, .int .i64 0] 65)) w2) := E1.out.trans G2.1
  replace G2 : Hid _ := G2
  have z2 : w.heap.size + 1 ≤ w2.heap.size := Nat.le_trans z1 (Ds.size G2.out)
  have rp := E2.out.row (by show ¬ w.heap.size = q; omega) hp.out
  have k0' : w2.cell? ⟨w.heap.size, 0, none⟩ = some (.int .i64 0) := rp.cell (i := 0) (by decide)
  have g0' := rp.frozen 0
  have k1' : w2.cell? ⟨w.heap.size, 1, none⟩ = some (.int .i64 0) := rp.cell (i := 1) (by decide)
  have g1' := rp.frozen 1
  have hlt := cell_lt k0'
  clear rp hp
  have hr2 : (fun st => slim u (smust u 112 st)) ⟨a0, 0⟩ = r := hr.out
  have e1 := e1.out
  have e2 := e2.out
  simp only [e1, e2] at hr2
  replace hr2 : Hid (_ = r) := hr2
  clear hr e1 e2
  go_wp2_with fail
  rw [← hr2.out]
  refine bodyPost_ret (v := .agg #[.int .i64 x2.1, .int .i64 x2.2]) (by simp [results, Try.results36, go_sem, k0', k1', hlt]) rfl (Got.ok rfl ?_ (((D2.out).put (Nat.le_refl _) hq 0 _).put (Nat.le_refl _) hq 1 _))
  exact rfl
theorem bytes_any (hz : v.size ≤ 65536) (hv : v.size < 9223372036854775000) (hS : Shf b v u) (hc : st.code = 0) (hin : Sin u st) (w : World) (h : w.rowIs q 82 2 (dF v b st.at_)) :
    Calls Try.prog 59 #[.pointer (some ⟨q, 0, none⟩)] w (Got q b w v pT (sbytes u (snum u st).1 (snum u st).2)) := by
  have hb : Hid (Calls Try.prog 34 #[.pointer (some ⟨q, 0, none⟩)] w (Got q b w v pN (snum u st))) := number_any hv hS hc hin w h
  have hrg := (snum_rng (s := u) (st := st)).1
  have hi1 := snum_in (s := u) hin
  generalize hr : sbytes u (snum u st).1 (snum u st).2 = r
  generalize snum u st = K at *
  obtain ⟨x, a1, cd1⟩ := K
  simp only [] at hr hrg hi1
  have hL : Hid (∀ W, W.rowIs q 82 2 (dF v b a1) → Calls Try.prog 25 #[.pointer (some ⟨q, 0, none⟩)] W fun e w' => e = .returned (.int .i64 ((u.size : Int) - a1)) ∧ Hid (Ds q b W w' v a1)) := fun W hW => left_any hv hS hi1 W hW
  have i0 : 0 ≤ a1 := hi1.1
  have i1 : a1 ≤ u.size := hi1.2
  have hsz := hS.size
  replace hr : Hid (_ = r) := hr
  clear h hin hc
  by_cases hcd : cd1 = 0
  · subst hcd
    obtain ⟨L, hLe⟩ : ∃ L : Int, L = (u.size : Int) - a1 := ⟨_, rfl⟩
    rw [← hLe] at hL
    by_cases h0 : x ≤ L
    · obtain ⟨X, rfl⟩ := Int.eq_ofNat_of_zero_le hrg
      obtain ⟨K, hK⟩ : ∃ K : Nat, (K : Int) = (b : Int) + a1 := ⟨b + a1.toNat, by omega⟩
      have hKv : K + X ≤ v.size := by omega
      have hsl := sl_eq v K X hKv
      have hw3 : -9223372036854775808 ≤ (K : Int) + (X : Int) := by omega
      have hw4 : (K : Int) + (X : Int) ≤ 9223372036854775807 := by omega
      have hwr : wrap64 ((K : Int) + (X : Int)) = (K : Int) + (X : Int) := by unfold wrap64; omega
      have hzz : (v.extract K (K + X)).size ≤ 65536 := by rw [ByteArray.size_extract]; omega
      have hr2 : Hid ((v.extract K (K + X), (⟨a1 + (X : Int), 0⟩ : Sst)) = r) := by
        rw [← hr.out]
        unfold sbytes
        rw [if_pos rfl, if_neg (show ¬ (u.size : Int) - a1 < (X : Int) by omega)]
        show _ = (u.extract a1.toNat (a1.toNat + ((X : Nat) : Int).toNat), _)
        rw [Int.toNat_natCast, ← hS.part a1.toNat (a1.toNat + X) (by omega), show b + a1.toNat = K by omega, show b + (a1.toNat + X) = K + X by omega]
      have hcl : Hid (∀ W : World, Calls Try.prog 65 #[.string (v.extract K (K + X))] W fun e w' => e = .returned (.string (v.extract K (K + X))) ∧ Later W w') := fun W => clone_any _ hzz W
      have hn : Hid (∀ W, Calls Try.prog 24 #[.bool true, .int .i64 1506] W fun e w' => e = .returned (.tuple #[]) ∧ w' = W) := need_ok 1506
      have hK1 : Hid ((K : Int) + (X : Int) = (b : Int) + (a1 + (X : Int))) := by show _ = _; omega
      replace hK : Hid ((K : Int) = (b : Int) + a1) := hK
      replace hwr : Hid (wrap64 ((K : Int) + (X : Int)) = (K : Int) + (X : Int)) := hwr
      clear hr hS hv hz hsz i0 i1 hi1 hzz hLe hrg
      go_enter Try.func59, Try.ntmps59
      go_wp2_with fail
      refine hb.out.mono ?_
      clear hb
      rintro e w1 (⟨_, ⟨y, rfl, hy⟩, D1⟩ | ⟨hc1, rfl, W1⟩)
      rotate_left
      · exact absurd rfl hc1
      obtain rfl : y = .int .i64 (X : Int) := hy
      replace D1 : Hid (Ds q b w w1 v a1) := D1
      go_wp2_with fail
      refine (hL.out _ D1.out.2).mono ?_
      clear hL
      rintro e w2 ⟨rfl, G2⟩
      have D2 : Hid (Ds q b w w2 v a1) := D1.out.trans G2.out
      have c0 := D2.out.cell0
      have c1 := D2.out.cell1
      rw [← hK.out] at c1
      have f1 := D2.out.frozen
      have hl := cell_lt c0
      clear D1 G2
      go_wp2_with (go_at_call 24; refine (hn.out _).mono ?_; rintro e w3 ⟨rfl, hw⟩; obtain rfl : w2 = w3 := hw.symm; clear hn)

      go_region_law (go_simp; go_at_call 65; refine (hcl.out _).mono ?_; rintro e1 w4 ⟨rfl, l1⟩; have L1 : Hid (Later _ w4) := (Ld (Lz _)).trans l1; clear l1)
      all_goals
        go_wp2_with fail
        go_ret
        rw [← hr2.out]
        exact Got.ok rfl rfl ((D2.out.set _ hK1.out).later L1.out)
    · have h1 : decide (x ≤ L) = false := decide_eq_false h0
      have hr2 : Hid (((⟨#[]⟩ : ByteArray), (⟨a1, 1506⟩ : Sst)) = r) := by
        rw [← hr.out]
        unfold sbytes
        rw [if_pos rfl, if_pos (show (u.size : Int) - a1 < x by omega), sfail_new]
        rfl
      have hn : Hid (∀ W, Calls Try.prog 24 #[.bool false, .int .i64 1506] W fun e w' => e = thr 1506 ∧ w' = W) := need_bad 1506
      clear hr hS hv hz hsz i0 i1 hi1 hLe hrg h0
      go_enter Try.func59, Try.ntmps59
      go_wp2_with fail
      refine hb.out.mono ?_
      clear hb
      rintro e w1 (⟨_, ⟨y, rfl, hy⟩, D1⟩ | ⟨hc1, rfl, W1⟩)
      rotate_left
      · exact absurd rfl hc1
      obtain rfl : y = .int .i64 x := hy
      replace D1 : Hid (Ds q b w w1 v a1) := D1
      go_wp2_with fail
      refine (hL.out _ D1.out.2).mono ?_
      clear hL
      rintro e w2 ⟨rfl, G2⟩
      have D2 : Hid (Ds q b w w2 v a1) := D1.out.trans G2.out
      go_wp2_with (go_at_call 24; refine (hn.out _).mono ?_; rintro e w3 ⟨rfl, hw⟩; obtain rfl : w2 = w3 := hw.symm; clear hn)
      rw [← hr2.out]
      exact ⟨rfl, Got.bad (by decide) rfl D2.out.1⟩
  · have hr2 : Hid (((⟨#[]⟩ : ByteArray), (⟨a1, cd1⟩ : Sst)) = r) := by rw [← hr.out]; exact (sbytes_bad (st := ⟨a1, cd1⟩) hcd x).symm
    clear hr hS hv hz hsz i0 i1 hi1 hrg hL
    go_enter Try.func59, Try.ntmps59
    go_wp2_with fail
    refine hb.out.mono ?_
    clear hb
    rintro e w1 (⟨hc1, _⟩ | ⟨hc1, rfl, W1⟩)
    · exact absurd hc1 hcd
    rw [← hr2.out]
    exact ⟨rfl, Got.bad hcd rfl W1⟩
theorem custom_any (hv : v.size < 9223372036854775000) (hS : Shf b v u) (w : World) (h : w.rowIs q 82 2 (dF v b 0)) :
    Calls Try.prog 28 #[.pointer (some ⟨q, 0, none⟩)] w (Got q b w v pU ((), ⟨(u.size : Int), (sname u ⟨0, 0⟩).2.code⟩)) := by
  have hb : Hid (Calls Try.prog 50 #[.pointer (some ⟨q, 0, none⟩)] w (Got q b w v pT (sname u ⟨0, 0⟩))) := name_any hv hS rfl ⟨Int.le_refl 0, by show (0 : Int) ≤ _; omega⟩ w h
  have hsz := hS.size
  generalize sname u ⟨0, 0⟩ = K at *
  obtain ⟨x, a1, cd1⟩ := K
  clear h hS hv
  go_enter Try.func28, Try.ntmps28
  go_wp2_with fail
  refine hb.out.mono ?_
  clear hb
  rintro e w1 (⟨hc1, ⟨y, rfl, hy⟩, D1⟩ | ⟨hc1, rfl, W1⟩)
  · obtain rfl : cd1 = 0 := hc1
    have c0 := D1.cell0
    have c1 := D1.cell1
    have f1 := D1.frozen
    have hl := cell_lt c0
    replace D1 : Hid (Ds q b w w1 v a1) := D1
    have hv2 : Hid ((v.size : Int) = (b : Int) + (u.size : Int)) := by show _ = _; omega
    clear hsz hy
    go_wp2_with fail
    first | (go_quiet (fail); go_wp2_with fail) | skip
    go_end0
    exact Got.ok rfl rfl (D1.out.set _ hv2.out)
  · exact ⟨rfl, Got.bad hc1 rfl W1⟩
theorem slocs_num {k : Nat} {ls : List Int} {a2 n a3 cd3 : Int} (hl : ls.length ≤ 256) (e : snum u ⟨a2, 0⟩ = (n, ⟨a3, cd3⟩)) (hc : ¬ cd3 = 0) : (slocs u (k + 1) ls ⟨a2, 0⟩).2 = ⟨a3, cd3⟩ := by
  have hn : n = 0 := by
    have h2 : (snum u ⟨a2, 0⟩).2.code ≠ 0 := by rw [e]; exact hc
    have h3 : (snum u ⟨a2, 0⟩).1 = 0 := by
      unfold snum at h2 ⊢
      rw [if_neg (by simp)] at h2 ⊢
      split
      · rename_i h4
        rw [if_pos h4] at h2
        exact absurd rfl h2
      · rfl
    rw [e] at h3
    exact h3
  subst hn
  unfold slocs
  rw [if_pos rfl, e]
  simp only []
  rw [if_neg (by omega), skind_bad (st := ⟨a3, cd3⟩) hc]
  exact congrArg Prod.snd (slocs_bad u k _ ⟨a3, cd3⟩ hc)
theorem slocs_long {k : Nat} {ls : List Int} {a2 n a3 : Int} (e : snum u ⟨a2, 0⟩ = (n, ⟨a3, 0⟩)) (h : 256 - (ls.length : Int) < n) : (slocs u (k + 1) ls ⟨a2, 0⟩).2 = ⟨a3, 1508⟩ := by
  unfold slocs
  rw [if_pos rfl, e]
  simp only []
  rw [if_pos h, sfail_new]
theorem slocs_more {k : Nat} {ls : List Int} {a2 n a3 t : Int} {st4 : Sst} (e : snum u ⟨a2, 0⟩ = (n, ⟨a3, 0⟩)) (h : ¬ 256 - (ls.length : Int) < n) (e2 : skind u ⟨a3, 0⟩ = (t, st4)) : slocs u (k + 1) ls ⟨a2, 0⟩ = slocs u k (ls ++ List.replicate n.toNat t) st4 := by
  conv => lhs; unfold slocs
  rw [if_pos rfl, e]
  simp only []
  rw [if_neg h, e2]
theorem locals_any (hv : v.size < 9223372036854775000) (hS : Shf b v u) (hc : st.code = 0) (hin : Sin u st) (w : World) (h : w.rowIs q 82 2 (dF v b st.at_)) :
    Calls Try.prog 58 #[.pointer (some ⟨q, 0, none⟩)] w (Got q b w v (pR f1 w.heap.size) (slocs u (smany u 1024 st).1.toNat [] (smany u 1024 st).2)) := by
  have hq := h.lt
  have hct : Hid (Calls Try.prog 51 #[.pointer (some ⟨q, 0, none⟩), .int .i64 1024] w (Got q b w v pN (smany u 1024 st))) := count_any 1024 (by decide) hv hS hc hin w h
  have hrg := smany_rng (s := u) (st := st) (m := 1024) (by decide)
  have hi1 := smany_in hin 1024
  generalize hr : slocs u (smany u 1024 st).1.toNat [] (smany u 1024 st).2 = r
  generalize smany u 1024 st = K at *
  obtain ⟨k0, a1, cd1⟩ := K
  simp only [] at hct hrg hi1 hr
  obtain ⟨k, rfl⟩ := Int.eq_ofNat_of_zero_le hrg.1
  rw [Int.toNat_natCast] at hr
  have hk : k ≤ 1024 := by omega
  replace hi1 : Hid (Sin u ⟨a1, cd1⟩) := hi1
  replace hr : Hid (slocs u k [] ⟨a1, cd1⟩ = r) := hr
  have hN : Hid (∀ (a2 : Int) (W : World), Sin u ⟨a2, 0⟩ → W.rowIs q 82 2 (dF v b a2) → Calls Try.prog 34 #[.pointer (some ⟨q, 0, none⟩)] W (Got q b W v pN (snum u ⟨a2, 0⟩))) := fun a2 W hi hW => number_any hv hS rfl hi W hW
  have hV : Hid (∀ (a2 : Int) (W : World), Sin u ⟨a2, 0⟩ → W.rowIs q 82 2 (dF v b a2) → Calls Try.prog 53 #[.pointer (some ⟨q, 0, none⟩)] W (Got q b W v pN (skind u ⟨a2, 0⟩))) := fun a2 W hi hW => vtype_any hv hS rfl hi W hW
  clear hin h hrg hc hS hv
  go_enter Try.func58, Try.ntmps58
  go_wp2_with fail
  refine hct.out.mono ?_
  clear hct
  rintro e w1 (⟨hc1, ⟨y, rfl, hy⟩, D1⟩ | ⟨hc1, rfl, W1⟩)
  rotate_left
  · replace hc1 : ¬ cd1 = 0 := hc1
    refine ⟨rfl, Got.bad hc1 ?_ W1⟩
    rw [← hr.out, slocs_bad u k [] ⟨a1, cd1⟩ hc1]
  obtain rfl : cd1 = 0 := hc1
  obtain rfl : y = .int .i64 (k : Int) := hy
  replace D1 : Hid (Ds q b w w1 v a1) := D1
  go_wp2_with fail
  go_loopw [3, 8] (fun x0 i wr => ∃ (n : Nat) (ls : List Int) (a2 : Int), i = .int .i64 (n : Nat) ∧ n ≤ k ∧ ls.length ≤ 256 ∧ Mn f1 w.heap.size 3 1 wr x0 ls ∧ Ds q b w wr v a2 ∧ Sin u ⟨a2, 0⟩ ∧ slocs u (k - n) ls ⟨a2, 0⟩ = r) (fun x0 i _ => k - (intOf i).toNat)
  case atStart => exact ⟨0, [], a1, rfl, Nat.zero_le _, Nat.zero_le _, Mn.start _, D1.out, hi1.out, hr.out⟩
  case round =>
    obtain ⟨n, ls, a2, rfl, hnk, hls, hM, R2, hi2, htot⟩ := hrel
    obtain ⟨A, cap, rfl⟩ := hM.form
    clear D1 hi1 hr
    by_cases hlt : n < k
    · have hl1 : (n : Int) < (k : Int) := by omega
      obtain ⟨m, hm2⟩ : ∃ m, k - n = m + 1 := ⟨k - n - 1, by omega⟩
      rw [hm2] at htot
      have hna := hN.out a2 wr hi2 R2.2
      clear hN
      have hi3 := snum_in (s := u) hi2
      have hrg := (snum_rng (s := u) (st := ⟨a2, 0⟩)).1
      obtain ⟨x, ⟨a3, cd3⟩, e3⟩ : ∃ x s, snum u ⟨a2, 0⟩ = (x, s) := ⟨_, _, rfl⟩
      rw [e3] at hna hi3 hrg
      replace hna : Hid (Calls Try.prog 34 #[.pointer (some ⟨q, 0, none⟩)] wr (Got q b wr v pN (x, ⟨a3, cd3⟩))) := hna
      obtain ⟨X, rfl⟩ := Int.eq_ofNat_of_zero_le hrg
      replace e3 : Hid (snum u ⟨a2, 0⟩ = ((X : Int), ⟨a3, cd3⟩)) := e3
      replace htot : Hid (slocs u (m + 1) ls ⟨a2, 0⟩ = r) := htot
      replace hM : Hid (Mn f1 w.heap.size 3 1 wr (.slice A ls.length cap) ls) := hM
      replace R2 : Hid (Ds q b w wr v a2) := R2
      replace hi3 : Hid (Sin u ⟨a3, cd3⟩) := hi3
      replace hls : Hid (ls.length ≤ 256) := hls
      clear hi2 hrg
      go_wp2_with fail
      refine hna.out.mono ?_
      clear hna
      rintro e w3 (⟨hc3, ⟨y, rfl, hy⟩, G3⟩ | ⟨hc3, rfl, V3⟩)
      rotate_left
      · replace hc3 : ¬ cd3 = 0 := hc3
        refine ⟨rfl, Got.bad hc3 ?_ (R2.out.1.trans V3)⟩
        rw [← htot.out, slocs_num hls.out e3.out hc3]
      obtain rfl : cd3 = 0 := hc3
      obtain rfl : y = .int .i64 (X : Int) := hy
      have D3 : Hid (Ds q b w w3 v a3) := R2.out.trans G3
      have M3 : Hid (Mn f1 w.heap.size 3 1 w3 (.slice A ls.length cap) ls) := hM.out.wr G3.1 (fun j e => by have e : j = q := e; omega)
      clear hM G3 R2
      have hlw : wrap64 (256 - (ls.length : Int)) = 256 - (ls.length : Int) := by have := hls.out; unfold wrap64; omega
      by_cases hov : (X : Int) ≤ 256 - (ls.length : Int)
      · obtain ⟨L, hL⟩ : ∃ L : Int, L = 256 - (ls.length : Int) := ⟨_, rfl⟩
        have hn : Hid (∀ W, Calls Try.prog 24 #[.bool true, .int .i64 1508] W fun e w' => e = .returned (.tuple #[]) ∧ w' = W) := need_ok 1508
        have hva := hV.out a3 w3 hi3.out D3.out.2
        clear hV
        have hi4 := skind_in hi3.out
        obtain ⟨t, ⟨a4, cd4⟩, e4⟩ : ∃ x s, skind u ⟨a3, 0⟩ = (x, s) := ⟨_, _, rfl⟩
        rw [e4] at hva hi4
        replace hva : Hid (Calls Try.prog 53 #[.pointer (some ⟨q, 0, none⟩)] w3 (Got q b w3 v pN (t, ⟨a4, cd4⟩))) := hva
        have hto2 : Hid (slocs u m (ls ++ List.replicate X t) ⟨a4, cd4⟩ = r) := by
          have t5 := slocs_more (k := m) e3.out (show ¬ 256 - (ls.length : Int) < (X : Int) by omega) e4
          rw [Int.toNat_natCast] at t5
          exact t5.symm.trans htot.out
        have hlen : Hid (ls.length + X ≤ 256) := by show _ ≤ _; omega
        have hX : X ≤ 256 := by omega
        replace hi4 : Hid (Sin u ⟨a4, cd4⟩) := hi4
        clear htot e3 e4 hi3 hls
        go_wp2_with (go_at_call 24; refine (hn.out _).mono ?_; rintro e w4 ⟨rfl, hw⟩; obtain rfl : w3 = w4 := hw.symm; clear hn)
        refine hva.out.mono ?_
        clear hva
        rintro e w4 (⟨hc4, ⟨y, rfl, hy⟩, G4⟩ | ⟨hc4, rfl, V4⟩)
        rotate_left
        · replace hc4 : ¬ cd4 = 0 := hc4
          refine ⟨rfl, Got.bad hc4 ?_ (D3.out.1.trans V4)⟩
          rw [← hto2.out, slocs_bad u m _ ⟨a4, cd4⟩ hc4]
        obtain rfl : cd4 = 0 := hc4
        obtain rfl : y = .int .i64 t := hy
        have D4 : Hid (Ds q b w w4 v a4) := D3.out.trans G4
        have M4 : Hid (Mn f1 w.heap.size 3 1 w4 (.slice A ls.length cap) ls) := M3.out.wr G4.1 (fun j e => by have e : j = q := e; omega)
        clear M3 D3 G4 hov hlw hL
        go_wp2_with fail
        go_loopw [3, 21] (fun x0 i wr => ∃ (j : Nat), i = .int .i64 (j : Nat) ∧ j ≤ X ∧ Mn f1 w.heap.size 3 1 wr x0 (ls ++ List.replicate j t) ∧ Ds q b w wr v a4) (fun x0 i _ => X - (intOf i).toNat)
        case atStart => exact ⟨0, rfl, Nat.zero_le _, by simpa using M4.out, D4.out⟩
        case round =>
          clear D4 M4
          obtain ⟨j, rfl, hj, hM5, R5⟩ := hrel
          obtain ⟨A5, cap5, rfl⟩ := hM5.form
          have hl5 : (ls ++ List.replicate j t).length = ls.length + j := by simp
          by_cases hjl : j < X
          · have hjl1 : (j : Int) < (X : Int) := by omega
            have hmore := hM5.got R5 hq ti_int 26 t rfl [.int .i64 t] (by rw [hl5]; have := hlen.out; omega) (by rw [hl5]; have := hlen.out; omega) (Ds.start R5.2) ⟨_, [], rfl, rfl, rfl⟩
            obtain ⟨g, cap', w', r2, M', R4⟩ := hmore
            rw [hl5] at r2 M' ⊢
            rw [List.append_assoc, ← List.replicate_succ'] at M'
            replace r2 : Hid _ := r2
            replace M' : Hid _ := M'
            replace R4 : Hid _ := R4
            clear hM5 R5 hl5
            go_wp2_with (at_builtin; refine wpList_app rfl _ _ 26 rfl _ _ _ rfl rfl r2.out ?_; clear r2)
            go_roundw
            case rel => exact ⟨j + 1, by go_num, hjl, M'.out, R4.out⟩
            case measure => simp [intOf]; omega
          · have hjl1 : ¬ (j : Int) < (X : Int) := by omega
            obtain rfl : j = X := by omega
            have hfin : Hid (Mn f1 w.heap.size 3 1 wr (.slice A5 (ls ++ List.replicate j t).length cap5) (ls ++ List.replicate j t) ∧ Ds q b w wr v a4 ∧ (ls ++ List.replicate j t).length ≤ 256) := ⟨hM5, R5, by rw [hl5]; exact hlen.out⟩
            clear hM5 R5 hl5
            go_wp2_with fail
            go_roundw
            case rel => exact ⟨n + 1, ls ++ List.replicate j t, a4, by go_num, hlt, hfin.out.2.2, hfin.out.1, hfin.out.2.1, hi4.out, by rw [show k - (n + 1) = m by omega]; exact hto2.out⟩
            case measure => simp [intOf]; omega
      · obtain ⟨L, hL⟩ : ∃ L : Int, L = 256 - (ls.length : Int) := ⟨_, rfl⟩
        have hov2 : decide ((X : Int) ≤ 256 - (ls.length : Int)) = false := decide_eq_false hov
        have hn : Hid (∀ W, Calls Try.prog 24 #[.bool false, .int .i64 1508] W fun e w' => e = thr 1508 ∧ w' = W) := need_bad 1508
        have hr2 : Hid (r.2 = ⟨a3, 1508⟩) := by rw [← htot.out]; exact slocs_long e3.out (by omega)
        clear hov hi3 hls htot e3 hL
        go_wp2_with (go_at_call 24; refine (hn.out _).mono ?_; rintro e w4 ⟨rfl, hw⟩; obtain rfl : w3 = w4 := hw.symm; clear hn)
        exact ⟨rfl, Got.bad (by decide) (by rw [hr2.out]) D3.out.1⟩
    · have hl1 : ¬ (n : Int) < (k : Int) := by omega
      rw [show k - n = 0 by omega] at htot
      have hr2 : Hid ((ls, (⟨a2, 0⟩ : Sst)) = r) := htot
      have hfin : Hid (Rt f1 (Zf w.heap.size wr) wr A ls ∧ Ds q b w wr v a2) := ⟨hM.rt, R2⟩
      clear hM R2 hi2 htot hN hV
      go_wp2_with fail
      go_ret
      rw [← hr2.out]
      exact Got.ok rfl ⟨A, cap, rfl, hfin.out.1⟩ hfin.out.2
end Go.Proofs.Ytngciahmoenkiab
