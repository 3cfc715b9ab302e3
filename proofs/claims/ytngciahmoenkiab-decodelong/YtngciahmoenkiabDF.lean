/- package decode's reader: types, globals, exports, elements, datas, codes, imports. -/
import Derived.Test.YtngciahmoenkiabEQ
import Derived.Test.YtngciahmoenkiabDE
set_option linter.unusedVariables false
set_option linter.unusedSimpArgs false
set_option maxRecDepth 100000
set_option maxHeartbeats 4000000
namespace Go.Proofs.Ytngciahmoenkiab
open Go.RowKit
variable {q b : Nat} {w w' wr wr' : World} {v u s : ByteArray} {st st' : Sst} {a a' : Int}
theorem ftype_any (hv : v.size < 9223372036854775000) (hS : Shf b v u) (hc : st.code = 0) (hin : Sin u st) (w : World) (h : w.rowIs q 82 2 (dF v b st.at_)) :
    Calls Try.prog 30 #[.pointer (some ⟨q, 0, none⟩)] w (Got q b w v (pS fTy w.heap.size) (sty u st)) := by
  have hq := h.lt
  have hmf : ∀ (fn : Fn) (first cap : Array Value) (w : World), (Instr.makeFunc fn first cap).run Try.prog w = .ok (.func fn first cap) w := fun _ _ _ _ => rfl
  obtain ⟨a0, cd0⟩ := st
  obtain rfl : cd0 = 0 := hc
  have i0 : Sin u ⟨a0, 0⟩ := hin
  generalize hr : sty u ⟨a0, 0⟩ = r
  obtain ⟨⟨a1, cd1⟩, e1⟩ : ∃ s, smust u 96 ⟨a0, 0⟩ = s := ⟨_, rfl⟩
  have i1 : Sin u ⟨a1, cd1⟩ := by have t := smust_in i0 96; rwa [e1] at t
  have H1 : Hid (∀ W : World, (0 : Int) = 0 → W.rowIs q 82 2 (dF v b a0) → Calls Try.prog 52 #[.pointer (some ⟨q, 0, none⟩), .int .i64 96] W (Got q b W v (pU) ((), ⟨a1, cd1⟩))) := fun W hc hW => by
    have t := must_any 96 hv hS (st := ⟨a0, 0⟩) hc i0 W hW
    rwa [e1] at t
  obtain ⟨x2, ⟨a2, cd2⟩, e2⟩ : ∃ x s, skinds u ⟨a1, cd1⟩ = (x, s) := ⟨_, _, rfl⟩
  have i2 : Sin u ⟨a2, cd2⟩ := by have t := skinds_in i1; rwa [e2] at t
  have H2 : Hid (∀ W : World, (cd1 : Int) = 0 → W.rowIs q 82 2 (dF v b a1) → Calls Try.prog 33 #[.pointer (some ⟨q, 0, none⟩), .int .i64 1024, .func (.func 53) #[.pointer (some ⟨q, 0, none⟩)] #[]] W (Got q b W v (pR f1 W.heap.size) (x2, ⟨a2, cd2⟩))) := fun W hc hW => by
    have t := (show Calls Try.prog 33 #[.pointer (some ⟨q, 0, none⟩), .int .i64 1024, .func (.func 53) #[.pointer (some ⟨q, 0, none⟩)] #[]] W (Got q b W v (pR f1 W.heap.size) (skinds u ⟨a1, cd1⟩)) from vtypes_any 1024 (by decide) hv hS (st := ⟨a1, cd1⟩) hc i1 W hW)
    rwa [e2] at t
  obtain ⟨x3, ⟨a3, cd3⟩, e3⟩ : ∃ x s, skinds u ⟨a2, cd2⟩ = (x, s) := ⟨_, _, rfl⟩
  have i3 : Sin u ⟨a3, cd3⟩ := by have t := skinds_in i2; rwa [e3] at t
  have H3 : Hid (∀ W : World, (cd2 : Int) = 0 → W.rowIs q 82 2 (dF v b a2) → Calls Try.prog 33 #[.pointer (some ⟨q, 0, none⟩), .int .i64 1024, .func (.func 53) #[.pointer (some ⟨q, 0, none⟩)] #[]] W (Got q b W v (pR f1 W.heap.size) (x3, ⟨a3, cd3⟩))) := fun W hc hW => by
    have t := (show Calls Try.prog 33 #[.pointer (some ⟨q, 0, none⟩), .int .i64 1024, .func (.func 53) #[.pointer (some ⟨q, 0, none⟩)] #[]] W (Got q b W v (pR f1 W.heap.size) (skinds u ⟨a2, cd2⟩)) from vtypes_any 1024 (by decide) hv hS (st := ⟨a2, cd2⟩) hc i2 W hW)
    rwa [e3] at t
  replace e1 : Hid (smust u 96 ⟨a0, 0⟩ = ⟨a1, cd1⟩) := e1
  replace e2 : Hid (skinds u ⟨a1, cd1⟩ = (x2, ⟨a2, cd2⟩)) := e2
  replace e3 : Hid (skinds u ⟨a2, cd2⟩ = (x3, ⟨a3, cd3⟩)) := e3
  replace hr : Hid (sty u ⟨a0, 0⟩ = r) := hr
  have hp : Hid ((w.alloc (.cells #[.slice none 0 0, .slice none 0 0] 63)).rowIs w.heap.size 63 2 (fun j => [.slice none 0 0, .slice none 0 0].getD j undef)) := row_new w 63 [.slice none 0 0, .slice none 0 0]
  have D0 : Hid (Ds q b w (w.alloc (.cells #[.slice none 0 0, .slice none 0 0] 63)) v a0) := (Ds.start h).later (La (Lz _))
  have E0 : Hid (Wr (· = q) (w.alloc (.cells #[.slice none 0 0, .slice none 0 0] 63)) (w.alloc (.cells #[.slice none 0 0, .slice none 0 0] 63))) := Wr.refl _ _
  have z0 : w.heap.size + 1 ≤ (w.alloc (.cells #[.slice none 0 0, .slice none 0 0] 63)).heap.size := by simp
  clear h hin hS hv i0 i1 i2 i3
  go_enter Try.func30, Try.ntmps30
  go_wp2_with fail
  refine (H1.out _ (by first | rfl | trivial) D0.out.2).mono ?_
  clear H1
  rintro e w1 (⟨hc1, ⟨y1, rfl, hy1⟩, G1⟩ | ⟨hc1, rfl, V1⟩)
  rotate_left
  · replace hc1 : ¬ cd1 = 0 := hc1
    refine ⟨rfl, Got.bad hc1 ?_ (D0.out.1.trans V1)⟩
    rw [← hr.out]
    have e1 := e1.out
    simp only [sty, e1, snum_bad (s := u) (st := ⟨a1, cd1⟩) hc1, sname_bad (s := u) (st := ⟨a1, cd1⟩) hc1, skind_bad (s := u) (st := ⟨a1, cd1⟩) hc1, sflag_bad (s := u) (st := ⟨a1, cd1⟩) hc1, sinstrs_bad (s := u) (st := ⟨a1, cd1⟩) hc1, skinds_bad (s := u) (st := ⟨a1, cd1⟩) hc1, snums_bad (s := u) (st := ⟨a1, cd1⟩) hc1, sbyte_bad (s := u) (st := ⟨a1, cd1⟩) hc1, slim_bad (s := u) (st := ⟨a1, cd1⟩) hc1, smust_bad (s := u) (st := ⟨a1, cd1⟩) hc1, snil_bad (st := ⟨a1, cd1⟩) hc1, sover_bad (st := ⟨a1, cd1⟩) hc1, sbytes_bad (s := u) (st := ⟨a1, cd1⟩) hc1, sclose_bad (st := ⟨a1, cd1⟩) hc1, slocs2_bad (s := u) (st := ⟨a1, cd1⟩) hc1]
  obtain rfl : cd1 = 0 := hc1
  obtain rfl : y1 = .tuple #[] := hy1
  have D1 : Hid (Ds q b w w1 v a1) := D0.out.trans G1
  have E1 : Hid (Wr (· = q) (w.alloc (.cells #[.slice none 0 0, .slice none 0 0] 63)) w1) := E0.out.trans G1.1
  replace G1 : Hid _ := G1
  have z1 : w.heap.size + 1 ≤ w1.heap.size := Nat.le_trans z0 (Ds.size G1.out)
  go_wp2_with fail
  refine (H2.out _ (by first | rfl | trivial) D1.out.2).mono ?_
  clear H2
  rintro e w2 (⟨hc2, ⟨y2, rfl, hy2⟩, G2⟩ | ⟨hc2, rfl, V2⟩)
  rotate_left
  · replace hc2 : ¬ cd2 = 0 := hc2
    refine ⟨rfl, Got.bad hc2 ?_ (D1.out.1.trans V2)⟩
    rw [← hr.out]
    have e1 := e1.out
    have e2 := e2.out
    simp only [sty, e1, e2, snum_bad (s := u) (st := ⟨a2, cd2⟩) hc2, sname_bad (s := u) (st := ⟨a2, cd2⟩) hc2, skind_bad (s := u) (st := ⟨a2, cd2⟩) hc2, sflag_bad (s := u) (st := ⟨a2, cd2⟩) hc2, sinstrs_bad (s := u) (st := ⟨a2, cd2⟩) hc2, skinds_bad (s := u) (st := ⟨a2, cd2⟩) hc2, snums_bad (s := u) (st := ⟨a2, cd2⟩) hc2, sbyte_bad (s := u) (st := ⟨a2, cd2⟩) hc2, slim_bad (s := u) (st := ⟨a2, cd2⟩) hc2, smust_bad (s := u) (st := ⟨a2, cd2⟩) hc2, snil_bad (st := ⟨a2, cd2⟩) hc2, sover_bad (st := ⟨a2, cd2⟩) hc2, sbytes_bad (s := u) (st := ⟨a2, cd2⟩) hc2, sclose_bad (st := ⟨a2, cd2⟩) hc2, slocs2_bad (s := u) (st := ⟨a2, cd2⟩) hc2]
  obtain rfl : cd2 = 0 := hc2
  obtain ⟨A2, k2, rfl, T2⟩ := hy2
  replace T2 : Hid _ := T2
  have D2 : Hid (Ds q b w w2 v a2) := D1.out.trans G2
  have E2 : Hid (Wr (· = q) (w.alloc (.cells #[.slice none 0 0, .slice none 0 0] 63)) w2) := E1.out.trans G2.1
  replace G2 : Hid _ := G2
  have z2 : w.heap.size + 1 ≤ w2.heap.size := Nat.le_trans z1 (Ds.size G2.out)
  go_wp2_with fail
  refine (H3.out _ (by first | rfl | trivial) D2.out.2).mono ?_
  clear H3
  rintro e w3 (⟨hc3, ⟨y3, rfl, hy3⟩, G3⟩ | ⟨hc3, rfl, V3⟩)
  rotate_left
  · replace hc3 : ¬ cd3 = 0 := hc3
    refine ⟨rfl, Got.bad hc3 ?_ (D2.out.1.trans V3)⟩
    rw [← hr.out]
    have e1 := e1.out
    have e2 := e2.out
    have e3 := e3.out
    simp only [sty, e1, e2, e3, snum_bad (s := u) (st := ⟨a3, cd3⟩) hc3, sname_bad (s := u) (st := ⟨a3, cd3⟩) hc3, skind_bad (s := u) (st := ⟨a3, cd3⟩) hc3, sflag_bad (s := u) (st := ⟨a3, cd3⟩) hc3, sinstrs_bad (s := u) (st := ⟨a3, cd3⟩) hc3, skinds_bad (s := u) (st := ⟨a3, cd3⟩) hc3, snums_bad (s := u) (st := ⟨a3, cd3⟩) hc3, sbyte_bad (s := u) (st := ⟨a3, cd3⟩) hc3, slim_bad (s := u) (st := ⟨a3, cd3⟩) hc3, smust_bad (s := u) (st := ⟨a3, cd3⟩) hc3, snil_bad (st := ⟨a3, cd3⟩) hc3, sover_bad (st := ⟨a3, cd3⟩) hc3, sbytes_bad (s := u) (st := ⟨a3, cd3⟩) hc3, sclose_bad (st := ⟨a3, cd3⟩) hc3, slocs2_bad (s := u) (st := ⟨a3, cd3⟩) hc3]
  obtain rfl : cd3 = 0 := hc3
  obtain ⟨A3, k3, rfl, T3⟩ := hy3
  replace T3 : Hid _ := T3
  have D3 : Hid (Ds q b w w3 v a3) := D2.out.trans G3
  have E3 : Hid (Wr (· = q) (w.alloc (.cells #[.slice none 0 0, .slice none 0 0] 63)) w3) := E2.out.trans G3.1
  replace G3 : Hid _ := G3
  have z3 : w.heap.size + 1 ≤ w3.heap.size := Nat.le_trans z2 (Ds.size G3.out)
  have rp := E3.out.row (by show ¬ w.heap.size = q; omega) hp.out
  have k0' : w3.cell? ⟨w.heap.size, 0, none⟩ = some (.slice none 0 0) := rp.cell (i := 0) (by decide)
  have g0' := rp.frozen 0
  have k1' : w3.cell? ⟨w.heap.size, 1, none⟩ = some (.slice none 0 0) := rp.cell (i := 1) (by decide)
  have g1' := rp.frozen 1
  have hlt := cell_lt k0'
  clear rp hp
  have hr2 : sty u ⟨a0, 0⟩ = r := hr.out
  have e1 := e1.out
  have e2 := e2.out
  have e3 := e3.out
  simp only [sty, e1, e2, e3] at hr2
  replace hr2 : Hid (_ = r) := hr2
  clear hr e1 e2 e3
  go_wp2_with fail
  rw [← hr2.out]
  refine bodyPost_ret (v := .agg #[.slice A2 x2.length k2, .slice A3 x3.length k3]) (by simp [results, Try.results30, go_sem, k0', k1', hlt]) rfl (Got.ok rfl ?_ (((D3.out).put (Nat.le_refl _) hq 0 _).put (Nat.le_refl _) hq 1 _))
  exact ⟨[.slice A2 x2.length k2, .slice A3 x3.length k3], rfl, ⟨_, _, rfl, (fdc.move (x := fL x2) (fun k hk hl => zfof hk (by have hk : w1.heap.size ≤ k := hk.1; show w.heap.size ≤ k; omega) (Wr.block (Wr.low (Wr.low ((Wr.refl (fun j => j < w1.heap.size) w2).trans (Wr.mono (And.left G3.out) (fun k _ e => by have e : k = q := e; show k < w1.heap.size; omega))) 0 _ (by omega)) 1 _ (by omega)) k hl (by have hk : w1.heap.size ≤ k := hk.1; show ¬ k < w1.heap.size; omega))) ⟨A2, k2, rfl, Rt.lq T2.out⟩), ⟨_, _, rfl, (fdc.move (x := fL x3) (fun k hk hl => zfof hk (by have hk : w2.heap.size ≤ k := hk.1; show w.heap.size ≤ k; omega) (Wr.block (Wr.low (Wr.low (Wr.refl (fun j => j < w2.heap.size) w3) 0 _ (by omega)) 1 _ (by omega)) k hl (by have hk : w2.heap.size ≤ k := hk.1; show ¬ k < w2.heap.size; omega))) ⟨A3, k3, rfl, Rt.lq T3.out⟩), rfl⟩⟩⟩
theorem global_any (hv : v.size < 9223372036854775000) (hS : Shf b v u) (hc : st.code = 0) (hin : Sin u st) (w : World) (h : w.rowIs q 82 2 (dF v b st.at_)) :
    Calls Try.prog 39 #[.pointer (some ⟨q, 0, none⟩)] w (Got q b w v (pS fGl w.heap.size) (sglo u st)) := by
  have hq := h.lt
  obtain ⟨a0, cd0⟩ := st
  obtain rfl : cd0 = 0 := hc
  have i0 : Sin u ⟨a0, 0⟩ := hin
  generalize hr : sglo u ⟨a0, 0⟩ = r
  obtain ⟨x1, ⟨a1, cd1⟩, e1⟩ : ∃ x s, skind u ⟨a0, 0⟩ = (x, s) := ⟨_, _, rfl⟩
  have i1 : Sin u ⟨a1, cd1⟩ := by have t := skind_in i0; rwa [e1] at t
  have H1 : Hid (∀ W : World, (0 : Int) = 0 → W.rowIs q 82 2 (dF v b a0) → Calls Try.prog 53 #[.pointer (some ⟨q, 0, none⟩)] W (Got q b W v (pN) (x1, ⟨a1, cd1⟩))) := fun W hc hW => by
    have t := vtype_any hv hS (st := ⟨a0, 0⟩) hc i0 W hW
    rwa [e1] at t
  obtain ⟨x2, ⟨a2, cd2⟩, e2⟩ : ∃ x s, sflag u ⟨a1, cd1⟩ = (x, s) := ⟨_, _, rfl⟩
  have i2 : Sin u ⟨a2, cd2⟩ := by have t := sflag_in i1; rwa [e2] at t
  have H2 : Hid (∀ W : World, (cd1 : Int) = 0 → W.rowIs q 82 2 (dF v b a1) → Calls Try.prog 55 #[.pointer (some ⟨q, 0, none⟩)] W (Got q b W v (pB) (x2, ⟨a2, cd2⟩))) := fun W hc hW => by
    have t := flag_any hv hS (st := ⟨a1, cd1⟩) hc i1 W hW
    rwa [e2] at t
  obtain ⟨x3, ⟨a3, cd3⟩, e3⟩ : ∃ x s, sinstrs u ⟨a2, cd2⟩ = (x, s) := ⟨_, _, rfl⟩
  have i3 : Sin u ⟨a3, cd3⟩ := by have t := sinstrs_in i2; rwa [e3] at t
  have H3 : Hid (∀ W : World, (cd2 : Int) = 0 → W.rowIs q 82 2 (dF v b a2) → Calls Try.prog 56 #[.pointer (some ⟨q, 0, none⟩)] W (Got q b W v (pI W.heap.size) (x3, ⟨a3, cd3⟩))) := fun W hc hW => by
    have t := instrs_any hv hS (st := ⟨a2, cd2⟩) hc i2 W hW
    rwa [e3] at t
  replace e1 : Hid (skind u ⟨a0, 0⟩ = (x1, ⟨a1, cd1⟩)) := e1
  replace e2 : Hid (sflag u ⟨a1, cd1⟩ = (x2, ⟨a2, cd2⟩)) := e2
  replace e3 : Hid (sinstrs u ⟨a2, cd2⟩ = (x3, ⟨a3, cd3⟩)) := e3
  replace hr : Hid (sglo u ⟨a0, 0⟩ = r) := hr
  have hp : Hid ((w.alloc (.cells #[.int .i64 0, .bool false, .slice none 0 0] 51)).rowIs w.heap.size 51 3 (fun j => [.int .i64 0, .bool false, .slice none 0 0].getD j undef)) := row_new w 51 [.int .i64 0, .bool false, .slice none 0 0]
  have D0 : Hid (Ds q b w (w.alloc (.cells #[.int .i64 0, .bool false, .slice none 0 0] 51)) v a0) := (Ds.start h).later (La (Lz _))
  have E0 : Hid (Wr (· = q) (w.alloc (.cells #[.int .i64 0, .bool false, .slice none 0 0] 51)) (w.alloc (.cells #[.int .i64 0, .bool false, .slice none 0 0] 51))) := Wr.refl _ _
  have z0 : w.heap.size + 1 ≤ (w.alloc (.cells #[.int .i64 0, .bool false, .slice none 0 0] 51)).heap.size := by simp
  clear h hin hS hv i0 i1 i2 i3
  go_enter Try.func39, Try.ntmps39
  go_wp2_with fail
  refine (H1.out _ (by first | rfl | trivial) D0.out.2).mono ?_
  clear H1
  rintro e w1 (⟨hc1, ⟨y1, rfl, hy1⟩, G1⟩ | ⟨hc1, rfl, V1⟩)
  rotate_left
  · replace hc1 : ¬ cd1 = 0 := hc1
    refine ⟨rfl, Got.bad hc1 ?_ (D0.out.1.trans V1)⟩
    rw [← hr.out]
    have e1 := e1.out
    simp only [sglo, e1, snum_bad (s := u) (st := ⟨a1, cd1⟩) hc1, sname_bad (s := u) (st := ⟨a1, cd1⟩) hc1, skind_bad (s := u) (st := ⟨a1, cd1⟩) hc1, sflag_bad (s := u) (st := ⟨a1, cd1⟩) hc1, sinstrs_bad (s := u) (st := ⟨a1, cd1⟩) hc1, skinds_bad (s := u) (st := ⟨a1, cd1⟩) hc1, snums_bad (s := u) (st := ⟨a1, cd1⟩) hc1, sbyte_bad (s := u) (st := ⟨a1, cd1⟩) hc1, slim_bad (s := u) (st := ⟨a1, cd1⟩) hc1, smust_bad (s := u) (st := ⟨a1, cd1⟩) hc1, snil_bad (st := ⟨a1, cd1⟩) hc1, sover_bad (st := ⟨a1, cd1⟩) hc1, sbytes_bad (s := u) (st := ⟨a1, cd1⟩) hc1, sclose_bad (st := ⟨a1, cd1⟩) hc1, slocs2_bad (s := u) (st := ⟨a1, cd1⟩) hc1]
  obtain rfl : cd1 = 0 := hc1
  obtain rfl : y1 = .int .i64 x1 := hy1
  have D1 : Hid (Ds q b w w1 v a1) := D0.out.trans G1
  have E1 : Hid (Wr (· = q) (w.alloc (.cells #[.int .i64 0, .bool false, .slice none 0 0] 51)) w1) := E0.out.trans G1.1
  replace G1 : Hid _ := G1
  have z1 : w.heap.size + 1 ≤ w1.heap.size := Nat.le_trans z0 (Ds.size G1.out)
  go_wp2_with fail
  refine (H2.out _ (by first | rfl | trivial) D1.out.2).mono ?_
  clear H2
  rintro e w2 (⟨hc2, ⟨y2, rfl, hy2⟩, G2⟩ | ⟨hc2, rfl, V2⟩)
  rotate_left
  · replace hc2 : ¬ cd2 = 0 := hc2
    refine ⟨rfl, Got.bad hc2 ?_ (D1.out.1.trans V2)⟩
    rw [← hr.out]
    have e1 := e1.out
    have e2 := e2.out
    simp only [sglo, e1, e2, snum_bad (s := u) (st := ⟨a2, cd2⟩) hc2, sname_bad (s := u) (st := ⟨a2, cd2⟩) hc2, skind_bad (s := u) (st := ⟨a2, cd2⟩) hc2, sflag_bad (s := u) (st := ⟨a2, cd2⟩) hc2, sinstrs_bad (s := u) (st := ⟨a2, cd2⟩) hc2, skinds_bad (s := u) (st := ⟨a2, cd2⟩) hc2, snums_bad (s := u) (st := ⟨a2, cd2⟩) hc2, sbyte_bad (s := u) (st := ⟨a2, cd2⟩) hc2, slim_bad (s := u) (st := ⟨a2, cd2⟩) hc2, smust_bad (s := u) (st := ⟨a2, cd2⟩) hc2, snil_bad (st := ⟨a2, cd2⟩) hc2, sover_bad (st := ⟨a2, cd2⟩) hc2, sbytes_bad (s := u) (st := ⟨a2, cd2⟩) hc2, sclose_bad (st := ⟨a2, cd2⟩) hc2, slocs2_bad (s := u) (st := ⟨a2, cd2⟩) hc2]
  obtain rfl : cd2 = 0 := hc2
  obtain rfl : y2 = .bool x2 := hy2
  have D2 : Hid (Ds q b w w2 v a2) := D1.out.trans G2
  have E2 : Hid (Wr (· = q) (w.alloc (.cells #[.int .i64 0, .bool false, .slice none 0 0] 51)) w2) := E1.out.trans G2.1
  replace G2 : Hid _ := G2
  have z2 : w.heap.size + 1 ≤ w2.heap.size := Nat.le_trans z1 (Ds.size G2.out)
  go_wp2_with fail
  refine (H3.out _ (by first | rfl | trivial) D2.out.2).mono ?_
  clear H3
  rintro e w3 (⟨hc3, ⟨y3, rfl, hy3⟩, G3⟩ | ⟨hc3, rfl, V3⟩)
  rotate_left
  · replace hc3 : ¬ cd3 = 0 := hc3
    refine ⟨rfl, Got.bad hc3 ?_ (D2.out.1.trans V3)⟩
    rw [← hr.out]
    have e1 := e1.out
    have e2 := e2.out
    have e3 := e3.out
    simp only [sglo, e1, e2, e3, snum_bad (s := u) (st := ⟨a3, cd3⟩) hc3, sname_bad (s := u) (st := ⟨a3, cd3⟩) hc3, skind_bad (s := u) (st := ⟨a3, cd3⟩) hc3, sflag_bad (s := u) (st := ⟨a3, cd3⟩) hc3, sinstrs_bad (s := u) (st := ⟨a3, cd3⟩) hc3, skinds_bad (s := u) (st := ⟨a3, cd3⟩) hc3, snums_bad (s := u) (st := ⟨a3, cd3⟩) hc3, sbyte_bad (s := u) (st := ⟨a3, cd3⟩) hc3, slim_bad (s := u) (st := ⟨a3, cd3⟩) hc3, smust_bad (s := u) (st := ⟨a3, cd3⟩) hc3, snil_bad (st := ⟨a3, cd3⟩) hc3, sover_bad (st := ⟨a3, cd3⟩) hc3, sbytes_bad (s := u) (st := ⟨a3, cd3⟩) hc3, sclose_bad (st := ⟨a3, cd3⟩) hc3, slocs2_bad (s := u) (st := ⟨a3, cd3⟩) hc3]
  obtain rfl : cd3 = 0 := hc3
  obtain ⟨A3, k3, rfl, T3⟩ := hy3
  replace T3 : Hid _ := T3
  have D3 : Hid (Ds q b w w3 v a3) := D2.out.trans G3
  have E3 : Hid (Wr (· = q) (w.alloc (.cells #[.int .i64 0, .bool false, .slice none 0 0] 51)) w3) := E2.out.trans G3.1
  replace G3 : Hid _ := G3
  have z3 : w.heap.size + 1 ≤ w3.heap.size := Nat.le_trans z2 (Ds.size G3.out)
  have rp := E3.out.row (by show ¬ w.heap.size = q; omega) hp.out
  have k0' : w3.cell? ⟨w.heap.size, 0, none⟩ = some (.int .i64 0) := rp.cell (i := 0) (by decide)
  have g0' := rp.frozen 0
  have k1' : w3.cell? ⟨w.heap.size, 1, none⟩ = some (.bool false) := rp.cell (i := 1) (by decide)
  have g1' := rp.frozen 1
  have k2' : w3.cell? ⟨w.heap.size, 2, none⟩ = some (.slice none 0 0) := rp.cell (i := 2) (by decide)
  have g2' := rp.frozen 2
  have hlt := cell_lt k0'
  clear rp hp
  have hr2 : sglo u ⟨a0, 0⟩ = r := hr.out
  have e1 := e1.out
  have e2 := e2.out
  have e3 := e3.out
  simp only [sglo, e1, e2, e3] at hr2
  replace hr2 : Hid (_ = r) := hr2
  clear hr e1 e2 e3
  go_wp2_with fail
  rw [← hr2.out]
  refine bodyPost_ret (v := .agg #[.int .i64 x1, .bool x2, .slice A3 x3.len k3]) (by simp [results, Try.results39, go_sem, k0', k1', k2', hlt]) rfl (Got.ok rfl ?_ ((((D3.out).put (Nat.le_refl _) hq 0 _).put (Nat.le_refl _) hq 1 _).put (Nat.le_refl _) hq 2 _))
  exact ⟨[.int .i64 x1, .bool x2, .slice A3 x3.len k3], rfl, ⟨_, _, rfl, rfl, ⟨_, _, rfl, rfl, ⟨_, _, rfl, (fdc.move (x := fI x3) (fun k hk hl => zfof hk (by have hk : w2.heap.size ≤ k := hk.1; show w.heap.size ≤ k; omega) (Wr.block (Wr.low (Wr.low (Wr.low (Wr.refl (fun j => j < w2.heap.size) w3) 0 _ (by omega)) 1 _ (by omega)) 2 _ (by omega)) k hl (by have hk : w2.heap.size ≤ k := hk.1; show ¬ k < w2.heap.size; omega))) ⟨A3, k3, rfl, T3.out⟩), rfl⟩⟩⟩⟩
theorem export_any (hv : v.size < 9223372036854775000) (hS : Shf b v u) (hc : st.code = 0) (hin : Sin u st) (w : World) (h : w.rowIs q 82 2 (dF v b st.at_)) :
    Calls Try.prog 41 #[.pointer (some ⟨q, 0, none⟩)] w (Got q b w v (pS fEx w.heap.size) (sexp u st)) := by
  have hq := h.lt
  obtain ⟨a0, cd0⟩ := st
  obtain rfl : cd0 = 0 := hc
  have i0 : Sin u ⟨a0, 0⟩ := hin
  generalize hr : sexp u ⟨a0, 0⟩ = r
  obtain ⟨x1, ⟨a1, cd1⟩, e1⟩ : ∃ x s, sname u ⟨a0, 0⟩ = (x, s) := ⟨_, _, rfl⟩
  have i1 : Sin u ⟨a1, cd1⟩ := by have t := sname_in i0; rwa [e1] at t
  have H1 : Hid (∀ W : World, (0 : Int) = 0 → W.rowIs q 82 2 (dF v b a0) → Calls Try.prog 50 #[.pointer (some ⟨q, 0, none⟩)] W (Got q b W v (pT) (x1, ⟨a1, cd1⟩))) := fun W hc hW => by
    have t := name_any hv hS (st := ⟨a0, 0⟩) hc i0 W hW
    rwa [e1] at t
  obtain ⟨x2, sb2, d2⟩ : ∃ x s, sbyte u ⟨a1, cd1⟩ = (x, s) := ⟨_, _, rfl⟩
  obtain ⟨⟨a2, cd2⟩, e2⟩ : ∃ s, sover x2 sb2 = s := ⟨_, rfl⟩
  have i2 : Sin u ⟨a2, cd2⟩ := by have t := sover_in (x := x2) (sbyte_in i1); rwa [d2, e2] at t
  have H2 : Hid (∀ W : World, (cd1 : Int) = 0 → W.rowIs q 82 2 (dF v b a1) → Calls Try.prog 54 #[.pointer (some ⟨q, 0, none⟩)] W (Got q b W v (pN) (x2, ⟨a2, cd2⟩))) := fun W hc hW => by
    have t := kind_any hv hS (st := ⟨a1, cd1⟩) hc i1 W hW
    rwa [d2, e2] at t
  obtain ⟨x3, ⟨a3, cd3⟩, e3⟩ : ∃ x s, snum u ⟨a2, cd2⟩ = (x, s) := ⟨_, _, rfl⟩
  have i3 : Sin u ⟨a3, cd3⟩ := by have t := snum_in i2; rwa [e3] at t
  have H3 : Hid (∀ W : World, (cd2 : Int) = 0 → W.rowIs q 82 2 (dF v b a2) → Calls Try.prog 34 #[.pointer (some ⟨q, 0, none⟩)] W (Got q b W v (pN) (x3, ⟨a3, cd3⟩))) := fun W hc hW => by
    have t := number_any hv hS (st := ⟨a2, cd2⟩) hc i2 W hW
    rwa [e3] at t
  replace e1 : Hid (sname u ⟨a0, 0⟩ = (x1, ⟨a1, cd1⟩)) := e1
  replace d2 : Hid (sbyte u ⟨a1, cd1⟩ = (x2, sb2)) := d2
  replace e2 : Hid (sover x2 sb2 = ⟨a2, cd2⟩) := e2
  replace e3 : Hid (snum u ⟨a2, cd2⟩ = (x3, ⟨a3, cd3⟩)) := e3
  replace hr : Hid (sexp u ⟨a0, 0⟩ = r) := hr
  have hp : Hid ((w.alloc (.cells #[.string ⟨#[]⟩, .int .i64 0, .int .i64 0] 54)).rowIs w.heap.size 54 3 (fun j => [.string ⟨#[]⟩, .int .i64 0, .int .i64 0].getD j undef)) := row_new w 54 [.string ⟨#[]⟩, .int .i64 0, .int .i64 0]
  have D0 : Hid (Ds q b w (w.alloc (.cells #[.string ⟨#[]⟩, .int .i64 0, .int .i64 0] 54)) v a0) := (Ds.start h).later (La (Lz _))
  have E0 : Hid (Wr (· = q) (w.alloc (.cells #[.string ⟨#[]⟩, .int .i64 0, .int .i64 0] 54)) (w.alloc (.cells #[.string ⟨#[]⟩, .int .i64 0, .int .i64 0] 54))) := Wr.refl _ _
  have z0 : w.heap.size + 1 ≤ (w.alloc (.cells #[.string ⟨#[]⟩, .int .i64 0, .int .i64 0] 54)).heap.size := by simp
  clear h hin hS hv i0 i1 i2 i3
  go_enter Try.func41, Try.ntmps41
  go_wp2_with fail
  refine (H1.out _ (by first | rfl | trivial) D0.out.2).mono ?_
  clear H1
  rintro e w1 (⟨hc1, ⟨y1, rfl, hy1⟩, G1⟩ | ⟨hc1, rfl, V1⟩)
  rotate_left
  · replace hc1 : ¬ cd1 = 0 := hc1
    refine ⟨rfl, Got.bad hc1 ?_ (D0.out.1.trans V1)⟩
    rw [← hr.out]
    have e1 := e1.out
    simp only [sexp, e1, snum_bad (s := u) (st := ⟨a1, cd1⟩) hc1, sname_bad (s := u) (st := ⟨a1, cd1⟩) hc1, skind_bad (s := u) (st := ⟨a1, cd1⟩) hc1, sflag_bad (s := u) (st := ⟨a1, cd1⟩) hc1, sinstrs_bad (s := u) (st := ⟨a1, cd1⟩) hc1, skinds_bad (s := u) (st := ⟨a1, cd1⟩) hc1, snums_bad (s := u) (st := ⟨a1, cd1⟩) hc1, sbyte_bad (s := u) (st := ⟨a1, cd1⟩) hc1, slim_bad (s := u) (st := ⟨a1, cd1⟩) hc1, smust_bad (s := u) (st := ⟨a1, cd1⟩) hc1, snil_bad (st := ⟨a1, cd1⟩) hc1, sover_bad (st := ⟨a1, cd1⟩) hc1, sbytes_bad (s := u) (st := ⟨a1, cd1⟩) hc1, sclose_bad (st := ⟨a1, cd1⟩) hc1, slocs2_bad (s := u) (st := ⟨a1, cd1⟩) hc1]
  obtain rfl : cd1 = 0 := hc1
  obtain rfl : y1 = .string x1 := hy1
  have D1 : Hid (Ds q b w w1 v a1) := D0.out.trans G1
  have E1 : Hid (Wr (· = q) (w.alloc (.cells #[.string ⟨#[]⟩, .int .i64 0, .int .i64 0] 54)) w1) := E0.out.trans G1.1
  replace G1 : Hid _ := G1
  have z1 : w.heap.size + 1 ≤ w1.heap.size := Nat.le_trans z0 (Ds.size G1.out)
  go_wp2_with fail
  refine (H2.out _ (by first | rfl | trivial) D1.out.2).mono ?_
  clear H2
  rintro e w2 (⟨hc2, ⟨y2, rfl, hy2⟩, G2⟩ | ⟨hc2, rfl, V2⟩)
  rotate_left
  · replace hc2 : ¬ cd2 = 0 := hc2
    refine ⟨rfl, Got.bad hc2 ?_ (D1.out.1.trans V2)⟩
    rw [← hr.out]
    have e1 := e1.out
    have d2 := d2.out
    have e2 := e2.out
    simp only [sexp, e1, d2, e2, snum_bad (s := u) (st := ⟨a2, cd2⟩) hc2, sname_bad (s := u) (st := ⟨a2, cd2⟩) hc2, skind_bad (s := u) (st := ⟨a2, cd2⟩) hc2, sflag_bad (s := u) (st := ⟨a2, cd2⟩) hc2, sinstrs_bad (s := u) (st := ⟨a2, cd2⟩) hc2, skinds_bad (s := u) (st := ⟨a2, cd2⟩) hc2, snums_bad (s := u) (st := ⟨a2, cd2⟩) hc2, sbyte_bad (s := u) (st := ⟨a2, cd2⟩) hc2, slim_bad (s := u) (st := ⟨a2, cd2⟩) hc2, smust_bad (s := u) (st := ⟨a2, cd2⟩) hc2, snil_bad (st := ⟨a2, cd2⟩) hc2, sover_bad (st := ⟨a2, cd2⟩) hc2, sbytes_bad (s := u) (st := ⟨a2, cd2⟩) hc2, sclose_bad (st := ⟨a2, cd2⟩) hc2, slocs2_bad (s := u) (st := ⟨a2, cd2⟩) hc2]
  obtain rfl : cd2 = 0 := hc2
  obtain rfl : y2 = .int .i64 x2 := hy2
  have D2 : Hid (Ds q b w w2 v a2) := D1.out.trans G2
  have E2 : Hid (Wr (· = q) (w.alloc (.cells #[.string ⟨#[]⟩, .int .i64 0, .int .i64 0] 54)) w2) := E1.out.trans G2.1
  replace G2 : Hid _ := G2
  have z2 : w.heap.size + 1 ≤ w2.heap.size := Nat.le_trans z1 (Ds.size G2.out)
  go_wp2_with fail
  refine (H3.out _ (by first | rfl | trivial) D2.out.2).mono ?_
  clear H3
  rintro e w3 (⟨hc3, ⟨y3, rfl, hy3⟩, G3⟩ | ⟨hc3, rfl, V3⟩)
  rotate_left
  · replace hc3 : ¬ cd3 = 0 := hc3
    refine ⟨rfl, Got.bad hc3 ?_ (D2.out.1.trans V3)⟩
    rw [← hr.out]
    have e1 := e1.out
    have d2 := d2.out
    have e2 := e2.out
    have e3 := e3.out
    simp only [sexp, e1, d2, e2, e3, snum_bad (s := u) (st := ⟨a3, cd3⟩) hc3, sname_bad (s := u) (st := ⟨a3, cd3⟩) hc3, skind_bad (s := u) (st := ⟨a3, cd3⟩) hc3, sflag_bad (s := u) (st := ⟨a3, cd3⟩) hc3, sinstrs_bad (s := u) (st := ⟨a3, cd3⟩) hc3, skinds_bad (s := u) (st := ⟨a3, cd3⟩) hc3, snums_bad (s := u) (st := ⟨a3, cd3⟩) hc3, sbyte_bad (s := u) (st := ⟨a3, cd3⟩) hc3, slim_bad (s := u) (st := ⟨a3, cd3⟩) hc3, smust_bad (s := u) (st := ⟨a3, cd3⟩) hc3, snil_bad (st := ⟨a3, cd3⟩) hc3, sover_bad (st := ⟨a3, cd3⟩) hc3, sbytes_bad (s := u) (st := ⟨a3, cd3⟩) hc3, sclose_bad (st := ⟨a3, cd3⟩) hc3, slocs2_bad (s := u) (st := ⟨a3, cd3⟩) hc3]
  obtain rfl : cd3 = 0 := hc3
  obtain rfl : y3 = .int .i64 x3 := hy3
  have D3 : Hid (Ds q b w w3 v a3) := D2.out.trans G3
  have E3 : Hid (Wr (· = q) (w.alloc (.cells #[.string ⟨#[]⟩, .int .i64 0, .int .i64 0] 54)) w3) := E2.out.trans G3.1
  replace G3 : Hid _ := G3
  have z3 : w.heap.size + 1 ≤ w3.heap.size := Nat.le_trans z2 (Ds.size G3.out)
  have rp := E3.out.row (by show ¬ w.heap.size = q; omega) hp.out
  have k0' : w3.cell? ⟨w.heap.size, 0, none⟩ = some (.string ⟨#[]⟩) := rp.cell (i := 0) (by decide)
  have g0' := rp.frozen 0
  have k1' : w3.cell? ⟨w.heap.size, 1, none⟩ = some (.int .i64 0) := rp.cell (i := 1) (by decide)
  have g1' := rp.frozen 1
  have k2' : w3.cell? ⟨w.heap.size, 2, none⟩ = some (.int .i64 0) := rp.cell (i := 2) (by decide)
  have g2' := rp.frozen 2
  have hlt := cell_lt k0'
  clear rp hp
  have hr2 : sexp u ⟨a0, 0⟩ = r := hr.out
  have e1 := e1.out
  have d2 := d2.out
  have e2 := e2.out
  have e3 := e3.out
  simp only [sexp, e1, d2, e2, e3] at hr2
  replace hr2 : Hid (_ = r) := hr2
  clear hr e1 d2 e2 e3
  go_wp2_with fail
  rw [← hr2.out]
  refine bodyPost_ret (v := .agg #[.string x1, .int .i64 x2, .int .i64 x3]) (by simp [results, Try.results41, go_sem, k0', k1', k2', hlt]) rfl (Got.ok rfl ?_ ((((D3.out).put (Nat.le_refl _) hq 0 _).put (Nat.le_refl _) hq 1 _).put (Nat.le_refl _) hq 2 _))
  exact ⟨[.string x1, .int .i64 x2, .int .i64 x3], rfl, ⟨_, _, rfl, rfl, ⟨_, _, rfl, rfl, ⟨_, _, rfl, rfl, rfl⟩⟩⟩⟩
theorem elem_any (hv : v.size < 9223372036854775000) (hS : Shf b v u) (hc : st.code = 0) (hin : Sin u st) (w : World) (h : w.rowIs q 82 2 (dF v b st.at_)) :
    Calls Try.prog 43 #[.pointer (some ⟨q, 0, none⟩)] w (Got q b w v (pS fEl w.heap.size) (selm u st)) := by
  have hq := h.lt
  have hmf : ∀ (fn : Fn) (first cap : Array Value) (w : World), (Instr.makeFunc fn first cap).run Try.prog w = .ok (.func fn first cap) w := fun _ _ _ _ => rfl
  obtain ⟨a0, cd0⟩ := st
  obtain rfl : cd0 = 0 := hc
  have i0 : Sin u ⟨a0, 0⟩ := hin
  generalize hr : selm u ⟨a0, 0⟩ = r
  obtain ⟨n1, sb1, d1⟩ : ∃ x s, snum u ⟨a0, 0⟩ = (x, s) := ⟨_, _, rfl⟩
  obtain ⟨⟨a1, cd1⟩, e1⟩ : ∃ s, snil n1 sb1 = s := ⟨_, rfl⟩
  have i1 : Sin u ⟨a1, cd1⟩ := by have t := snil_in (x := n1) (snum_in i0); rwa [d1, e1] at t
  have H1 : Hid (∀ W : World, (0 : Int) = 0 → W.rowIs q 82 2 (dF v b a0) → Calls Try.prog 57 #[.pointer (some ⟨q, 0, none⟩)] W (Got q b W v (pU) ((), ⟨a1, cd1⟩))) := fun W hc hW => by
    have t := (show Calls Try.prog 57 #[.pointer (some ⟨q, 0, none⟩)] W (Got q b W v (pU) ((), snil (snum u ⟨a0, 0⟩).1 (snum u ⟨a0, 0⟩).2)) from zero_any hv hS (st := ⟨a0, 0⟩) hc i0 W hW)
    rwa [d1, e1] at t
  obtain ⟨x2, ⟨a2, cd2⟩, e2⟩ : ∃ x s, sinstrs u ⟨a1, cd1⟩ = (x, s) := ⟨_, _, rfl⟩
  have i2 : Sin u ⟨a2, cd2⟩ := by have t := sinstrs_in i1; rwa [e2] at t
  have H2 : Hid (∀ W : World, (cd1 : Int) = 0 → W.rowIs q 82 2 (dF v b a1) → Calls Try.prog 56 #[.pointer (some ⟨q, 0, none⟩)] W (Got q b W v (pI W.heap.size) (x2, ⟨a2, cd2⟩))) := fun W hc hW => by
    have t := instrs_any hv hS (st := ⟨a1, cd1⟩) hc i1 W hW
    rwa [e2] at t
  obtain ⟨x3, ⟨a3, cd3⟩, e3⟩ : ∃ x s, snums u ⟨a2, cd2⟩ = (x, s) := ⟨_, _, rfl⟩
  have i3 : Sin u ⟨a3, cd3⟩ := by have t := snums_in i2; rwa [e3] at t
  have H3 : Hid (∀ W : World, (cd2 : Int) = 0 → W.rowIs q 82 2 (dF v b a2) → Calls Try.prog 33 #[.pointer (some ⟨q, 0, none⟩), .int .i64 1024, .func (.func 34) #[.pointer (some ⟨q, 0, none⟩)] #[]] W (Got q b W v (pR f1 W.heap.size) (x3, ⟨a3, cd3⟩))) := fun W hc hW => by
    have t := (show Calls Try.prog 33 #[.pointer (some ⟨q, 0, none⟩), .int .i64 1024, .func (.func 34) #[.pointer (some ⟨q, 0, none⟩)] #[]] W (Got q b W v (pR f1 W.heap.size) (snums u ⟨a2, cd2⟩)) from nums_any 1024 (by decide) hv hS (st := ⟨a2, cd2⟩) hc i2 W hW)
    rwa [e3] at t
  replace d1 : Hid (snum u ⟨a0, 0⟩ = (n1, sb1)) := d1
  replace e1 : Hid (snil n1 sb1 = ⟨a1, cd1⟩) := e1
  replace e2 : Hid (sinstrs u ⟨a1, cd1⟩ = (x2, ⟨a2, cd2⟩)) := e2
  replace e3 : Hid (snums u ⟨a2, cd2⟩ = (x3, ⟨a3, cd3⟩)) := e3
  replace hr : Hid (selm u ⟨a0, 0⟩ = r) := hr
  have hp : Hid ((w.alloc (.cells #[.slice none 0 0, .slice none 0 0] 56)).rowIs w.heap.size 56 2 (fun j => [.slice none 0 0, .slice none 0 0].getD j undef)) := row_new w 56 [.slice none 0 0, .slice none 0 0]
  have D0 : Hid (Ds q b w (w.alloc (.cells #[.slice none 0 0, .slice none 0 0] 56)) v a0) := (Ds.start h).later (La (Lz _))
  have E0 : Hid (Wr (· = q) (w.alloc (.cells #[.slice none 0 0, .slice none 0 0] 56)) (w.alloc (.cells #[.slice none 0 0, .slice none 0 0] 56))) := Wr.refl _ _
  have z0 : w.heap.size + 1 ≤ (w.alloc (.cells #[.slice none 0 0, .slice none 0 0] 56)).heap.size := by simp
  clear h hin hS hv i0 i1 i2 i3
  go_enter Try.func43, Try.ntmps43
  go_wp2_with fail
  refine (H1.out _ (by first | rfl | trivial) D0.out.2).mono ?_
  clear H1
  rintro e w1 (⟨hc1, ⟨y1, rfl, hy1⟩, G1⟩ | ⟨hc1, rfl, V1⟩)
  rotate_left
  · replace hc1 : ¬ cd1 = 0 := hc1
    refine ⟨rfl, Got.bad hc1 ?_ (D0.out.1.trans V1)⟩
    rw [← hr.out]
    have d1 := d1.out
    have e1 := e1.out
    simp only [selm, d1, e1, snum_bad (s := u) (st := ⟨a1, cd1⟩) hc1, sname_bad (s := u) (st := ⟨a1, cd1⟩) hc1, skind_bad (s := u) (st := ⟨a1, cd1⟩) hc1, sflag_bad (s := u) (st := ⟨a1, cd1⟩) hc1, sinstrs_bad (s := u) (st := ⟨a1, cd1⟩) hc1, skinds_bad (s := u) (st := ⟨a1, cd1⟩) hc1, snums_bad (s := u) (st := ⟨a1, cd1⟩) hc1, sbyte_bad (s := u) (st := ⟨a1, cd1⟩) hc1, slim_bad (s := u) (st := ⟨a1, cd1⟩) hc1, smust_bad (s := u) (st := ⟨a1, cd1⟩) hc1, snil_bad (st := ⟨a1, cd1⟩) hc1, sover_bad (st := ⟨a1, cd1⟩) hc1, sbytes_bad (s := u) (st := ⟨a1, cd1⟩) hc1, sclose_bad (st := ⟨a1, cd1⟩) hc1, slocs2_bad (s := u) (st := ⟨a1, cd1⟩) hc1]
  obtain rfl : cd1 = 0 := hc1
  obtain rfl : y1 = .tuple #[] := hy1
  have D1 : Hid (Ds q b w w1 v a1) := D0.out.trans G1
  have E1 : Hid (Wr (· = q) (w.alloc (.cells #[.slice none 0 0, .slice none 0 0] 56)) w1) := E0.out.trans G1.1
  replace G1 : Hid _ := G1
  have z1 : w.heap.size + 1 ≤ w1.heap.size := Nat.le_trans z0 (Ds.size G1.out)
  go_wp2_with fail
  refine (H2.out _ (by first | rfl | trivial) D1.out.2).mono ?_
  clear H2
  rintro e w2 (⟨hc2, ⟨y2, rfl, hy2⟩, G2⟩ | ⟨hc2, rfl, V2⟩)
  rotate_left
  · replace hc2 : ¬ cd2 = 0 := hc2
    refine ⟨rfl, Got.bad hc2 ?_ (D1.out.1.trans V2)⟩
    rw [← hr.out]
    have d1 := d1.out
    have e1 := e1.out
    have e2 := e2.out
    simp only [selm, d1, e1, e2, snum_bad (s := u) (st := ⟨a2, cd2⟩) hc2, sname_bad (s := u) (st := ⟨a2, cd2⟩) hc2, skind_bad (s := u) (st := ⟨a2, cd2⟩) hc2, sflag_bad (s := u) (st := ⟨a2, cd2⟩) hc2, sinstrs_bad (s := u) (st := ⟨a2, cd2⟩) hc2, skinds_bad (s := u) (st := ⟨a2, cd2⟩) hc2, snums_bad (s := u) (st := ⟨a2, cd2⟩) hc2, sbyte_bad (s := u) (st := ⟨a2, cd2⟩) hc2, slim_bad (s := u) (st := ⟨a2, cd2⟩) hc2, smust_bad (s := u) (st := ⟨a2, cd2⟩) hc2, snil_bad (st := ⟨a2, cd2⟩) hc2, sover_bad (st := ⟨a2, cd2⟩) hc2, sbytes_bad (s := u) (st := ⟨a2, cd2⟩) hc2, sclose_bad (st := ⟨a2, cd2⟩) hc2, slocs2_bad (s := u) (st := ⟨a2, cd2⟩) hc2]
  obtain rfl : cd2 = 0 := hc2
  obtain ⟨A2, k2, rfl, T2⟩ := hy2
  replace T2 : Hid _ := T2
  have D2 : Hid (Ds q b w w2 v a2) := D1.out.trans G2
  have E2 : Hid (Wr (· = q) (w.alloc (.cells #[.slice none 0 0, .slice none 0 0] 56)) w2) := E1.out.trans G2.1
  replace G2 : Hid _ := G2
  have z2 : w.heap.size + 1 ≤ w2.heap.size := Nat.le_trans z1 (Ds.size G2.out)
  go_wp2_with fail
  refine (H3.out _ (by first | rfl | trivial) D2.out.2).mono ?_
  clear H3
  rintro e w3 (⟨hc3, ⟨y3, rfl, hy3⟩, G3⟩ | ⟨hc3, rfl, V3⟩)
  rotate_left
  · replace hc3 : ¬ cd3 = 0 := hc3
    refine ⟨rfl, Got.bad hc3 ?_ (D2.out.1.trans V3)⟩
    rw [← hr.out]
    have d1 := d1.out
    have e1 := e1.out
    have e2 := e2.out
    have e3 := e3.out
    simp only [selm, d1, e1, e2, e3, snum_bad (s := u) (st := ⟨a3, cd3⟩) hc3, sname_bad (s := u) (st := ⟨a3, cd3⟩) hc3, skind_bad (s := u) (st := ⟨a3, cd3⟩) hc3, sflag_bad (s := u) (st := ⟨a3, cd3⟩) hc3, sinstrs_bad (s := u) (st := ⟨a3, cd3⟩) hc3, skinds_bad (s := u) (st := ⟨a3, cd3⟩) hc3, snums_bad (s := u) (st := ⟨a3, cd3⟩) hc3, sbyte_bad (s := u) (st := ⟨a3, cd3⟩) hc3, slim_bad (s := u) (st := ⟨a3, cd3⟩) hc3, smust_bad (s := u) (st := ⟨a3, cd3⟩) hc3, snil_bad (st := ⟨a3, cd3⟩) hc3, sover_bad (st := ⟨a3, cd3⟩) hc3, sbytes_bad (s := u) (st := ⟨a3, cd3⟩) hc3, sclose_bad (st := ⟨a3, cd3⟩) hc3, slocs2_bad (s := u) (st := ⟨a3, cd3⟩) hc3]
  obtain rfl : cd3 = 0 := hc3
  obtain ⟨A3, k3, rfl, T3⟩ := hy3
  replace T3 : Hid _ := T3
  have D3 : Hid (Ds q b w w3 v a3) := D2.out.trans G3
  have E3 : Hid (Wr (· = q) (w.alloc (.cells #[.slice none 0 0, .slice none 0 0] 56)) w3) := E2.out.trans G3.1
  replace G3 : Hid _ := G3
  have z3 : w.heap.size + 1 ≤ w3.heap.size := Nat.le_trans z2 (Ds.size G3.out)
  have rp := E3.out.row (by show ¬ w.heap.size = q; omega) hp.out
  have k0' : w3.cell? ⟨w.heap.size, 0, none⟩ = some (.slice none 0 0) := rp.cell (i := 0) (by decide)
  have g0' := rp.frozen 0
  have k1' : w3.cell? ⟨w.heap.size, 1, none⟩ = some (.slice none 0 0) := rp.cell (i := 1) (by decide)
  have g1' := rp.frozen 1
  have hlt := cell_lt k0'
  clear rp hp
  have hr2 : selm u ⟨a0, 0⟩ = r := hr.out
  have d1 := d1.out
  have e1 := e1.out
  have e2 := e2.out
  have e3 := e3.out
  simp only [selm, d1, e1, e2, e3] at hr2
  replace hr2 : Hid (_ = r) := hr2
  clear hr d1 e1 e2 e3
  go_wp2_with fail
  rw [← hr2.out]
  refine bodyPost_ret (v := .agg #[.slice A2 x2.len k2, .slice A3 x3.length k3]) (by simp [results, Try.results43, go_sem, k0', k1', hlt]) rfl (Got.ok rfl ?_ (((D3.out).put (Nat.le_refl _) hq 0 _).put (Nat.le_refl _) hq 1 _))
  exact ⟨[.slice A2 x2.len k2, .slice A3 x3.length k3], rfl, ⟨_, _, rfl, (fdc.move (x := fI x2) (fun k hk hl => zfof hk (by have hk : w1.heap.size ≤ k := hk.1; show w.heap.size ≤ k; omega) (Wr.block (Wr.low (Wr.low ((Wr.refl (fun j => j < w1.heap.size) w2).trans (Wr.mono (And.left G3.out) (fun k _ e => by have e : k = q := e; show k < w1.heap.size; omega))) 0 _ (by omega)) 1 _ (by omega)) k hl (by have hk : w1.heap.size ≤ k := hk.1; show ¬ k < w1.heap.size; omega))) ⟨A2, k2, rfl, T2.out⟩), ⟨_, _, rfl, (fdc.move (x := fL x3) (fun k hk hl => zfof hk (by have hk : w2.heap.size ≤ k := hk.1; show w.heap.size ≤ k; omega) (Wr.block (Wr.low (Wr.low (Wr.refl (fun j => j < w2.heap.size) w3) 0 _ (by omega)) 1 _ (by omega)) k hl (by have hk : w2.heap.size ≤ k := hk.1; show ¬ k < w2.heap.size; omega))) ⟨A3, k3, rfl, Rt.lq T3.out⟩), rfl⟩⟩⟩
theorem data_any (hz : v.size ≤ 65536) (hv : v.size < 9223372036854775000) (hS : Shf b v u) (hc : st.code = 0) (hin : Sin u st) (w : World) (h : w.rowIs q 82 2 (dF v b st.at_)) :
    Calls Try.prog 47 #[.pointer (some ⟨q, 0, none⟩)] w (Got q b w v (pS fDa w.heap.size) (sdat u st)) := by
  have hq := h.lt
  obtain ⟨a0, cd0⟩ := st
  obtain rfl : cd0 = 0 := hc
  have i0 : Sin u ⟨a0, 0⟩ := hin
  generalize hr : sdat u ⟨a0, 0⟩ = r
  obtain ⟨n1, sb1, d1⟩ : ∃ x s, snum u ⟨a0, 0⟩ = (x, s) := ⟨_, _, rfl⟩
  obtain ⟨⟨a1, cd1⟩, e1⟩ : ∃ s, snil n1 sb1 = s := ⟨_, rfl⟩
  have i1 : Sin u ⟨a1, cd1⟩ := by have t := snil_in (x := n1) (snum_in i0); rwa [d1, e1] at t
  have H1 : Hid (∀ W : World, (0 : Int) = 0 → W.rowIs q 82 2 (dF v b a0) → Calls Try.prog 57 #[.pointer (some ⟨q, 0, none⟩)] W (Got q b W v (pU) ((), ⟨a1, cd1⟩))) := fun W hc hW => by
    have t := (show Calls Try.prog 57 #[.pointer (some ⟨q, 0, none⟩)] W (Got q b W v (pU) ((), snil (snum u ⟨a0, 0⟩).1 (snum u ⟨a0, 0⟩).2)) from zero_any hv hS (st := ⟨a0, 0⟩) hc i0 W hW)
    rwa [d1, e1] at t
  obtain ⟨x2, ⟨a2, cd2⟩, e2⟩ : ∃ x s, sinstrs u ⟨a1, cd1⟩ = (x, s) := ⟨_, _, rfl⟩
  have i2 : Sin u ⟨a2, cd2⟩ := by have t := sinstrs_in i1; rwa [e2] at t
  have H2 : Hid (∀ W : World, (cd1 : Int) = 0 → W.rowIs q 82 2 (dF v b a1) → Calls Try.prog 56 #[.pointer (some ⟨q, 0, none⟩)] W (Got q b W v (pI W.heap.size) (x2, ⟨a2, cd2⟩))) := fun W hc hW => by
    have t := instrs_any hv hS (st := ⟨a1, cd1⟩) hc i1 W hW
    rwa [e2] at t
  obtain ⟨n3, sb3, d3⟩ : ∃ x s, snum u ⟨a2, cd2⟩ = (x, s) := ⟨_, _, rfl⟩
  obtain ⟨x3, ⟨a3, cd3⟩, e3⟩ : ∃ x s, sbytes u n3 sb3 = (x, s) := ⟨_, _, rfl⟩
  have i3 : Sin u ⟨a3, cd3⟩ := by have t := sbytes_in (x := n3) (by have t2 := (snum_rng (s := u) (st := ⟨a2, cd2⟩)).1; rwa [d3] at t2) (snum_in i2); rwa [d3, e3] at t
  have H3 : Hid (∀ W : World, (cd2 : Int) = 0 → W.rowIs q 82 2 (dF v b a2) → Calls Try.prog 59 #[.pointer (some ⟨q, 0, none⟩)] W (Got q b W v (pT) (x3, ⟨a3, cd3⟩))) := fun W hc hW => by
    have t := bytes_any hz hv hS (st := ⟨a2, cd2⟩) hc i2 W hW
    rwa [d3, e3] at t
  replace d1 : Hid (snum u ⟨a0, 0⟩ = (n1, sb1)) := d1
  replace e1 : Hid (snil n1 sb1 = ⟨a1, cd1⟩) := e1
  replace e2 : Hid (sinstrs u ⟨a1, cd1⟩ = (x2, ⟨a2, cd2⟩)) := e2
  replace d3 : Hid (snum u ⟨a2, cd2⟩ = (n3, sb3)) := d3
  replace e3 : Hid (sbytes u n3 sb3 = (x3, ⟨a3, cd3⟩)) := e3
  replace hr : Hid (sdat u ⟨a0, 0⟩ = r) := hr
  have hp : Hid ((w.alloc (.cells #[.slice none 0 0, .string ⟨#[]⟩] 59)).rowIs w.heap.size 59 2 (fun j => [.slice none 0 0, .string ⟨#[]⟩].getD j undef)) := row_new w 59 [.slice none 0 0, .string ⟨#[]⟩]
  have D0 : Hid (Ds q b w (w.alloc (.cells #[.slice none 0 0, .string ⟨#[]⟩] 59)) v a0) := (Ds.start h).later (La (Lz _))
  have E0 : Hid (Wr (· = q) (w.alloc (.cells #[.slice none 0 0, .string ⟨#[]⟩] 59)) (w.alloc (.cells #[.slice none 0 0, .string ⟨#[]⟩] 59))) := Wr.refl _ _
  have z0 : w.heap.size + 1 ≤ (w.alloc (.cells #[.slice none 0 0, .string ⟨#[]⟩] 59)).heap.size := by simp
  clear h hin hS hv i0 i1 i2 i3
  go_enter Try.func47, Try.ntmps47
  go_wp2_with fail
  refine (H1.out _ (by first | rfl | trivial) D0.out.2).mono ?_
  clear H1
  rintro e w1 (⟨hc1, ⟨y1, rfl, hy1⟩, G1⟩ | ⟨hc1, rfl, V1⟩)
  rotate_left
  · replace hc1 : ¬ cd1 = 0 := hc1
    refine ⟨rfl, Got.bad hc1 ?_ (D0.out.1.trans V1)⟩
    rw [← hr.out]
    have d1 := d1.out
    have e1 := e1.out
    simp only [sdat, d1, e1, snum_bad (s := u) (st := ⟨a1, cd1⟩) hc1, sname_bad (s := u) (st := ⟨a1, cd1⟩) hc1, skind_bad (s := u) (st := ⟨a1, cd1⟩) hc1, sflag_bad (s := u) (st := ⟨a1, cd1⟩) hc1, sinstrs_bad (s := u) (st := ⟨a1, cd1⟩) hc1, skinds_bad (s := u) (st := ⟨a1, cd1⟩) hc1, snums_bad (s := u) (st := ⟨a1, cd1⟩) hc1, sbyte_bad (s := u) (st := ⟨a1, cd1⟩) hc1, slim_bad (s := u) (st := ⟨a1, cd1⟩) hc1, smust_bad (s := u) (st := ⟨a1, cd1⟩) hc1, snil_bad (st := ⟨a1, cd1⟩) hc1, sover_bad (st := ⟨a1, cd1⟩) hc1, sbytes_bad (s := u) (st := ⟨a1, cd1⟩) hc1, sclose_bad (st := ⟨a1, cd1⟩) hc1, slocs2_bad (s := u) (st := ⟨a1, cd1⟩) hc1]
  obtain rfl : cd1 = 0 := hc1
  obtain rfl : y1 = .tuple #[] := hy1
  have D1 : Hid (Ds q b w w1 v a1) := D0.out.trans G1
  have E1 : Hid (Wr (· = q) (w.alloc (.cells #[.slice none 0 0, .string ⟨#[]⟩] 59)) w1) := E0.out.trans G1.1
  replace G1 : Hid _ := G1
  have z1 : w.heap.size + 1 ≤ w1.heap.size := Nat.le_trans z0 (Ds.size G1.out)
  go_wp2_with fail
  refine (H2.out _ (by first | rfl | trivial) D1.out.2).mono ?_
  clear H2
  rintro e w2 (⟨hc2, ⟨y2, rfl, hy2⟩, G2⟩ | ⟨hc2, rfl, V2⟩)
  rotate_left
  · replace hc2 : ¬ cd2 = 0 := hc2
    refine ⟨rfl, Got.bad hc2 ?_ (D1.out.1.trans V2)⟩
    rw [← hr.out]
    have d1 := d1.out
    have e1 := e1.out
    have e2 := e2.out
    simp only [sdat, d1, e1, e2, snum_bad (s := u) (st := ⟨a2, cd2⟩) hc2, sname_bad (s := u) (st := ⟨a2, cd2⟩) hc2, skind_bad (s := u) (st := ⟨a2, cd2⟩) hc2, sflag_bad (s := u) (st := ⟨a2, cd2⟩) hc2, sinstrs_bad (s := u) (st := ⟨a2, cd2⟩) hc2, skinds_bad (s := u) (st := ⟨a2, cd2⟩) hc2, snums_bad (s := u) (st := ⟨a2, cd2⟩) hc2, sbyte_bad (s := u) (st := ⟨a2, cd2⟩) hc2, slim_bad (s := u) (st := ⟨a2, cd2⟩) hc2, smust_bad (s := u) (st := ⟨a2, cd2⟩) hc2, snil_bad (st := ⟨a2, cd2⟩) hc2, sover_bad (st := ⟨a2, cd2⟩) hc2, sbytes_bad (s := u) (st := ⟨a2, cd2⟩) hc2, sclose_bad (st := ⟨a2, cd2⟩) hc2, slocs2_bad (s := u) (st := ⟨a2, cd2⟩) hc2]
  obtain rfl : cd2 = 0 := hc2
  obtain ⟨A2, k2, rfl, T2⟩ := hy2
  replace T2 : Hid _ := T2
  have D2 : Hid (Ds q b w w2 v a2) := D1.out.trans G2
  have E2 : Hid (Wr (· = q) (w.alloc (.cells #[.slice none 0 0, .string ⟨#[]⟩] 59)) w2) := E1.out.trans G2.1
  replace G2 : Hid _ := G2
  have z2 : w.heap.size + 1 ≤ w2.heap.size := Nat.le_trans z1 (Ds.size G2.out)
  go_wp2_with fail
  refine (H3.out _ (by first | rfl | trivial) D2.out.2).mono ?_
  clear H3
  rintro e w3 (⟨hc3, ⟨y3, rfl, hy3⟩, G3⟩ | ⟨hc3, rfl, V3⟩)
  rotate_left
  · replace hc3 : ¬ cd3 = 0 := hc3
    refine ⟨rfl, Got.bad hc3 ?_ (D2.out.1.trans V3)⟩
    rw [← hr.out]
    have d1 := d1.out
    have e1 := e1.out
    have e2 := e2.out
    have d3 := d3.out
    have e3 := e3.out
    simp only [sdat, d1, e1, e2, d3, e3, snum_bad (s := u) (st := ⟨a3, cd3⟩) hc3, sname_bad (s := u) (st := ⟨a3, cd3⟩) hc3, skind_bad (s := u) (st := ⟨a3, cd3⟩) hc3, sflag_bad (s := u) (st := ⟨a3, cd3⟩) hc3, sinstrs_bad (s := u) (st := ⟨a3, cd3⟩) hc3, skinds_bad (s := u) (st := ⟨a3, cd3⟩) hc3, snums_bad (s := u) (st := ⟨a3, cd3⟩) hc3, sbyte_bad (s := u) (st := ⟨a3, cd3⟩) hc3, slim_bad (s := u) (st := ⟨a3, cd3⟩) hc3, smust_bad (s := u) (st := ⟨a3, cd3⟩) hc3, snil_bad (st := ⟨a3, cd3⟩) hc3, sover_bad (st := ⟨a3, cd3⟩) hc3, sbytes_bad (s := u) (st := ⟨a3, cd3⟩) hc3, sclose_bad (st := ⟨a3, cd3⟩) hc3, slocs2_bad (s := u) (st := ⟨a3, cd3⟩) hc3]
  obtain rfl : cd3 = 0 := hc3
  obtain rfl : y3 = .string x3 := hy3
  have D3 : Hid (Ds q b w w3 v a3) := D2.out.trans G3
  have E3 : Hid (Wr (· = q) (w.alloc (.cells #[.slice none 0 0, .string ⟨#[]⟩] 59)) w3) := E2.out.trans G3.1
  replace G3 : Hid _ := G3
  have z3 : w.heap.size + 1 ≤ w3.heap.size := Nat.le_trans z2 (Ds.size G3.out)
  have rp := E3.out.row (by show ¬ w.heap.size = q; omega) hp.out
  have k0' : w3.cell? ⟨w.heap.size, 0, none⟩ = some (.slice none 0 0) := rp.cell (i := 0) (by decide)
  have g0' := rp.frozen 0
  have k1' : w3.cell? ⟨w.heap.size, 1, none⟩ = some (.string ⟨#[]⟩) := rp.cell (i := 1) (by decide)
  have g1' := rp.frozen 1
  have hlt := cell_lt k0'
  clear rp hp
  have hr2 : sdat u ⟨a0, 0⟩ = r := hr.out
  have d1 := d1.out
  have e1 := e1.out
  have e2 := e2.out
  have d3 := d3.out
  have e3 := e3.out
  simp only [sdat, d1, e1, e2, d3, e3] at hr2
  replace hr2 : Hid (_ = r) := hr2
  clear hr d1 e1 e2 d3 e3
  go_wp2_with fail
  rw [← hr2.out]
  refine bodyPost_ret (v := .agg #[.slice A2 x2.len k2, .string x3]) (by simp [results, Try.results47, go_sem, k0', k1', hlt]) rfl (Got.ok rfl ?_ (((D3.out).put (Nat.le_refl _) hq 0 _).put (Nat.le_refl _) hq 1 _))
  exact ⟨[.slice A2 x2.len k2, .string x3], rfl, ⟨_, _, rfl, (fdc.move (x := fI x2) (fun k hk hl => zfof hk (by have hk : w1.heap.size ≤ k := hk.1; show w.heap.size ≤ k; omega) (Wr.block (Wr.low (Wr.low ((Wr.refl (fun j => j < w1.heap.size) w2).trans (Wr.mono (And.left G3.out) (fun k _ e => by have e : k = q := e; show k < w1.heap.size; omega))) 0 _ (by omega)) 1 _ (by omega)) k hl (by have hk : w1.heap.size ≤ k := hk.1; show ¬ k < w1.heap.size; omega))) ⟨A2, k2, rfl, T2.out⟩), ⟨_, _, rfl, rfl, rfl⟩⟩⟩
theorem code_any (hv : v.size < 9223372036854775000) (hS : Shf b v u) (hc : st.code = 0) (hin : Sin u st) (w : World) (h : w.rowIs q 82 2 (dF v b st.at_)) :
    Calls Try.prog 45 #[.pointer (some ⟨q, 0, none⟩)] w (Got q b w v (pS fCo w.heap.size) (sbody u st)) := by
  have hq := h.lt
  obtain ⟨a0, cd0⟩ := st
  obtain rfl : cd0 = 0 := hc
  have i0 : Sin u ⟨a0, 0⟩ := hin
  generalize hr : sbody u ⟨a0, 0⟩ = r
  obtain ⟨x1, ⟨a1, cd1⟩, e1⟩ : ∃ x s, snum u ⟨a0, 0⟩ = (x, s) := ⟨_, _, rfl⟩
  have i1 : Sin u ⟨a1, cd1⟩ := by have t := snum_in i0; rwa [e1] at t
  have H1 : Hid (∀ W : World, (0 : Int) = 0 → W.rowIs q 82 2 (dF v b a0) → Calls Try.prog 34 #[.pointer (some ⟨q, 0, none⟩)] W (Got q b W v (pN) (x1, ⟨a1, cd1⟩))) := fun W hc hW => by
    have t := number_any hv hS (st := ⟨a0, 0⟩) hc i0 W hW
    rwa [e1] at t
  obtain ⟨x2, ⟨a2, cd2⟩, e2⟩ : ∃ x s, slocs u (smany u 1024 ⟨a1, cd1⟩).1.toNat [] (smany u 1024 ⟨a1, cd1⟩).2 = (x, s) := ⟨_, _, rfl⟩
  have i2 : Sin u ⟨a2, cd2⟩ := by have t := slocs_in (smany u 1024 ⟨a1, cd1⟩).1.toNat [] _ (smany_in i1 1024); rwa [e2] at t
  have H2 : Hid (∀ W : World, (cd1 : Int) = 0 → W.rowIs q 82 2 (dF v b a1) → Calls Try.prog 58 #[.pointer (some ⟨q, 0, none⟩)] W (Got q b W v (pR f1 W.heap.size) (x2, ⟨a2, cd2⟩))) := fun W hc hW => by
    have t := (show Calls Try.prog 58 #[.pointer (some ⟨q, 0, none⟩)] W (Got q b W v (pR f1 W.heap.size) (slocs u (smany u 1024 ⟨a1, cd1⟩).1.toNat [] (smany u 1024 ⟨a1, cd1⟩).2)) from locals_any hv hS (st := ⟨a1, cd1⟩) hc i1 W hW)
    rwa [e2] at t
  obtain ⟨x3, ⟨a3, cd3⟩, e3⟩ : ∃ x s, sinstrs u ⟨a2, cd2⟩ = (x, s) := ⟨_, _, rfl⟩
  have i3 : Sin u ⟨a3, cd3⟩ := by have t := sinstrs_in i2; rwa [e3] at t
  have H3 : Hid (∀ W : World, (cd2 : Int) = 0 → W.rowIs q 82 2 (dF v b a2) → Calls Try.prog 56 #[.pointer (some ⟨q, 0, none⟩)] W (Got q b W v (pI W.heap.size) (x3, ⟨a3, cd3⟩))) := fun W hc hW => by
    have t := instrs_any hv hS (st := ⟨a2, cd2⟩) hc i2 W hW
    rwa [e3] at t
  replace e1 : Hid (snum u ⟨a0, 0⟩ = (x1, ⟨a1, cd1⟩)) := e1
  replace e2 : Hid (slocs u (smany u 1024 ⟨a1, cd1⟩).1.toNat [] (smany u 1024 ⟨a1, cd1⟩).2 = (x2, ⟨a2, cd2⟩)) := e2
  replace e3 : Hid (sinstrs u ⟨a2, cd2⟩ = (x3, ⟨a3, cd3⟩)) := e3
  replace hr : Hid (sbody u ⟨a0, 0⟩ = r) := hr
  have hsz := hS.size
  have b1 : 0 ≤ a1 ∧ a1 ≤ u.size := i1
  have b3 : 0 ≤ a3 ∧ a3 ≤ u.size := i3
  obtain ⟨K1, hK1⟩ : ∃ K : Int, K = (b : Int) + a1 := ⟨_, rfl⟩
  obtain ⟨K3, hK3⟩ : ∃ K : Int, K = (b : Int) + a3 := ⟨_, rfl⟩
  obtain ⟨M, hM⟩ : ∃ M : Int, M = a3 - a1 := ⟨_, rfl⟩
  have hwr : wrap64 (K3 - K1) = M := by rw [hK1, hK3, hM]; unfold wrap64; omega
  replace hK1 : Hid (K1 = (b : Int) + a1) := hK1
  replace hK3 : Hid (K3 = (b : Int) + a3) := hK3
  replace hM : Hid (M = a3 - a1) := hM
  replace hwr : Hid (wrap64 (K3 - K1) = M) := hwr
  have hp : Hid ((w.alloc (.cells #[.slice none 0 0, .slice none 0 0] 46)).rowIs w.heap.size 46 2 (fun j => [.slice none 0 0, .slice none 0 0].getD j undef)) := row_new w 46 [.slice none 0 0, .slice none 0 0]
  have D0 : Hid (Ds q b w (w.alloc (.cells #[.slice none 0 0, .slice none 0 0] 46)) v a0) := (Ds.start h).later (La (Lz _))
  have E0 : Hid (Wr (· = q) (w.alloc (.cells #[.slice none 0 0, .slice none 0 0] 46)) (w.alloc (.cells #[.slice none 0 0, .slice none 0 0] 46))) := Wr.refl _ _
  have z0 : w.heap.size + 1 ≤ (w.alloc (.cells #[.slice none 0 0, .slice none 0 0] 46)).heap.size := by simp
  clear h hin hS hv i0 i1 i2 i3 hsz b1 b3
  go_enter Try.func45, Try.ntmps45
  go_wp2_with fail
  refine (H1.out _ (by first | rfl | trivial) D0.out.2).mono ?_
  clear H1
  rintro e w1 (⟨hc1, ⟨y1, rfl, hy1⟩, G1⟩ | ⟨hc1, rfl, V1⟩)
  rotate_left
  · replace hc1 : ¬ cd1 = 0 := hc1
    refine ⟨rfl, Got.bad hc1 ?_ (D0.out.1.trans V1)⟩
    rw [← hr.out]
    have e1 := e1.out
    simp only [sbody, e1, snum_bad (s := u) (st := ⟨a1, cd1⟩) hc1, sname_bad (s := u) (st := ⟨a1, cd1⟩) hc1, skind_bad (s := u) (st := ⟨a1, cd1⟩) hc1, sflag_bad (s := u) (st := ⟨a1, cd1⟩) hc1, sinstrs_bad (s := u) (st := ⟨a1, cd1⟩) hc1, skinds_bad (s := u) (st := ⟨a1, cd1⟩) hc1, snums_bad (s := u) (st := ⟨a1, cd1⟩) hc1, sbyte_bad (s := u) (st := ⟨a1, cd1⟩) hc1, slim_bad (s := u) (st := ⟨a1, cd1⟩) hc1, smust_bad (s := u) (st := ⟨a1, cd1⟩) hc1, snil_bad (st := ⟨a1, cd1⟩) hc1, sover_bad (st := ⟨a1, cd1⟩) hc1, sbytes_bad (s := u) (st := ⟨a1, cd1⟩) hc1, sclose_bad (st := ⟨a1, cd1⟩) hc1, slocs2_bad (s := u) (st := ⟨a1, cd1⟩) hc1]
  obtain rfl : cd1 = 0 := hc1
  obtain rfl : y1 = .int .i64 x1 := hy1
  have D1 : Hid (Ds q b w w1 v a1) := D0.out.trans G1
  have E1 : Hid (Wr (· = q) (w.alloc (.cells #[.slice none 0 0, .slice none 0 0] 46)) w1) := E0.out.trans G1.1
  replace G1 : Hid _ := G1
  have z1 : w.heap.size + 1 ≤ w1.heap.size := Nat.le_trans z0 (Ds.size G1.out)
  have c1 := D1.out.cell1
  rw [← hK1.out] at c1
  have l1 := cell_lt c1
  go_wp2_with fail
  refine (H2.out _ (by first | rfl | trivial) D1.out.2).mono ?_
  clear H2
  rintro e w2 (⟨hc2, ⟨y2, rfl, hy2⟩, G2⟩ | ⟨hc2, rfl, V2⟩)
  rotate_left
  · replace hc2 : ¬ cd2 = 0 := hc2
    refine ⟨rfl, Got.bad hc2 ?_ (D1.out.1.trans V2)⟩
    rw [← hr.out]
    have e1 := e1.out
    have e2 := e2.out
    simp only [sbody, e1, e2, snum_bad (s := u) (st := ⟨a2, cd2⟩) hc2, sname_bad (s := u) (st := ⟨a2, cd2⟩) hc2, skind_bad (s := u) (st := ⟨a2, cd2⟩) hc2, sflag_bad (s := u) (st := ⟨a2, cd2⟩) hc2, sinstrs_bad (s := u) (st := ⟨a2, cd2⟩) hc2, skinds_bad (s := u) (st := ⟨a2, cd2⟩) hc2, snums_bad (s := u) (st := ⟨a2, cd2⟩) hc2, sbyte_bad (s := u) (st := ⟨a2, cd2⟩) hc2, slim_bad (s := u) (st := ⟨a2, cd2⟩) hc2, smust_bad (s := u) (st := ⟨a2, cd2⟩) hc2, snil_bad (st := ⟨a2, cd2⟩) hc2, sover_bad (st := ⟨a2, cd2⟩) hc2, sbytes_bad (s := u) (st := ⟨a2, cd2⟩) hc2, sclose_bad (st := ⟨a2, cd2⟩) hc2, slocs2_bad (s := u) (st := ⟨a2, cd2⟩) hc2]
  obtain rfl : cd2 = 0 := hc2
  obtain ⟨A2, k2, rfl, T2⟩ := hy2
  replace T2 : Hid _ := T2
  have D2 : Hid (Ds q b w w2 v a2) := D1.out.trans G2
  have E2 : Hid (Wr (· = q) (w.alloc (.cells #[.slice none 0 0, .slice none 0 0] 46)) w2) := E1.out.trans G2.1
  replace G2 : Hid _ := G2
  have z2 : w.heap.size + 1 ≤ w2.heap.size := Nat.le_trans z1 (Ds.size G2.out)
  go_wp2_with fail
  refine (H3.out _ (by first | rfl | trivial) D2.out.2).mono ?_
  clear H3
  rintro e w3 (⟨hc3, ⟨y3, rfl, hy3⟩, G3⟩ | ⟨hc3, rfl, V3⟩)
  rotate_left
  · replace hc3 : ¬ cd3 = 0 := hc3
    refine ⟨rfl, Got.bad hc3 ?_ (D2.out.1.trans V3)⟩
    rw [← hr.out]
    have e1 := e1.out
    have e2 := e2.out
    have e3 := e3.out
    simp only [sbody, e1, e2, e3, snum_bad (s := u) (st := ⟨a3, cd3⟩) hc3, sname_bad (s := u) (st := ⟨a3, cd3⟩) hc3, skind_bad (s := u) (st := ⟨a3, cd3⟩) hc3, sflag_bad (s := u) (st := ⟨a3, cd3⟩) hc3, sinstrs_bad (s := u) (st := ⟨a3, cd3⟩) hc3, skinds_bad (s := u) (st := ⟨a3, cd3⟩) hc3, snums_bad (s := u) (st := ⟨a3, cd3⟩) hc3, sbyte_bad (s := u) (st := ⟨a3, cd3⟩) hc3, slim_bad (s := u) (st := ⟨a3, cd3⟩) hc3, smust_bad (s := u) (st := ⟨a3, cd3⟩) hc3, snil_bad (st := ⟨a3, cd3⟩) hc3, sover_bad (st := ⟨a3, cd3⟩) hc3, sbytes_bad (s := u) (st := ⟨a3, cd3⟩) hc3, sclose_bad (st := ⟨a3, cd3⟩) hc3, slocs2_bad (s := u) (st := ⟨a3, cd3⟩) hc3]
  obtain rfl : cd3 = 0 := hc3
  obtain ⟨A3, k3, rfl, T3⟩ := hy3
  replace T3 : Hid _ := T3
  have D3 : Hid (Ds q b w w3 v a3) := D2.out.trans G3
  have E3 : Hid (Wr (· = q) (w.alloc (.cells #[.slice none 0 0, .slice none 0 0] 46)) w3) := E2.out.trans G3.1
  replace G3 : Hid _ := G3
  have z3 : w.heap.size + 1 ≤ w3.heap.size := Nat.le_trans z2 (Ds.size G3.out)
  have rp := E3.out.row (by show ¬ w.heap.size = q; omega) hp.out
  have k0' : w3.cell? ⟨w.heap.size, 0, none⟩ = some (.slice none 0 0) := rp.cell (i := 0) (by decide)
  have g0' := rp.frozen 0
  have k1' : w3.cell? ⟨w.heap.size, 1, none⟩ = some (.slice none 0 0) := rp.cell (i := 1) (by decide)
  have g1' := rp.frozen 1
  have hlt := cell_lt k0'
  have c3 := D3.out.cell1
  rw [← hK3.out] at c3
  have l3 := cell_lt c3
  clear rp hp c1 l1
  have hr2 : sbody u ⟨a0, 0⟩ = r := hr.out
  have e1 := e1.out
  have e2 := e2.out
  have e3 := e3.out
  simp only [sbody, e1, e2, e3] at hr2
  replace hr2 : Hid (_ = r) := hr2
  clear hr e1 e2 e3
  by_cases h0 : M = x1
  · have hn : Hid (∀ W, Calls Try.prog 24 #[.bool true, .int .i64 1504] W fun e w' => e = .returned (.tuple #[]) ∧ w' = W) := need_ok 1504
    have hr3 : Hid (((x2, x3), (⟨a3, 0⟩ : Sst)) = r) := by
      rw [← hr2.out]
      unfold sclose
      rw [if_neg (fun z => z.2 (by show a3 - a1 = x1; have := hM.out; omega))]
      rfl
    have hwr2 := hwr.out
    rw [h0] at hwr2
    clear hr2 h0 hwr hM
    go_wp2_with (go_at_call 24; refine (hn.out _).mono ?_; rintro e w4 ⟨rfl, hw⟩; subst hw; clear hn)
    clear hwr2
    rw [← hr3.out]
    refine bodyPost_ret (v := .agg #[.slice A2 x2.length k2, .slice A3 x3.len k3]) (by simp [results, Try.results45, go_sem, k0', k1', hlt]) rfl (Got.ok rfl ?_ ((((D3.out).put (Nat.le_refl _) hq 0 _).put (Nat.le_refl _) hq 1 _).later (La (Lz _))))
    exact ⟨[.slice A2 x2.length k2, .slice A3 x3.len k3], rfl, ⟨_, _, rfl, (fdc.move (x := fL x2) (fun k hk hl => zfof hk (by have hk : w1.heap.size ≤ k := hk.1; show w.heap.size ≤ k; omega) (Wr.block (Wr.ltr (Wr.low (Wr.low ((Wr.refl (fun j => j < w1.heap.size) w2).trans (Wr.mono (And.left G3.out) (fun k _ e => by have e : k = q := e; show k < w1.heap.size; omega))) 0 _ (by omega)) 1 _ (by omega)) (La (Lz _))) k hl (by have hk : w1.heap.size ≤ k := hk.1; show ¬ k < w1.heap.size; omega))) ⟨A2, k2, rfl, Rt.lq T2.out⟩), ⟨_, _, rfl, (fdc.move (x := fI x3) (fun k hk hl => zfof hk (by have hk : w2.heap.size ≤ k := hk.1; show w.heap.size ≤ k; omega) (Wr.block (Wr.ltr (Wr.low (Wr.low (Wr.refl (fun j => j < w2.heap.size) w3) 0 _ (by omega)) 1 _ (by omega)) (La (Lz _))) k hl (by have hk : w2.heap.size ≤ k := hk.1; show ¬ k < w2.heap.size; omega))) ⟨A3, k3, rfl, T3.out⟩), rfl⟩⟩⟩
  · have hn : Hid (∀ W, Calls Try.prog 24 #[.bool false, .int .i64 1504] W fun e w' => e = thr 1504 ∧ w' = W) := need_bad 1504
    have hr3 : Hid (((x2, x3), (⟨a3, 1504⟩ : Sst)) = r) := by
      rw [← hr2.out]
      unfold sclose
      rw [if_pos ⟨rfl, (show ¬ a3 - a1 = x1 by have := hM.out; omega)⟩, sfail_new]
      rfl
    have hwr2 := hwr.out
    have h1 : (M == x1) = false := beq_false h0
    clear hr2 h0 hwr hM
    go_wp2_with (go_at_call 24; refine (hn.out _).mono ?_; rintro e w4 ⟨rfl, hw⟩; subst hw; clear hn)
    rw [← hr3.out]
    exact ⟨rfl, Got.bad (by decide) rfl (D3.out.1.ltr (La (Lz _)))⟩
theorem simp4_kind {x : Int} {sb : Sst} (h : ¬ (sover x sb).code = 0) : (simp4 u x sb).2.code = (sover x sb).code := by
  by_cases hc : sb.code = 0
  · unfold sover at h ⊢
    by_cases h3 : 3 < x
    · rw [if_pos h3]
      unfold simp4
      rw [if_neg (by omega), if_neg (by omega), if_neg (by omega), if_neg (by omega)]
    · rw [if_neg h3] at h
      exact absurd hc h
  · rw [sover_bad hc]
    unfold simp4
    rw [snum_bad hc, smust_bad hc, skind_bad hc, slim_bad hc]
    simp only []
    rw [sflag_bad hc]
    split
    · rfl
    · split
      · rfl
      · split
        · rfl
        · split
          · rfl
          · exact congrArg Sst.code (sfail_bad hc _)
theorem simp4_0 : simp4 u 0 st = (((snum u st).1, false, 0, 0), (snum u st).2) := if_pos rfl
theorem simp4_1 : simp4 u 1 st = ((0, false, (slim u (smust u 112 st)).1.1, (slim u (smust u 112 st)).1.2), (slim u (smust u 112 st)).2) := by unfold simp4; rw [if_neg (by decide), if_pos rfl]
theorem simp4_2 : simp4 u 2 st = ((0, false, (slim u st).1.1, (slim u st).1.2), (slim u st).2) := by unfold simp4; rw [if_neg (by decide), if_neg (by decide), if_pos rfl]
theorem simp4_3 : simp4 u 3 st = (((skind u st).1, (sflag u (skind u st).2).1, 0, 0), (sflag u (skind u st).2).2) := by unfold simp4; rw [if_neg (by decide), if_neg (by decide), if_neg (by decide), if_pos rfl]
theorem simp4_bad (hc : ¬ st.code = 0) (x : Int) : (simp4 u x st).2 = st := by
  unfold simp4
  rw [snum_bad hc, smust_bad hc, skind_bad hc, slim_bad hc]
  simp only []
  rw [sflag_bad hc]
  split
  · rfl
  · split
    · rfl
    · split
      · rfl
      · split
        · rfl
        · exact sfail_bad hc _
theorem sover_ok {x : Int} {sb : Sst} (h : (sover x sb).code = 0) : ¬ 3 < x ∧ sover x sb = sb := by
  unfold sover at h ⊢
  by_cases h3 : 3 < x
  · rw [if_pos h3] at h
    unfold sfail at h
    by_cases hc : sb.code = 0
    · rw [if_pos hc] at h
      exact absurd h (by show ¬ (1506 : Int) = 0; decide)
    · rw [if_neg hc] at h
      exact absurd h hc
  · exact ⟨h3, if_neg h3⟩
theorem imported_9 (hv : v.size < 9223372036854775000) (hS : Shf b v u) (hc : st.code = 0) (hin : Sin u st) (w : World) (h : w.rowIs q 82 2 (dF v b st.at_)) (hx : ¬ (sover (sbyte u (sname u (sname u st).2).2).1 (sbyte u (sname u (sname u st).2).2).2).code = 0) :
    Calls Try.prog 32 #[.pointer (some ⟨q, 0, none⟩)] w (Got q b w v (pS fIm w.heap.size) (spart u st)) := by
  have hq := h.lt
  obtain ⟨a0, cd0⟩ := st
  obtain rfl : cd0 = 0 := hc
  have i0 : Sin u ⟨a0, 0⟩ := hin
  generalize hr : spart u ⟨a0, 0⟩ = r
  obtain ⟨x1, ⟨a1, cd1⟩, e1⟩ : ∃ x s, sname u ⟨a0, 0⟩ = (x, s) := ⟨_, _, rfl⟩
  have i1 : Sin u ⟨a1, cd1⟩ := by have t := sname_in i0; rwa [e1] at t
  have H1 : Hid (∀ W : World, (0 : Int) = 0 → W.rowIs q 82 2 (dF v b a0) → Calls Try.prog 50 #[.pointer (some ⟨q, 0, none⟩)] W (Got q b W v (pT) (x1, ⟨a1, cd1⟩))) := fun W hc hW => by
    have t := name_any hv hS (st := ⟨a0, 0⟩) hc i0 W hW
    rwa [e1] at t
  obtain ⟨x2, ⟨a2, cd2⟩, e2⟩ : ∃ x s, sname u ⟨a1, cd1⟩ = (x, s) := ⟨_, _, rfl⟩
  have i2 : Sin u ⟨a2, cd2⟩ := by have t := sname_in i1; rwa [e2] at t
  have H2 : Hid (∀ W : World, (cd1 : Int) = 0 → W.rowIs q 82 2 (dF v b a1) → Calls Try.prog 50 #[.pointer (some ⟨q, 0, none⟩)] W (Got q b W v (pT) (x2, ⟨a2, cd2⟩))) := fun W hc hW => by
    have t := name_any hv hS (st := ⟨a1, cd1⟩) hc i1 W hW
    rwa [e2] at t
  obtain ⟨x3, sb3, d3⟩ : ∃ x s, sbyte u ⟨a2, cd2⟩ = (x, s) := ⟨_, _, rfl⟩
  obtain ⟨⟨a3, cd3⟩, e3⟩ : ∃ s, sover x3 sb3 = s := ⟨_, rfl⟩
  have i3 : Sin u ⟨a3, cd3⟩ := by have t := sover_in (x := x3) (sbyte_in i2); rwa [d3, e3] at t
  have H3 : Hid (∀ W : World, (cd2 : Int) = 0 → W.rowIs q 82 2 (dF v b a2) → Calls Try.prog 54 #[.pointer (some ⟨q, 0, none⟩)] W (Got q b W v (pN) (x3, ⟨a3, cd3⟩))) := fun W hc hW => by
    have t := kind_any hv hS (st := ⟨a2, cd2⟩) hc i2 W hW
    rwa [d3, e3] at t
  simp only [e1, e2, d3] at hx
  rw [e3] at hx
  replace hx : Hid (¬ cd3 = 0) := hx
  replace e1 : Hid (sname u ⟨a0, 0⟩ = (x1, ⟨a1, cd1⟩)) := e1
  replace e2 : Hid (sname u ⟨a1, cd1⟩ = (x2, ⟨a2, cd2⟩)) := e2
  replace d3 : Hid (sbyte u ⟨a2, cd2⟩ = (x3, sb3)) := d3
  replace e3 : Hid (sover x3 sb3 = ⟨a3, cd3⟩) := e3
  replace hr : Hid (spart u ⟨a0, 0⟩ = r) := hr
  have hp : Hid ((w.alloc (.cells #[.string ⟨#[]⟩, .string ⟨#[]⟩, .int .i64 0, .int .i64 0, .bool false, .int .i64 0, .int .i64 0] 67)).rowIs w.heap.size 67 7 (fun j => [.string ⟨#[]⟩, .string ⟨#[]⟩, .int .i64 0, .int .i64 0, .bool false, .int .i64 0, .int .i64 0].getD j undef)) := row_new w 67 [.string ⟨#[]⟩, .string ⟨#[]⟩, .int .i64 0, .int .i64 0, .bool false, .int .i64 0, .int .i64 0]
  have D0 : Hid (Ds q b w (w.alloc (.cells #[.string ⟨#[]⟩, .string ⟨#[]⟩, .int .i64 0, .int .i64 0, .bool false, .int .i64 0, .int .i64 0] 67)) v a0) := (Ds.start h).later (La (Lz _))
  have E0 : Hid (Wr (· = q) (w.alloc (.cells #[.string ⟨#[]⟩, .string ⟨#[]⟩, .int .i64 0, .int .i64 0, .bool false, .int .i64 0, .int .i64 0] 67)) (w.alloc (.cells #[.string ⟨#[]⟩, .string ⟨#[]⟩, .int .i64 0, .int .i64 0, .bool false, .int .i64 0, .int .i64 0] 67))) := Wr.refl _ _
  have z0 : w.heap.size + 1 ≤ (w.alloc (.cells #[.string ⟨#[]⟩, .string ⟨#[]⟩, .int .i64 0, .int .i64 0, .bool false, .int .i64 0, .int .i64 0] 67)).heap.size := by simp
  clear h hin hS hv i0 i1 i2 i3
  go_enter Try.func32, Try.ntmps32
  go_wp2_with fail
  refine (H1.out _ (by first | rfl | trivial) D0.out.2).mono ?_
  clear H1
  rintro e w1 (⟨hc1, ⟨y1, rfl, hy1⟩, G1⟩ | ⟨hc1, rfl, V1⟩)
  rotate_left
  · replace hc1 : ¬ cd1 = 0 := hc1
    refine ⟨rfl, Got.bad hc1 ?_ (D0.out.1.trans V1)⟩
    rw [← hr.out]
    have e1 := e1.out
    simp only [spart, simp4_bad (u := u) (st := ⟨a1, cd1⟩) hc1, e1, snum_bad (s := u) (st := ⟨a1, cd1⟩) hc1, sname_bad (s := u) (st := ⟨a1, cd1⟩) hc1, skind_bad (s := u) (st := ⟨a1, cd1⟩) hc1, sflag_bad (s := u) (st := ⟨a1, cd1⟩) hc1, sinstrs_bad (s := u) (st := ⟨a1, cd1⟩) hc1, skinds_bad (s := u) (st := ⟨a1, cd1⟩) hc1, snums_bad (s := u) (st := ⟨a1, cd1⟩) hc1, sbyte_bad (s := u) (st := ⟨a1, cd1⟩) hc1, slim_bad (s := u) (st := ⟨a1, cd1⟩) hc1, smust_bad (s := u) (st := ⟨a1, cd1⟩) hc1, snil_bad (st := ⟨a1, cd1⟩) hc1, sover_bad (st := ⟨a1, cd1⟩) hc1, sbytes_bad (s := u) (st := ⟨a1, cd1⟩) hc1, sclose_bad (st := ⟨a1, cd1⟩) hc1, slocs2_bad (s := u) (st := ⟨a1, cd1⟩) hc1]
  obtain rfl : cd1 = 0 := hc1
  obtain rfl : y1 = .string x1 := hy1
  have D1 : Hid (Ds q b w w1 v a1) := D0.out.trans G1
  have E1 : Hid (Wr (· = q) (w.alloc (.cells #[.string ⟨#[]⟩, .string ⟨#[]⟩, .int .i64 0, .int .i64 0, .bool false, .int .i64 0, .int .i64 0] 67)) w1) := E0.out.trans G1.1
  replace G1 : Hid _ := G1
  have z1 : w.heap.size + 1 ≤ w1.heap.size := Nat.le_trans z0 (Ds.size G1.out)
  go_wp2_with fail
  refine (H2.out _ (by first | rfl | trivial) D1.out.2).mono ?_
  clear H2
  rintro e w2 (⟨hc2, ⟨y2, rfl, hy2⟩, G2⟩ | ⟨hc2, rfl, V2⟩)
  rotate_left
  · replace hc2 : ¬ cd2 = 0 := hc2
    refine ⟨rfl, Got.bad hc2 ?_ (D1.out.1.trans V2)⟩
    rw [← hr.out]
    have e1 := e1.out
    have e2 := e2.out
    simp only [spart, simp4_bad (u := u) (st := ⟨a2, cd2⟩) hc2, e1, e2, snum_bad (s := u) (st := ⟨a2, cd2⟩) hc2, sname_bad (s := u) (st := ⟨a2, cd2⟩) hc2, skind_bad (s := u) (st := ⟨a2, cd2⟩) hc2, sflag_bad (s := u) (st := ⟨a2, cd2⟩) hc2, sinstrs_bad (s := u) (st := ⟨a2, cd2⟩) hc2, skinds_bad (s := u) (st := ⟨a2, cd2⟩) hc2, snums_bad (s := u) (st := ⟨a2, cd2⟩) hc2, sbyte_bad (s := u) (st := ⟨a2, cd2⟩) hc2, slim_bad (s := u) (st := ⟨a2, cd2⟩) hc2, smust_bad (s := u) (st := ⟨a2, cd2⟩) hc2, snil_bad (st := ⟨a2, cd2⟩) hc2, sover_bad (st := ⟨a2, cd2⟩) hc2, sbytes_bad (s := u) (st := ⟨a2, cd2⟩) hc2, sclose_bad (st := ⟨a2, cd2⟩) hc2, slocs2_bad (s := u) (st := ⟨a2, cd2⟩) hc2]
  obtain rfl : cd2 = 0 := hc2
  obtain rfl : y2 = .string x2 := hy2
  have D2 : Hid (Ds q b w w2 v a2) := D1.out.trans G2
  have E2 : Hid (Wr (· = q) (w.alloc (.cells #[.string ⟨#[]⟩, .string ⟨#[]⟩, .int .i64 0, .int .i64 0, .bool false, .int .i64 0, .int .i64 0] 67)) w2) := E1.out.trans G2.1
  replace G2 : Hid _ := G2
  have z2 : w.heap.size + 1 ≤ w2.heap.size := Nat.le_trans z1 (Ds.size G2.out)
  go_wp2_with fail
  refine (H3.out _ (by first | rfl | trivial) D2.out.2).mono ?_
  clear H3
  rintro e w3 (⟨hc3, ⟨y3, rfl, hy3⟩, G3⟩ | ⟨hc3, rfl, V3⟩)
  rotate_left
  · replace hc3 : ¬ cd3 = 0 := hc3
    refine ⟨rfl, Got.bad hc3 ?_ (D2.out.1.trans V3)⟩
    rw [← hr.out]
    have e1 := e1.out
    have e2 := e2.out
    have d3 := d3.out
    have e3 := e3.out
    simp only [spart, e1, e2, d3]
    rw [simp4_kind (by rw [e3]; exact hc3), e3]
  exact absurd hc3 hx.out
theorem imported_0 (hv : v.size < 9223372036854775000) (hS : Shf b v u) (hc : st.code = 0) (hin : Sin u st) (w : World) (h : w.rowIs q 82 2 (dF v b st.at_)) (hx : (sover (sbyte u (sname u (sname u st).2).2).1 (sbyte u (sname u (sname u st).2).2).2).code = 0) (hx2 : (sbyte u (sname u (sname u st).2).2).1 = 0) :
    Calls Try.prog 32 #[.pointer (some ⟨q, 0, none⟩)] w (Got q b w v (pS fIm w.heap.size) (spart u st)) := by
  have hq := h.lt
  obtain ⟨a0, cd0⟩ := st
  obtain rfl : cd0 = 0 := hc
  have i0 : Sin u ⟨a0, 0⟩ := hin
  generalize hr : spart u ⟨a0, 0⟩ = r
  obtain ⟨x1, ⟨a1, cd1⟩, e1⟩ : ∃ x s, sname u ⟨a0, 0⟩ = (x, s) := ⟨_, _, rfl⟩
  have i1 : Sin u ⟨a1, cd1⟩ := by have t := sname_in i0; rwa [e1] at t
  have H1 : Hid (∀ W : World, (0 : Int) = 0 → W.rowIs q 82 2 (dF v b a0) → Calls Try.prog 50 #[.pointer (some ⟨q, 0, none⟩)] W (Got q b W v (pT) (x1, ⟨a1, cd1⟩))) := fun W hc hW => by
    have t := name_any hv hS (st := ⟨a0, 0⟩) hc i0 W hW
    rwa [e1] at t
  obtain ⟨x2, ⟨a2, cd2⟩, e2⟩ : ∃ x s, sname u ⟨a1, cd1⟩ = (x, s) := ⟨_, _, rfl⟩
  have i2 : Sin u ⟨a2, cd2⟩ := by have t := sname_in i1; rwa [e2] at t
  have H2 : Hid (∀ W : World, (cd1 : Int) = 0 → W.rowIs q 82 2 (dF v b a1) → Calls Try.prog 50 #[.pointer (some ⟨q, 0, none⟩)] W (Got q b W v (pT) (x2, ⟨a2, cd2⟩))) := fun W hc hW => by
    have t := name_any hv hS (st := ⟨a1, cd1⟩) hc i1 W hW
    rwa [e2] at t
  obtain ⟨x3, sb3, d3⟩ : ∃ x s, sbyte u ⟨a2, cd2⟩ = (x, s) := ⟨_, _, rfl⟩
  obtain ⟨⟨a3, cd3⟩, e3⟩ : ∃ s, sover x3 sb3 = s := ⟨_, rfl⟩
  have i3 : Sin u ⟨a3, cd3⟩ := by have t := sover_in (x := x3) (sbyte_in i2); rwa [d3, e3] at t
  have H3 : Hid (∀ W : World, (cd2 : Int) = 0 → W.rowIs q 82 2 (dF v b a2) → Calls Try.prog 54 #[.pointer (some ⟨q, 0, none⟩)] W (Got q b W v (pN) (x3, ⟨a3, cd3⟩))) := fun W hc hW => by
    have t := kind_any hv hS (st := ⟨a2, cd2⟩) hc i2 W hW
    rwa [d3, e3] at t
  simp only [e1, e2, d3] at hx hx2
  obtain ⟨hx4, hx3⟩ := sover_ok hx
  rw [e3] at hx hx3
  subst hx3
  subst hx2
  replace hx : Hid (cd3 = 0) := hx
  clear hx4 e3
  obtain ⟨x4, ⟨a4, cd4⟩, e4⟩ : ∃ x s, snum u ⟨a3, cd3⟩ = (x, s) := ⟨_, _, rfl⟩
  have i4 : Sin u ⟨a4, cd4⟩ := by have t := snum_in i3; rwa [e4] at t
  have H4 : Hid (∀ W : World, (cd3 : Int) = 0 → W.rowIs q 82 2 (dF v b a3) → Calls Try.prog 34 #[.pointer (some ⟨q, 0, none⟩)] W (Got q b W v (pN) (x4, ⟨a4, cd4⟩))) := fun W hc hW => by
    have t := number_any hv hS (st := ⟨a3, cd3⟩) hc i3 W hW
    rwa [e4] at t
  replace e1 : Hid (sname u ⟨a0, 0⟩ = (x1, ⟨a1, cd1⟩)) := e1
  replace e2 : Hid (sname u ⟨a1, cd1⟩ = (x2, ⟨a2, cd2⟩)) := e2
  replace d3 : Hid (sbyte u ⟨a2, cd2⟩ = (0, ⟨a3, cd3⟩)) := d3
  replace e4 : Hid (snum u ⟨a3, cd3⟩ = (x4, ⟨a4, cd4⟩)) := e4
  replace hr : Hid (spart u ⟨a0, 0⟩ = r) := hr
  have hp : Hid ((w.alloc (.cells #[.string ⟨#[]⟩, .string ⟨#[]⟩, .int .i64 0, .int .i64 0, .bool false, .int .i64 0, .int .i64 0] 67)).rowIs w.heap.size 67 7 (fun j => [.string ⟨#[]⟩, .string ⟨#[]⟩, .int .i64 0, .int .i64 0, .bool false, .int .i64 0, .int .i64 0].getD j undef)) := row_new w 67 [.string ⟨#[]⟩, .string ⟨#[]⟩, .int .i64 0, .int .i64 0, .bool false, .int .i64 0, .int .i64 0]
  have D0 : Hid (Ds q b w (w.alloc (.cells #[.string ⟨#[]⟩, .string ⟨#[]⟩, .int .i64 0, .int .i64 0, .bool false, .int .i64 0, .int .i64 0] 67)) v a0) := (Ds.start h).later (La (Lz _))
  have E0 : Hid (Wr (· = q) (w.alloc (.cells #[.string ⟨#[]⟩, .string ⟨#[]⟩, .int .i64 0, .int .i64 0, .bool false, .int .i64 0, .int .i64 0] 67)) (w.alloc (.cells #[.string ⟨#[]⟩, .string ⟨#[]⟩, .int .i64 0, .int .i64 0, .bool false, .int .i64 0, .int .i64 0] 67))) := Wr.refl _ _
  have z0 : w.heap.size + 1 ≤ (w.alloc (.cells #[.string ⟨#[]⟩, .string ⟨#[]⟩, .int .i64 0, .int .i64 0, .bool false, .int .i64 0, .int .i64 0] 67)).heap.size := by simp
  clear h hin hS hv i0 i1 i2 i3 i4
  go_enter Try.func32, Try.ntmps32
  go_wp2_with fail
  refine (H1.out _ (by first | rfl | trivial) D0.out.2).mono ?_
  clear H1
  rintro e w1 (⟨hc1, ⟨y1, rfl, hy1⟩, G1⟩ | ⟨hc1, rfl, V1⟩)
  rotate_left
  · replace hc1 : ¬ cd1 = 0 := hc1
    refine ⟨rfl, Got.bad hc1 ?_ (D0.out.1.trans V1)⟩
    rw [← hr.out]
    have e1 := e1.out
    simp only [spart, simp4_bad (u := u) (st := ⟨a1, cd1⟩) hc1, e1, snum_bad (s := u) (st := ⟨a1, cd1⟩) hc1, sname_bad (s := u) (st := ⟨a1, cd1⟩) hc1, skind_bad (s := u) (st := ⟨a1, cd1⟩) hc1, sflag_bad (s := u) (st := ⟨a1, cd1⟩) hc1, sinstrs_bad (s := u) (st := ⟨a1, cd1⟩) hc1, skinds_bad (s := u) (st := ⟨a1, cd1⟩) hc1, snums_bad (s := u) (st := ⟨a1, cd1⟩) hc1, sbyte_bad (s := u) (st := ⟨a1, cd1⟩) hc1, slim_bad (s := u) (st := ⟨a1, cd1⟩) hc1, smust_bad (s := u) (st := ⟨a1, cd1⟩) hc1, snil_bad (st := ⟨a1, cd1⟩) hc1, sover_bad (st := ⟨a1, cd1⟩) hc1, sbytes_bad (s := u) (st := ⟨a1, cd1⟩) hc1, sclose_bad (st := ⟨a1, cd1⟩) hc1, slocs2_bad (s := u) (st := ⟨a1, cd1⟩) hc1]
  obtain rfl : cd1 = 0 := hc1
  obtain rfl : y1 = .string x1 := hy1
  have D1 : Hid (Ds q b w w1 v a1) := D0.out.trans G1
  have E1 : Hid (Wr (· = q) (w.alloc (.cells #[.string ⟨#[]⟩, .string ⟨#[]⟩, .int .i64 0, .int .i64 0, .bool false, .int .i64 0, .int .i64 0] 67)) w1) := E0.out.trans G1.1
  replace G1 : Hid _ := G1
  have z1 : w.heap.size + 1 ≤ w1.heap.size := Nat.le_trans z0 (Ds.size G1.out)
  go_wp2_with fail
  refine (H2.out _ (by first | rfl | trivial) D1.out.2).mono ?_
  clear H2
  rintro e w2 (⟨hc2, ⟨y2, rfl, hy2⟩, G2⟩ | ⟨hc2, rfl, V2⟩)
  rotate_left
  · replace hc2 : ¬ cd2 = 0 := hc2
    refine ⟨rfl, Got.bad hc2 ?_ (D1.out.1.trans V2)⟩
    rw [← hr.out]
    have e1 := e1.out
    have e2 := e2.out
    simp only [spart, simp4_bad (u := u) (st := ⟨a2, cd2⟩) hc2, e1, e2, snum_bad (s := u) (st := ⟨a2, cd2⟩) hc2, sname_bad (s := u) (st := ⟨a2, cd2⟩) hc2, skind_bad (s := u) (st := ⟨a2, cd2⟩) hc2, sflag_bad (s := u) (st := ⟨a2, cd2⟩) hc2, sinstrs_bad (s := u) (st := ⟨a2, cd2⟩) hc2, skinds_bad (s := u) (st := ⟨a2, cd2⟩) hc2, snums_bad (s := u) (st := ⟨a2, cd2⟩) hc2, sbyte_bad (s := u) (st := ⟨a2, cd2⟩) hc2, slim_bad (s := u) (st := ⟨a2, cd2⟩) hc2, smust_bad (s := u) (st := ⟨a2, cd2⟩) hc2, snil_bad (st := ⟨a2, cd2⟩) hc2, sover_bad (st := ⟨a2, cd2⟩) hc2, sbytes_bad (s := u) (st := ⟨a2, cd2⟩) hc2, sclose_bad (st := ⟨a2, cd2⟩) hc2, slocs2_bad (s := u) (st := ⟨a2, cd2⟩) hc2]
  obtain rfl : cd2 = 0 := hc2
  obtain rfl : y2 = .string x2 := hy2
  have D2 : Hid (Ds q b w w2 v a2) := D1.out.trans G2
  have E2 : Hid (Wr (· = q) (w.alloc (.cells #[.string ⟨#[]⟩, .string ⟨#[]⟩, .int .i64 0, .int .i64 0, .bool false, .int .i64 0, .int .i64 0] 67)) w2) := E1.out.trans G2.1
  replace G2 : Hid _ := G2
  have z2 : w.heap.size + 1 ≤ w2.heap.size := Nat.le_trans z1 (Ds.size G2.out)
  go_wp2_with fail
  refine (H3.out _ (by first | rfl | trivial) D2.out.2).mono ?_
  clear H3
  rintro e w3 (⟨hc3, ⟨y3, rfl, hy3⟩, G3⟩ | ⟨hc3, rfl, V3⟩)
  rotate_left
  · replace hc3 : ¬ cd3 = 0 := hc3
    exact absurd hx.out hc3
  obtain rfl : cd3 = 0 := hc3
  obtain rfl : y3 = .int .i64 0 := hy3
  have D3 : Hid (Ds q b w w3 v a3) := D2.out.trans G3
  have E3 : Hid (Wr (· = q) (w.alloc (.cells #[.string ⟨#[]⟩, .string ⟨#[]⟩, .int .i64 0, .int .i64 0, .bool false, .int .i64 0, .int .i64 0] 67)) w3) := E2.out.trans G3.1
  replace G3 : Hid _ := G3
  have z3 : w.heap.size + 1 ≤ w3.heap.size := Nat.le_trans z2 (Ds.size G3.out)
  have D3b : Hid (Ds q b w (w3.alloc (.cells #[.string x1, .string x2, .int .i64 0, .int .i64 0, .bool false, .int .i64 0, .int .i64 0] 67)) v a3) := D3.out.later (La (Lz _))
  have E3b : Hid (Wr (· = q) (w.alloc (.cells #[.string ⟨#[]⟩, .string ⟨#[]⟩, .int .i64 0, .int .i64 0, .bool false, .int .i64 0, .int .i64 0] 67)) (w3.alloc (.cells #[.string x1, .string x2, .int .i64 0, .int .i64 0, .bool false, .int .i64 0, .int .i64 0] 67))) := E3.out.ltr (La (Lz _))
  have hp2 : Hid ((w3.alloc (.cells #[.string x1, .string x2, .int .i64 0, .int .i64 0, .bool false, .int .i64 0, .int .i64 0] 67)).rowIs w3.heap.size 67 7 (fun j => [.string x1, .string x2, .int .i64 0, .int .i64 0, .bool false, .int .i64 0, .int .i64 0].getD j undef)) := row_new w3 67 [.string x1, .string x2, .int .i64 0, .int .i64 0, .bool false, .int .i64 0, .int .i64 0]
  have z3b : w.heap.size + 1 ≤ (w3.alloc (.cells #[.string x1, .string x2, .int .i64 0, .int .i64 0, .bool false, .int .i64 0, .int .i64 0] 67)).heap.size := by simp; omega
  have F3 : Hid (Wr (· = q) (w3.alloc (.cells #[.string x1, .string x2, .int .i64 0, .int .i64 0, .bool false, .int .i64 0, .int .i64 0] 67)) (w3.alloc (.cells #[.string x1, .string x2, .int .i64 0, .int .i64 0, .bool false, .int .i64 0, .int .i64 0] 67))) := Wr.refl _ _
  go_wp2_with fail
  refine (H4.out _ (by first | rfl | trivial) D3b.out.2).mono ?_
  clear H4
  rintro e w4 (⟨hc4, ⟨y4, rfl, hy4⟩, G4⟩ | ⟨hc4, rfl, V4⟩)
  rotate_left
  · replace hc4 : ¬ cd4 = 0 := hc4
    refine ⟨rfl, Got.bad hc4 ?_ (D3b.out.1.trans V4)⟩
    rw [← hr.out]
    have e1 := e1.out
    have e2 := e2.out
    have d3 := d3.out
    have e4 := e4.out
    simp only [spart, simp4_0, e1, e2, d3, e4, snum_bad (s := u) (st := ⟨a4, cd4⟩) hc4, sname_bad (s := u) (st := ⟨a4, cd4⟩) hc4, skind_bad (s := u) (st := ⟨a4, cd4⟩) hc4, sflag_bad (s := u) (st := ⟨a4, cd4⟩) hc4, sinstrs_bad (s := u) (st := ⟨a4, cd4⟩) hc4, skinds_bad (s := u) (st := ⟨a4, cd4⟩) hc4, snums_bad (s := u) (st := ⟨a4, cd4⟩) hc4, sbyte_bad (s := u) (st := ⟨a4, cd4⟩) hc4, slim_bad (s := u) (st := ⟨a4, cd4⟩) hc4, smust_bad (s := u) (st := ⟨a4, cd4⟩) hc4, snil_bad (st := ⟨a4, cd4⟩) hc4, sover_bad (st := ⟨a4, cd4⟩) hc4, sbytes_bad (s := u) (st := ⟨a4, cd4⟩) hc4, sclose_bad (st := ⟨a4, cd4⟩) hc4, slocs2_bad (s := u) (st := ⟨a4, cd4⟩) hc4]
  obtain rfl : cd4 = 0 := hc4
  obtain rfl : y4 = .int .i64 x4 := hy4
  have D4 : Hid (Ds q b w w4 v a4) := D3b.out.trans G4
  have E4 : Hid (Wr (· = q) (w.alloc (.cells #[.string ⟨#[]⟩, .string ⟨#[]⟩, .int .i64 0, .int .i64 0, .bool false, .int .i64 0, .int .i64 0] 67)) w4) := E3b.out.trans G4.1
  replace G4 : Hid _ := G4
  have z4 : w.heap.size + 1 ≤ w4.heap.size := Nat.le_trans z3b (Ds.size G4.out)
  have F4 : Hid (Wr (· = q) (w3.alloc (.cells #[.string x1, .string x2, .int .i64 0, .int .i64 0, .bool false, .int .i64 0, .int .i64 0] 67)) w4) := And.left G4.out
  have s4 := F4.out.row (by show ¬ w3.heap.size = q; omega) hp2.out
  replace s4 : Hid (w4.rowIs w3.heap.size 67 7 (fun j => [.string x1, .string x2, .int .i64 0, .int .i64 0, .bool false, .int .i64 0, .int .i64 0].getD j undef)) := s4
  have rp := E4.out.row (by show ¬ w.heap.size = q; omega) hp.out
  have k0' : w4.cell? ⟨w.heap.size, 0, none⟩ = some (.string ⟨#[]⟩) := rp.cell (i := 0) (by decide)
  have g0' := rp.frozen 0
  have k1' : w4.cell? ⟨w.heap.size, 1, none⟩ = some (.string ⟨#[]⟩) := rp.cell (i := 1) (by decide)
  have g1' := rp.frozen 1
  have k2' : w4.cell? ⟨w.heap.size, 2, none⟩ = some (.int .i64 0) := rp.cell (i := 2) (by decide)
  have g2' := rp.frozen 2
  have k3' : w4.cell? ⟨w.heap.size, 3, none⟩ = some (.int .i64 0) := rp.cell (i := 3) (by decide)
  have g3' := rp.frozen 3
  have k4' : w4.cell? ⟨w.heap.size, 4, none⟩ = some (.bool false) := rp.cell (i := 4) (by decide)
  have g4' := rp.frozen 4
  have k5' : w4.cell? ⟨w.heap.size, 5, none⟩ = some (.int .i64 0) := rp.cell (i := 5) (by decide)
  have g5' := rp.frozen 5
  have k6' : w4.cell? ⟨w.heap.size, 6, none⟩ = some (.int .i64 0) := rp.cell (i := 6) (by decide)
  have g6' := rp.frozen 6
  have m0' : w4.cell? ⟨w3.heap.size, 0, none⟩ = some (.string x1) := s4.out.cell (i := 0) (by decide)
  have n0' := s4.out.frozen 0
  have m1' : w4.cell? ⟨w3.heap.size, 1, none⟩ = some (.string x2) := s4.out.cell (i := 1) (by decide)
  have n1' := s4.out.frozen 1
  have m2' : w4.cell? ⟨w3.heap.size, 2, none⟩ = some (.int .i64 0) := s4.out.cell (i := 2) (by decide)
  have n2' := s4.out.frozen 2
  have m3' : w4.cell? ⟨w3.heap.size, 3, none⟩ = some (.int .i64 0) := s4.out.cell (i := 3) (by decide)
  have n3' := s4.out.frozen 3
  have m4' : w4.cell? ⟨w3.heap.size, 4, none⟩ = some (.bool false) := s4.out.cell (i := 4) (by decide)
  have n4' := s4.out.frozen 4
  have m5' : w4.cell? ⟨w3.heap.size, 5, none⟩ = some (.int .i64 0) := s4.out.cell (i := 5) (by decide)
  have n5' := s4.out.frozen 5
  have m6' : w4.cell? ⟨w3.heap.size, 6, none⟩ = some (.int .i64 0) := s4.out.cell (i := 6) (by decide)
  have n6' := s4.out.frozen 6
  have hlt := cell_lt k0'
  have hlt2 := cell_lt m0'
  have hne : w.heap.size ≠ w3.heap.size := by omega
  clear rp hp
  have hr2 : spart u ⟨a0, 0⟩ = r := hr.out
  have e1 := e1.out
  have e2 := e2.out
  have d3 := d3.out
  have e4 := e4.out
  simp only [spart, simp4_0, e1, e2, d3, e4] at hr2
  replace hr2 : Hid (_ = r) := hr2
  clear hr e1 e2 d3 e4
  go_wp2_with fail
  rw [← hr2.out]
  refine bodyPost_ret (v := .agg #[.string x1, .string x2, .int .i64 0, .int .i64 x4, .bool false, .int .i64 0, .int .i64 0]) (by simp [results, Try.results32, go_sem, k0', k1', k2', k3', k4', k5', k6', hlt]) rfl (Got.ok rfl ?_ (((((((((D4.out).put (show w.heap.size ≤ w3.heap.size by omega) hq 3 _).put (Nat.le_refl _) hq 0 _).put (Nat.le_refl _) hq 1 _).put (Nat.le_refl _) hq 2 _).put (Nat.le_refl _) hq 3 _).put (Nat.le_refl _) hq 4 _).put (Nat.le_refl _) hq 5 _).put (Nat.le_refl _) hq 6 _))
  exact ⟨[.string x1, .string x2, .int .i64 0, .int .i64 x4, .bool false, .int .i64 0, .int .i64 0], rfl, ⟨_, _, rfl, rfl, ⟨_, _, rfl, rfl, ⟨_, _, rfl, rfl, ⟨_, _, rfl, rfl, ⟨_, _, rfl, rfl, ⟨_, _, rfl, rfl, ⟨_, _, rfl, rfl, rfl⟩⟩⟩⟩⟩⟩⟩⟩
theorem imported_1 (hv : v.size < 9223372036854775000) (hS : Shf b v u) (hc : st.code = 0) (hin : Sin u st) (w : World) (h : w.rowIs q 82 2 (dF v b st.at_)) (hx : (sover (sbyte u (sname u (sname u st).2).2).1 (sbyte u (sname u (sname u st).2).2).2).code = 0) (hx2 : (sbyte u (sname u (sname u st).2).2).1 = 1) :
    Calls Try.prog 32 #[.pointer (some ⟨q, 0, none⟩)] w (Got q b w v (pS fIm w.heap.size) (spart u st)) := by
  have hq := h.lt
  obtain ⟨a0, cd0⟩ := st
  obtain rfl : cd0 = 0 := hc
  have i0 : Sin u ⟨a0, 0⟩ := hin
  generalize hr : spart u ⟨a0, 0⟩ = r
  obtain ⟨x1, ⟨a1, cd1⟩, e1⟩ : ∃ x s, sname u ⟨a0, 0⟩ = (x, s) := ⟨_, _, rfl⟩
  have i1 : Sin u ⟨a1, cd1⟩ := by have t := sname_in i0; rwa [e1] at t
  have H1 : Hid (∀ W : World, (0 : Int) = 0 → W.rowIs q 82 2 (dF v b a0) → Calls Try.prog 50 #[.pointer (some ⟨q, 0, none⟩)] W (Got q b W v (pT) (x1, ⟨a1, cd1⟩))) := fun W hc hW => by
    have t := name_any hv hS (st := ⟨a0, 0⟩) hc i0 W hW
    rwa [e1] at t
  obtain ⟨x2, ⟨a2, cd2⟩, e2⟩ : ∃ x s, sname u ⟨a1, cd1⟩ = (x, s) := ⟨_, _, rfl⟩
  have i2 : Sin u ⟨a2, cd2⟩ := by have t := sname_in i1; rwa [e2] at t
  have H2 : Hid (∀ W : World, (cd1 : Int) = 0 → W.rowIs q 82 2 (dF v b a1) → Calls Try.prog 50 #[.pointer (some ⟨q, 0, none⟩)] W (Got q b W v (pT) (x2, ⟨a2, cd2⟩))) := fun W hc hW => by
    have t := name_any hv hS (st := ⟨a1, cd1⟩) hc i1 W hW
    rwa [e2] at t
  obtain ⟨x3, sb3, d3⟩ : ∃ x s, sbyte u ⟨a2, cd2⟩ = (x, s) := ⟨_, _, rfl⟩
  obtain ⟨⟨a3, cd3⟩, e3⟩ : ∃ s, sover x3 sb3 = s := ⟨_, rfl⟩
  have i3 : Sin u ⟨a3, cd3⟩ := by have t := sover_in (x := x3) (sbyte_in i2); rwa [d3, e3] at t
  have H3 : Hid (∀ W : World, (cd2 : Int) = 0 → W.rowIs q 82 2 (dF v b a2) → Calls Try.prog 54 #[.pointer (some ⟨q, 0, none⟩)] W (Got q b W v (pN) (x3, ⟨a3, cd3⟩))) := fun W hc hW => by
    have t := kind_any hv hS (st := ⟨a2, cd2⟩) hc i2 W hW
    rwa [d3, e3] at t
  simp only [e1, e2, d3] at hx hx2
  obtain ⟨hx4, hx3⟩ := sover_ok hx
  rw [e3] at hx hx3
  subst hx3
  subst hx2
  replace hx : Hid (cd3 = 0) := hx
  clear hx4 e3
  obtain ⟨x4, ⟨a4, cd4⟩, e4⟩ : ∃ x s, slim u (smust u 112 ⟨a3, cd3⟩) = (x, s) := ⟨_, _, rfl⟩
  have i4 : Sin u ⟨a4, cd4⟩ := by have t := slim_in (smust_in i3 112); rwa [e4] at t
  have H4 : Hid (∀ W : World, (cd3 : Int) = 0 → W.rowIs q 82 2 (dF v b a3) → Calls Try.prog 36 #[.pointer (some ⟨q, 0, none⟩)] W (Got q b W v (pL) (x4, ⟨a4, cd4⟩))) := fun W hc hW => by
    have t := (show Calls Try.prog 36 #[.pointer (some ⟨q, 0, none⟩)] W (Got q b W v (pL) (slim u (smust u 112 ⟨a3, cd3⟩))) from table_any hv hS (st := ⟨a3, cd3⟩) hc i3 W hW)
    rwa [e4] at t
  replace e1 : Hid (sname u ⟨a0, 0⟩ = (x1, ⟨a1, cd1⟩)) := e1
  replace e2 : Hid (sname u ⟨a1, cd1⟩ = (x2, ⟨a2, cd2⟩)) := e2
  replace d3 : Hid (sbyte u ⟨a2, cd2⟩ = (1, ⟨a3, cd3⟩)) := d3
  replace e4 : Hid (slim u (smust u 112 ⟨a3, cd3⟩) = (x4, ⟨a4, cd4⟩)) := e4
  replace hr : Hid (spart u ⟨a0, 0⟩ = r) := hr
  have hp : Hid ((w.alloc (.cells #[.string ⟨#[]⟩, .string ⟨#[]⟩, .int .i64 0, .int .i64 0, .bool false, .int .i64 0, .int .i64 0] 67)).rowIs w.heap.size 67 7 (fun j => [.string ⟨#[]⟩, .string ⟨#[]⟩, .int .i64 0, .int .i64 0, .bool false, .int .i64 0, .int .i64 0].getD j undef)) := row_new w 67 [.string ⟨#[]⟩, .string ⟨#[]⟩, .int .i64 0, .int .i64 0, .bool false, .int .i64 0, .int .i64 0]
  have D0 : Hid (Ds q b w (w.alloc (.cells #[.string ⟨#[]⟩, .string ⟨#[]⟩, .int .i64 0, .int .i64 0, .bool false, .int .i64 0, .int .i64 0] 67)) v a0) := (Ds.start h).later (La (Lz _))
  have E0 : Hid (Wr (· = q) (w.alloc (.cells #[.string ⟨#[]⟩, .string ⟨#[]⟩, .int .i64 0, .int .i64 0, .bool false, .int .i64 0, .int .i64 0] 67)) (w.alloc (.cells #[.string ⟨#[]⟩, .string ⟨#[]⟩, .int .i64 0, .int .i64 0, .bool false, .int .i64 0, .int .i64 0] 67))) := Wr.refl _ _
  have z0 : w.heap.size + 1 ≤ (w.alloc (.cells #[.string ⟨#[]⟩, .string ⟨#[]⟩, .int .i64 0, .int .i64 0, .bool false, .int .i64 0, .int .i64 0] 67)).heap.size := by simp
  clear h hin hS hv i0 i1 i2 i3 i4
  go_enter Try.func32, Try.ntmps32
  go_wp2_with fail
  refine (H1.out _ (by first | rfl | trivial) D0.out.2).mono ?_
  clear H1
  rintro e w1 (⟨hc1, ⟨y1, rfl, hy1⟩, G1⟩ | ⟨hc1, rfl, V1⟩)
  rotate_left
  · replace hc1 : ¬ cd1 = 0 := hc1
    refine ⟨rfl, Got.bad hc1 ?_ (D0.out.1.trans V1)⟩
    rw [← hr.out]
    have e1 := e1.out
    simp only [spart, simp4_bad (u := u) (st := ⟨a1, cd1⟩) hc1, e1, snum_bad (s := u) (st := ⟨a1, cd1⟩) hc1, sname_bad (s := u) (st := ⟨a1, cd1⟩) hc1, skind_bad (s := u) (st := ⟨a1, cd1⟩) hc1, sflag_bad (s := u) (st := ⟨a1, cd1⟩) hc1, sinstrs_bad (s := u) (st := ⟨a1, cd1⟩) hc1, skinds_bad (s := u) (st := ⟨a1, cd1⟩) hc1, snums_bad (s := u) (st := ⟨a1, cd1⟩) hc1, sbyte_bad (s := u) (st := ⟨a1, cd1⟩) hc1, slim_bad (s := u) (st := ⟨a1, cd1⟩) hc1, smust_bad (s := u) (st := ⟨a1, cd1⟩) hc1, snil_bad (st := ⟨a1, cd1⟩) hc1, sover_bad (st := ⟨a1, cd1⟩) hc1, sbytes_bad (s := u) (st := ⟨a1, cd1⟩) hc1, sclose_bad (st := ⟨a1, cd1⟩) hc1, slocs2_bad (s := u) (st := ⟨a1, cd1⟩) hc1]
  obtain rfl : cd1 = 0 := hc1
  obtain rfl : y1 = .string x1 := hy1
  have D1 : Hid (Ds q b w w1 v a1) := D0.out.trans G1
  have E1 : Hid (Wr (· = q) (w.alloc (.cells #[.string ⟨#[]⟩, .string ⟨#[]⟩, .int .i64 0, .int .i64 0, .bool false, .int .i64 0, .int .i64 0] 67)) w1) := E0.out.trans G1.1
  replace G1 : Hid _ := G1
  have z1 : w.heap.size + 1 ≤ w1.heap.size := Nat.le_trans z0 (Ds.size G1.out)
  go_wp2_with fail
  refine (H2.out _ (by first | rfl | trivial) D1.out.2).mono ?_
  clear H2
  rintro e w2 (⟨hc2, ⟨y2, rfl, hy2⟩, G2⟩ | ⟨hc2, rfl, V2⟩)
  rotate_left
  · replace hc2 : ¬ cd2 = 0 := hc2
    refine ⟨rfl, Got.bad hc2 ?_ (D1.out.1.trans V2)⟩
    rw [← hr.out]
    have e1 := e1.out
    have e2 := e2.out
    simp only [spart, simp4_bad (u := u) (st := ⟨a2, cd2⟩) hc2, e1, e2, snum_bad (s := u) (st := ⟨a2, cd2⟩) hc2, sname_bad (s := u) (st := ⟨a2, cd2⟩) hc2, skind_bad (s := u) (st := ⟨a2, cd2⟩) hc2, sflag_bad (s := u) (st := ⟨a2, cd2⟩) hc2, sinstrs_bad (s := u) (st := ⟨a2, cd2⟩) hc2, skinds_bad (s := u) (st := ⟨a2, cd2⟩) hc2, snums_bad (s := u) (st := ⟨a2, cd2⟩) hc2, sbyte_bad (s := u) (st := ⟨a2, cd2⟩) hc2, slim_bad (s := u) (st := ⟨a2, cd2⟩) hc2, smust_bad (s := u) (st := ⟨a2, cd2⟩) hc2, snil_bad (st := ⟨a2, cd2⟩) hc2, sover_bad (st := ⟨a2, cd2⟩) hc2, sbytes_bad (s := u) (st := ⟨a2, cd2⟩) hc2, sclose_bad (st := ⟨a2, cd2⟩) hc2, slocs2_bad (s := u) (st := ⟨a2, cd2⟩) hc2]
  obtain rfl : cd2 = 0 := hc2
  obtain rfl : y2 = .string x2 := hy2
  have D2 : Hid (Ds q b w w2 v a2) := D1.out.trans G2
  have E2 : Hid (Wr (· = q) (w.alloc (.cells #[.string ⟨#[]⟩, .string ⟨#[]⟩, .int .i64 0, .int .i64 0, .bool false, .int .i64 0, .int .i64 0] 67)) w2) := E1.out.trans G2.1
  replace G2 : Hid _ := G2
  have z2 : w.heap.size + 1 ≤ w2.heap.size := Nat.le_trans z1 (Ds.size G2.out)
  go_wp2_with fail
  refine (H3.out _ (by first | rfl | trivial) D2.out.2).mono ?_
  clear H3
  rintro e w3 (⟨hc3, ⟨y3, rfl, hy3⟩, G3⟩ | ⟨hc3, rfl, V3⟩)
  rotate_left
  · replace hc3 : ¬ cd3 = 0 := hc3
    exact absurd hx.out hc3
  obtain rfl : cd3 = 0 := hc3
  obtain rfl : y3 = .int .i64 1 := hy3
  have D3 : Hid (Ds q b w w3 v a3) := D2.out.trans G3
  have E3 : Hid (Wr (· = q) (w.alloc (.cells #[.string ⟨#[]⟩, .string ⟨#[]⟩, .int .i64 0, .int .i64 0, .bool false, .int .i64 0, .int .i64 0] 67)) w3) := E2.out.trans G3.1
  replace G3 : Hid _ := G3
  have z3 : w.heap.size + 1 ≤ w3.heap.size := Nat.le_trans z2 (Ds.size G3.out)
  have D3b : Hid (Ds q b w (w3.alloc (.cells #[.string x1, .string x2, .int .i64 1, .int .i64 0, .bool false, .int .i64 0, .int .i64 0] 67)) v a3) := D3.out.later (La (Lz _))
  have E3b : Hid (Wr (· = q) (w.alloc (.cells #[.string ⟨#[]⟩, .string ⟨#[]⟩, .int .i64 0, .int .i64 0, .bool false, .int .i64 0, .int .i64 0] 67)) (w3.alloc (.cells #[.string x1, .string x2, .int .i64 1, .int .i64 0, .bool false, .int .i64 0, .int .i64 0] 67))) := E3.out.ltr (La (Lz _))
  have hp2 : Hid ((w3.alloc (.cells #[.string x1, .string x2, .int .i64 1, .int .i64 0, .bool false, .int .i64 0, .int .i64 0] 67)).rowIs w3.heap.size 67 7 (fun j => [.string x1, .string x2, .int .i64 1, .int .i64 0, .bool false, .int .i64 0, .int .i64 0].getD j undef)) := row_new w3 67 [.string x1, .string x2, .int .i64 1, .int .i64 0, .bool false, .int .i64 0, .int .i64 0]
  have z3b : w.heap.size + 1 ≤ (w3.alloc (.cells #[.string x1, .string x2, .int .i64 1, .int .i64 0, .bool false, .int .i64 0, .int .i64 0] 67)).heap.size := by simp; omega
  have F3 : Hid (Wr (· = q) (w3.alloc (.cells #[.string x1, .string x2, .int .i64 1, .int .i64 0, .bool false, .int .i64 0, .int .i64 0] 67)) (w3.alloc (.cells #[.string x1, .string x2, .int .i64 1, .int .i64 0, .bool false, .int .i64 0, .int .i64 0] 67))) := Wr.refl _ _
  go_wp2_with fail
  refine (H4.out _ (by first | rfl | trivial) D3b.out.2).mono ?_
  clear H4
  rintro e w4 (⟨hc4, ⟨y4, rfl, hy4⟩, G4⟩ | ⟨hc4, rfl, V4⟩)
  rotate_left
  · replace hc4 : ¬ cd4 = 0 := hc4
    refine ⟨rfl, Got.bad hc4 ?_ (D3b.out.1.trans V4)⟩
    rw [← hr.out]
    have e1 := e1.out
    have e2 := e2.out
    have d3 := d3.out
    have e4 := e4.out
    simp only [spart, simp4_1, e1, e2, d3, e4, snum_bad (s := u) (st := ⟨a4, cd4⟩) hc4, sname_bad (s := u) (st := ⟨a4, cd4⟩) hc4, skind_bad (s := u) (st := ⟨a4, cd4⟩) hc4, sflag_bad (s := u) (st := ⟨a4, cd4⟩) hc4, sinstrs_bad (s := u) (st := ⟨a4, cd4⟩) hc4, skinds_bad (s := u) (st := ⟨a4, cd4⟩) hc4, snums_bad (s := u) (st := ⟨a4, cd4⟩) hc4, sbyte_bad (s := u) (st := ⟨a4, cd4⟩) hc4, slim_bad (s := u) (st := ⟨a4, cd4⟩) hc4, smust_bad (s := u) (st := ⟨a4, cd4⟩) hc4, snil_bad (st := ⟨a4, cd4⟩) hc4, sover_bad (st := ⟨a4, cd4⟩) hc4, sbytes_bad (s := u) (st := ⟨a4, cd4⟩) hc4, sclose_bad (st := ⟨a4, cd4⟩) hc4, slocs2_bad (s := u) (st := ⟨a4, cd4⟩) hc4]
  obtain rfl : cd4 = 0 := hc4
  obtain rfl : y4 = .agg #[.int .i64 x4.1, .int .i64 x4.2] := hy4
  have D4 : Hid (Ds q b w w4 v a4) := D3b.out.trans G4
  have E4 : Hid (Wr (· = q) (w.alloc (.cells #[.string ⟨#[]⟩, .string ⟨#[]⟩, .int .i64 0, .int .i64 0, .bool false, .int .i64 0, .int .i64 0] 67)) w4) := E3b.out.trans G4.1
  replace G4 : Hid _ := G4
  have z4 : w.heap.size + 1 ≤ w4.heap.size := Nat.le_trans z3b (Ds.size G4.out)
  have F4 : Hid (Wr (· = q) (w3.alloc (.cells #[.string x1, .string x2, .int .i64 1, .int .i64 0, .bool false, .int .i64 0, .int .i64 0] 67)) w4) := And.left G4.out
  have s4 := F4.out.row (by show ¬ w3.heap.size = q; omega) hp2.out
  replace s4 : Hid (w4.rowIs w3.heap.size 67 7 (fun j => [.string x1, .string x2, .int .i64 1, .int .i64 0, .bool false, .int .i64 0, .int .i64 0].getD j undef)) := s4
  have rp := E4.out.row (by show ¬ w.heap.size = q; omega) hp.out
  have k0' : w4.cell? ⟨w.heap.size, 0, none⟩ = some (.string ⟨#[]⟩) := rp.cell (i := 0) (by decide)
  have g0' := rp.frozen 0
  have k1' : w4.cell? ⟨w.heap.size, 1, none⟩ = some (.string ⟨#[]⟩) := rp.cell (i := 1) (by decide)
  have g1' := rp.frozen 1
  have k2' : w4.cell? ⟨w.heap.size, 2, none⟩ = some (.int .i64 0) := rp.cell (i := 2) (by decide)
  have g2' := rp.frozen 2
  have k3' : w4.cell? ⟨w.heap.size, 3, none⟩ = some (.int .i64 0) := rp.cell (i := 3) (by decide)
  have g3' := rp.frozen 3
  have k4' : w4.cell? ⟨w.heap.size, 4, none⟩ = some (.bool false) := rp.cell (i := 4) (by decide)
  have g4' := rp.frozen 4
  have k5' : w4.cell? ⟨w.heap.size, 5, none⟩ = some (.int .i64 0) := rp.cell (i := 5) (by decide)
  have g5' := rp.frozen 5
  have k6' : w4.cell? ⟨w.heap.size, 6, none⟩ = some (.int .i64 0) := rp.cell (i := 6) (by decide)
  have g6' := rp.frozen 6
  have m0' : w4.cell? ⟨w3.heap.size, 0, none⟩ = some (.string x1) := s4.out.cell (i := 0) (by decide)
  have n0' := s4.out.frozen 0
  have m1' : w4.cell? ⟨w3.heap.size, 1, none⟩ = some (.string x2) := s4.out.cell (i := 1) (by decide)
  have n1' := s4.out.frozen 1
  have m2' : w4.cell? ⟨w3.heap.size, 2, none⟩ = some (.int .i64 1) := s4.out.cell (i := 2) (by decide)
  have n2' := s4.out.frozen 2
  have m3' : w4.cell? ⟨w3.heap.size, 3, none⟩ = some (.int .i64 0) := s4.out.cell (i := 3) (by decide)
  have n3' := s4.out.frozen 3
  have m4' : w4.cell? ⟨w3.heap.size, 4, none⟩ = some (.bool false) := s4.out.cell (i := 4) (by decide)
  have n4' := s4.out.frozen 4
  have m5' : w4.cell? ⟨w3.heap.size, 5, none⟩ = some (.int .i64 0) := s4.out.cell (i := 5) (by decide)
  have n5' := s4.out.frozen 5
  have m6' : w4.cell? ⟨w3.heap.size, 6, none⟩ = some (.int .i64 0) := s4.out.cell (i := 6) (by decide)
  have n6' := s4.out.frozen 6
  have hlt := cell_lt k0'
  have hlt2 := cell_lt m0'
  have hne : w.heap.size ≠ w3.heap.size := by omega
  clear rp hp
  have hr2 : spart u ⟨a0, 0⟩ = r := hr.out
  have e1 := e1.out
  have e2 := e2.out
  have d3 := d3.out
  have e4 := e4.out
  simp only [spart, simp4_1, e1, e2, d3, e4] at hr2
  replace hr2 : Hid (_ = r) := hr2
  clear hr e1 e2 d3 e4
  go_wp2_with fail
  rw [← hr2.out]
  refine bodyPost_ret (v := .agg #[.string x1, .string x2, .int .i64 1, .int .i64 0, .bool false, .int .i64 x4.1, .int .i64 x4.2]) (by simp [results, Try.results32, go_sem, k0', k1', k2', k3', k4', k5', k6', hlt]) rfl (Got.ok rfl ?_ ((((((((((D4.out).put (show w.heap.size ≤ w3.heap.size by omega) hq 5 _).put (show w.heap.size ≤ w3.heap.size by omega) hq 6 _).put (Nat.le_refl _) hq 0 _).put (Nat.le_refl _) hq 1 _).put (Nat.le_refl _) hq 2 _).put (Nat.le_refl _) hq 3 _).put (Nat.le_refl _) hq 4 _).put (Nat.le_refl _) hq 5 _).put (Nat.le_refl _) hq 6 _))
  exact ⟨[.string x1, .string x2, .int .i64 1, .int .i64 0, .bool false, .int .i64 x4.1, .int .i64 x4.2], rfl, ⟨_, _, rfl, rfl, ⟨_, _, rfl, rfl, ⟨_, _, rfl, rfl, ⟨_, _, rfl, rfl, ⟨_, _, rfl, rfl, ⟨_, _, rfl, rfl, ⟨_, _, rfl, rfl, rfl⟩⟩⟩⟩⟩⟩⟩⟩
theorem imported_2 (hv : v.size < 9223372036854775000) (hS : Shf b v u) (hc : st.code = 0) (hin : Sin u st) (w : World) (h : w.rowIs q 82 2 (dF v b st.at_)) (hx : (sover (sbyte u (sname u (sname u st).2).2).1 (sbyte u (sname u (sname u st).2).2).2).code = 0) (hx2 : (sbyte u (sname u (sname u st).2).2).1 = 2) :
    Calls Try.prog 32 #[.pointer (some ⟨q, 0, none⟩)] w (Got q b w v (pS fIm w.heap.size) (spart u st)) := by
  have hq := h.lt
  obtain ⟨a0, cd0⟩ := st
  obtain rfl : cd0 = 0 := hc
  have i0 : Sin u ⟨a0, 0⟩ := hin
  generalize hr : spart u ⟨a0, 0⟩ = r
  obtain ⟨x1, ⟨a1, cd1⟩, e1⟩ : ∃ x s, sname u ⟨a0, 0⟩ = (x, s) := ⟨_, _, rfl⟩
  have i1 : Sin u ⟨a1, cd1⟩ := by have t := sname_in i0; rwa [e1] at t
  have H1 : Hid (∀ W : World, (0 : Int) = 0 → W.rowIs q 82 2 (dF v b a0) → Calls Try.prog 50 #[.pointer (some ⟨q, 0, none⟩)] W (Got q b W v (pT) (x1, ⟨a1, cd1⟩))) := fun W hc hW => by
    have t := name_any hv hS (st := ⟨a0, 0⟩) hc i0 W hW
    rwa [e1] at t
  obtain ⟨x2, ⟨a2, cd2⟩, e2⟩ : ∃ x s, sname u ⟨a1, cd1⟩ = (x, s) := ⟨_, _, rfl⟩
  have i2 : Sin u ⟨a2, cd2⟩ := by have t := sname_in i1; rwa [e2] at t
  have H2 : Hid (∀ W : World, (cd1 : Int) = 0 → W.rowIs q 82 2 (dF v b a1) → Calls Try.prog 50 #[.pointer (some ⟨q, 0, none⟩)] W (Got q b W v (pT) (x2, ⟨a2, cd2⟩))) := fun W hc hW => by
    have t := name_any hv hS (st := ⟨a1, cd1⟩) hc i1 W hW
    rwa [e2] at t
  obtain ⟨x3, sb3, d3⟩ : ∃ x s, sbyte u ⟨a2, cd2⟩ = (x, s) := ⟨_, _, rfl⟩
  obtain ⟨⟨a3, cd3⟩, e3⟩ : ∃ s, sover x3 sb3 = s := ⟨_, rfl⟩
  have i3 : Sin u ⟨a3, cd3⟩ := by have t := sover_in (x := x3) (sbyte_in i2); rwa [d3, e3] at t
  have H3 : Hid (∀ W : World, (cd2 : Int) = 0 → W.rowIs q 82 2 (dF v b a2) → Calls Try.prog 54 #[.pointer (some ⟨q, 0, none⟩)] W (Got q b W v (pN) (x3, ⟨a3, cd3⟩))) := fun W hc hW => by
    have t := kind_any hv hS (st := ⟨a2, cd2⟩) hc i2 W hW
    rwa [d3, e3] at t
  simp only [e1, e2, d3] at hx hx2
  obtain ⟨hx4, hx3⟩ := sover_ok hx
  rw [e3] at hx hx3
  subst hx3
  subst hx2
  replace hx : Hid (cd3 = 0) := hx
  clear hx4 e3
  obtain ⟨x4, ⟨a4, cd4⟩, e4⟩ : ∃ x s, slim u ⟨a3, cd3⟩ = (x, s) := ⟨_, _, rfl⟩
  have i4 : Sin u ⟨a4, cd4⟩ := by have t := slim_in i3; rwa [e4] at t
  have H4 : Hid (∀ W : World, (cd3 : Int) = 0 → W.rowIs q 82 2 (dF v b a3) → Calls Try.prog 37 #[.pointer (some ⟨q, 0, none⟩)] W (Got q b W v (pL) (x4, ⟨a4, cd4⟩))) := fun W hc hW => by
    have t := limits_any hv hS (st := ⟨a3, cd3⟩) hc i3 W hW
    rwa [e4] at t
  replace e1 : Hid (sname u ⟨a0, 0⟩ = (x1, ⟨a1, cd1⟩)) := e1
  replace e2 : Hid (sname u ⟨a1, cd1⟩ = (x2, ⟨a2, cd2⟩)) := e2
  replace d3 : Hid (sbyte u ⟨a2, cd2⟩ = (2, ⟨a3, cd3⟩)) := d3
  replace e4 : Hid (slim u ⟨a3, cd3⟩ = (x4, ⟨a4, cd4⟩)) := e4
  replace hr : Hid (spart u ⟨a0, 0⟩ = r) := hr
  have hp : Hid ((w.alloc (.cells #[.string ⟨#[]⟩, .string ⟨#[]⟩, .int .i64 0, .int .i64 0, .bool false, .int .i64 0, .int .i64 0] 67)).rowIs w.heap.size 67 7 (fun j => [.string ⟨#[]⟩, .string ⟨#[]⟩, .int .i64 0, .int .i64 0, .bool false, .int .i64 0, .int .i64 0].getD j undef)) := row_new w 67 [.string ⟨#[]⟩, .string ⟨#[]⟩, .int .i64 0, .int .i64 0, .bool false, .int .i64 0, .int .i64 0]
  have D0 : Hid (Ds q b w (w.alloc (.cells #[.string ⟨#[]⟩, .string ⟨#[]⟩, .int .i64 0, .int .i64 0, .bool false, .int .i64 0, .int .i64 0] 67)) v a0) := (Ds.start h).later (La (Lz _))
  have E0 : Hid (Wr (· = q) (w.alloc (.cells #[.string ⟨#[]⟩, .string ⟨#[]⟩, .int .i64 0, .int .i64 0, .bool false, .int .i64 0, .int .i64 0] 67)) (w.alloc (.cells #[.string ⟨#[]⟩, .string ⟨#[]⟩, .int .i64 0, .int .i64 0, .bool false, .int .i64 0, .int .i64 0] 67))) := Wr.refl _ _
  have z0 : w.heap.size + 1 ≤ (w.alloc (.cells #[.string ⟨#[]⟩, .string ⟨#[]⟩, .int .i64 0, .int .i64 0, .bool false, .int .i64 0, .int .i64 0] 67)).heap.size := by simp
  clear h hin hS hv i0 i1 i2 i3 i4
  go_enter Try.func32, Try.ntmps32
  go_wp2_with fail
  refine (H1.out _ (by first | rfl | trivial) D0.out.2).mono ?_
  clear H1
  rintro e w1 (⟨hc1, ⟨y1, rfl, hy1⟩, G1⟩ | ⟨hc1, rfl, V1⟩)
  rotate_left
  · replace hc1 : ¬ cd1 = 0 := hc1
    refine ⟨rfl, Got.bad hc1 ?_ (D0.out.1.trans V1)⟩
    rw [← hr.out]
    have e1 := e1.out
    simp only [spart, simp4_bad (u := u) (st := ⟨a1, cd1⟩) hc1, e1, snum_bad (s := u) (st := ⟨a1, cd1⟩) hc1, sname_bad (s := u) (st := ⟨a1, cd1⟩) hc1, skind_bad (s := u) (st := ⟨a1, cd1⟩) hc1, sflag_bad (s := u) (st := ⟨a1, cd1⟩) hc1, sinstrs_bad (s := u) (st := ⟨a1, cd1⟩) hc1, skinds_bad (s := u) (st := ⟨a1, cd1⟩) hc1, snums_bad (s := u) (st := ⟨a1, cd1⟩) hc1, sbyte_bad (s := u) (st := ⟨a1, cd1⟩) hc1, slim_bad (s := u) (st := ⟨a1, cd1⟩) hc1, smust_bad (s := u) (st := ⟨a1, cd1⟩) hc1, snil_bad (st := ⟨a1, cd1⟩) hc1, sover_bad (st := ⟨a1, cd1⟩) hc1, sbytes_bad (s := u) (st := ⟨a1, cd1⟩) hc1, sclose_bad (st := ⟨a1, cd1⟩) hc1, slocs2_bad (s := u) (st := ⟨a1, cd1⟩) hc1]
  obtain rfl : cd1 = 0 := hc1
  obtain rfl : y1 = .string x1 := hy1
  have D1 : Hid (Ds q b w w1 v a1) := D0.out.trans G1
  have E1 : Hid (Wr (· = q) (w.alloc (.cells #[.string ⟨#[]⟩, .string ⟨#[]⟩, .int .i64 0, .int .i64 0, .bool false, .int .i64 0, .int .i64 0] 67)) w1) := E0.out.trans G1.1
  replace G1 : Hid _ := G1
  have z1 : w.heap.size + 1 ≤ w1.heap.size := Nat.le_trans z0 (Ds.size G1.out)
  go_wp2_with fail
  refine (H2.out _ (by first | rfl | trivial) D1.out.2).mono ?_
  clear H2
  rintro e w2 (⟨hc2, ⟨y2, rfl, hy2⟩, G2⟩ | ⟨hc2, rfl, V2⟩)
  rotate_left
  · replace hc2 : ¬ cd2 = 0 := hc2
    refine ⟨rfl, Got.bad hc2 ?_ (D1.out.1.trans V2)⟩
    rw [← hr.out]
    have e1 := e1.out
    have e2 := e2.out
    simp only [spart, simp4_bad (u := u) (st := ⟨a2, cd2⟩) hc2, e1, e2, snum_bad (s := u) (st := ⟨a2, cd2⟩) hc2, sname_bad (s := u) (st := ⟨a2, cd2⟩) hc2, skind_bad (s := u) (st := ⟨a2, cd2⟩) hc2, sflag_bad (s := u) (st := ⟨a2, cd2⟩) hc2, sinstrs_bad (s := u) (st := ⟨a2, cd2⟩) hc2, skinds_bad (s := u) (st := ⟨a2, cd2⟩) hc2, snums_bad (s := u) (st := ⟨a2, cd2⟩) hc2, sbyte_bad (s := u) (st := ⟨a2, cd2⟩) hc2, slim_bad (s := u) (st := ⟨a2, cd2⟩) hc2, smust_bad (s := u) (st := ⟨a2, cd2⟩) hc2, snil_bad (st := ⟨a2, cd2⟩) hc2, sover_bad (st := ⟨a2, cd2⟩) hc2, sbytes_bad (s := u) (st := ⟨a2, cd2⟩) hc2, sclose_bad (st := ⟨a2, cd2⟩) hc2, slocs2_bad (s := u) (st := ⟨a2, cd2⟩) hc2]
  obtain rfl : cd2 = 0 := hc2
  obtain rfl : y2 = .string x2 := hy2
  have D2 : Hid (Ds q b w w2 v a2) := D1.out.trans G2
  have E2 : Hid (Wr (· = q) (w.alloc (.cells #[.string ⟨#[]⟩, .string ⟨#[]⟩, .int .i64 0, .int .i64 0, .bool false, .int .i64 0, .int .i64 0] 67)) w2) := E1.out.trans G2.1
  replace G2 : Hid _ := G2
  have z2 : w.heap.size + 1 ≤ w2.heap.size := Nat.le_trans z1 (Ds.size G2.out)
  go_wp2_with fail
  refine (H3.out _ (by first | rfl | trivial) D2.out.2).mono ?_
  clear H3
  rintro e w3 (⟨hc3, ⟨y3, rfl, hy3⟩, G3⟩ | ⟨hc3, rfl, V3⟩)
  rotate_left
  · replace hc3 : ¬ cd3 = 0 := hc3
    exact absurd hx.out hc3
  obtain rfl : cd3 = 0 := hc3
  obtain rfl : y3 = .int .i64 2 := hy3
  have D3 : Hid (Ds q b w w3 v a3) := D2.out.trans G3
  have E3 : Hid (Wr (· = q) (w.alloc (.cells #[.string ⟨#[]⟩, .string ⟨#[]⟩, .int .i64 0, .int .i64 0, .bool false, .int .i64 0, .int .i64 0] 67)) w3) := E2.out.trans G3.1
  replace G3 : Hid _ := G3
  have z3 : w.heap.size + 1 ≤ w3.heap.size := Nat.le_trans z2 (Ds.size G3.out)
  have D3b : Hid (Ds q b w (w3.alloc (.cells #[.string x1, .string x2, .int .i64 2, .int .i64 0, .bool false, .int .i64 0, .int .i64 0] 67)) v a3) := D3.out.later (La (Lz _))
  have E3b : Hid (Wr (· = q) (w.alloc (.cells #[.string ⟨#[]⟩, .string ⟨#[]⟩, .int .i64 0, .int .i64 0, .bool false, .int .i64 0, .int .i64 0] 67)) (w3.alloc (.cells #[.string x1, .string x2, .int .i64 2, .int .i64 0, .bool false, .int .i64 0, .int .i64 0] 67))) := E3.out.ltr (La (Lz _))
  have hp2 : Hid ((w3.alloc (.cells #[.string x1, .string x2, .int .i64 2, .int .i64 0, .bool false, .int .i64 0, .int .i64 0] 67)).rowIs w3.heap.size 67 7 (fun j => [.string x1, .string x2, .int .i64 2, .int .i64 0, .bool false, .int .i64 0, .int .i64 0].getD j undef)) := row_new w3 67 [.string x1, .string x2, .int .i64 2, .int .i64 0, .bool false, .int .i64 0, .int .i64 0]
  have z3b : w.heap.size + 1 ≤ (w3.alloc (.cells #[.string x1, .string x2, .int .i64 2, .int .i64 0, .bool false, .int .i64 0, .int .i64 0] 67)).heap.size := by simp; omega
  have F3 : Hid (Wr (· = q) (w3.alloc (.cells #[.string x1, .string x2, .int .i64 2, .int .i64 0, .bool false, .int .i64 0, .int .i64 0] 67)) (w3.alloc (.cells #[.string x1, .string x2, .int .i64 2, .int .i64 0, .bool false, .int .i64 0, .int .i64 0] 67))) := Wr.refl _ _
  go_wp2_with fail
  refine (H4.out _ (by first | rfl | trivial) D3b.out.2).mono ?_
  clear H4
  rintro e w4 (⟨hc4, ⟨y4, rfl, hy4⟩, G4⟩ | ⟨hc4, rfl, V4⟩)
  rotate_left
  · replace hc4 : ¬ cd4 = 0 := hc4
    refine ⟨rfl, Got.bad hc4 ?_ (D3b.out.1.trans V4)⟩
    rw [← hr.out]
    have e1 := e1.out
    have e2 := e2.out
    have d3 := d3.out
    have e4 := e4.out
    simp only [spart, simp4_2, e1, e2, d3, e4, snum_bad (s := u) (st := ⟨a4, cd4⟩) hc4, sname_bad (s := u) (st := ⟨a4, cd4⟩) hc4, skind_bad (s := u) (st := ⟨a4, cd4⟩) hc4, sflag_bad (s := u) (st := ⟨a4, cd4⟩) hc4, sinstrs_bad (s := u) (st := ⟨a4, cd4⟩) hc4, skinds_bad (s := u) (st := ⟨a4, cd4⟩) hc4, snums_bad (s := u) (st := ⟨a4, cd4⟩) hc4, sbyte_bad (s := u) (st := ⟨a4, cd4⟩) hc4, slim_bad (s := u) (st := ⟨a4, cd4⟩) hc4, smust_bad (s := u) (st := ⟨a4, cd4⟩) hc4, snil_bad (st := ⟨a4, cd4⟩) hc4, sover_bad (st := ⟨a4, cd4⟩) hc4, sbytes_bad (s := u) (st := ⟨a4, cd4⟩) hc4, sclose_bad (st := ⟨a4, cd4⟩) hc4, slocs2_bad (s := u) (st := ⟨a4, cd4⟩) hc4]
  obtain rfl : cd4 = 0 := hc4
  obtain rfl : y4 = .agg #[.int .i64 x4.1, .int .i64 x4.2] := hy4
  have D4 : Hid (Ds q b w w4 v a4) := D3b.out.trans G4
  have E4 : Hid (Wr (· = q) (w.alloc (.cells #[.string ⟨#[]⟩, .string ⟨#[]⟩, .int .i64 0, .int .i64 0, .bool false, .int .i64 0, .int .i64 0] 67)) w4) := E3b.out.trans G4.1
  replace G4 : Hid _ := G4
  have z4 : w.heap.size + 1 ≤ w4.heap.size := Nat.le_trans z3b (Ds.size G4.out)
  have F4 : Hid (Wr (· = q) (w3.alloc (.cells #[.string x1, .string x2, .int .i64 2, .int .i64 0, .bool false, .int .i64 0, .int .i64 0] 67)) w4) := And.left G4.out
  have s4 := F4.out.row (by show ¬ w3.heap.size = q; omega) hp2.out
  replace s4 : Hid (w4.rowIs w3.heap.size 67 7 (fun j => [.string x1, .string x2, .int .i64 2, .int .i64 0, .bool false, .int .i64 0, .int .i64 0].getD j undef)) := s4
  have rp := E4.out.row (by show ¬ w.heap.size = q; omega) hp.out
  have k0' : w4.cell? ⟨w.heap.size, 0, none⟩ = some (.string ⟨#[]⟩) := rp.cell (i := 0) (by decide)
  have g0' := rp.frozen 0
  have k1' : w4.cell? ⟨w.heap.size, 1, none⟩ = some (.string ⟨#[]⟩) := rp.cell (i := 1) (by decide)
  have g1' := rp.frozen 1
  have k2' : w4.cell? ⟨w.heap.size, 2, none⟩ = some (.int .i64 0) := rp.cell (i := 2) (by decide)
  have g2' := rp.frozen 2
  have k3' : w4.cell? ⟨w.heap.size, 3, none⟩ = some (.int .i64 0) := rp.cell (i := 3) (by decide)
  have g3' := rp.frozen 3
  have k4' : w4.cell? ⟨w.heap.size, 4, none⟩ = some (.bool false) := rp.cell (i := 4) (by decide)
  have g4' := rp.frozen 4
  have k5' : w4.cell? ⟨w.heap.size, 5, none⟩ = some (.int .i64 0) := rp.cell (i := 5) (by decide)
  have g5' := rp.frozen 5
  have k6' : w4.cell? ⟨w.heap.size, 6, none⟩ = some (.int .i64 0) := rp.cell (i := 6) (by decide)
  have g6' := rp.frozen 6
  have m0' : w4.cell? ⟨w3.heap.size, 0, none⟩ = some (.string x1) := s4.out.cell (i := 0) (by decide)
  have n0' := s4.out.frozen 0
  have m1' : w4.cell? ⟨w3.heap.size, 1, none⟩ = some (.string x2) := s4.out.cell (i := 1) (by decide)
  have n1' := s4.out.frozen 1
  have m2' : w4.cell? ⟨w3.heap.size, 2, none⟩ = some (.int .i64 2) := s4.out.cell (i := 2) (by decide)
  have n2' := s4.out.frozen 2
  have m3' : w4.cell? ⟨w3.heap.size, 3, none⟩ = some (.int .i64 0) := s4.out.cell (i := 3) (by decide)
  have n3' := s4.out.frozen 3
  have m4' : w4.cell? ⟨w3.heap.size, 4, none⟩ = some (.bool false) := s4.out.cell (i := 4) (by decide)
  have n4' := s4.out.frozen 4
  have m5' : w4.cell? ⟨w3.heap.size, 5, none⟩ = some (.int .i64 0) := s4.out.cell (i := 5) (by decide)
  have n5' := s4.out.frozen 5
  have m6' : w4.cell? ⟨w3.heap.size, 6, none⟩ = some (.int .i64 0) := s4.out.cell (i := 6) (by decide)
  have n6' := s4.out.frozen 6
  have hlt := cell_lt k0'
  have hlt2 := cell_lt m0'
  have hne : w.heap.size ≠ w3.heap.size := by omega
  clear rp hp
  have hr2 : spart u ⟨a0, 0⟩ = r := hr.out
  have e1 := e1.out
  have e2 := e2.out
  have d3 := d3.out
  have e4 := e4.out
  simp only [spart, simp4_2, e1, e2, d3, e4] at hr2
  replace hr2 : Hid (_ = r) := hr2
  clear hr e1 e2 d3 e4
  go_wp2_with fail
  rw [← hr2.out]
  refine bodyPost_ret (v := .agg #[.string x1, .string x2, .int .i64 2, .int .i64 0, .bool false, .int .i64 x4.1, .int .i64 x4.2]) (by simp [results, Try.results32, go_sem, k0', k1', k2', k3', k4', k5', k6', hlt]) rfl (Got.ok rfl ?_ ((((((((((D4.out).put (show w.heap.size ≤ w3.heap.size by omega) hq 5 _).put (show w.heap.size ≤ w3.heap.size by omega) hq 6 _).put (Nat.le_refl _) hq 0 _).put (Nat.le_refl _) hq 1 _).put (Nat.le_refl _) hq 2 _).put (Nat.le_refl _) hq 3 _).put (Nat.le_refl _) hq 4 _).put (Nat.le_refl _) hq 5 _).put (Nat.le_refl _) hq 6 _))
  exact ⟨[.string x1, .string x2, .int .i64 2, .int .i64 0, .bool false, .int .i64 x4.1, .int .i64 x4.2], rfl, ⟨_, _, rfl, rfl, ⟨_, _, rfl, rfl, ⟨_, _, rfl, rfl, ⟨_, _, rfl, rfl, ⟨_, _, rfl, rfl, ⟨_, _, rfl, rfl, ⟨_, _, rfl, rfl, rfl⟩⟩⟩⟩⟩⟩⟩⟩
theorem imported_3 (hv : v.size < 9223372036854775000) (hS : Shf b v u) (hc : st.code = 0) (hin : Sin u st) (w : World) (h : w.rowIs q 82 2 (dF v b st.at_)) (hx : (sover (sbyte u (sname u (sname u st).2).2).1 (sbyte u (sname u (sname u st).2).2).2).code = 0) (hx2 : (sbyte u (sname u (sname u st).2).2).1 = 3) :
    Calls Try.prog 32 #[.pointer (some ⟨q, 0, none⟩)] w (Got q b w v (pS fIm w.heap.size) (spart u st)) := by
  have hq := h.lt
  obtain ⟨a0, cd0⟩ := st
  obtain rfl : cd0 = 0 := hc
  have i0 : Sin u ⟨a0, 0⟩ := hin
  generalize hr : spart u ⟨a0, 0⟩ = r
  obtain ⟨x1, ⟨a1, cd1⟩, e1⟩ : ∃ x s, sname u ⟨a0, 0⟩ = (x, s) := ⟨_, _, rfl⟩
  have i1 : Sin u ⟨a1, cd1⟩ := by have t := sname_in i0; rwa [e1] at t
  have H1 : Hid (∀ W : World, (0 : Int) = 0 → W.rowIs q 82 2 (dF v b a0) → Calls Try.prog 50 #[.pointer (some ⟨q, 0, none⟩)] W (Got q b W v (pT) (x1, ⟨a1, cd1⟩))) := fun W hc hW => by
    have t := name_any hv hS (st := ⟨a0, 0⟩) hc i0 W hW
    rwa [e1] at t
  obtain ⟨x2, ⟨a2, cd2⟩, e2⟩ : ∃ x s, sname u ⟨a1, cd1⟩ = (x, s) := ⟨_, _, rfl⟩
  have i2 : Sin u ⟨a2, cd2⟩ := by have t := sname_in i1; rwa [e2] at t
  have H2 : Hid (∀ W : World, (cd1 : Int) = 0 → W.rowIs q 82 2 (dF v b a1) → Calls Try.prog 50 #[.pointer (some ⟨q, 0, none⟩)] W (Got q b W v (pT) (x2, ⟨a2, cd2⟩))) := fun W hc hW => by
    have t := name_any hv hS (st := ⟨a1, cd1⟩) hc i1 W hW
    rwa [e2] at t
  obtain ⟨x3, sb3, d3⟩ : ∃ x s, sbyte u ⟨a2, cd2⟩ = (x, s) := ⟨_, _, rfl⟩
  obtain ⟨⟨a3, cd3⟩, e3⟩ : ∃ s, sover x3 sb3 = s := ⟨_, rfl⟩
  have i3 : Sin u ⟨a3, cd3⟩ := by have t := sover_in (x := x3) (sbyte_in i2); rwa [d3, e3] at t
  have H3 : Hid (∀ W : World, (cd2 : Int) = 0 → W.rowIs q 82 2 (dF v b a2) → Calls Try.prog 54 #[.pointer (some ⟨q, 0, none⟩)] W (Got q b W v (pN) (x3, ⟨a3, cd3⟩))) := fun W hc hW => by
    have t := kind_any hv hS (st := ⟨a2, cd2⟩) hc i2 W hW
    rwa [d3, e3] at t
  simp only [e1, e2, d3] at hx hx2
  obtain ⟨hx4, hx3⟩ := sover_ok hx
  rw [e3] at hx hx3
  subst hx3
  subst hx2
  replace hx : Hid (cd3 = 0) := hx
  clear hx4 e3
  obtain ⟨x4, ⟨a4, cd4⟩, e4⟩ : ∃ x s, skind u ⟨a3, cd3⟩ = (x, s) := ⟨_, _, rfl⟩
  have i4 : Sin u ⟨a4, cd4⟩ := by have t := skind_in i3; rwa [e4] at t
  have H4 : Hid (∀ W : World, (cd3 : Int) = 0 → W.rowIs q 82 2 (dF v b a3) → Calls Try.prog 53 #[.pointer (some ⟨q, 0, none⟩)] W (Got q b W v (pN) (x4, ⟨a4, cd4⟩))) := fun W hc hW => by
    have t := vtype_any hv hS (st := ⟨a3, cd3⟩) hc i3 W hW
    rwa [e4] at t
  obtain ⟨x5, ⟨a5, cd5⟩, e5⟩ : ∃ x s, sflag u ⟨a4, cd4⟩ = (x, s) := ⟨_, _, rfl⟩
  have i5 : Sin u ⟨a5, cd5⟩ := by have t := sflag_in i4; rwa [e5] at t
  have H5 : Hid (∀ W : World, (cd4 : Int) = 0 → W.rowIs q 82 2 (dF v b a4) → Calls Try.prog 55 #[.pointer (some ⟨q, 0, none⟩)] W (Got q b W v (pB) (x5, ⟨a5, cd5⟩))) := fun W hc hW => by
    have t := flag_any hv hS (st := ⟨a4, cd4⟩) hc i4 W hW
    rwa [e5] at t
  replace e1 : Hid (sname u ⟨a0, 0⟩ = (x1, ⟨a1, cd1⟩)) := e1
  replace e2 : Hid (sname u ⟨a1, cd1⟩ = (x2, ⟨a2, cd2⟩)) := e2
  replace d3 : Hid (sbyte u ⟨a2, cd2⟩ = (3, ⟨a3, cd3⟩)) := d3
  replace e4 : Hid (skind u ⟨a3, cd3⟩ = (x4, ⟨a4, cd4⟩)) := e4
  replace e5 : Hid (sflag u ⟨a4, cd4⟩ = (x5, ⟨a5, cd5⟩)) := e5
  replace hr : Hid (spart u ⟨a0, 0⟩ = r) := hr
  have hp : Hid ((w.alloc (.cells #[.string ⟨#[]⟩, .string ⟨#[]⟩, .int .i64 0, .int .i64 0, .bool false, .int .i64 0, .int .i64 0] 67)).rowIs w.heap.size 67 7 (fun j => [.string ⟨#[]⟩, .string ⟨#[]⟩, .int .i64 0, .int .i64 0, .bool false, .int .i64 0, .int .i64 0].getD j undef)) := row_new w 67 [.string ⟨#[]⟩, .string ⟨#[]⟩, .int .i64 0, .int .i64 0, .bool false, .int .i64 0, .int .i64 0]
  have D0 : Hid (Ds q b w (w.alloc (.cells #[.string ⟨#[]⟩, .string ⟨#[]⟩, .int .i64 0, .int .i64 0, .bool false, .int .i64 0, .int .i64 0] 67)) v a0) := (Ds.start h).later (La (Lz _))
  have E0 : Hid (Wr (· = q) (w.alloc (.cells #[.string ⟨#[]⟩, .string ⟨#[]⟩, .int .i64 0, .int .i64 0, .bool false, .int .i64 0, .int .i64 0] 67)) (w.alloc (.cells #[.string ⟨#[]⟩, .string ⟨#[]⟩, .int .i64 0, .int .i64 0, .bool false, .int .i64 0, .int .i64 0] 67))) := Wr.refl _ _
  have z0 : w.heap.size + 1 ≤ (w.alloc (.cells #[.string ⟨#[]⟩, .string ⟨#[]⟩, .int .i64 0, .int .i64 0, .bool false, .int .i64 0, .int .i64 0] 67)).heap.size := by simp
  clear h hin hS hv i0 i1 i2 i3 i4 i5
  go_enter Try.func32, Try.ntmps32
  go_wp2_with fail
  refine (H1.out _ (by first | rfl | trivial) D0.out.2).mono ?_
  clear H1
  rintro e w1 (⟨hc1, ⟨y1, rfl, hy1⟩, G1⟩ | ⟨hc1, rfl, V1⟩)
  rotate_left
  · replace hc1 : ¬ cd1 = 0 := hc1
    refine ⟨rfl, Got.bad hc1 ?_ (D0.out.1.trans V1)⟩
    rw [← hr.out]
    have e1 := e1.out
    simp only [spart, simp4_bad (u := u) (st := ⟨a1, cd1⟩) hc1, e1, snum_bad (s := u) (st := ⟨a1, cd1⟩) hc1, sname_bad (s := u) (st := ⟨a1, cd1⟩) hc1, skind_bad (s := u) (st := ⟨a1, cd1⟩) hc1, sflag_bad (s := u) (st := ⟨a1, cd1⟩) hc1, sinstrs_bad (s := u) (st := ⟨a1, cd1⟩) hc1, skinds_bad (s := u) (st := ⟨a1, cd1⟩) hc1, snums_bad (s := u) (st := ⟨a1, cd1⟩) hc1, sbyte_bad (s := u) (st := ⟨a1, cd1⟩) hc1, slim_bad (s := u) (st := ⟨a1, cd1⟩) hc1, smust_bad (s := u) (st := ⟨a1, cd1⟩) hc1, snil_bad (st := ⟨a1, cd1⟩) hc1, sover_bad (st := ⟨a1, cd1⟩) hc1, sbytes_bad (s := u) (st := ⟨a1, cd1⟩) hc1, sclose_bad (st := ⟨a1, cd1⟩) hc1, slocs2_bad (s := u) (st := ⟨a1, cd1⟩) hc1]
  obtain rfl : cd1 = 0 := hc1
  obtain rfl : y1 = .string x1 := hy1
  have D1 : Hid (Ds q b w w1 v a1) := D0.out.trans G1
  have E1 : Hid (Wr (· = q) (w.alloc (.cells #[.string ⟨#[]⟩, .string ⟨#[]⟩, .int .i64 0, .int .i64 0, .bool false, .int .i64 0, .int .i64 0] 67)) w1) := E0.out.trans G1.1
  replace G1 : Hid _ := G1
  have z1 : w.heap.size + 1 ≤ w1.heap.size := Nat.le_trans z0 (Ds.size G1.out)
  go_wp2_with fail
  refine (H2.out _ (by first | rfl | trivial) D1.out.2).mono ?_
  clear H2
  rintro e w2 (⟨hc2, ⟨y2, rfl, hy2⟩, G2⟩ | ⟨hc2, rfl, V2⟩)
  rotate_left
  · replace hc2 : ¬ cd2 = 0 := hc2
    refine ⟨rfl, Got.bad hc2 ?_ (D1.out.1.trans V2)⟩
    rw [← hr.out]
    have e1 := e1.out
    have e2 := e2.out
    simp only [spart, simp4_bad (u := u) (st := ⟨a2, cd2⟩) hc2, e1, e2, snum_bad (s := u) (st := ⟨a2, cd2⟩) hc2, sname_bad (s := u) (st := ⟨a2, cd2⟩) hc2, skind_bad (s := u) (st := ⟨a2, cd2⟩) hc2, sflag_bad (s := u) (st := ⟨a2, cd2⟩) hc2, sinstrs_bad (s := u) (st := ⟨a2, cd2⟩) hc2, skinds_bad (s := u) (st := ⟨a2, cd2⟩) hc2, snums_bad (s := u) (st := ⟨a2, cd2⟩) hc2, sbyte_bad (s := u) (st := ⟨a2, cd2⟩) hc2, slim_bad (s := u) (st := ⟨a2, cd2⟩) hc2, smust_bad (s := u) (st := ⟨a2, cd2⟩) hc2, snil_bad (st := ⟨a2, cd2⟩) hc2, sover_bad (st := ⟨a2, cd2⟩) hc2, sbytes_bad (s := u) (st := ⟨a2, cd2⟩) hc2, sclose_bad (st := ⟨a2, cd2⟩) hc2, slocs2_bad (s := u) (st := ⟨a2, cd2⟩) hc2]
  obtain rfl : cd2 = 0 := hc2
  obtain rfl : y2 = .string x2 := hy2
  have D2 : Hid (Ds q b w w2 v a2) := D1.out.trans G2
  have E2 : Hid (Wr (· = q) (w.alloc (.cells #[.string ⟨#[]⟩, .string ⟨#[]⟩, .int .i64 0, .int .i64 0, .bool false, .int .i64 0, .int .i64 0] 67)) w2) := E1.out.trans G2.1
  replace G2 : Hid _ := G2
  have z2 : w.heap.size + 1 ≤ w2.heap.size := Nat.le_trans z1 (Ds.size G2.out)
  go_wp2_with fail
  refine (H3.out _ (by first | rfl | trivial) D2.out.2).mono ?_
  clear H3
  rintro e w3 (⟨hc3, ⟨y3, rfl, hy3⟩, G3⟩ | ⟨hc3, rfl, V3⟩)
  rotate_left
  · replace hc3 : ¬ cd3 = 0 := hc3
    exact absurd hx.out hc3
  obtain rfl : cd3 = 0 := hc3
  obtain rfl : y3 = .int .i64 3 := hy3
  have D3 : Hid (Ds q b w w3 v a3) := D2.out.trans G3
  have E3 : Hid (Wr (· = q) (w.alloc (.cells #[.string ⟨#[]⟩, .string ⟨#[]⟩, .int .i64 0, .int .i64 0, .bool false, .int .i64 0, .int .i64 0] 67)) w3) := E2.out.trans G3.1
  replace G3 : Hid _ := G3
  have z3 : w.heap.size + 1 ≤ w3.heap.size := Nat.le_trans z2 (Ds.size G3.out)
  have D3b : Hid (Ds q b w (w3.alloc (.cells #[.string x1, .string x2, .int .i64 3, .int .i64 0, .bool false, .int .i64 0, .int .i64 0] 67)) v a3) := D3.out.later (La (Lz _))
  have E3b : Hid (Wr (· = q) (w.alloc (.cells #[.string ⟨#[]⟩, .string ⟨#[]⟩, .int .i64 0, .int .i64 0, .bool false, .int .i64 0, .int .i64 0] 67)) (w3.alloc (.cells #[.string x1, .string x2, .int .i64 3, .int .i64 0, .bool false, .int .i64 0, .int .i64 0] 67))) := E3.out.ltr (La (Lz _))
  have hp2 : Hid ((w3.alloc (.cells #[.string x1, .string x2, .int .i64 3, .int .i64 0, .bool false, .int .i64 0, .int .i64 0] 67)).rowIs w3.heap.size 67 7 (fun j => [.string x1, .string x2, .int .i64 3, .int .i64 0, .bool false, .int .i64 0, .int .i64 0].getD j undef)) := row_new w3 67 [.string x1, .string x2, .int .i64 3, .int .i64 0, .bool false, .int .i64 0, .int .i64 0]
  have z3b : w.heap.size + 1 ≤ (w3.alloc (.cells #[.string x1, .string x2, .int .i64 3, .int .i64 0, .bool false, .int .i64 0, .int .i64 0] 67)).heap.size := by simp; omega
  have F3 : Hid (Wr (· = q) (w3.alloc (.cells #[.string x1, .string x2, .int .i64 3, .int .i64 0, .bool false, .int .i64 0, .int .i64 0] 67)) (w3.alloc (.cells #[.string x1, .string x2, .int .i64 3, .int .i64 0, .bool false, .int .i64 0, .int .i64 0] 67))) := Wr.refl _ _
  go_wp2_with fail
  refine (H4.out _ (by first | rfl | trivial) D3b.out.2).mono ?_
  clear H4
  rintro e w4 (⟨hc4, ⟨y4, rfl, hy4⟩, G4⟩ | ⟨hc4, rfl, V4⟩)
  rotate_left
  · replace hc4 : ¬ cd4 = 0 := hc4
    refine ⟨rfl, Got.bad hc4 ?_ (D3b.out.1.trans V4)⟩
    rw [← hr.out]
    have e1 := e1.out
    have e2 := e2.out
    have d3 := d3.out
    have e4 := e4.out
    simp only [spart, simp4_3, e1, e2, d3, e4, snum_bad (s := u) (st := ⟨a4, cd4⟩) hc4, sname_bad (s := u) (st := ⟨a4, cd4⟩) hc4, skind_bad (s := u) (st := ⟨a4, cd4⟩) hc4, sflag_bad (s := u) (st := ⟨a4, cd4⟩) hc4, sinstrs_bad (s := u) (st := ⟨a4, cd4⟩) hc4, skinds_bad (s := u) (st := ⟨a4, cd4⟩) hc4, snums_bad (s := u) (st := ⟨a4, cd4⟩) hc4, sbyte_bad (s := u) (st := ⟨a4, cd4⟩) hc4, slim_bad (s := u) (st := ⟨a4, cd4⟩) hc4, smust_bad (s := u) (st := ⟨a4, cd4⟩) hc4, snil_bad (st := ⟨a4, cd4⟩) hc4, sover_bad (st := ⟨a4, cd4⟩) hc4, sbytes_bad (s := u) (st := ⟨a4, cd4⟩) hc4, sclose_bad (st := ⟨a4, cd4⟩) hc4, slocs2_bad (s := u) (st := ⟨a4, cd4⟩) hc4]
  obtain rfl : cd4 = 0 := hc4
  obtain rfl : y4 = .int .i64 x4 := hy4
  have D4 : Hid (Ds q b w w4 v a4) := D3b.out.trans G4
  have E4 : Hid (Wr (· = q) (w.alloc (.cells #[.string ⟨#[]⟩, .string ⟨#[]⟩, .int .i64 0, .int .i64 0, .bool false, .int .i64 0, .int .i64 0] 67)) w4) := E3b.out.trans G4.1
  replace G4 : Hid _ := G4
  have z4 : w.heap.size + 1 ≤ w4.heap.size := Nat.le_trans z3b (Ds.size G4.out)
  have F4 : Hid (Wr (· = q) (w3.alloc (.cells #[.string x1, .string x2, .int .i64 3, .int .i64 0, .bool false, .int .i64 0, .int .i64 0] 67)) w4) := And.left G4.out
  have s4 := F4.out.row (by show ¬ w3.heap.size = q; omega) hp2.out
  replace s4 : Hid (w4.rowIs w3.heap.size 67 7 (fun j => [.string x1, .string x2, .int .i64 3, .int .i64 0, .bool false, .int .i64 0, .int .i64 0].getD j undef)) := s4
  have m3 : w4.cell? ⟨w3.heap.size, 3, none⟩ = some (.int .i64 0) := s4.out.cell (i := 3) (by decide)
  have n3 := s4.out.frozen 3
  have m3l := cell_lt m3
  have D4b : Hid (Ds q b w (w4.setCell ⟨w3.heap.size, 3, none⟩ (.int .i64 x4)) v a4) := D4.out.put (by omega) hq 3 _
  have E4b : Hid (Wr (· = q) (w.alloc (.cells #[.string ⟨#[]⟩, .string ⟨#[]⟩, .int .i64 0, .int .i64 0, .bool false, .int .i64 0, .int .i64 0] 67)) (w4.setCell ⟨w3.heap.size, 3, none⟩ (.int .i64 x4))) := E4.out.above ((Wr.refl (fun j => w3.heap.size ≤ j) w4).set 3 _ (Or.inl (Nat.le_refl _))) (by simp; omega)
  have s4b : Hid ((w4.setCell ⟨w3.heap.size, 3, none⟩ (.int .i64 x4)).rowIs w3.heap.size 67 7 (fun j => if j = 3 then .int .i64 x4 else [.string x1, .string x2, .int .i64 3, .int .i64 0, .bool false, .int .i64 0, .int .i64 0].getD j undef)) := s4.out.set 3 _
  have z4b : w.heap.size + 1 ≤ (w4.setCell ⟨w3.heap.size, 3, none⟩ (.int .i64 x4)).heap.size := by simp; omega
  go_wp2_with fail
  refine (H5.out _ (by first | rfl | trivial) D4b.out.2).mono ?_
  clear H5
  rintro e w5 (⟨hc5, ⟨y5, rfl, hy5⟩, G5⟩ | ⟨hc5, rfl, V5⟩)
  rotate_left
  · replace hc5 : ¬ cd5 = 0 := hc5
    refine ⟨rfl, Got.bad hc5 ?_ (D4b.out.1.trans V5)⟩
    rw [← hr.out]
    have e1 := e1.out
    have e2 := e2.out
    have d3 := d3.out
    have e4 := e4.out
    have e5 := e5.out
    simp only [spart, simp4_3, e1, e2, d3, e4, e5, snum_bad (s := u) (st := ⟨a5, cd5⟩) hc5, sname_bad (s := u) (st := ⟨a5, cd5⟩) hc5, skind_bad (s := u) (st := ⟨a5, cd5⟩) hc5, sflag_bad (s := u) (st := ⟨a5, cd5⟩) hc5, sinstrs_bad (s := u) (st := ⟨a5, cd5⟩) hc5, skinds_bad (s := u) (st := ⟨a5, cd5⟩) hc5, snums_bad (s := u) (st := ⟨a5, cd5⟩) hc5, sbyte_bad (s := u) (st := ⟨a5, cd5⟩) hc5, slim_bad (s := u) (st := ⟨a5, cd5⟩) hc5, smust_bad (s := u) (st := ⟨a5, cd5⟩) hc5, snil_bad (st := ⟨a5, cd5⟩) hc5, sover_bad (st := ⟨a5, cd5⟩) hc5, sbytes_bad (s := u) (st := ⟨a5, cd5⟩) hc5, sclose_bad (st := ⟨a5, cd5⟩) hc5, slocs2_bad (s := u) (st := ⟨a5, cd5⟩) hc5]
  obtain rfl : cd5 = 0 := hc5
  obtain rfl : y5 = .bool x5 := hy5
  have D5 : Hid (Ds q b w w5 v a5) := D4b.out.trans G5
  have E5 : Hid (Wr (· = q) (w.alloc (.cells #[.string ⟨#[]⟩, .string ⟨#[]⟩, .int .i64 0, .int .i64 0, .bool false, .int .i64 0, .int .i64 0] 67)) w5) := E4b.out.trans G5.1
  replace G5 : Hid _ := G5
  have z5 : w.heap.size + 1 ≤ w5.heap.size := Nat.le_trans z4b (Ds.size G5.out)
  have s5 : Hid (w5.rowIs w3.heap.size 67 7 (fun j => if j = 3 then .int .i64 x4 else [.string x1, .string x2, .int .i64 3, .int .i64 0, .bool false, .int .i64 0, .int .i64 0].getD j undef)) := Wr.row (And.left G5.out) (by show ¬ w3.heap.size = q; omega) s4b.out
  have rp := E5.out.row (by show ¬ w.heap.size = q; omega) hp.out
  have k0' : w5.cell? ⟨w.heap.size, 0, none⟩ = some (.string ⟨#[]⟩) := rp.cell (i := 0) (by decide)
  have g0' := rp.frozen 0
  have k1' : w5.cell? ⟨w.heap.size, 1, none⟩ = some (.string ⟨#[]⟩) := rp.cell (i := 1) (by decide)
  have g1' := rp.frozen 1
  have k2' : w5.cell? ⟨w.heap.size, 2, none⟩ = some (.int .i64 0) := rp.cell (i := 2) (by decide)
  have g2' := rp.frozen 2
  have k3' : w5.cell? ⟨w.heap.size, 3, none⟩ = some (.int .i64 0) := rp.cell (i := 3) (by decide)
  have g3' := rp.frozen 3
  have k4' : w5.cell? ⟨w.heap.size, 4, none⟩ = some (.bool false) := rp.cell (i := 4) (by decide)
  have g4' := rp.frozen 4
  have k5' : w5.cell? ⟨w.heap.size, 5, none⟩ = some (.int .i64 0) := rp.cell (i := 5) (by decide)
  have g5' := rp.frozen 5
  have k6' : w5.cell? ⟨w.heap.size, 6, none⟩ = some (.int .i64 0) := rp.cell (i := 6) (by decide)
  have g6' := rp.frozen 6
  have m0' : w5.cell? ⟨w3.heap.size, 0, none⟩ = some (.string x1) := s5.out.cell (i := 0) (by decide)
  have n0' := s5.out.frozen 0
  have m1' : w5.cell? ⟨w3.heap.size, 1, none⟩ = some (.string x2) := s5.out.cell (i := 1) (by decide)
  have n1' := s5.out.frozen 1
  have m2' : w5.cell? ⟨w3.heap.size, 2, none⟩ = some (.int .i64 3) := s5.out.cell (i := 2) (by decide)
  have n2' := s5.out.frozen 2
  have m3' : w5.cell? ⟨w3.heap.size, 3, none⟩ = some (.int .i64 x4) := s5.out.cell (i := 3) (by decide)
  have n3' := s5.out.frozen 3
  have m4' : w5.cell? ⟨w3.heap.size, 4, none⟩ = some (.bool false) := s5.out.cell (i := 4) (by decide)
  have n4' := s5.out.frozen 4
  have m5' : w5.cell? ⟨w3.heap.size, 5, none⟩ = some (.int .i64 0) := s5.out.cell (i := 5) (by decide)
  have n5' := s5.out.frozen 5
  have m6' : w5.cell? ⟨w3.heap.size, 6, none⟩ = some (.int .i64 0) := s5.out.cell (i := 6) (by decide)
  have n6' := s5.out.frozen 6
  have hlt := cell_lt k0'
  have hlt2 := cell_lt m0'
  have hne : w.heap.size ≠ w3.heap.size := by omega
  clear rp hp
  have hr2 : spart u ⟨a0, 0⟩ = r := hr.out
  have e1 := e1.out
  have e2 := e2.out
  have d3 := d3.out
  have e4 := e4.out
  have e5 := e5.out
  simp only [spart, simp4_3, e1, e2, d3, e4, e5] at hr2
  replace hr2 : Hid (_ = r) := hr2
  clear hr e1 e2 d3 e4 e5
  go_wp2_with fail
  rw [← hr2.out]
  refine bodyPost_ret (v := .agg #[.string x1, .string x2, .int .i64 3, .int .i64 x4, .bool x5, .int .i64 0, .int .i64 0]) (by simp [results, Try.results32, go_sem, k0', k1', k2', k3', k4', k5', k6', hlt]) rfl (Got.ok rfl ?_ (((((((((D5.out).put (show w.heap.size ≤ w3.heap.size by omega) hq 4 _).put (Nat.le_refl _) hq 0 _).put (Nat.le_refl _) hq 1 _).put (Nat.le_refl _) hq 2 _).put (Nat.le_refl _) hq 3 _).put (Nat.le_refl _) hq 4 _).put (Nat.le_refl _) hq 5 _).put (Nat.le_refl _) hq 6 _))
  exact ⟨[.string x1, .string x2, .int .i64 3, .int .i64 x4, .bool x5, .int .i64 0, .int .i64 0], rfl, ⟨_, _, rfl, rfl, ⟨_, _, rfl, rfl, ⟨_, _, rfl, rfl, ⟨_, _, rfl, rfl, ⟨_, _, rfl, rfl, ⟨_, _, rfl, rfl, ⟨_, _, rfl, rfl, rfl⟩⟩⟩⟩⟩⟩⟩⟩
theorem imported_any (hv : v.size < 9223372036854775000) (hS : Shf b v u) (hc : st.code = 0) (hin : Sin u st) (w : World) (h : w.rowIs q 82 2 (dF v b st.at_)) :
    Calls Try.prog 32 #[.pointer (some ⟨q, 0, none⟩)] w (Got q b w v (pS fIm w.heap.size) (spart u st)) := by
  by_cases hx : (sover (sbyte u (sname u (sname u st).2).2).1 (sbyte u (sname u (sname u st).2).2).2).code = 0
  · have h1 := (sover_ok hx).1
    have h2 := sbyte_pos (s := u) (st := (sname u (sname u st).2).2) (sname_in (sname_in hin))
    obtain h3 | h3 | h3 | h3 : (sbyte u (sname u (sname u st).2).2).1 = 0 ∨ (sbyte u (sname u (sname u st).2).2).1 = 1 ∨ (sbyte u (sname u (sname u st).2).2).1 = 2 ∨ (sbyte u (sname u (sname u st).2).2).1 = 3 := by omega
    · exact imported_0 hv hS hc hin w h hx h3
    · exact imported_1 hv hS hc hin w h hx h3
    · exact imported_2 hv hS hc hin w h hx h3
    · exact imported_3 hv hS hc hin w h hx h3
  · exact imported_9 hv hS hc hin w h hx
end Go.Proofs.Ytngciahmoenkiab
