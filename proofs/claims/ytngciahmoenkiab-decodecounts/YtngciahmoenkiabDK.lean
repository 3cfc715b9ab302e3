/- package decode: an error that is thrown is caught (caught), and Module whole. -/
import Derived.Test.YtngciahmoenkiabEQ
import Derived.Test.YtngciahmoenkiabDJ
import Derived.Recover
set_option linter.unusedVariables false
set_option linter.unusedSimpArgs false
set_option maxRecDepth 100000
set_option maxHeartbeats 8000000
namespace Go.Proofs.Ytngciahmoenkiab
open Go.RowKit
theorem catch_idle (p q : Addr) (w : World) :
    CallsD Try.prog 19 #[.pointer (some p), .pointer (some q)] .returning w fun e u' w' => e = .returned (.tuple #[]) ∧ u' = .returning ∧ w' = w := by
  have hnn : ∀ w, (binOp .neq 20 .nilIface .nilIface).run Try.prog w = .ok (.bool false) w := fun _ => by kernel_rfl
  refine callsD_of_wpS Try.func19 rfl fun c₀ cs hu => ?_
  apply wpS_seq
  apply wpS_region
  simp [wpOpsS, go_sem, recoverD, hu, Try.ntmps19, Exit.thenS]
  apply wpS_seq
  apply wpS_region
  simp [wpOpsS, go_sem, hnn, Exit.thenS]
  refine wpS_cond (t := false) (by simp [Act.eval, Array.replicate]) ?_
  simp only [Bool.false_eq_true, if_false]
  refine wpS_of_wp (wp_skip ?_)
  cases c₀
  simp_all [bodyPostS, results, Try.results19]
theorem catch_thrown (p q : Nat) (c : Int) (older : List PanicEntry) (w : World) (hp : Rl w p 34 [.slice none 0 0, .slice none 0 0, .slice none 0 0, .slice none 0 0, .slice none 0 0, .slice none 0 0, .slice none 0 0, .int .i64 0, .slice none 0 0, .slice none 0 0, .slice none 0 0]) (hq : Rl w q 35 [.int .i64 0]) (hpq : p ≠ q) :
    CallsD Try.prog 19 #[.pointer (some ⟨p, 0, none⟩), .pointer (some ⟨q, 0, none⟩)] (.panicking ({ v := .iface 35 (.int .i64 c), recovered := false } :: older)) w fun e u' w' =>
      e = .returned (.tuple #[]) ∧ u' = .panicking ({ v := .iface 35 (.int .i64 c), recovered := true } :: older) ∧ Hid (Wr (fun k => k = p ∨ k = q) w w' ∧ Rl w' p 34 [.slice none 0 0, .slice none 0 0, .slice none 0 0, .slice none 0 0, .slice none 0 0, .slice none 0 0, .slice none 0 0, .int .i64 0, .slice none 0 0, .slice none 0 0, .slice none 0 0] ∧ Rl w' q 35 [.int .i64 c]) := by
  have hnn : ∀ w, (binOp .neq 20 (.iface 35 (.int .i64 c)) .nilIface).run Try.prog w = .ok (.bool true) w := fun _ => by kernel_rfl
  have p0 : w.cell? ⟨p, 0, none⟩ = some (.slice none 0 0) := hp.cell 0 rfl
  have f0 := Rl.frozen hp 0
  have p1 : w.cell? ⟨p, 1, none⟩ = some (.slice none 0 0) := hp.cell 1 rfl
  have f1 := Rl.frozen hp 1
  have p2 : w.cell? ⟨p, 2, none⟩ = some (.slice none 0 0) := hp.cell 2 rfl
  have f2 := Rl.frozen hp 2
  have p3 : w.cell? ⟨p, 3, none⟩ = some (.slice none 0 0) := hp.cell 3 rfl
  have f3 := Rl.frozen hp 3
  have p4 : w.cell? ⟨p, 4, none⟩ = some (.slice none 0 0) := hp.cell 4 rfl
  have f4 := Rl.frozen hp 4
  have p5 : w.cell? ⟨p, 5, none⟩ = some (.slice none 0 0) := hp.cell 5 rfl
  have f5 := Rl.frozen hp 5
  have p6 : w.cell? ⟨p, 6, none⟩ = some (.slice none 0 0) := hp.cell 6 rfl
  have f6 := Rl.frozen hp 6
  have p7 : w.cell? ⟨p, 7, none⟩ = some (.int .i64 0) := hp.cell 7 rfl
  have f7 := Rl.frozen hp 7
  have p8 : w.cell? ⟨p, 8, none⟩ = some (.slice none 0 0) := hp.cell 8 rfl
  have f8 := Rl.frozen hp 8
  have p9 : w.cell? ⟨p, 9, none⟩ = some (.slice none 0 0) := hp.cell 9 rfl
  have f9 := Rl.frozen hp 9
  have p10 : w.cell? ⟨p, 10, none⟩ = some (.slice none 0 0) := hp.cell 10 rfl
  have f10 := Rl.frozen hp 10
  have q0 : w.cell? ⟨q, 0, none⟩ = some (.int .i64 0) := hq.cell 0 rfl
  have g0 := Rl.frozen hq 0
  have lp := cell_lt p0
  have lq := cell_lt q0
  have hfin : Hid (Wr (fun k => k = p ∨ k = q) w (((((((((((((w.setCell ⟨p, 0, none⟩ (.slice none 0 0)).setCell ⟨p, 1, none⟩ (.slice none 0 0)).setCell ⟨p, 2, none⟩ (.slice none 0 0)).setCell ⟨p, 3, none⟩ (.slice none 0 0)).setCell ⟨p, 4, none⟩ (.slice none 0 0)).setCell ⟨p, 5, none⟩ (.slice none 0 0)).setCell ⟨p, 6, none⟩ (.slice none 0 0)).setCell ⟨p, 7, none⟩ (.int .i64 0)).setCell ⟨p, 8, none⟩ (.slice none 0 0)).setCell ⟨p, 9, none⟩ (.slice none 0 0)).setCell ⟨p, 10, none⟩ (.slice none 0 0)).setCell ⟨q, 0, none⟩ (.int .i64 c)).drew) ∧ Rl (((((((((((((w.setCell ⟨p, 0, none⟩ (.slice none 0 0)).setCell ⟨p, 1, none⟩ (.slice none 0 0)).setCell ⟨p, 2, none⟩ (.slice none 0 0)).setCell ⟨p, 3, none⟩ (.slice none 0 0)).setCell ⟨p, 4, none⟩ (.slice none 0 0)).setCell ⟨p, 5, none⟩ (.slice none 0 0)).setCell ⟨p, 6, none⟩ (.slice none 0 0)).setCell ⟨p, 7, none⟩ (.int .i64 0)).setCell ⟨p, 8, none⟩ (.slice none 0 0)).setCell ⟨p, 9, none⟩ (.slice none 0 0)).setCell ⟨p, 10, none⟩ (.slice none 0 0)).setCell ⟨q, 0, none⟩ (.int .i64 c)).drew) p 34 [.slice none 0 0, .slice none 0 0, .slice none 0 0, .slice none 0 0, .slice none 0 0, .slice none 0 0, .slice none 0 0, .int .i64 0, .slice none 0 0, .slice none 0 0, .slice none 0 0] ∧ Rl (((((((((((((w.setCell ⟨p, 0, none⟩ (.slice none 0 0)).setCell ⟨p, 1, none⟩ (.slice none 0 0)).setCell ⟨p, 2, none⟩ (.slice none 0 0)).setCell ⟨p, 3, none⟩ (.slice none 0 0)).setCell ⟨p, 4, none⟩ (.slice none 0 0)).setCell ⟨p, 5, none⟩ (.slice none 0 0)).setCell ⟨p, 6, none⟩ (.slice none 0 0)).setCell ⟨p, 7, none⟩ (.int .i64 0)).setCell ⟨p, 8, none⟩ (.slice none 0 0)).setCell ⟨p, 9, none⟩ (.slice none 0 0)).setCell ⟨p, 10, none⟩ (.slice none 0 0)).setCell ⟨q, 0, none⟩ (.int .i64 c)).drew) q 35 [.int .i64 c]) := ⟨Wr.ltr (Wr.set ((Wr.set ((Wr.set ((Wr.set ((Wr.set ((Wr.set ((Wr.set ((Wr.set ((Wr.set ((Wr.set ((Wr.set ((Wr.set (Wr.refl (fun k => k = p ∨ k = q) w) 0 _ (Or.inl (Or.inl rfl)))) 1 _ (Or.inl (Or.inl rfl)))) 2 _ (Or.inl (Or.inl rfl)))) 3 _ (Or.inl (Or.inl rfl)))) 4 _ (Or.inl (Or.inl rfl)))) 5 _ (Or.inl (Or.inl rfl)))) 6 _ (Or.inl (Or.inl rfl)))) 7 _ (Or.inl (Or.inl rfl)))) 8 _ (Or.inl (Or.inl rfl)))) 9 _ (Or.inl (Or.inl rfl)))) 10 _ (Or.inl (Or.inl rfl)))) 0 _ (Or.inl (Or.inr rfl))) (Ld (Lz _)), Rl.later (Rl.off (Rl.set (Rl.set (Rl.set (Rl.set (Rl.set (Rl.set (Rl.set (Rl.set (Rl.set (Rl.set (Rl.set hp 0 _) 1 _) 2 _) 3 _) 4 _) 5 _) 6 _) 7 _) 8 _) 9 _) 10 _) 0 _ hpq) (Ld (Lz _)), Rl.later (Rl.set (Rl.off (Rl.off (Rl.off (Rl.off (Rl.off (Rl.off (Rl.off (Rl.off (Rl.off (Rl.off (Rl.off hq 0 _ (fun e => hpq e.symm)) 1 _ (fun e => hpq e.symm)) 2 _ (fun e => hpq e.symm)) 3 _ (fun e => hpq e.symm)) 4 _ (fun e => hpq e.symm)) 5 _ (fun e => hpq e.symm)) 6 _ (fun e => hpq e.symm)) 7 _ (fun e => hpq e.symm)) 8 _ (fun e => hpq e.symm)) 9 _ (fun e => hpq e.symm)) 10 _ (fun e => hpq e.symm)) 0 _) (Ld (Lz _))⟩
  clear hp hq
  refine callsD_of_wpS Try.func19 rfl fun c₀ cs hu => ?_
  apply wpS_seq
  apply wpS_region
  simp [wpOpsS, go_sem, recoverD, hu, Try.ntmps19, Exit.thenS]
  apply wpS_seq
  apply wpS_region
  simp [wpOpsS, go_sem, hnn, Exit.thenS]
  refine wpS_cond (t := true) (by simp [Act.eval, Array.replicate]) ?_
  simp only [if_true]
  refine wpS_of_wp ?_
  have hta : ∀ w : World, (Instr.typeAssert (.iface 35 (.int .i64 c)) 20 35 false).run Try.prog w = .ok (.int .i64 c) w := fun _ => by kernel_rfl
  simp only [Array.replicate_succ, Array.replicate_zero, List.push_toArray, List.append_toArray, List.nil_append, List.cons_append, List.setIfInBounds_toArray, List.set_cons_zero, List.set_cons_succ]
  go_region_law (fail)
  all_goals
    exact ⟨rfl, _, rfl, _, by simp [results, Try.results19, go_sem], rfl, rfl, hfin⟩
theorem caught_any (s : ByteArray) (hs : s.size ≤ 65536) (h8 : 8 ≤ s.size) (w : World) :
    Calls Try.prog 14 #[.string s] w (UnQ w (unL s s.size 8 0 (mdZ (-1)))) := by
  have hmf : ∀ (fn : Fn) (first cap : Array Value) (w : World), (Instr.makeFunc fn first cap).run Try.prog w = .ok (.func fn first cap) w := fun _ _ _ _ => rfl
  have hm : Hid (Calls Try.prog 20 #[.string s] ((w.alloc (.cells #[.slice none 0 0, .slice none 0 0, .slice none 0 0, .slice none 0 0, .slice none 0 0, .slice none 0 0, .slice none 0 0, .int .i64 0, .slice none 0 0, .slice none 0 0, .slice none 0 0] 34)).alloc (.cells #[.int .i64 0] 35)) (ModP ((w.alloc (.cells #[.slice none 0 0, .slice none 0 0, .slice none 0 0, .slice none 0 0, .slice none 0 0, .slice none 0 0, .slice none 0 0, .int .i64 0, .slice none 0 0, .slice none 0 0, .slice none 0 0] 34)).alloc (.cells #[.int .i64 0] 35)) (unL s s.size 8 0 (mdZ (-1))))) := module_any s hs h8 _
  generalize unL s s.size 8 0 (mdZ (-1)) = r at *
  have P0 : Hid (Rl ((w.alloc (.cells #[.slice none 0 0, .slice none 0 0, .slice none 0 0, .slice none 0 0, .slice none 0 0, .slice none 0 0, .slice none 0 0, .int .i64 0, .slice none 0 0, .slice none 0 0, .slice none 0 0] 34)).alloc (.cells #[.int .i64 0] 35)) w.heap.size 34 [.slice none 0 0, .slice none 0 0, .slice none 0 0, .slice none 0 0, .slice none 0 0, .slice none 0 0, .slice none 0 0, .int .i64 0, .slice none 0 0, .slice none 0 0, .slice none 0 0]) := Rl.later (row_new w 34 [.slice none 0 0, .slice none 0 0, .slice none 0 0, .slice none 0 0, .slice none 0 0, .slice none 0 0, .slice none 0 0, .int .i64 0, .slice none 0 0, .slice none 0 0, .slice none 0 0]) (La (Lz _))
  have P1 : Hid (Rl ((w.alloc (.cells #[.slice none 0 0, .slice none 0 0, .slice none 0 0, .slice none 0 0, .slice none 0 0, .slice none 0 0, .slice none 0 0, .int .i64 0, .slice none 0 0, .slice none 0 0, .slice none 0 0] 34)).alloc (.cells #[.int .i64 0] 35)) (w.heap.size + 1) 35 [.int .i64 0]) := by
    have t := row_new (w.alloc (.cells #[.slice none 0 0, .slice none 0 0, .slice none 0 0, .slice none 0 0, .slice none 0 0, .slice none 0 0, .slice none 0 0, .int .i64 0, .slice none 0 0, .slice none 0 0, .slice none 0 0] 34)) 35 [.int .i64 0]
    rw [World.size_alloc] at t
    exact t
  have L0 : Hid (Later w ((w.alloc (.cells #[.slice none 0 0, .slice none 0 0, .slice none 0 0, .slice none 0 0, .slice none 0 0, .slice none 0 0, .slice none 0 0, .int .i64 0, .slice none 0 0, .slice none 0 0, .slice none 0 0] 34)).alloc (.cells #[.int .i64 0] 35))) := La (La (Lz _))
  have z0 : ((w.alloc (.cells #[.slice none 0 0, .slice none 0 0, .slice none 0 0, .slice none 0 0, .slice none 0 0, .slice none 0 0, .slice none 0 0, .int .i64 0, .slice none 0 0, .slice none 0 0, .slice none 0 0] 34)).alloc (.cells #[.int .i64 0] 35)).heap.size = w.heap.size + 2 := by simp
  replace z0 : Hid (((w.alloc (.cells #[.slice none 0 0, .slice none 0 0, .slice none 0 0, .slice none 0 0, .slice none 0 0, .slice none 0 0, .slice none 0 0, .int .i64 0, .slice none 0 0, .slice none 0 0, .slice none 0 0] 34)).alloc (.cells #[.int .i64 0] 35)).heap.size = w.heap.size + 2) := z0
  clear hs h8
  go_enter_defers Try.func14, Try.ntmps14
  go_wp2_with fail
  refine hm.out.mono ?_
  clear hm
  rintro e w2 (⟨hr, L, rfl, C2, l2⟩ | ⟨c, hc, rfl, rfl, l2⟩)
  · obtain ⟨m, rc⟩ := r
    obtain rfl : rc = 0 := hr
    have C3 := C2
    obtain ⟨v0, v1, v2, v3, v4, v5, v6, v8, v9, v10, e, ⟨A0, c0, rfl, _⟩, ⟨A1, c1, rfl, _⟩, ⟨A2, c2, rfl, _⟩, ⟨A3, c3, rfl, _⟩, ⟨A4, c4, rfl, _⟩, ⟨A5, c5, rfl, _⟩, ⟨A6, c6, rfl, _⟩, ⟨A8, c8, rfl, _⟩, ⟨A9, c9, rfl, _⟩, ⟨A10, c10, rfl, _⟩⟩ := C2
    subst e
    have p0 := P0.out.later l2
    have p1 := P1.out.later l2
    have k0' : w2.cell? ⟨w.heap.size, 0, none⟩ = some (.slice none 0 0) := p0.cell 0 rfl
    have f0' := Rl.frozen p0 0
    have k1' : w2.cell? ⟨w.heap.size, 1, none⟩ = some (.slice none 0 0) := p0.cell 1 rfl
    have f1' := Rl.frozen p0 1
    have k2' : w2.cell? ⟨w.heap.size, 2, none⟩ = some (.slice none 0 0) := p0.cell 2 rfl
    have f2' := Rl.frozen p0 2
    have k3' : w2.cell? ⟨w.heap.size, 3, none⟩ = some (.slice none 0 0) := p0.cell 3 rfl
    have f3' := Rl.frozen p0 3
    have k4' : w2.cell? ⟨w.heap.size, 4, none⟩ = some (.slice none 0 0) := p0.cell 4 rfl
    have f4' := Rl.frozen p0 4
    have k5' : w2.cell? ⟨w.heap.size, 5, none⟩ = some (.slice none 0 0) := p0.cell 5 rfl
    have f5' := Rl.frozen p0 5
    have k6' : w2.cell? ⟨w.heap.size, 6, none⟩ = some (.slice none 0 0) := p0.cell 6 rfl
    have f6' := Rl.frozen p0 6
    have k7' : w2.cell? ⟨w.heap.size, 7, none⟩ = some (.int .i64 0) := p0.cell 7 rfl
    have f7' := Rl.frozen p0 7
    have k8' : w2.cell? ⟨w.heap.size, 8, none⟩ = some (.slice none 0 0) := p0.cell 8 rfl
    have f8' := Rl.frozen p0 8
    have k9' : w2.cell? ⟨w.heap.size, 9, none⟩ = some (.slice none 0 0) := p0.cell 9 rfl
    have f9' := Rl.frozen p0 9
    have k10' : w2.cell? ⟨w.heap.size, 10, none⟩ = some (.slice none 0 0) := p0.cell 10 rfl
    have f10' := Rl.frozen p0 10
    have kc : w2.cell? ⟨w.heap.size + 1, 0, none⟩ = some (.int .i64 0) := p1.cell 0 rfl
    have fc := Rl.frozen p1 0
    have hl0 := cell_lt k0'
    have hl1 := cell_lt kc
    have R0 : Rl ((((((((((((w2.setCell ⟨w.heap.size, 0, none⟩ (.slice A0 m.ty.length c0)).setCell ⟨w.heap.size, 1, none⟩ (.slice A1 m.im.length c1)).setCell ⟨w.heap.size, 2, none⟩ (.slice A2 m.fu.length c2)).setCell ⟨w.heap.size, 3, none⟩ (.slice A3 m.ta.length c3)).setCell ⟨w.heap.size, 4, none⟩ (.slice A4 m.me.length c4)).setCell ⟨w.heap.size, 5, none⟩ (.slice A5 m.gl.length c5)).setCell ⟨w.heap.size, 6, none⟩ (.slice A6 m.ex.length c6)).setCell ⟨w.heap.size, 7, none⟩ (.int .i64 m.st)).setCell ⟨w.heap.size, 8, none⟩ (.slice A8 m.el.length c8)).setCell ⟨w.heap.size, 9, none⟩ (.slice A9 m.co.length c9)).setCell ⟨w.heap.size, 10, none⟩ (.slice A10 m.da.length c10)).setCell ⟨w.heap.size + 1, 0, none⟩ (.int .i64 0)) w.heap.size 34 [.slice A0 m.ty.length c0, .slice A1 m.im.length c1, .slice A2 m.fu.length c2, .slice A3 m.ta.length c3, .slice A4 m.me.length c4, .slice A5 m.gl.length c5, .slice A6 m.ex.length c6, .int .i64 m.st, .slice A8 m.el.length c8, .slice A9 m.co.length c9, .slice A10 m.da.length c10] := Rl.off (Rl.set (Rl.set (Rl.set (Rl.set (Rl.set (Rl.set (Rl.set (Rl.set (Rl.set (Rl.set (Rl.set p0 0 _) 1 _) 2 _) 3 _) 4 _) 5 _) 6 _) 7 _) 8 _) 9 _) 10 _) 0 _ (by omega)
    have R1 : Rl ((((((((((((w2.setCell ⟨w.heap.size, 0, none⟩ (.slice A0 m.ty.length c0)).setCell ⟨w.heap.size, 1, none⟩ (.slice A1 m.im.length c1)).setCell ⟨w.heap.size, 2, none⟩ (.slice A2 m.fu.length c2)).setCell ⟨w.heap.size, 3, none⟩ (.slice A3 m.ta.length c3)).setCell ⟨w.heap.size, 4, none⟩ (.slice A4 m.me.length c4)).setCell ⟨w.heap.size, 5, none⟩ (.slice A5 m.gl.length c5)).setCell ⟨w.heap.size, 6, none⟩ (.slice A6 m.ex.length c6)).setCell ⟨w.heap.size, 7, none⟩ (.int .i64 m.st)).setCell ⟨w.heap.size, 8, none⟩ (.slice A8 m.el.length c8)).setCell ⟨w.heap.size, 9, none⟩ (.slice A9 m.co.length c9)).setCell ⟨w.heap.size, 10, none⟩ (.slice A10 m.da.length c10)).setCell ⟨w.heap.size + 1, 0, none⟩ (.int .i64 0)) (w.heap.size + 1) 35 [.int .i64 0] := Rl.set (Rl.off (Rl.off (Rl.off (Rl.off (Rl.off (Rl.off (Rl.off (Rl.off (Rl.off (Rl.off (Rl.off p1 0 _ (by omega)) 1 _ (by omega)) 2 _ (by omega)) 3 _ (by omega)) 4 _ (by omega)) 5 _ (by omega)) 6 _ (by omega)) 7 _ (by omega)) 8 _ (by omega)) 9 _ (by omega)) 10 _ (by omega)) 0 _
    have hW : Wr (fun k => k = w.heap.size ∨ k = w.heap.size + 1) w2 ((((((((((((w2.setCell ⟨w.heap.size, 0, none⟩ (.slice A0 m.ty.length c0)).setCell ⟨w.heap.size, 1, none⟩ (.slice A1 m.im.length c1)).setCell ⟨w.heap.size, 2, none⟩ (.slice A2 m.fu.length c2)).setCell ⟨w.heap.size, 3, none⟩ (.slice A3 m.ta.length c3)).setCell ⟨w.heap.size, 4, none⟩ (.slice A4 m.me.length c4)).setCell ⟨w.heap.size, 5, none⟩ (.slice A5 m.gl.length c5)).setCell ⟨w.heap.size, 6, none⟩ (.slice A6 m.ex.length c6)).setCell ⟨w.heap.size, 7, none⟩ (.int .i64 m.st)).setCell ⟨w.heap.size, 8, none⟩ (.slice A8 m.el.length c8)).setCell ⟨w.heap.size, 9, none⟩ (.slice A9 m.co.length c9)).setCell ⟨w.heap.size, 10, none⟩ (.slice A10 m.da.length c10)).setCell ⟨w.heap.size + 1, 0, none⟩ (.int .i64 0)) := Wr.set (Wr.set (Wr.set (Wr.set (Wr.set (Wr.set (Wr.set (Wr.set (Wr.set (Wr.set (Wr.set (Wr.set (Wr.refl (fun k => k = w.heap.size ∨ k = w.heap.size + 1) w2) 0 _ (Or.inl (Or.inl rfl))) 1 _ (Or.inl (Or.inl rfl))) 2 _ (Or.inl (Or.inl rfl))) 3 _ (Or.inl (Or.inl rfl))) 4 _ (Or.inl (Or.inl rfl))) 5 _ (Or.inl (Or.inl rfl))) 6 _ (Or.inl (Or.inl rfl))) 7 _ (Or.inl (Or.inl rfl))) 8 _ (Or.inl (Or.inl rfl))) 9 _ (Or.inl (Or.inl rfl))) 10 _ (Or.inl (Or.inl rfl))) 0 _ (Or.inl (Or.inr rfl))
    have hU : UnQ w (m, 0) (.returned (.tuple #[.agg #[.slice A0 m.ty.length c0, .slice A1 m.im.length c1, .slice A2 m.fu.length c2, .slice A3 m.ta.length c3, .slice A4 m.me.length c4, .slice A5 m.gl.length c5, .slice A6 m.ex.length c6, .int .i64 m.st, .slice A8 m.el.length c8, .slice A9 m.co.length c9, .slice A10 m.da.length c10], .int .i64 0])) ((((((((((((w2.setCell ⟨w.heap.size, 0, none⟩ (.slice A0 m.ty.length c0)).setCell ⟨w.heap.size, 1, none⟩ (.slice A1 m.im.length c1)).setCell ⟨w.heap.size, 2, none⟩ (.slice A2 m.fu.length c2)).setCell ⟨w.heap.size, 3, none⟩ (.slice A3 m.ta.length c3)).setCell ⟨w.heap.size, 4, none⟩ (.slice A4 m.me.length c4)).setCell ⟨w.heap.size, 5, none⟩ (.slice A5 m.gl.length c5)).setCell ⟨w.heap.size, 6, none⟩ (.slice A6 m.ex.length c6)).setCell ⟨w.heap.size, 7, none⟩ (.int .i64 m.st)).setCell ⟨w.heap.size, 8, none⟩ (.slice A8 m.el.length c8)).setCell ⟨w.heap.size, 9, none⟩ (.slice A9 m.co.length c9)).setCell ⟨w.heap.size, 10, none⟩ (.slice A10 m.da.length c10)).setCell ⟨w.heap.size + 1, 0, none⟩ (.int .i64 0)) := by
      refine ⟨[.slice A0 m.ty.length c0, .slice A1 m.im.length c1, .slice A2 m.fu.length c2, .slice A3 m.ta.length c3, .slice A4 m.me.length c4, .slice A5 m.gl.length c5, .slice A6 m.ex.length c6, .int .i64 m.st, .slice A8 m.el.length c8, .slice A9 m.co.length c9, .slice A10 m.da.length c10], rfl, C3.move fun k hk hl => (by have h1 := hk.1; rw [z0.out] at h1; have e := hW.block k hl (by show ¬ (k = w.heap.size ∨ k = w.heap.size + 1); omega); exact ⟨⟨by show w.heap.size ≤ k; omega, nfof e hk.2⟩, e⟩), ?_⟩
      · exact Wr.later ((Wr.of_later (S := fun k => k = w.heap.size ∨ k = w.heap.size + 1) (L0.out.trans l2)).trans hW) (fun k hk => by rcases hk with hk | hk <;> omega)
    replace R0 : Hid _ := R0
    replace R1 : Hid _ := R1
    replace hU : Hid _ := hU
    clear hW C3 p0 p1 P0 P1 l2 L0 z0
    go_wp2_with fail
    refine leaves_cons (f := 19) (args := #[.pointer (some ⟨w.heap.size, 0, none⟩), .pointer (some ⟨w.heap.size + 1, 0, none⟩)]) (by simp) (by simp [go_sem]) ?_
    refine (catch_idle ⟨w.heap.size, 0, none⟩ ⟨w.heap.size + 1, 0, none⟩ _).mono ?_
    rintro e u' w3 ⟨rfl, rfl, hw3⟩
    rw [← hw3] at R0 R1 hU
    clear hw3
    have t0 : w3.cell? ⟨w.heap.size, 0, none⟩ = some (.slice A0 m.ty.length c0) := Rl.cell R0.out 0 rfl
    have t1 : w3.cell? ⟨w.heap.size, 1, none⟩ = some (.slice A1 m.im.length c1) := Rl.cell R0.out 1 rfl
    have t2 : w3.cell? ⟨w.heap.size, 2, none⟩ = some (.slice A2 m.fu.length c2) := Rl.cell R0.out 2 rfl
    have t3 : w3.cell? ⟨w.heap.size, 3, none⟩ = some (.slice A3 m.ta.length c3) := Rl.cell R0.out 3 rfl
    have t4 : w3.cell? ⟨w.heap.size, 4, none⟩ = some (.slice A4 m.me.length c4) := Rl.cell R0.out 4 rfl
    have t5 : w3.cell? ⟨w.heap.size, 5, none⟩ = some (.slice A5 m.gl.length c5) := Rl.cell R0.out 5 rfl
    have t6 : w3.cell? ⟨w.heap.size, 6, none⟩ = some (.slice A6 m.ex.length c6) := Rl.cell R0.out 6 rfl
    have t7 : w3.cell? ⟨w.heap.size, 7, none⟩ = some (.int .i64 m.st) := Rl.cell R0.out 7 rfl
    have t8 : w3.cell? ⟨w.heap.size, 8, none⟩ = some (.slice A8 m.el.length c8) := Rl.cell R0.out 8 rfl
    have t9 : w3.cell? ⟨w.heap.size, 9, none⟩ = some (.slice A9 m.co.length c9) := Rl.cell R0.out 9 rfl
    have t10 : w3.cell? ⟨w.heap.size, 10, none⟩ = some (.slice A10 m.da.length c10) := Rl.cell R0.out 10 rfl
    have tc : w3.cell? ⟨w.heap.size + 1, 0, none⟩ = some (.int .i64 0) := Rl.cell R1.out 0 rfl
    have hl3 := cell_lt t0
    have hl4 := cell_lt tc
    exact ⟨_, by simp [results, Try.results14, go_sem, t0, t1, t2, t3, t4, t5, t6, t7, t8, t9, t10, tc, hl3, hl4], hU.out⟩
  · have p0 := P0.out.later l2
    have p1 := P1.out.later l2
    refine leaves_cons (f := 19) (args := #[.pointer (some ⟨w.heap.size, 0, none⟩), .pointer (some ⟨w.heap.size + 1, 0, none⟩)]) (by simp) (by simp [go_sem]) ?_
    refine (catch_thrown w.heap.size (w.heap.size + 1) c [] w2 p0 p1 (by omega)).mono ?_
    rintro e u' w3 ⟨rfl, rfl, h3⟩
    obtain ⟨hW, R0, R1⟩ := h3.out
    clear h3
    have hU : UnQ w (mdZ 0, c) (.returned (.tuple #[.agg #[.slice none 0 0, .slice none 0 0, .slice none 0 0, .slice none 0 0, .slice none 0 0, .slice none 0 0, .slice none 0 0, .int .i64 0, .slice none 0 0, .slice none 0 0, .slice none 0 0], .int .i64 c])) w3 := ⟨[.slice none 0 0, .slice none 0 0, .slice none 0 0, .slice none 0 0, .slice none 0 0, .slice none 0 0, .slice none 0 0, .int .i64 0, .slice none 0 0, .slice none 0 0, .slice none 0 0], rfl, ModC.zero _ _ 0, Wr.later ((Wr.of_later (S := fun k => k = w.heap.size ∨ k = w.heap.size + 1) (L0.out.trans l2)).trans hW) (fun k hk => by rcases hk with hk | hk <;> omega)⟩
    have t0 : w3.cell? ⟨w.heap.size, 0, none⟩ = some (.slice none 0 0) := R0.cell 0 rfl
    have t1 : w3.cell? ⟨w.heap.size, 1, none⟩ = some (.slice none 0 0) := R0.cell 1 rfl
    have t2 : w3.cell? ⟨w.heap.size, 2, none⟩ = some (.slice none 0 0) := R0.cell 2 rfl
    have t3 : w3.cell? ⟨w.heap.size, 3, none⟩ = some (.slice none 0 0) := R0.cell 3 rfl
    have t4 : w3.cell? ⟨w.heap.size, 4, none⟩ = some (.slice none 0 0) := R0.cell 4 rfl
    have t5 : w3.cell? ⟨w.heap.size, 5, none⟩ = some (.slice none 0 0) := R0.cell 5 rfl
    have t6 : w3.cell? ⟨w.heap.size, 6, none⟩ = some (.slice none 0 0) := R0.cell 6 rfl
    have t7 : w3.cell? ⟨w.heap.size, 7, none⟩ = some (.int .i64 0) := R0.cell 7 rfl
    have t8 : w3.cell? ⟨w.heap.size, 8, none⟩ = some (.slice none 0 0) := R0.cell 8 rfl
    have t9 : w3.cell? ⟨w.heap.size, 9, none⟩ = some (.slice none 0 0) := R0.cell 9 rfl
    have t10 : w3.cell? ⟨w.heap.size, 10, none⟩ = some (.slice none 0 0) := R0.cell 10 rfl
    have tc : w3.cell? ⟨w.heap.size + 1, 0, none⟩ = some (.int .i64 c) := R1.cell 0 rfl
    have hl3 := cell_lt t0
    have hl4 := cell_lt tc
    clear hW R0 R1 p0 p1 P0 P1 l2 L0 z0
    exact ⟨_, by simp [results, Try.results14, go_sem, t0, t1, t2, t3, t4, t5, t6, t7, t8, t9, t10, tc, hl3, hl4], hU⟩
end Go.Proofs.Ytngciahmoenkiab
