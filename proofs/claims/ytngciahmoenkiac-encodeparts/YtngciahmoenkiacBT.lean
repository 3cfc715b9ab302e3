/- package encode: an error that is thrown is caught (caught), Module whole: encode.Module answers enM; modules that are refused, awake. -/
import Derived.Test.YtngciahmoenkiacBR
import Derived.Recover
set_option linter.unusedVariables false
set_option linter.unusedSimpArgs false
set_option maxRecDepth 100000
set_option maxHeartbeats 8000000
namespace Go.Proofs.Ytngciahmoenkiac.en
open Go.RowKit
variable {mb : Nat} {Z : Nat → Prop} {w w' w1 : World} {m : Md}
theorem catch_idle (p q : Addr) (w : World) :
    CallsD Try.prog 8 #[.pointer (some p), .pointer (some q)] .returning w fun e u' w' => e = .returned (.tuple #[]) ∧ u' = .returning ∧ w' = w := by
  have hnn : ∀ w, (binOp .neq 20 .nilIface .nilIface).run Try.prog w = .ok (.bool false) w := fun _ => by kernel_rfl
  refine callsD_of_wpS Try.func8 rfl fun c₀ cs hu => ?_
  apply wpS_seq
  apply wpS_region
  simp [wpOpsS, go_sem, recoverD, hu, Try.ntmps8, Exit.thenS]
  apply wpS_seq
  apply wpS_region
  simp [wpOpsS, go_sem, hnn, Exit.thenS]
  refine wpS_cond (t := false) (by simp [Act.eval, Array.replicate]) ?_
  simp only [Bool.false_eq_true, if_false]
  refine wpS_of_wp (wp_skip ?_)
  cases c₀
  simp_all [bodyPostS, results, Try.results8]
theorem catch_thrown (p q : Nat) (c : Int) (older : List PanicEntry) (w : World) (hp : Rl w p 9 [.string ⟨#[]⟩]) (hq : Rl w q 53 [.int .i64 0]) (hpq : p ≠ q) :
    CallsD Try.prog 8 #[.pointer (some ⟨p, 0, none⟩), .pointer (some ⟨q, 0, none⟩)] (.panicking ({ v := .iface 53 (.int .i64 c), recovered := false } :: older)) w fun e u' w' =>
      e = .returned (.tuple #[]) ∧ u' = .panicking ({ v := .iface 53 (.int .i64 c), recovered := true } :: older) ∧ Hid (Wr (fun k => k = p ∨ k = q) w w' ∧ Rl w' p 9 [.string ⟨#[]⟩] ∧ Rl w' q 53 [.int .i64 c]) := by
  have hnn : ∀ w, (binOp .neq 20 (.iface 53 (.int .i64 c)) .nilIface).run Try.prog w = .ok (.bool true) w := fun _ => by kernel_rfl
  have p0 : w.cell? ⟨p, 0, none⟩ = some (.string ⟨#[]⟩) := hp.cell 0 rfl
  have f0 := Rl.frozen hp 0
  have q0 : w.cell? ⟨q, 0, none⟩ = some (.int .i64 0) := hq.cell 0 rfl
  have g0 := Rl.frozen hq 0
  have lp := cell_lt p0
  have lq := cell_lt q0
  have hfin : Hid (Wr (fun k => k = p ∨ k = q) w ((w.setCell ⟨p, 0, none⟩ (.string ⟨#[]⟩)).setCell ⟨q, 0, none⟩ (.int .i64 c)).drew ∧ Rl ((w.setCell ⟨p, 0, none⟩ (.string ⟨#[]⟩)).setCell ⟨q, 0, none⟩ (.int .i64 c)).drew p 9 [.string ⟨#[]⟩] ∧ Rl ((w.setCell ⟨p, 0, none⟩ (.string ⟨#[]⟩)).setCell ⟨q, 0, none⟩ (.int .i64 c)).drew q 53 [.int .i64 c]) :=
    ⟨(((Wr.refl _ w).set 0 _ (Or.inl (Or.inl rfl))).set 0 _ (Or.inl (Or.inr rfl))).ltr (Ld (Lz _)), Rl.later (Rl.off (Rl.set hp 0 (.string ⟨#[]⟩)) 0 (.int .i64 c) hpq) (Ld (Lz _)), Rl.later (Rl.set (Rl.off hq 0 (.string ⟨#[]⟩) (fun e => hpq e.symm)) 0 (.int .i64 c)) (Ld (Lz _))⟩
  clear hp hq
  refine callsD_of_wpS Try.func8 rfl fun c₀ cs hu => ?_
  apply wpS_seq
  apply wpS_region
  simp [wpOpsS, go_sem, recoverD, hu, Try.ntmps8, Exit.thenS]
  apply wpS_seq
  apply wpS_region
  simp [wpOpsS, go_sem, hnn, Exit.thenS]
  refine wpS_cond (t := true) (by simp [Act.eval, Array.replicate]) ?_
  simp only [if_true]
  refine wpS_of_wp ?_
  have hta : ∀ w : World, (Instr.typeAssert (.iface 53 (.int .i64 c)) 20 53 false).run Try.prog w = .ok (.int .i64 c) w := fun _ => by kernel_rfl
  simp only [Array.replicate_succ, Array.replicate_zero, List.push_toArray, List.append_toArray, List.nil_append, List.cons_append, List.setIfInBounds_toArray, List.set_cons_zero, List.set_cons_succ]
  go_region_law (fail)
  all_goals
    exact ⟨rfl, _, rfl, _, by simp [results, Try.results8, go_sem], rfl, rfl, hfin⟩
theorem text_any (hM : Mo Z w mb m) (hb : MdB m) : Calls Try.prog 9 #[.pointer (some ⟨mb, 0, none⟩)] w fun e w' => (((enM m).2 = 0 ∧ e = .returned (.string (enM m).1)) ∨ (enM m = (⟨#[]⟩, 1600) ∧ e = thn)) ∧ Hid (Later w w') := by
  by_cases hn : m.fu.length = m.co.length
  · refine (text_good hM hb hn).mono ?_
    rintro e w' ⟨h1, h2⟩
    refine ⟨?_, h2⟩
    rcases h1 with ⟨b, h3, h4, rfl⟩ | ⟨h3, rfl⟩
    · have e1 : enM m = (strOfNums (eHd ++ b), 0) := by unfold enM; rw [h3]; exact if_pos ⟨hn, h4⟩
      rw [e1]
      exact Or.inl ⟨rfl, rfl⟩
    · refine Or.inr ⟨?_, rfl⟩
      unfold enM
      split
      · rfl
      · rename_i b hb2
        exact if_neg (fun x => h3 b hb2 x.2)
  · refine (text_bad hM hn).mono ?_
    rintro e w' ⟨rfl, h2⟩
    refine ⟨Or.inr ⟨?_, rfl⟩, h2⟩
    unfold enM
    split
    · rfl
    · exact if_neg (fun x => hn x.1)
/-- a text and an error -/
def EnP (w : World) (r : ByteArray × Int) (e : Ending) (w' : World) : Prop := e = .returned (.tuple #[.string r.1, .int .i64 r.2]) ∧ Hid (Later w w')
theorem caught_any (hM : Mo Z w mb m) (hb : MdB m) : Calls Try.prog 7 #[.pointer (some ⟨mb, 0, none⟩)] w (EnP w (enM m)) := by
  have hmf : ∀ (fn : Fn) (first cap : Array Value) (w : World), (Instr.makeFunc fn first cap).run Try.prog w = .ok (.func fn first cap) w := fun _ _ _ _ => rfl
  have hm : Hid (Calls Try.prog 9 #[.pointer (some ⟨mb, 0, none⟩)] ((w.alloc (.cells #[.string ⟨#[]⟩] 9)).alloc (.cells #[.int .i64 0] 53)) fun e w' => (((enM m).2 = 0 ∧ e = .returned (.string (enM m).1)) ∨ (enM m = (⟨#[]⟩, 1600) ∧ e = thn)) ∧ Hid (Later ((w.alloc (.cells #[.string ⟨#[]⟩] 9)).alloc (.cells #[.int .i64 0] 53)) w')) := text_any (hM.later (La (La (Lz _)))) hb
  generalize enM m = r at *
  have P0 : Hid (Rl ((w.alloc (.cells #[.string ⟨#[]⟩] 9)).alloc (.cells #[.int .i64 0] 53)) w.heap.size 9 [.string ⟨#[]⟩]) := Rl.later (row_new w 9 [.string ⟨#[]⟩]) (La (Lz _))
  have P1 : Hid (Rl ((w.alloc (.cells #[.string ⟨#[]⟩] 9)).alloc (.cells #[.int .i64 0] 53)) (w.heap.size + 1) 53 [.int .i64 0]) := by
    have t := row_new (w.alloc (.cells #[.string ⟨#[]⟩] 9)) 53 [.int .i64 0]
    rw [World.size_alloc] at t
    exact t
  have L0 : Hid (Later w ((w.alloc (.cells #[.string ⟨#[]⟩] 9)).alloc (.cells #[.int .i64 0] 53))) := La (La (Lz _))
  clear hM hb
  go_enter_defers Try.func7, Try.ntmps7
  go_wp2_with fail
  refine hm.out.mono ?_
  clear hm
  rintro e w2 ⟨(⟨hr, rfl⟩ | ⟨hr, rfl⟩), l2⟩
  · obtain ⟨S, rc⟩ := r
    obtain rfl : rc = 0 := hr
    have p0 := P0.out.later l2.out
    have p1 := P1.out.later l2.out
    have k0' : w2.cell? ⟨w.heap.size, 0, none⟩ = some (.string ⟨#[]⟩) := p0.cell 0 rfl
    have f0' := Rl.frozen p0 0
    have kc : w2.cell? ⟨w.heap.size + 1, 0, none⟩ = some (.int .i64 0) := p1.cell 0 rfl
    have fc := Rl.frozen p1 0
    have hl0 := cell_lt k0'
    have hl1 := cell_lt kc
    have R0 : Rl ((w2.setCell ⟨w.heap.size, 0, none⟩ (.string S)).setCell ⟨w.heap.size + 1, 0, none⟩ (.int .i64 0)) w.heap.size 9 [.string S] := Rl.off (Rl.set p0 0 (.string S)) 0 (.int .i64 0) (by omega)
    have R1 : Rl ((w2.setCell ⟨w.heap.size, 0, none⟩ (.string S)).setCell ⟨w.heap.size + 1, 0, none⟩ (.int .i64 0)) (w.heap.size + 1) 53 [.int .i64 0] := Rl.set (Rl.off p1 0 (.string S) (by omega)) 0 (.int .i64 0)
    have hW : Wr (fun k => k = w.heap.size ∨ k = w.heap.size + 1) w2 ((w2.setCell ⟨w.heap.size, 0, none⟩ (.string S)).setCell ⟨w.heap.size + 1, 0, none⟩ (.int .i64 0)) := ((Wr.refl _ w2).set 0 _ (Or.inl (Or.inl rfl))).set 0 _ (Or.inl (Or.inr rfl))
    have hU : Later w ((w2.setCell ⟨w.heap.size, 0, none⟩ (.string S)).setCell ⟨w.heap.size + 1, 0, none⟩ (.int .i64 0)) := Wr.later ((Wr.of_later (S := fun k => k = w.heap.size ∨ k = w.heap.size + 1) (L0.out.trans l2.out)).trans hW) (fun k hk => by rcases hk with hk | hk <;> omega)
    replace R0 : Hid _ := R0
    replace R1 : Hid _ := R1
    replace hU : Hid _ := hU
    clear hW p0 p1 P0 P1 l2 L0
    go_wp2_with fail
    refine leaves_cons (f := 8) (args := #[.pointer (some ⟨w.heap.size, 0, none⟩), .pointer (some ⟨w.heap.size + 1, 0, none⟩)]) (by simp) (by simp [go_sem]) ?_
    refine (catch_idle ⟨w.heap.size, 0, none⟩ ⟨w.heap.size + 1, 0, none⟩ _).mono ?_
    rintro e u' w3 ⟨rfl, rfl, hw3⟩
    rw [← hw3] at R0 R1 hU
    clear hw3
    have t0 : w3.cell? ⟨w.heap.size, 0, none⟩ = some (.string S) := Rl.cell R0.out 0 rfl
    have tc : w3.cell? ⟨w.heap.size + 1, 0, none⟩ = some (.int .i64 0) := Rl.cell R1.out 0 rfl
    have hl3 := cell_lt t0
    have hl4 := cell_lt tc
    exact ⟨.tuple #[.string S, .int .i64 0], by simp [results, Try.results7, go_sem, t0, tc, hl3, hl4], rfl, hU.out⟩
  · subst hr
    have p0 := P0.out.later l2.out
    have p1 := P1.out.later l2.out
    refine leaves_cons (f := 8) (args := #[.pointer (some ⟨w.heap.size, 0, none⟩), .pointer (some ⟨w.heap.size + 1, 0, none⟩)]) (by simp) (by simp [go_sem]) ?_
    refine (catch_thrown w.heap.size (w.heap.size + 1) 1600 [] w2 p0 p1 (by omega)).mono ?_
    rintro e u' w3 ⟨rfl, rfl, h3⟩
    obtain ⟨hW, R0, R1⟩ := h3.out
    clear h3
    have hU : EnP w (⟨#[]⟩, 1600) (.returned (.tuple #[.string ⟨#[]⟩, .int .i64 1600])) w3 := ⟨rfl, Wr.later ((Wr.of_later (S := fun k => k = w.heap.size ∨ k = w.heap.size + 1) (L0.out.trans l2.out)).trans hW) (fun k hk => by rcases hk with hk | hk <;> omega)⟩
    have t0 : w3.cell? ⟨w.heap.size, 0, none⟩ = some (.string ⟨#[]⟩) := R0.cell 0 rfl
    have tc : w3.cell? ⟨w.heap.size + 1, 0, none⟩ = some (.int .i64 1600) := R1.cell 0 rfl
    have hl3 := cell_lt t0
    have hl4 := cell_lt tc
    clear hW R0 R1 p0 p1 P0 P1 l2 L0
    exact ⟨_, by simp [results, Try.results7, go_sem, t0, tc, hl3, hl4], hU⟩
/-- encode.Module: the text, an error -/
theorem emodule_any {L : List Value} (hC : ModC Z w m L) (hb : MdB m) : Calls Try.prog 5 #[.agg L.toArray] w (EnP w (enM m)) := by
  have hlen := hC.len
  have hrow := row_new w 33 L
  rw [hlen] at hrow
  have hM : Mo (fun k => (Z k ∧ k < w.heap.size) ∨ k = w.heap.size) (w.alloc (.cells L.toArray 33)) w.heap.size m := ⟨L, hrow, hC.move (fun k hk hl => ⟨Or.inl ⟨hk, hl⟩, Later.block (La (Lz _)) hl⟩), Or.inr rfl⟩
  have hc : Hid (Calls Try.prog 7 #[.pointer (some ⟨w.heap.size, 0, none⟩)] (w.alloc (.cells L.toArray 33)) (EnP (w.alloc (.cells L.toArray 33)) (enM m))) := caught_any hM hb
  have hsz : L.toArray.size = 11 := by simpa using hlen
  clear hM hrow hC hb
  generalize enM m = r at *
  obtain ⟨v0, v1, v2, v3, v4, v5, v6, v7, v8, v9, v10, rfl⟩ : ∃ v0 v1 v2 v3 v4 v5 v6 v7 v8 v9 v10, L = [v0, v1, v2, v3, v4, v5, v6, v7, v8, v9, v10] := by
    match L, hlen with
    | [v0, v1, v2, v3, v4, v5, v6, v7, v8, v9, v10], _ => exact ⟨_, _, _, _, _, _, _, _, _, _, _, rfl⟩
  go_enter Try.func5, Try.ntmps5
  go_wp2_with fail
  refine (hc.out).mono ?_
  clear hc
  rintro e w2 ⟨rfl, l2⟩
  go_wp2_with fail
  go_ret2
  exact ⟨rfl, (La (Lz _)).trans l2.out⟩
theorem eA_none {l : List Ob} (h : none ∈ l) : eA id l = none := by
  induction l with
  | nil => cases h
  | cons o r ih =>
    show oB o (eA id r) = none
    rcases List.mem_cons.1 h with h | h
    · rw [← h]; rfl
    · rw [ih h]; exact oB_none2 _
theorem enM_none (h : none ∈ pM m) : enM m = (⟨#[]⟩, 1600) := by
  unfold enM
  rw [eM_eq, eA_none h]
theorem el_one {α : Type} {most : Nat} {g : α → Ob} {x : α} (h : g x = none) : eL most g [x] = none := by
  unfold eL
  split
  · show oB _ (oB (g x) _) = none
    rw [h]
    rfl
  · rfl
theorem enM_len (h : ¬ m.fu.length = m.co.length) : enM m = (⟨#[]⟩, 1600) := by
  unfold enM
  split
  · rfl
  · exact if_neg (fun x => h x.1)
theorem en_bad {L : List Value} {Z : Nat → Prop} {W : World} (m : Md) (hn : enM m = (⟨#[]⟩, 1600)) (hC : ModC Z W m L) (hb : MdB m) : Calls Try.prog 5 #[.agg L.toArray] W fun e w' => e = .returned (.tuple #[.string ⟨#[]⟩, .int .i64 1600]) ∧ Hid (Later W w') := by
  have := emodule_any hC hb
  rw [hn] at this
  exact this
theorem en_good {L : List Value} {Z : Nat → Prop} {W : World} (m : Md) (s : ByteArray) (hn : enM m = (s, 0)) (hC : ModC Z W m L) (hb : MdB m) : Calls Try.prog 5 #[.agg L.toArray] W fun e w' => e = .returned (.tuple #[.string s, .int .i64 0]) ∧ Hid (Later W w') := by
  have := emodule_any hC hb
  rw [hn] at this
  exact this
theorem row_at {W : World} {p : Nat} (hp : W.heap.size = p) (T : TypeId) (L : List Value) : (W.alloc (.cells L.toArray T)).rowIs p T L.length (fun j => L.getD j undef) := by
  subst hp
  exact row_new W T L
theorem fc_one {α : Type} {f : α → List Fd} {Z : Nat → Prop} {W : World} {x : α} {g c k : Nat} {T : TypeId} {L : List Value} (hr : W.rowIs g T k (fun j => L.getD j undef)) (hk : L.length = k) (hz : Z g) (hi : itc Z W (f x) L) : Fc f Z W [x] (.slice (some ⟨g, 0, none⟩) 1 c) := by
  subst hk
  refine ⟨some ⟨g, 0, none⟩, c, rfl, Or.inr ⟨g, 0, L, rfl, hz, fun j u hu => ?_, ?_⟩⟩
  · have hj : j < L.length := (List.getElem?_eq_some_iff.1 hu).1
    rw [Nat.zero_add, hr.cell (i := j) hj]
    rw [List.getD_eq_getElem?_getD, hu]
    rfl
  · rw [List.flatMap_cons, List.flatMap_nil, List.append_nil]
    exact hi
theorem mdb_z (x : Int) : MdB (mdZ x) := by
  constructor <;> simp [mdZ]
theorem en_z : enM (mdZ (-1)) = (⟨#[0, 97, 115, 109, 1, 0, 0, 0]⟩, 0) := by kernel_rfl
theorem en_a : enM { mdZ (-1) with ty := [([], [])], fu := [0], co := [([], .nil)] } = (⟨#[0, 97, 115, 109, 1, 0, 0, 0, 1, 4, 1, 96, 0, 0, 3, 2, 1, 0, 10, 4, 1, 2, 0, 11]⟩, 0) := by kernel_rfl
/-- Module of a module without content -/
theorem em_z (W : World) : Calls Try.prog 5 #[.agg #[.slice none 0 0, .slice none 0 0, .slice none 0 0, .slice none 0 0, .slice none 0 0, .slice none 0 0, .slice none 0 0, .int .i64 (-1), .slice none 0 0, .slice none 0 0, .slice none 0 0]] W fun e w' => e = .returned (.tuple #[.string ⟨#[0, 97, 115, 109, 1, 0, 0, 0]⟩, .int .i64 0]) ∧ Hid (Later W w') :=
  en_good (Z := fun _ => True) (mdZ (-1)) _ en_z (ModC.zero _ _ _) (mdb_z _)
theorem awake_any (w : World) : Calls Try.prog 4 #[] w fun e w' => e = .returned (.bool true) ∧ Hid (Later w w') := by
  have hz : Hid (∀ W : World, Calls Try.prog 5 #[.agg #[.slice none 0 0, .slice none 0 0, .slice none 0 0, .slice none 0 0, .slice none 0 0, .slice none 0 0, .slice none 0 0, .int .i64 (-1), .slice none 0 0, .slice none 0 0, .slice none 0 0]] W fun e w' => e = .returned (.tuple #[.string ⟨#[0, 97, 115, 109, 1, 0, 0, 0]⟩, .int .i64 0]) ∧ Hid (Later W w')) := em_z
  have hnum : Hid (∀ (n : Int) (w : World), Calls Try.prog 6 #[.int .i64 n] w fun e w' => e = .returned (.int .i64 n) ∧ w' = w) := fun n w => num_any n w
  go_enter Try.func4, Try.ntmps4
  go_wp2_with fail
  refine (en_good (Z := fun _ => True) { mdZ (-1) with ty := [([], [])], fu := [0], co := [([], .nil)] } _ en_a ?_ ?_).mono ?_
  · refine ⟨_, _, _, _, _, _, _, _, _, _, rfl, fc_one (rowIs_later (La (La (La (Lz _)))) (row_at rfl 36 [.slice none 0 0, .slice none 0 0])) rfl trivial ⟨_, _, rfl, ⟨none, 0, rfl, Or.inl rfl, fun x => absurd rfl x⟩, _, _, rfl, ⟨none, 0, rfl, Or.inl rfl, fun x => absurd rfl x⟩, rfl⟩, Fc.nil, fc_one (rowIs_later (La (La (Lz _))) (row_at (by simp) 3 [.int .i64 0])) rfl trivial ⟨_, _, rfl, rfl, rfl⟩, Fc.nil, Fc.nil, Fc.nil, Fc.nil, Fc.nil, fc_one (rowIs_later (La (Lz _)) (row_at (by simp) 59 [.slice none 0 0, .slice none 0 0])) rfl trivial ⟨_, _, rfl, ⟨none, 0, rfl, Or.inl rfl, fun x => absurd rfl x⟩, _, _, rfl, ⟨none, 0, rfl, Or.inl rfl⟩, rfl⟩, Fc.nil⟩
  · constructor <;> simp [mdZ, Fs.Ok, Fs.len, Fs.nil]
  rintro e w2 ⟨rfl, l2⟩
  have L2 : Hid (Later w w2) := (La (La (La (La (Lz _))))).trans l2.out
  clear l2
  go_wp2_with fail
  refine (en_bad (Z := fun _ => True) { mdZ (-1) with fu := [0] } (enM_len (by decide)) ?_ ?_).mono ?_
  · exact ⟨_, _, _, _, _, _, _, _, _, _, rfl, Fc.nil, Fc.nil, fc_one (row_at rfl 3 [.int .i64 0]) rfl trivial ⟨_, _, rfl, rfl, rfl⟩, Fc.nil, Fc.nil, Fc.nil, Fc.nil, Fc.nil, Fc.nil, Fc.nil⟩
  · constructor <;> simp [mdZ]
  rintro e w3 ⟨rfl, l3⟩
  have L3 : Hid (Later w w3) := (La L2.out).trans l3.out
  clear l3 L2
  go_wp2_with fail
  refine (hz.out _).mono ?_
  rintro e w4 ⟨rfl, l4⟩
  have L4 : Hid (Later w w4) := L3.out.trans l4.out
  clear l4 L3 hz
  go_wp2_with (go_at_call 6; refine (hnum.out _ _).mono ?_; rintro e w' ⟨rfl, rfl⟩)
  all_goals
    go_ret
    exact ⟨rfl, L4.out⟩
end Go.Proofs.Ytngciahmoenkiac.en
