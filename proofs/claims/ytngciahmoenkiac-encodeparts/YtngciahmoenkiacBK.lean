/- package encode: locals as runs. -/
import Derived.Test.YtngciahmoenkiacBJ
import Derived.Test.YtngciahmoenkiacBC
set_option linter.unusedVariables false
set_option linter.unusedSimpArgs false
set_option maxRecDepth 100000
set_option maxHeartbeats 4000000
namespace Go.Proofs.Ytngciahmoenkiac.en
open Go.RowKit
variable {B q : Nat} {P : Nat → Prop} {w w' w1 : World} {d b : List Int} {o o2 : Ob} {r : Value} {e : Ending}
abbrev pv (x : Int × Int) : List Value := [.int .i64 x.1, .int .i64 x.2]
theorem pv_len : ∀ rs : List (Int × Int), (rs.flatMap pv).length = rs.length * 2
  | [] => rfl
  | x :: r => by rw [List.flatMap_cons, List.length_append, pv_len r]; show 2 + r.length * 2 = (r.length + 1) * 2; omega
theorem itc_pairs {Z : Nat → Prop} {w : World} : ∀ rs : List (Int × Int), itc Z w (rs.flatMap fLi) (rs.flatMap pv)
  | [] => rfl
  | x :: r => ⟨_, _, rfl, rfl, _, _, rfl, rfl, itc_pairs r⟩
theorem run_ti : ∃ i z, Try.prog.info? 105 = some i ∧ i.zero = some z ∧ i.size = 2 ∧ i.bytes = 16 ∧ z.cells.size = 2 := by
  have h : ((Try.prog.info? 105).bind fun i => i.zero.map fun z => (i.size, i.bytes, z.cells.size)) = some (2, 16, 2) := by kernel_rfl
  cases hi : Try.prog.info? 105 with
  | none => rw [hi] at h; cases h
  | some i =>
    rw [hi] at h
    cases hz : i.zero with
    | none => simp [hz] at h
    | some z =>
      simp [hz] at h
      exact ⟨i, z, rfl, hz, h.1, h.2.1, h.2.2⟩
/-- runs being made -/
def Ru (B : Nat) (w : World) (v : Value) (rs : List (Int × Int)) : Prop := w.ownsRow B 105 2 v rs.length (rs.flatMap pv)
theorem Ru.form {v : Value} {rs : List (Int × Int)} (h : Ru B w v rs) : ∃ A cap, v = .slice A rs.length cap := by
  rcases h.2 with ⟨e, h0⟩ | ⟨g, cap', cur, e, _⟩
  · exact ⟨none, 0, by rw [e, h0]⟩
  · exact ⟨_, _, e⟩
theorem Ru.more {v : Value} {rs : List (Int × Int)} (h : Ru B w v rs) (hB : B ≤ w.heap.size) (t : Int) (hn : rs.length ≤ 1000) :
    ∃ g cap w', (Builtin.append_ #[106, 106] 106 #[v, .slice (some ⟨w.heap.size, 0, none⟩) 1 1]).run Try.prog (w.alloc (.cells #[.int .i64 0, .int .i64 t] 105)) = .ok (.slice (some ⟨g, 0, none⟩) (rs.length + 1) cap) w' ∧ Ru B w' (.slice (some ⟨g, 0, none⟩) (rs.length + 1) cap) (rs ++ [(0, t)]) ∧ Wr (B ≤ ·) w w' := by
  obtain ⟨i, z, hi, hz, hi1, hi2, hz1⟩ := run_ti
  obtain ⟨W, hW, hL, hcut⟩ := cut_later w B hB
  subst hW
  have hF : Fld (fun j => if v.ownBlock = some j then 0 else 5) 0 w W.heap.size 105 2 v rs.length (rs.flatMap pv) := ⟨h, fun g hg => if_pos hg⟩
  obtain ⟨g, cap, w', lab', r, F, l, C⟩ := fld_more (P := Try.prog) hL 106 106 105 i z 2 16 Try.underlying106 hi hz hi1 hi2 hz1 (by decide) hF [.int .i64 0, .int .i64 t] rfl (fun u hu => by rcases List.mem_cons.1 hu with rfl | hu; rfl; rw [List.mem_singleton.1 hu]; rfl) (by unfold maxLen; omega) (by omega)
  refine ⟨g, cap, w', r, ?_, hcut w' l C.1⟩
  unfold Ru
  rw [List.length_append, List.flatMap_append]
  exact F.1
theorem Ru.inc {g n c : Nat} {m t : Int} {rs : List (Int × Int)} (h : Ru B w (.slice (some ⟨g, 0, none⟩) n c) (rs ++ [(m, t)])) :
    w.cell? ⟨g, rs.length * 2, none⟩ = some (.int .i64 m) ∧ w.frozen? ⟨g, rs.length * 2, none⟩ = false ∧ g < w.heap.size ∧ n = rs.length + 1 ∧ Ru B (w.setCell ⟨g, rs.length * 2, none⟩ (.int .i64 (m + 1))) (.slice (some ⟨g, 0, none⟩) n c) (rs ++ [(m + 1, t)]) ∧ Wr (B ≤ ·) w (w.setCell ⟨g, rs.length * 2, none⟩ (.int .i64 (m + 1))) := by
  have hn : n = rs.length + 1 := by
    rcases h.2 with ⟨e, _⟩ | ⟨g', cap', cur, e, _⟩
    · cases e
    · injection e with _ e2 _
      rw [e2]; simp
  have hB := (h.lt g rfl).1
  subst hn
  have hn2 : (rs ++ [(m, t)]).length = rs.length + 1 := by simp
  unfold Ru at h
  rw [hn2] at h
  have h0 : ((rs ++ [(m, t)]).flatMap pv)[rs.length * 2]? = some (.int .i64 m) := by
    rw [List.flatMap_append, List.getElem?_append_right (by rw [pv_len]; exact Nat.le_refl _), pv_len, Nat.sub_self]
    rfl
  have hc := owns_cell h h0
  have hF : Fld (fun j => if (Value.slice (some ⟨g, 0, none⟩) (rs.length + 1) c).ownBlock = some j then 0 else 5) 0 w B 105 2 (.slice (some ⟨g, 0, none⟩) (rs.length + 1) c) (rs.length + 1) ((rs ++ [(m, t)]).flatMap pv) := ⟨h, fun g hg => if_pos hg⟩
  obtain ⟨F, C, _, hf⟩ := hF.set g rfl (rs.length * 2) (.int .i64 (m + 1)) (by omega)
  refine ⟨hc, hf, cell_lt hc, rfl, ?_, (Wr.refl _ w).set _ _ (Or.inl hB)⟩
  have e : ((rs ++ [(m, t)]).flatMap pv).set (rs.length * 2) (.int .i64 (m + 1)) = (rs ++ [(m + 1, t)]).flatMap pv := by
    rw [List.flatMap_append, List.flatMap_append, List.set_append_right _ _ (by rw [pv_len]; exact Nat.le_refl _), pv_len, Nat.sub_self]
    rfl
  have F1 := F.1
  rw [e] at F1
  unfold Ru
  rw [show (rs ++ [(m + 1, t)]).length = rs.length + 1 by simp]
  exact F1
theorem pv_rt {rs : List (Int × Int)} {A : Option Addr} {n c : Nat} (h : Ru B w (.slice A n c) rs) : n = rs.length ∧ Rt fLi (B ≤ ·) w A rs := by
  rcases h.2 with ⟨e, h0⟩ | ⟨g, cap', cur, e, hB, _⟩
  · injection e with e1 e2 e3
    exact ⟨by rw [e2, h0], Or.inl (List.length_eq_zero_iff.1 h0)⟩
  · injection e with e1 e2 e3
    subst e1 e2 e3
    exact ⟨rfl, Or.inr ⟨g, 0, _, rfl, hB, fun j u hu => by rw [Nat.zero_add]; exact owns_cell h hu, itc_pairs rs⟩⟩
/-- locals as runs, in new memory -/
theorem runs_any (ts : List Int) (hl : ts.length ≤ 256) (Z : Nat → Prop) (A : Option Addr) (c : Nat) (hR : Rt f1 Z w A ts) :
    Calls Try.prog 58 #[.slice A ts.length c] w fun e w' => ∃ A' c', e = .returned (.slice A' (runs ts).length c') ∧ Hid (Rt fLi (w.heap.size ≤ ·) w' A' (runs ts)) ∧ Hid (Later w w') := by
  have hcell : Hid (∀ (j : Nat) (hj : j < ts.length) (W : World), Wr (w.heap.size ≤ ·) w W → ∃ g o, A = some ⟨g, o, none⟩ ∧ ∀ i (hi : i < ts.length), W.cell? ⟨g, o + i, none⟩ = some (.int .i64 ts[i])) := fun j hj W V => by
    have hR2 : Rt f1 (fun k => Z k ∧ k < w.heap.size) W A ts := hR.move (fun _ => Nat.succ_pos _) fun k hk hl => ⟨⟨hk, hl⟩, V.block k hl (by show ¬ w.heap.size ≤ k; omega)⟩
    rcases hR2 with h0 | ⟨g, o, L, e, hz, hc, hi⟩
    · rw [h0] at hj; simp at hj
    · refine ⟨g, o, e, fun i hi' => ?_⟩
      have h1 := itc.get hi (j := i) (x := fN ts[i]) (by
        have := flat_get f1 1 (fun _ => rfl) ts i 0 (by decide)
        rw [Nat.mul_one, Nat.add_zero] at this
        rw [this, List.getElem?_eq_getElem hi']
        rfl)
      obtain ⟨v, h2, h3⟩ := h1
      obtain rfl : v = .int .i64 ts[i] := h3
      exact hc i _ h2
  have hst : Hid (Ru w.heap.size w (.slice none 0 0) []) := World.ownsRow_nil _ _ _ _
  obtain ⟨n, hnx⟩ : ∃ n, n = ts.length := ⟨_, rfl⟩
  rw [← hnx] at hl
  rw [← hnx]
  replace hnx : Hid (n = ts.length) := hnx
  clear hR
  go_enter Try.func58, Try.ntmps58
  go_wp2_with fail
  go_loopw [3, 8] (fun v i wr => ∃ (j : Nat), i = .int .i64 (j : Nat) ∧ j ≤ n ∧ Ru w.heap.size wr v (runs (ts.take j)) ∧ Wr (w.heap.size ≤ ·) w wr) (fun _ i _ => n - (intOf i).toNat)
  case atStart => exact ⟨0, rfl, Nat.zero_le _, hst.out, Wr.refl _ _⟩
  case round =>
    obtain ⟨j, rfl, hj, hM, hV⟩ := hrel
    clear hst
    obtain ⟨A1, c1, rfl⟩ := hM.form
    by_cases hlt : j < n
    · have hl1 : (j : Int) < (n : Int) := by omega
      have hlx : j < ts.length := by have := hnx.out; omega
      obtain ⟨g, o, rfl, hcs⟩ := hcell.out j hlx wr hV
      have c0 := hcs j hlx
      have hl0 := cell_lt c0
      have hrl : (runs (ts.take j)).length ≤ 256 := by
        obtain ⟨f1, f2⟩ := runs_flat (ts.take j)
        have := flat_len' _ f2
        rw [f1, List.length_take] at this
        omega
      have htk : ts.take (j + 1) = ts.take j ++ [ts[j]] := by rw [List.take_add_one, List.getElem?_eq_getElem hlx]; rfl
      have hsz := hV.size
      by_cases hnew : (ts.take j).getLast? = some ts[j]
      · have hj0 : ∃ i, j = i + 1 := by
          cases j with
          | zero => simp at hnew
          | succ i => exact ⟨i, rfl⟩
        obtain ⟨i, rfl⟩ := hj0
        have hi : i < ts.length := by omega
        have hlast : ts[i] = ts[i + 1] := by
          have e : ts.take (i + 1) = ts.take i ++ [ts[i]] := by rw [List.take_add_one, List.getElem?_eq_getElem hi]; rfl
          rw [e, List.getLast?_concat] at hnew
          exact Option.some.inj hnew
        have cp := hcs i hi
        rw [hlast] at cp
        obtain ⟨rs, m, e1, e2, m1, m2⟩ := runs_same _ _ hnew
        rw [e1, show (rs ++ [(m, ts[i + 1])]).length = rs.length + 1 by simp] at hM
        have hA : ∃ g1, A1 = some ⟨g1, 0, none⟩ := by
          rcases hM.2 with ⟨e, h0⟩ | ⟨g', cap', cur, e, _⟩
          · simp at h0
          · injection e with e _ _
            exact ⟨_, e⟩
        obtain ⟨g1, rfl⟩ := hA
        obtain ⟨q1, q2, q3, q4, q5, q6⟩ := hM.inc
        have hrs : (runs (List.take (i + 1) ts)).length = rs.length + 1 := by rw [e1]; simp
        have hm : wrap64 (m + 1) = m + 1 := by have : (ts.take (i + 1)).length ≤ 256 := by rw [List.length_take]; omega
                                               unfold wrap64; omega
        have hfin : Hid (Ru w.heap.size (wr.setCell ⟨g1, rs.length * 2, none⟩ (.int .i64 (m + 1))) (.slice (some ⟨g1, 0, none⟩) (rs.length + 1) c1) (runs (ts.take (i + 1 + 1))) ∧ Wr (w.heap.size ≤ ·) w (wr.setCell ⟨g1, rs.length * 2, none⟩ (.int .i64 (m + 1)))) := ⟨by rw [htk, e2]; exact q5, hV.trans q6⟩
        have hwr : wrap64 (rs.length : Int) = (rs.length : Int) := by unfold wrap64; omega
        rw [hrs]
        generalize ts[i + 1] = t at *
        clear hcell hcs hM hV q5 q6 e1 e2 htk hnew hlast hrl
        go_wp2_with fail
        go_roundw
        case rel => exact ⟨i + 1 + 1, by go_num, by omega, hfin.out.1, hfin.out.2⟩
        case measure => simp [intOf]; omega
      · have e2 := runs_new _ _ hnew
        obtain ⟨g1, c2, w2, r, M1, V1⟩ := hM.more hsz ts[j] (by omega)
        obtain ⟨q1, q2, q3, q4, q5, q6⟩ := M1.inc
        have hw2 := V1.size
        have hfin : Hid (Ru w.heap.size (w2.setCell ⟨g1, (runs (ts.take j)).length * 2, none⟩ (.int .i64 1)) (.slice (some ⟨g1, 0, none⟩) ((runs (ts.take j)).length + 1) c2) (runs (ts.take (j + 1))) ∧ Wr (w.heap.size ≤ ·) w (w2.setCell ⟨g1, (runs (ts.take j)).length * 2, none⟩ (.int .i64 1))) := ⟨by rw [htk, e2]; exact q5, (hV.trans V1).trans q6⟩
        have hwr : wrap64 ((runs (ts.take j)).length : Int) = ((runs (ts.take j)).length : Int) := by unfold wrap64; omega
        have hdec : j = 0 ∨ ∃ i, ∃ hi : i < ts.length, j = i + 1 ∧ (ts[j] != ts[i]) = true := by
          cases j with
          | zero => exact Or.inl rfl
          | succ i =>
            have hi : i < ts.length := by omega
            refine Or.inr ⟨i, hi, rfl, ?_⟩
            have e : ts.take (i + 1) = ts.take i ++ [ts[i]] := by rw [List.take_add_one, List.getElem?_eq_getElem hi]; rfl
            rw [e, List.getLast?_concat] at hnew
            rw [bne_iff_ne]
            exact fun x => hnew (congrArg some x.symm)
        generalize (runs (ts.take j)).length = L at *
        replace r : Hid _ := r
        rcases hdec with rfl | ⟨i, hi, rfl, hne⟩
        · replace c0 : wr.cell? ⟨g, o, none⟩ = some (.int .i64 ts[0]) := c0
          generalize ts[0] = t at *
          clear hcell hcs hM hV q5 q6 e2 htk hnew M1 V1 hsz hw2
          go_wp2_with (at_builtin; refine wpList_app rfl _ _ 106 rfl _ _ _ rfl rfl r.out ?_; clear r)
          go_roundw
          case rel => exact ⟨1, by go_num, by omega, hfin.out.1, hfin.out.2⟩
          case measure => simp [intOf]; omega
        · have cp := hcs i hi
          generalize ts[i + 1] = t at *
          generalize ts[i] = t0 at *
          clear hcell hcs hM hV q5 q6 e2 htk hnew M1 V1 hsz hw2
          go_wp2_with (at_builtin; refine wpList_app rfl _ _ 106 rfl _ _ _ rfl rfl r.out ?_; clear r)
          go_roundw
          case rel => exact ⟨i + 1 + 1, by go_num, by omega, hfin.out.1, hfin.out.2⟩
          case measure => simp [intOf]; omega
    · have hl1 : ¬ (j : Int) < (n : Int) := by omega
      have e : ts.take j = ts := List.take_of_length_le (by have := hnx.out; omega)
      rw [e] at hM ⊢
      have hfa : Hid (Rt fLi (w.heap.size ≤ ·) wr A1 (runs ts)) := (pv_rt hM).2
      have hfb : Hid (Later w wr) := hV.later (fun _ h => h)
      clear hcell hM hV e
      go_wp2_with fail
      go_ret
      first | exact ⟨A1, ⟨c1, rfl⟩, hfa, hfb⟩ | exact ⟨A1, c1, rfl, hfa, hfb⟩
end Go.Proofs.Ytngciahmoenkiac.en
