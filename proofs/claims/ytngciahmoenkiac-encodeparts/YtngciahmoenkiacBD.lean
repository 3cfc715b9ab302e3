/- package encode: what its writer holds, what is thrown; need, put, byte, number, flag, name, instrs, valueType, kind. -/
import Derived.Test.YtngciahmoenkiacBA
import Derived.Test.YtngciahmoenkiacXT
import Derived.Test.YtngciahmoenkiacXS
import Derived.Test.YtngciahmoenkiacHD
import Derived.Lib.AppendStr
set_option linter.unusedVariables false
set_option linter.unusedSimpArgs false
set_option maxRecDepth 100000
set_option maxHeartbeats 4000000
namespace Go.Proofs.Ytngciahmoenkiac.en
open Go.RowKit Go.Lib
theorem strC (s : ByteArray) : strCells s = bys (strL s) := by
  unfold strCells bys strL
  rw [List.map_map]
  rfl
theorem strl_len (s : ByteArray) : (strL s).length = s.size := by unfold strL; rw [List.length_map]; exact Array.length_toList
/-- a text appended to bytes of one's own -/
theorem own_str {B : Nat} {w : World} {v : Value} {n : Nat} {xs : List Value} (h : w.ownsRow B 5 1 v n xs) (hB : B ≤ w.heap.size) (s : ByteArray) (hn : n + s.size ≤ 140737488355328) :
    ∃ v' w', (Builtin.append_ #[50, 9] 50 #[v, .string s]).run Try.prog w = .ok v' w' ∧ w'.ownsRow B 5 1 v' (n + s.size) (xs ++ strCells s) ∧ Wr (fun k => v.ownBlock = some k) w w' ∧ ∀ g, v'.ownBlock = some g → v.ownBlock = some g ∨ w.heap.size ≤ g := by
  obtain ⟨i, hi, hz, hs1, hb1⟩ := byte_parts
  obtain ⟨v', w', hr, ho, hg, hnn⟩ := run_append_own_string (P := Try.prog) w B 50 9 50 5 i Try.underlying50 Try.underlying9 hi hz hs1 hb1 v n xs h s (by unfold maxLen; omega) hn hB
  have hd : (∃ m, w'.drawn = w.drawn + m) ∧ ∀ g, v'.ownBlock = some g → v.ownBlock = some g ∨ w.heap.size ≤ g := by
    have hxl : xs.length = n := by simpa using h.1
    rcases h.2 with ⟨rfl, rfl⟩ | ⟨g, cap, cur, rfl, hbg, hbb, hnc, hcm, hcs, htake⟩
    · by_cases hm : s.size = 0
      · have hf := run_firstCells_string (P := Try.prog) w 1 s
        rw [hm] at hf
        simp [Builtin.append_, run_underlying Try.underlying50, run_underlying Try.underlying9, sizeOf, typeInfo, hi, hs1, Builtin.lenOf, hm, hf] at hr
        exact ⟨⟨0, by rw [← hr.2]; rfl⟩, fun g' hg' => by rw [← hr.1] at hg'; cases hg'⟩
      · rw [run_append_nil_string (P := Try.prog) w 50 9 50 5 i (.int .u8 0) Try.underlying50 Try.underlying9 hi hz s (by omega) (by omega) (by rw [hb1]; omega)] at hr
        injection hr with h2 h3
        exact ⟨⟨1, by rw [← h3]; rfl⟩, fun g' hg' => by rw [← h2] at hg'; have e : w.heap.size = g' := Option.some.inj hg'; exact Or.inr (by omega)⟩
    · have hcs' : cur.size = cap := by simpa using hcs
      by_cases hroom : n + s.size ≤ cap
      · rw [run_append_room_string (P := Try.prog) w 50 9 50 5 i Try.underlying50 Try.underlying9 hi hs1 g n cap cur hbb s hroom (by omega)] at hr
        injection hr with h2 h3
        exact ⟨⟨0, by rw [← h3]; rfl⟩, fun g' hg' => by rw [← h2] at hg'; exact Or.inl hg'⟩
      · rw [run_append_grow_string (P := Try.prog) w 50 9 50 5 i (.int .u8 0) Try.underlying50 Try.underlying9 hi hz ⟨g, 0, none⟩ n cap xs (by rw [hs1]; simpa using hxl) (h.cells (g := g) rfl) s (by omega) (by omega) (by rw [hb1]; exact growslice_fits (by omega) (by omega))] at hr
        injection hr with h2 h3
        exact ⟨⟨1, by rw [← h3]; rfl⟩, fun g' hg' => by rw [← h2] at hg'; have e : w.heap.size = g' := Option.some.inj hg'; exact Or.inr (by omega)⟩
  exact ⟨v', w', hr, ho, ⟨hg.os, hg.tape, hg.output, hg.size, hd.1, fun k hk hz => hg.block k hk (fun e => hz e.symm)⟩, hd.2⟩
/-- the error that is thrown -/
abbrev thn : Ending := .panicked [{ v := .iface 53 (.int .i64 1600), recovered := false }]
/-- a writer in block q, its bytes in a row of their own, laid at B or behind, in none of the blocks P -/
def Ew (B : Nat) (P : Nat → Prop) (q : Nat) (w : World) (d : List Int) : Prop := q < B ∧ B ≤ w.heap.size ∧ d.length ≤ 65536 ∧ ∃ v, w.rowIs q 65 1 (fun _ => v) ∧ w.ownsRow B 5 1 v d.length (bys d) ∧ (∀ g, v.ownBlock = some g → ¬ P g) ∧ (∀ k, P k → k < w.heap.size ∧ ¬ k = q)
/-- what a writer turns -/
def Sq (B : Nat) (P : Nat → Prop) (q : Nat) (k : Nat) : Prop := k = q ∨ (B ≤ k ∧ ¬ P k)
/-- it may be, and there is room -/
def Fit (d : List Int) (o : Ob) : Prop := ∃ b, o = some b ∧ d.length + b.length ≤ 65536
/-- what a writer's method leaves: these bytes more, or the error thrown -/
def Pt (B : Nat) (P : Nat → Prop) (q : Nat) (w : World) (d : List Int) (o : Ob) (r : Value) (e : Ending) (w' : World) : Prop :=
  Wr (Sq B P q) w w' ∧ ((∃ b, o = some b ∧ e = .returned r ∧ Ew B P q w' (d ++ b)) ∨ (¬ Fit d o ∧ e = thn))
variable {B q : Nat} {P : Nat → Prop} {w w' : World} {d : List Int}
theorem Ew.form (h : Ew B P q w d) : ∃ A cap, w.cell? ⟨q, 0, none⟩ = some (.slice A d.length cap) ∧ w.frozen? ⟨q, 0, none⟩ = false ∧ q < w.heap.size := by
  obtain ⟨_, _, _, v, h1, h2, _⟩ := h
  rcases h2.2 with ⟨e, h0⟩ | ⟨g, cap', cur, e, _⟩
  · subst e
    exact ⟨none, 0, by rw [h1.cell (i := 0) (by decide), h0], h1.frozen 0, h1.lt⟩
  · subst e
    exact ⟨_, _, h1.cell (i := 0) (by decide), h1.frozen 0, h1.lt⟩
theorem Ew.start (w : World) : Ew (w.heap.size + 1) (fun _ => False) w.heap.size (w.alloc (.cells #[.slice none 0 0] 65)) [] := by
  refine ⟨Nat.lt_succ_self _, by simp, Nat.zero_le _, .slice none 0 0, ?_, World.ownsRow_nil _ _ _ _, fun g hg => (by cases hg), fun _ h => h.elim⟩
  have h := row_new w 65 [.slice none 0 0]
  obtain ⟨c, e1, e2, e3⟩ := h
  refine ⟨c, e1, e2, fun i hi => ?_⟩
  obtain rfl : i = 0 := by omega
  exact e3 0 (by decide)
/-- whatever is done above a world leaves its writers -/
theorem Ew.keep (h : Ew B P q w d) (hw : Wr (w.heap.size ≤ ·) w w') : Ew B P q w' d := by
  obtain ⟨h1, h2, h3, v, h4, h5, h6, h7⟩ := h
  exact ⟨h1, Nat.le_trans h2 hw.size, h3, v, h4.of_block (hw.block q h4.lt (by have := h4.lt; omega)), owns_keep h5 fun j _ hj => hw.block j hj (by omega), h6, fun k hk => ⟨Nat.lt_of_lt_of_le (h7 k hk).1 hw.size, (h7 k hk).2⟩⟩
theorem Ew.later (h : Ew B P q w d) (hl : Later w w') : Ew B P q w' d := h.keep (Wr.of_later hl)
theorem sq_later (h : Later w w') : Wr (Sq B P q) w w' := Wr.of_later h
theorem Ew.app (h : Ew B P q w d) (s : ByteArray) (hs : d.length + s.size ≤ 65536) {A : Option Addr} {cap : Nat} (hc : w.cell? ⟨q, 0, none⟩ = some (.slice A d.length cap)) :
    ∃ A' c' w', (Builtin.append_ #[50, 9] 50 #[.slice A d.length cap, .string s]).run Try.prog w = .ok (.slice A' (d.length + s.size) c') w' ∧ w'.cell? ⟨q, 0, none⟩ = some (.slice A d.length cap) ∧ w'.frozen? ⟨q, 0, none⟩ = false ∧ q < w'.heap.size ∧ Ew B P q (w'.setCell ⟨q, 0, none⟩ (.slice A' (d.length + s.size) c')) (d ++ strL s) ∧ Wr (Sq B P q) w (w'.setCell ⟨q, 0, none⟩ (.slice A' (d.length + s.size) c')) := by
  obtain ⟨h1, h2, h3, v, h4, h5, h6, h7⟩ := h
  obtain rfl : v = .slice A d.length cap := by
    have := h4.cell (i := 0) (by decide)
    rw [hc] at this
    exact (Option.some.inj this).symm
  obtain ⟨v', w', r, ho, hw, hnew⟩ := own_str h5 h2 s (by omega)
  obtain ⟨A', c', rfl⟩ : ∃ A' c', v' = .slice A' (d.length + s.size) c' := by
    rcases ho.2 with ⟨e, h0⟩ | ⟨g, cap', cur, e, _⟩
    · exact ⟨none, 0, by rw [e, h0]⟩
    · exact ⟨_, _, e⟩
  have hrow : w'.rowIs q 65 1 (fun _ => .slice A d.length cap) := h4.of_block (hw.block q h4.lt (fun e => by have := (h5.lt q e).1; omega))
  have hw2 : Wr (Sq B P q) w w' := hw.mono fun k _ hk => Or.inr ⟨(h5.lt k hk).1, h6 k hk⟩
  obtain ⟨c, e1, e2, e3⟩ := hrow.set 0 (.slice A' (d.length + s.size) c')
  have hl : (d ++ strL s).length = d.length + s.size := by rw [List.length_append, strl_len]
  have hsz := hw.size
  refine ⟨A', c', w', r, hrow.cell (i := 0) (by decide), hrow.frozen 0, hrow.lt, ⟨h1, by simpa using Nat.le_trans h2 hsz, by omega, (.slice A' (d.length + s.size) c'), ⟨c, e1, e2, fun i hi => ?_⟩, ?_, fun g hg hz => ?_, fun k hk => ⟨by simpa using Nat.lt_of_lt_of_le (h7 k hk).1 hsz, (h7 k hk).2⟩⟩, hw2.set 0 _ (Or.inl (Or.inl rfl))⟩
  · rw [e3 i hi]
    have : i = 0 := by simpa using hi
    subst this
    rfl
  · have e : bys (d ++ strL s) = bys d ++ strCells s := by rw [strC]; simp [bys]
    rw [hl, e]
    exact owns_keep ho fun j hj hlt => Below.heap_setCell w' ⟨q, 0, none⟩ _ j (by show j ≠ q; omega)
  · rcases hnew g hg with h8 | h8
    · exact h6 g h8 hz
    · have := (h7 g hz).1
      omega
theorem Pt.one {b : List Int} (hW : Wr (Sq B P q) w w') (h : Ew B P q w' (d ++ b)) (r : Value) : Pt B P q w d (some b) r (.returned r) w' := ⟨hW, Or.inl ⟨b, rfl, rfl, h⟩⟩
theorem Pt.bad {o : Ob} {r : Value} (hW : Wr (Sq B P q) w w') (h : ¬ Fit d o) : Pt B P q w d o r thn w' := ⟨hW, Or.inr ⟨h, rfl⟩⟩
theorem fit_none (d : List Int) : ¬ Fit d none := fun ⟨_, e, _⟩ => by cases e
theorem fit_two {o o2 : Ob} (h : ¬ Fit d o) : ¬ Fit d (oB o o2) := fun ⟨b, e, hl⟩ => by
  obtain ⟨x, y, e1, e2, rfl⟩ := oB_eq e
  exact h ⟨x, e1, by rw [List.length_append] at hl; omega⟩
theorem fit_snd {b : List Int} {o2 : Ob} (h : ¬ Fit (d ++ b) o2) : ¬ Fit d (oB (some b) o2) := fun ⟨c, e, hl⟩ => by
  obtain ⟨x, y, e1, e2, rfl⟩ := oB_eq e
  obtain rfl := Option.some.inj e1
  exact h ⟨y, e2, by rw [List.length_append] at hl ⊢; omega⟩
theorem need_ok (w : World) : Calls Try.prog 10 #[.bool true] w fun e w' => e = .returned (.tuple #[]) ∧ w' = w := by
  go_enter Try.func10, Try.ntmps10
  go_wp2_with fail
  go_end0
  exact ⟨rfl, rfl⟩
theorem need_bad (w : World) : Calls Try.prog 10 #[.bool false] w fun e w' => e = thn ∧ w' = w := by
  go_enter Try.func10, Try.ntmps10
  go_wp2_with fail
  exact ⟨rfl, rfl, rfl⟩
theorem put_any (s : ByteArray) (hs : s.size ≤ 140737488351232) (h : Ew B P q w d) :
    Calls Try.prog 11 #[.pointer (some ⟨q, 0, none⟩), .string s] w (Pt B P q w d (some (strL s)) (.tuple #[])) := by
  obtain ⟨A, cap, c0, f0, l0⟩ := h.form
  have hd : d.length ≤ 65536 := h.2.2.1
  by_cases hfit : d.length + s.size ≤ 65536
  · have hn : Hid (∀ w : World, Calls Try.prog 10 #[.bool true] w fun e w' => e = .returned (.tuple #[]) ∧ w' = w) := need_ok
    obtain ⟨A', c', w', r, t1, t2, t3, t4, t5⟩ := h.app s hfit c0
    have hfin : Hid (Pt B P q w d (some (strL s)) (.tuple #[]) (.returned (.tuple #[])) (w'.setCell ⟨q, 0, none⟩ (.slice A' (d.length + s.size) c'))) := Pt.one t5 t4 _
    replace r : Hid _ := r
    have g : ((s.size : Int) ≤ 65536 - (d.length : Int)) := by omega
    clear h t4 t5 hfit
    go_enter Try.func11, Try.ntmps11
    go_wp2_with (first | (go_at_call 10; refine (hn.out _).mono ?_; rintro e w3 ⟨rfl, rfl⟩) | (at_builtin; refine wpList_app2 rfl _ _ 50 9 rfl _ _ _ rfl rfl r.out ?_))
    go_end0
    exact hfin.out
  · have hn : Hid (∀ w : World, Calls Try.prog 10 #[.bool false] w fun e w' => e = thn ∧ w' = w) := need_bad
    have hfin : Hid (Pt B P q w d (some (strL s)) (.tuple #[]) thn w) := Pt.bad (Wr.refl _ _) (fun ⟨b, e, hl⟩ => hfit (by obtain rfl := Option.some.inj e; rw [strl_len] at hl; exact hl))
    have g : ¬ ((s.size : Int) ≤ 65536 - (d.length : Int)) := by omega
    clear h hfit
    go_enter Try.func11, Try.ntmps11
    go_wp2_with (go_at_call 10; refine (hn.out _).mono ?_; rintro e w3 ⟨rfl, rfl⟩)
    exact ⟨rfl, hfin.out⟩
end Go.Proofs.Ytngciahmoenkiac.en
