/- Over this seat's translation: package globals. -/
import Derived.Test.YtlbjnlialhpfhaaUC
set_option linter.unusedVariables false
set_option linter.unusedSimpArgs false
set_option maxRecDepth 100000
set_option maxHeartbeats 4000000
namespace Go.Proofs.Ytlbjnlialhpfhaa
open Go.RowKit
def tri (a b c : Value) : Nat → Value := fun i => if i = 0 then a else if i = 1 then b else c
/-- globals of the program: a struct of three lists; labels 0 to 3 -/
def Glo (lab : Nat → Nat) (w : World) (B p n : Nat) (t : Nat → Int) (m : Nat → Bool) (b : Nat → Int) : Prop :=
  n ≤ 1024 ∧ ∃ A1 A2 A3 c1 c2 c3, Str lab 0 w B p 54 3 (tri (.slice A1 n c1) (.slice A2 n c2) (.slice A3 n c3)) ∧ Fld lab 1 w B 3 1 (.slice A1 n c1) n (xs t n) ∧ Fld lab 2 w B 4 1 (.slice A2 n c2) n (bs m n) ∧ Fld lab 3 w B 3 1 (.slice A3 n c3) n (xs b n)
theorem Glo.chg {lab lab' : Nat → Nat} {S : Nat → Prop} {w w' : World} {B p n : Nat} {t : Nat → Int} {m : Nat → Bool} {b : Nat → Int} (h : Glo lab w B p n t m b) (hc : Chg lab S w w' lab') (hs : ∀ k, S k → 10 ≤ k) : Glo lab' w' B p n t m b := by
  obtain ⟨hn, A1, A2, A3, c1, c2, c3, h0, h1, h2, h3⟩ := h
  exact ⟨hn, A1, A2, A3, c1, c2, c3, h0.chg hc (fun x => by have := hs _ x; omega), h1.chg hc (fun x => by have := hs _ x; omega), h2.chg hc (fun x => by have := hs _ x; omega), h3.chg hc (fun x => by have := hs _ x; omega)⟩
theorem Glo.later {lab : Nat → Nat} {w w' : World} {B p n : Nat} {t : Nat → Int} {m : Nat → Bool} {b : Nat → Int} (h : Glo lab w B p n t m b) (hl : Later w w') : Glo lab w' B p n t m b := h.chg (S := fun _ => False) (Chg.of_later hl) (fun k hk => hk.elim)
/-- one place set -/
def upd {α : Type} (f : Nat → α) (k : Nat) (x : α) : Nat → α := fun i => if i = k then x else f i
theorem xs_upd (f : Nat → Int) (n : Nat) (x : Int) : xs f n ++ [.int .i64 x] = xs (upd f n x) (n + 1) := by
  rw [← xs_succ]
  congr 1
  · exact xs_congr fun i hi => by unfold upd; rw [if_neg (by omega)]
  · unfold upd; rw [if_pos rfl]
theorem bs_upd (f : Nat → Bool) (n : Nat) (x : Bool) : bs f n ++ [.bool x] = bs (upd f n x) (n + 1) := by
  rw [← bs_succ]
  congr 1
  · exact bs_congr fun i hi => by unfold upd; rw [if_neg (by omega)]
  · unfold upd; rw [if_pos rfl]
theorem vs_upd (t b : Nat → Int) (n : Nat) (x y : Int) : vs t b n ++ [.int .i64 x, .int .i64 y] = vs (upd t n x) (upd b n y) (n + 1) := by
  rw [← vs_succ]
  congr 1
  · exact vs_congr fun i hi => by unfold upd; rw [if_neg (by omega), if_neg (by omega)]; exact ⟨rfl, rfl⟩
  · unfold upd; rw [if_pos rfl, if_pos rfl]
theorem xs_put (f : Nat → Int) (n k : Nat) (x : Int) : (xs f n).set k (.int .i64 x) = xs (upd f k x) n := by
  apply List.ext_getElem?
  intro i
  rw [List.getElem?_set, xs_len]
  by_cases hi : i < n
  · rw [xs_get _ _ _ hi, xs_get _ _ _ hi]
    unfold upd
    by_cases hk : k = i
    · rw [if_pos hk, if_pos (by omega), if_pos hk.symm]
    · rw [if_neg hk, if_neg (Ne.symm hk)]
  · rw [List.getElem?_eq_none (by rw [xs_len]; omega), List.getElem?_eq_none (by rw [xs_len]; omega)]
    split
    · rw [if_neg (by omega)]
    · rfl
theorem vs_put (t b : Nat → Int) (n k : Nat) (x : Int) (hx : t k = x) (y : Int) : ((vs t b n).set (k * 2) (.int .i64 x)).set (k * 2 + 1) (.int .i64 y) = vs t (upd b k y) n := by
  apply List.ext_getElem?
  intro i
  rw [List.getElem?_set, List.getElem?_set, List.length_set, vs_len]
  by_cases hi : i < n * 2
  · rw [vs_get _ _ _ _ hi, vs_get _ _ _ _ hi]
    by_cases hk : k * 2 + 1 = i
    · rw [if_pos hk, if_pos (by omega), ← hk, vc_1]
      unfold upd; rw [if_pos rfl]
    · rw [if_neg hk]
      by_cases hk2 : k * 2 = i
      · rw [if_pos hk2, if_pos (by omega), ← hk2, vc_0, hx]
      · rw [if_neg hk2]
        unfold vc upd
        by_cases hm : i % 2 = 0
        · rw [if_pos hm, if_pos hm]
        · rw [if_neg hm, if_neg hm, if_neg (by omega)]
  · rw [List.getElem?_eq_none (l := vs t (upd b k y) n) (by rw [vs_len]; omega), List.getElem?_eq_none (l := vs t b n) (by rw [vs_len]; omega)]
    split
    · rw [if_neg (by omega)]
    · split
      · rw [if_neg (by omega)]
      · rfl
/-- no globals -/
theorem new_any (w0 w : World) (hL : Hid (Later w0 w)) :
    Calls Try.prog 6 #[] w fun e w' => ∃ p, e = .returned (.pointer (some ⟨p, 0, none⟩)) ∧ Later w0 w' ∧ ∀ t m b, Glo (fun _ => 0) w' w0.heap.size p 0 t m b := by
  go_enter Try.func6, Try.ntmps6
  go_wp2
  go_ret
  refine ⟨_, rfl, La hL.out, fun t m b => ⟨by decide, none, none, none, 0, 0, 0, ⟨?_, hL.out.size, rfl⟩, ⟨World.ownsRow_nil _ _ _ _, fun g hg => by cases hg⟩, ⟨World.ownsRow_nil _ _ _ _, fun g hg => by cases hg⟩, ⟨World.ownsRow_nil _ _ _ _, fun g hg => by cases hg⟩⟩⟩
  have h2 := World.rowIs_alloc w #[.slice none 0 0, .slice none 0 0, .slice none 0 0] 54 (tri (.slice none 0 0) (.slice none 0 0) (.slice none 0 0)) (by
    intro i hi
    match i, hi with
    | 0, _ => rfl
    | 1, _ => rfl
    | 2, _ => rfl)
  simpa using h2
theorem has_any (lab : Nat → Nat) (w : World) (B p n : Nat) (t : Nat → Int) (m : Nat → Bool) (b : Nat → Int) (k : Int) (r : Bool) (h : Hid (Glo lab w B p n t m b)) (hr : Hid (decide (0 ≤ k ∧ k < (n : Int)) = r)) :
    Calls Try.prog 20 #[.pointer (some ⟨p, 0, none⟩), .int .i64 k] w fun e w' => e = .returned (.bool r) ∧ w' = w := by
  obtain ⟨hn, A1, A2, A3, c1, c2, c3, h0, h1, h2, h3⟩ := h.out
  have q2 : w.cell? ⟨p, 2, none⟩ = some (.slice A3 n c3) := h0.1.cell (i := 2) (by decide)
  clear h h0 h1 h2 h3
  have hr' := hr.out
  clear hr
  by_cases h4 : k < 0
  · rw [decide_eq_false (by omega)] at hr'
    subst hr'
    go_enter Try.func20, Try.ntmps20
    go_wp2
    go_ret
    exact ⟨rfl, rfl⟩
  · rw [show decide (0 ≤ k ∧ k < (n : Int)) = decide (k < (n : Int)) from decide_eq_decide.2 (by omega)] at hr'
    subst hr'
    go_enter Try.func20, Try.ntmps20
    go_wp2
    go_ret
    exact ⟨rfl, rfl⟩
theorem value_any (lab : Nat → Nat) (w : World) (B p n : Nat) (t : Nat → Int) (m : Nat → Bool) (b : Nat → Int) (k : Nat) (hk : k < n) (h : Hid (Glo lab w B p n t m b)) :
    Calls Try.prog 21 #[.pointer (some ⟨p, 0, none⟩), .int .i64 (k : Int)] w fun e w' => e = .returned (.agg #[.int .i64 (t k), .int .i64 (b k)]) ∧ Later w w' := by
  obtain ⟨hn, A1, A2, A3, c1, c2, c3, h0, h1, h2, h3⟩ := h.out
  have q0 : w.cell? ⟨p, 0, none⟩ = some (.slice A1 n c1) := h0.1.cell (i := 0) (by decide)
  have q2 : w.cell? ⟨p, 2, none⟩ = some (.slice A3 n c3) := h0.1.cell (i := 2) (by decide)
  obtain ⟨g1, rfl, _, l1, _, _, _, k1⟩ := h1.at_ (by omega)
  obtain ⟨g3, rfl, _, l3, _, _, _, k3⟩ := h3.at_ (by omega)
  have r1 := k1 k _ (xs_get t n k hk)
  have r3 := k3 k _ (xs_get b n k hk)
  have lp := cell_lt q0
  have hl1 : (k : Int) < (n : Int) := by omega
  clear h h0 h1 h2 h3 k1 k3
  go_enter Try.func21, Try.ntmps21
  go_wp2
  go_region
  go_wp2
  refine bodyPost_ret (v := .agg #[.int .i64 (t k), .int .i64 (b k)]) (by simp [results, Try.results21, go_sem]) rfl ⟨rfl, (by repeat first | exact Lz _ | apply La | apply Lv | apply Ld | apply Ln)⟩
end Go.Proofs.Ytlbjnlialhpfhaa
