/- package encode's writer: sized, limits, table, run. -/
import Derived.Test.YtngciahmoenkiacBE
set_option linter.unusedVariables false
set_option linter.unusedSimpArgs false
set_option maxRecDepth 100000
set_option maxHeartbeats 4000000
namespace Go.Proofs.Ytngciahmoenkiac.en
open Go.RowKit Go.Lib
variable {B q : Nat} {P : Nat → Prop} {w w' w1 : World} {d b : List Int} {o o2 : Ob} {r : Value} {e : Ending}
theorem bys_cells (l : List Int) : bys l = l.map fun b => Value.int .u8 b := rfl
theorem len_wrap (n : Nat) (h : n ≤ 65536) : eN (n : Int) = some (lebL (n : Int)) := if_pos (by omega)
/-- bytes that stand in a row elsewhere -/
def Rw8 (w : World) (A : Option Addr) (l : List Int) : Prop := l = [] ∨ ∃ g, A = some ⟨g, 0, none⟩ ∧ ∀ i u, (bys l)[i]? = some u → w.cell? ⟨g, i, none⟩ = some u
theorem Ew.rw8 {A : Option Addr} {c : Nat} (h : Ew B P q w d) (hc : w.cell? ⟨q, 0, none⟩ = some (.slice A d.length c)) : Rw8 w A d ∧ ∀ g, A.map (·.block) = some g → B ≤ g ∧ g < w.heap.size := by
  obtain ⟨h1, h2, h3, v, h4, h5, h6, h7⟩ := h
  obtain rfl : v = .slice A d.length c := by
    have := h4.cell (i := 0) (by decide)
    rw [hc] at this
    exact (Option.some.inj this).symm
  rcases h5.2 with ⟨e, h0⟩ | ⟨g, cap', cur, e, hB, hg, _⟩
  · injection e with e1 e2 e3
    subst e1
    exact ⟨Or.inl (List.length_eq_zero_iff.1 h0), fun g hg => by cases hg⟩
  · injection e with e1 e2 e3
    subst e1 e3
    refine ⟨Or.inr ⟨g, rfl, fun i u hu => owns_cell h5 hu⟩, fun g' hg' => ?_⟩
    have e : g = g' := Option.some.inj hg'
    subst e
    exact ⟨hB, (Array.getElem?_eq_some_iff.1 hg).1⟩
theorem conv_row {A : Option Addr} {l : List Int} (h : Rw8 w A l) (hne : l ≠ []) (hl : ∀ b ∈ l, 0 ≤ b ∧ b < 256) (n c : Nat) (hn : n = l.length) : (convert 50 9 (.slice A n c)).run Try.prog w = .ok (.string (strOfNums l)) w := by
  subst hn
  rcases h with rfl | ⟨g, rfl, h⟩
  · exact absurd rfl hne
  · have hB : Lib.Bytes w g 0 (strOfNums l) := Lib.bytes_of_nums rfl hl (fun i hi => by
      rw [Nat.zero_add]
      exact h i _ (by simp [bys, List.getD, hi]))
    have := Lib.run_convert_whole (P := Try.prog) _ 50 5 9 Try.underlying50 Try.underlying5 Try.underlying9 g 0 _ hB c
    rwa [strOfNums_size] at this
/-- what is written, with blocks besides that stay as they are -/
theorem Ew.prot {Q : Nat → Prop} (h : Ew B (fun _ => False) q w d) (hQ : ∀ k, Q k → k < w.heap.size ∧ ¬ k = q) (hR : ∀ A c, w.cell? ⟨q, 0, none⟩ = some (.slice A d.length c) → ∀ g, A.map (·.block) = some g → ¬ Q g) : Ew B Q q w d := by
  obtain ⟨h1, h2, h3, v, h4, h5, h6, h7⟩ := h
  refine ⟨h1, h2, h3, v, h4, h5, fun g hg => ?_, hQ⟩
  rcases h5.2 with ⟨e, h0⟩ | ⟨g', cap', cur, e, hB, hg', _⟩
  · rw [e] at hg; cases hg
  · have hc := h4.cell (i := 0) (by decide)
    subst e
    have e : g' = g := Option.some.inj hg
    subst e
    exact hR _ _ hc _ rfl
theorem Ew.free (h : Ew B P q w d) : Ew B (fun _ => False) q w d := by
  obtain ⟨h1, h2, h3, v, h4, h5, h6, h7⟩ := h
  exact ⟨h1, h2, h3, v, h4, h5, fun _ _ h => h, fun _ h => h.elim⟩
theorem Ew.lt_q (h : Ew B P q w d) : q < w.heap.size := Nat.lt_of_lt_of_le h.1 h.2.1
theorem Ew.drop {Q : Nat → Prop} (hs : ∀ k, P k → Q k) (h : Ew B Q q w d) : Ew B P q w d := by
  obtain ⟨h1, h2, h3, v, h4, h5, h6, h7⟩ := h
  exact ⟨h1, h2, h3, v, h4, h5, fun g hg hz => h6 g hg (hs g hz), fun k hk => h7 k (hs k hk)⟩
theorem Pt.drop {Q : Nat → Prop} (hs : ∀ k, P k → Q k) (h : Pt B Q q w d o r e w') : Pt B P q w d o r e w' := by
  refine ⟨h.1.mono fun k _ hk => hk.imp id fun x => ⟨x.1, fun h => x.2 (hs k h)⟩, ?_⟩
  rcases h.2 with ⟨c, h1, h2, h3⟩ | h1
  · exact Or.inl ⟨c, h1, h2, h3.drop hs⟩
  · exact Or.inr h1
/-- a writer, a block laid since besides that stays as it is -/
theorem Ew.with_block {W : World} (h : Ew B P q w d) (hl : Later w W) (hW : w.heap.size < W.heap.size) : Ew B (fun k => P k ∨ k = w.heap.size) q W d := by
  have hq := h.lt_q
  obtain ⟨h1, h2, h3, v, h4, h5, h6, h7⟩ := h.later hl
  obtain ⟨_, _, _, v0, g4, g5, _, g7⟩ := h
  obtain rfl : v0 = v := by
    have a := g4.cell (i := 0) (by decide)
    have b := h4.cell (i := 0) (by decide)
    rw [hl.cell_of a] at b
    exact Option.some.inj b
  refine ⟨h1, h2, h3, v0, h4, h5, fun g hg hz => ?_, fun k hk => ?_⟩
  · rcases hz with hz | hz
    · exact h6 g hg hz
    · have := (g5.lt g hg).2
      omega
  · rcases hk with hk | rfl
    · exact h7 k hk
    · exact ⟨hW, by omega⟩
/-- a block that stays as it is -/
theorem mv_block {W0 W : World} (hl : Later w W0) (V : Wr (Sq B P q) W0 W) (k : Nat) (hk : k < w.heap.size) (hz : ¬ Sq B P q k) : W.heap[k]? = w.heap[k]? := (V.block k (Nat.lt_of_lt_of_le hk hl.size) hz).trans (hl.block hk)
theorem sq_more {Q : Nat → Prop} (hs : ∀ k, P k → Q k) {k : Nat} (h : ¬ Sq B P q k) : ¬ Sq B Q q k := fun x => h (x.imp id fun y => ⟨y.1, fun z => y.2 (hs k z)⟩)
theorem Pt.free (h : Pt B P q w d o r e w') : Pt B (fun _ => False) q w d o r e w' := by
  refine ⟨h.1.mono fun k _ hk => hk.imp id fun x => ⟨x.1, fun h => h⟩, ?_⟩
  rcases h.2 with ⟨c, h1, h2, h3⟩ | h1
  · exact Or.inl ⟨c, h1, h2, h3.free⟩
  · exact Or.inr h1
/-- how many bytes there are, then these -/
theorem sized_any (A : Option Addr) (c : Nat) (l : List Int) (hne : l ≠ []) (hl : ∀ b ∈ l, 0 ≤ b ∧ b < 256) (hn : l.length ≤ 65536) (hR : Rw8 w A l) (hP : ∀ g, A.map (·.block) = some g → P g) (h : Ew B P q w d) :
    Calls Try.prog 26 #[.pointer (some ⟨q, 0, none⟩), .slice A l.length c] w (Pt B P q w d (eZ (some l)) (.tuple #[])) := by
  have H1 : Hid (∀ (W : World) (d : List Int), Ew B P q W d → Calls Try.prog 32 #[.pointer (some ⟨q, 0, none⟩), .int .i64 (l.length : Int)] W (Pt B P q W d (some (lebL (l.length : Int))) (.tuple #[]))) := fun W d h => by
    have := number_any (l.length : Int) h
    rwa [len_wrap _ hn] at this
  have H2 : Hid (∀ (W : World) (d : List Int), Ew B P q W d → Calls Try.prog 11 #[.pointer (some ⟨q, 0, none⟩), .string (strOfNums l)] W (Pt B P q W d (some l) (.tuple #[]))) := fun W d h => put_later l hl (by omega) h (Lz _)
  have hcv : Hid (∀ W, Wr (Sq B P q) w W → (convert 50 9 (.slice A l.length c)).run Try.prog W = .ok (.string (strOfNums l)) W) := fun W V => by
    refine conv_row (l := l) ?_ hne hl l.length c rfl
    rcases hR with e | ⟨g, rfl, hg⟩
    · exact Or.inl e
    · refine Or.inr ⟨g, rfl, fun i u hu => ?_⟩
      have hc := hg i u hu
      have hp := hP g rfl
      obtain ⟨_, _, _, v, _, _, _, h7⟩ := h
      exact V.cell (fun x => by rcases x with x | x; exact (h7 g hp).2 x; exact x.2 hp) hc
  have hsp : eZ (some l) = oB (some (lebL (l.length : Int))) (some l) := rfl
  rw [hsp]
  clear hsp hR hP hl
  replace h : Hid _ := h
  generalize strOfNums l = S at *
  generalize lebL (l.length : Int) = D1 at *
  go_enter Try.func26, Try.ntmps26
  go_wp2_with fail
  refine (H1.out _ _ h.out).mono ?_
  clear H1
  rintro e w1 ⟨V1, (⟨b1, hb1, rfl, E1⟩ | ⟨n1, rfl⟩)⟩
  rotate_left
  · exact ⟨rfl, Pt.stop V1 n1⟩
  have cv := hcv.out _ V1
  clear hcv
  replace V1 : Hid _ := V1
  replace E1 : Hid _ := E1
  replace hb1 : Hid (some D1 = some b1) := hb1
  go_wp2_with (go_at_call 11; refine (H2.out _ _ E1.out).mono ?_; clear H2; rintro e w2 ⟨V2, (⟨b2, hb2, rfl, E2⟩ | ⟨n2, rfl⟩)⟩)
  · go_end0
    exact Pt.next (o := some D1) hb1.out V1.out ⟨V2, Or.inl ⟨b2, hb2, rfl, E2⟩⟩
  · exact ⟨rfl, Pt.next (o := some D1) hb1.out V1.out (Pt.bad V2 n2)⟩
theorem limits_no (a : Int) (h : Ew B P q w d) :
    Calls Try.prog 35 #[.pointer (some ⟨q, 0, none⟩), .agg #[.int .i64 a, .int .i64 (-1)]] w (Pt B P q w d (eLi (a, -1)) (.tuple #[])) := by
  have hsp : eLi (a, -1) = oB (eC 0) (eN a) := rfl
  rw [hsp]
  clear hsp
  have hq := h.lt_q
  have H1 : Hid (∀ (W : World) (d : List Int), Ew B (fun k => P k ∨ k = w.heap.size) q W d → Calls Try.prog 49 #[.pointer (some ⟨q, 0, none⟩), .bool false] W (Pt B (fun k => P k ∨ k = w.heap.size) q W d (eC 0) (.tuple #[]))) := fun W d h => flag_any false h
  have H2 : Hid (∀ (W : World) (d : List Int), Ew B (fun k => P k ∨ k = w.heap.size) q W d → Calls Try.prog 32 #[.pointer (some ⟨q, 0, none⟩), .int .i64 a] W (Pt B (fun k => P k ∨ k = w.heap.size) q W d (eN a) (.tuple #[]))) := fun W d h => number_any a h
  have hrow : Hid ((w.alloc (.cells #[.int .i64 a, .int .i64 (-1)] 38)).rowIs w.heap.size 38 2 (fun j => [.int .i64 a, .int .i64 (-1)].getD j undef)) := row_new w 38 [.int .i64 a, .int .i64 (-1)]
  have E0 : Hid (Ew B (fun k => P k ∨ k = w.heap.size) q (w.alloc (.cells #[.int .i64 a, .int .i64 (-1)] 38)) d) := h.with_block (La (Lz _)) (by simp)
  have R0 : Hid (Wr (Sq B (fun k => P k ∨ k = w.heap.size) q) (w.alloc (.cells #[.int .i64 a, .int .i64 (-1)] 38)) (w.alloc (.cells #[.int .i64 a, .int .i64 (-1)] 38))) := Wr.refl _ _
  have hfr : Hid (∀ (r : Value) (o : Ob) (e : Ending) (w' : World), Pt B (fun k => P k ∨ k = w.heap.size) q (w.alloc (.cells #[.int .i64 a, .int .i64 (-1)] 38)) d o r e w' → Pt B P q w d o r e w') := fun r o e w' h => (h.drop (fun k hk => Or.inl hk)).ahead (sq_later (La (Lz _)))
  have hnp : Hid (¬ Sq B (fun k => P k ∨ k = w.heap.size) q w.heap.size) := fun x => by rcases x with x | x; omega; exact x.2 (Or.inr rfl)
  clear h
  generalize eC 0 = o1 at *
  generalize eN a = o2 at *
  go_enter Try.func35, Try.ntmps35
  have rp := (R0.out).row hnp.out hrow.out
  have k0 : (w.alloc (.cells #[.int .i64 a, .int .i64 (-1)] 38)).cell? ⟨w.heap.size, 0, none⟩ = some (.int .i64 a) := rp.cell (i := 0) (by decide)
  have k1 : (w.alloc (.cells #[.int .i64 a, .int .i64 (-1)] 38)).cell? ⟨w.heap.size, 1, none⟩ = some (.int .i64 (-1)) := rp.cell (i := 1) (by decide)
  have lp : w.heap.size < (w.alloc (.cells #[.int .i64 a, .int .i64 (-1)] 38)).heap.size := cell_lt k0
  clear rp
  go_wp2_with fail
  refine (H1.out _ _ E0.out).mono ?_
  clear H1 k0 k1 lp
  rintro e w1 ⟨V1, (⟨b1, hb1, rfl, E1⟩ | ⟨n1, rfl⟩)⟩
  rotate_left
  · exact ⟨rfl, hfr.out _ _ _ _ (Pt.stop V1 n1)⟩
  have R1 : Hid (Wr (Sq B (fun k => P k ∨ k = w.heap.size) q) (w.alloc (.cells #[.int .i64 a, .int .i64 (-1)] 38)) w1) := R0.out.trans V1
  replace V1 : Hid _ := V1
  replace E1 : Hid _ := E1
  replace hb1 : Hid _ := hb1
  have rp := (R1.out).row hnp.out hrow.out
  have k0 : w1.cell? ⟨w.heap.size, 0, none⟩ = some (.int .i64 a) := rp.cell (i := 0) (by decide)
  have k1 : w1.cell? ⟨w.heap.size, 1, none⟩ = some (.int .i64 (-1)) := rp.cell (i := 1) (by decide)
  have lp : w.heap.size < w1.heap.size := cell_lt k0
  clear rp
  go_wp2_with fail
  refine (H2.out _ _ E1.out).mono ?_
  clear H2 k0 k1 lp
  rintro e w2 ⟨V2, (⟨b2, hb2, rfl, E2⟩ | ⟨n2, rfl⟩)⟩
  rotate_left
  · exact ⟨rfl, hfr.out _ _ _ _ (Pt.next hb1.out V1.out (Pt.bad V2 n2))⟩
  have R2 : Hid (Wr (Sq B (fun k => P k ∨ k = w.heap.size) q) (w.alloc (.cells #[.int .i64 a, .int .i64 (-1)] 38)) w2) := R1.out.trans V2
  replace V2 : Hid _ := V2
  replace E2 : Hid _ := E2
  replace hb2 : Hid _ := hb2
  go_wp2_with fail
  go_end0
  exact hfr.out _ _ _ _ (Pt.next hb1.out V1.out (⟨V2.out, Or.inl ⟨b2, hb2.out, rfl, E2.out⟩⟩))
theorem limits_yes (a b : Int) (hb : ¬ b = -1) (h : Ew B P q w d) :
    Calls Try.prog 35 #[.pointer (some ⟨q, 0, none⟩), .agg #[.int .i64 a, .int .i64 b]] w (Pt B P q w d (eLi (a, b)) (.tuple #[])) := by
  have g : (b != -1) = true := by simpa using hb
  have hsp : eLi (a, b) = oB (eC 1) (oB (eN a) (eN b)) := if_neg hb
  rw [hsp]
  clear hsp
  have hq := h.lt_q
  have H1 : Hid (∀ (W : World) (d : List Int), Ew B (fun k => P k ∨ k = w.heap.size) q W d → Calls Try.prog 49 #[.pointer (some ⟨q, 0, none⟩), .bool true] W (Pt B (fun k => P k ∨ k = w.heap.size) q W d (eC 1) (.tuple #[]))) := fun W d h => flag_any true h
  have H2 : Hid (∀ (W : World) (d : List Int), Ew B (fun k => P k ∨ k = w.heap.size) q W d → Calls Try.prog 32 #[.pointer (some ⟨q, 0, none⟩), .int .i64 a] W (Pt B (fun k => P k ∨ k = w.heap.size) q W d (eN a) (.tuple #[]))) := fun W d h => number_any a h
  have H3 : Hid (∀ (W : World) (d : List Int), Ew B (fun k => P k ∨ k = w.heap.size) q W d → Calls Try.prog 32 #[.pointer (some ⟨q, 0, none⟩), .int .i64 b] W (Pt B (fun k => P k ∨ k = w.heap.size) q W d (eN b) (.tuple #[]))) := fun W d h => number_any b h
  have hrow : Hid ((w.alloc (.cells #[.int .i64 a, .int .i64 b] 38)).rowIs w.heap.size 38 2 (fun j => [.int .i64 a, .int .i64 b].getD j undef)) := row_new w 38 [.int .i64 a, .int .i64 b]
  have E0 : Hid (Ew B (fun k => P k ∨ k = w.heap.size) q (w.alloc (.cells #[.int .i64 a, .int .i64 b] 38)) d) := h.with_block (La (Lz _)) (by simp)
  have R0 : Hid (Wr (Sq B (fun k => P k ∨ k = w.heap.size) q) (w.alloc (.cells #[.int .i64 a, .int .i64 b] 38)) (w.alloc (.cells #[.int .i64 a, .int .i64 b] 38))) := Wr.refl _ _
  have hfr : Hid (∀ (r : Value) (o : Ob) (e : Ending) (w' : World), Pt B (fun k => P k ∨ k = w.heap.size) q (w.alloc (.cells #[.int .i64 a, .int .i64 b] 38)) d o r e w' → Pt B P q w d o r e w') := fun r o e w' h => (h.drop (fun k hk => Or.inl hk)).ahead (sq_later (La (Lz _)))
  have hnp : Hid (¬ Sq B (fun k => P k ∨ k = w.heap.size) q w.heap.size) := fun x => by rcases x with x | x; omega; exact x.2 (Or.inr rfl)
  clear h
  clear hb
  generalize eC 1 = o1 at *
  generalize eN a = o2 at *
  generalize eN b = o3 at *
  go_enter Try.func35, Try.ntmps35
  have rp := (R0.out).row hnp.out hrow.out
  have k0 : (w.alloc (.cells #[.int .i64 a, .int .i64 b] 38)).cell? ⟨w.heap.size, 0, none⟩ = some (.int .i64 a) := rp.cell (i := 0) (by decide)
  have k1 : (w.alloc (.cells #[.int .i64 a, .int .i64 b] 38)).cell? ⟨w.heap.size, 1, none⟩ = some (.int .i64 b) := rp.cell (i := 1) (by decide)
  have lp : w.heap.size < (w.alloc (.cells #[.int .i64 a, .int .i64 b] 38)).heap.size := cell_lt k0
  clear rp
  go_wp2_with fail
  refine (H1.out _ _ E0.out).mono ?_
  clear H1 k0 k1 lp
  rintro e w1 ⟨V1, (⟨b1, hb1, rfl, E1⟩ | ⟨n1, rfl⟩)⟩
  rotate_left
  · exact ⟨rfl, hfr.out _ _ _ _ (Pt.stop V1 n1)⟩
  have R1 : Hid (Wr (Sq B (fun k => P k ∨ k = w.heap.size) q) (w.alloc (.cells #[.int .i64 a, .int .i64 b] 38)) w1) := R0.out.trans V1
  replace V1 : Hid _ := V1
  replace E1 : Hid _ := E1
  replace hb1 : Hid _ := hb1
  have rp := (R1.out).row hnp.out hrow.out
  have k0 : w1.cell? ⟨w.heap.size, 0, none⟩ = some (.int .i64 a) := rp.cell (i := 0) (by decide)
  have k1 : w1.cell? ⟨w.heap.size, 1, none⟩ = some (.int .i64 b) := rp.cell (i := 1) (by decide)
  have lp : w.heap.size < w1.heap.size := cell_lt k0
  clear rp
  go_wp2_with fail
  refine (H2.out _ _ E1.out).mono ?_
  clear H2 k0 k1 lp
  rintro e w2 ⟨V2, (⟨b2, hb2, rfl, E2⟩ | ⟨n2, rfl⟩)⟩
  rotate_left
  · exact ⟨rfl, hfr.out _ _ _ _ (Pt.next hb1.out V1.out (Pt.stop V2 n2))⟩
  have R2 : Hid (Wr (Sq B (fun k => P k ∨ k = w.heap.size) q) (w.alloc (.cells #[.int .i64 a, .int .i64 b] 38)) w2) := R1.out.trans V2
  replace V2 : Hid _ := V2
  replace E2 : Hid _ := E2
  replace hb2 : Hid _ := hb2
  have rp := (R2.out).row hnp.out hrow.out
  have k0 : w2.cell? ⟨w.heap.size, 0, none⟩ = some (.int .i64 a) := rp.cell (i := 0) (by decide)
  have k1 : w2.cell? ⟨w.heap.size, 1, none⟩ = some (.int .i64 b) := rp.cell (i := 1) (by decide)
  have lp : w.heap.size < w2.heap.size := cell_lt k0
  clear rp
  go_wp2_with fail
  refine (H3.out _ _ E2.out).mono ?_
  clear H3 k0 k1 lp
  rintro e w3 ⟨V3, (⟨b3, hb3, rfl, E3⟩ | ⟨n3, rfl⟩)⟩
  rotate_left
  · exact ⟨rfl, hfr.out _ _ _ _ (Pt.next hb1.out V1.out (Pt.next hb2.out V2.out (Pt.bad V3 n3)))⟩
  have R3 : Hid (Wr (Sq B (fun k => P k ∨ k = w.heap.size) q) (w.alloc (.cells #[.int .i64 a, .int .i64 b] 38)) w3) := R2.out.trans V3
  replace V3 : Hid _ := V3
  replace E3 : Hid _ := E3
  replace hb3 : Hid _ := hb3
  go_wp2_with fail
  go_end0
  exact hfr.out _ _ _ _ (Pt.next hb1.out V1.out (Pt.next hb2.out V2.out (⟨V3.out, Or.inl ⟨b3, hb3.out, rfl, E3.out⟩⟩)))
theorem limits_any (x : Int × Int) (h : Ew B P q w d) :
    Calls Try.prog 35 #[.pointer (some ⟨q, 0, none⟩), .agg #[.int .i64 x.1, .int .i64 x.2]] w (Pt B P q w d (eLi x) (.tuple #[])) := by
  obtain ⟨a, b⟩ := x
  by_cases hb : b = -1
  · subst hb
    exact limits_no a h
  · exact limits_yes a b hb h
theorem table_any (x : Int × Int) (h : Ew B P q w d) :
    Calls Try.prog 34 #[.pointer (some ⟨q, 0, none⟩), .agg #[.int .i64 x.1, .int .i64 x.2]] w (Pt B P q w d (eTa x) (.tuple #[])) := by
  have hsp : eTa x = oB (eC 112) (eLi x) := rfl
  rw [hsp]
  clear hsp
  have hq := h.lt_q
  have H1 : Hid (∀ (W : World) (d : List Int), Ew B (fun k => P k ∨ k = w.heap.size) q W d → Calls Try.prog 25 #[.pointer (some ⟨q, 0, none⟩), .int .i64 112] W (Pt B (fun k => P k ∨ k = w.heap.size) q W d (eC 112) (.tuple #[]))) := fun W d h => byte_any 112 (by decide) h
  have H2 : Hid (∀ (W : World) (d : List Int), Ew B (fun k => P k ∨ k = w.heap.size) q W d → Calls Try.prog 35 #[.pointer (some ⟨q, 0, none⟩), .agg #[.int .i64 x.1, .int .i64 x.2]] W (Pt B (fun k => P k ∨ k = w.heap.size) q W d (eLi x) (.tuple #[]))) := fun W d h => limits_any x h
  have hrow : Hid ((w.alloc (.cells #[.int .i64 x.1, .int .i64 x.2] 38)).rowIs w.heap.size 38 2 (fun j => [.int .i64 x.1, .int .i64 x.2].getD j undef)) := row_new w 38 [.int .i64 x.1, .int .i64 x.2]
  have E0 : Hid (Ew B (fun k => P k ∨ k = w.heap.size) q (w.alloc (.cells #[.int .i64 x.1, .int .i64 x.2] 38)) d) := h.with_block (La (Lz _)) (by simp)
  have R0 : Hid (Wr (Sq B (fun k => P k ∨ k = w.heap.size) q) (w.alloc (.cells #[.int .i64 x.1, .int .i64 x.2] 38)) (w.alloc (.cells #[.int .i64 x.1, .int .i64 x.2] 38))) := Wr.refl _ _
  have hfr : Hid (∀ (r : Value) (o : Ob) (e : Ending) (w' : World), Pt B (fun k => P k ∨ k = w.heap.size) q (w.alloc (.cells #[.int .i64 x.1, .int .i64 x.2] 38)) d o r e w' → Pt B P q w d o r e w') := fun r o e w' h => (h.drop (fun k hk => Or.inl hk)).ahead (sq_later (La (Lz _)))
  have hnp : Hid (¬ Sq B (fun k => P k ∨ k = w.heap.size) q w.heap.size) := fun x => by rcases x with x | x; omega; exact x.2 (Or.inr rfl)
  clear h
  generalize eC 112 = o1 at *
  generalize eLi x = o2 at *
  go_enter Try.func34, Try.ntmps34
  have rp := (R0.out).row hnp.out hrow.out
  have k0 : (w.alloc (.cells #[.int .i64 x.1, .int .i64 x.2] 38)).cell? ⟨w.heap.size, 0, none⟩ = some (.int .i64 x.1) := rp.cell (i := 0) (by decide)
  have k1 : (w.alloc (.cells #[.int .i64 x.1, .int .i64 x.2] 38)).cell? ⟨w.heap.size, 1, none⟩ = some (.int .i64 x.2) := rp.cell (i := 1) (by decide)
  have lp : w.heap.size < (w.alloc (.cells #[.int .i64 x.1, .int .i64 x.2] 38)).heap.size := cell_lt k0
  clear rp
  go_wp2_with fail
  refine (H1.out _ _ E0.out).mono ?_
  clear H1 k0 k1 lp
  rintro e w1 ⟨V1, (⟨b1, hb1, rfl, E1⟩ | ⟨n1, rfl⟩)⟩
  rotate_left
  · exact ⟨rfl, hfr.out _ _ _ _ (Pt.stop V1 n1)⟩
  have R1 : Hid (Wr (Sq B (fun k => P k ∨ k = w.heap.size) q) (w.alloc (.cells #[.int .i64 x.1, .int .i64 x.2] 38)) w1) := R0.out.trans V1
  replace V1 : Hid _ := V1
  replace E1 : Hid _ := E1
  replace hb1 : Hid _ := hb1
  have rp := (R1.out).row hnp.out hrow.out
  have k0 : w1.cell? ⟨w.heap.size, 0, none⟩ = some (.int .i64 x.1) := rp.cell (i := 0) (by decide)
  have k1 : w1.cell? ⟨w.heap.size, 1, none⟩ = some (.int .i64 x.2) := rp.cell (i := 1) (by decide)
  have lp : w.heap.size < w1.heap.size := cell_lt k0
  clear rp
  go_wp2_with fail
  refine (H2.out _ _ E1.out).mono ?_
  clear H2 k0 k1 lp
  rintro e w2 ⟨V2, (⟨b2, hb2, rfl, E2⟩ | ⟨n2, rfl⟩)⟩
  rotate_left
  · exact ⟨rfl, hfr.out _ _ _ _ (Pt.next hb1.out V1.out (Pt.bad V2 n2))⟩
  have R2 : Hid (Wr (Sq B (fun k => P k ∨ k = w.heap.size) q) (w.alloc (.cells #[.int .i64 x.1, .int .i64 x.2] 38)) w2) := R1.out.trans V2
  replace V2 : Hid _ := V2
  replace E2 : Hid _ := E2
  replace hb2 : Hid _ := hb2
  go_wp2_with fail
  go_end0
  exact hfr.out _ _ _ _ (Pt.next hb1.out V1.out (⟨V2.out, Or.inl ⟨b2, hb2.out, rfl, E2.out⟩⟩))
theorem run_any (x : Int × Int) (h : Ew B P q w d) :
    Calls Try.prog 59 #[.pointer (some ⟨q, 0, none⟩), .agg #[.int .i64 x.1, .int .i64 x.2]] w (Pt B P q w d (eR x) (.tuple #[])) := by
  have hsp : eR x = oB (eN x.1) (eK x.2) := rfl
  rw [hsp]
  clear hsp
  have hq := h.lt_q
  have H1 : Hid (∀ (W : World) (d : List Int), Ew B (fun k => P k ∨ k = w.heap.size) q W d → Calls Try.prog 32 #[.pointer (some ⟨q, 0, none⟩), .int .i64 x.1] W (Pt B (fun k => P k ∨ k = w.heap.size) q W d (eN x.1) (.tuple #[]))) := fun W d h => number_any x.1 h
  have H2 : Hid (∀ (W : World) (d : List Int), Ew B (fun k => P k ∨ k = w.heap.size) q W d → Calls Try.prog 46 #[.pointer (some ⟨q, 0, none⟩), .int .i64 x.2] W (Pt B (fun k => P k ∨ k = w.heap.size) q W d (eK x.2) (.tuple #[]))) := fun W d h => vtype_any x.2 h
  have hrow : Hid ((w.alloc (.cells #[.int .i64 x.1, .int .i64 x.2] 105)).rowIs w.heap.size 105 2 (fun j => [.int .i64 x.1, .int .i64 x.2].getD j undef)) := row_new w 105 [.int .i64 x.1, .int .i64 x.2]
  have E0 : Hid (Ew B (fun k => P k ∨ k = w.heap.size) q (w.alloc (.cells #[.int .i64 x.1, .int .i64 x.2] 105)) d) := h.with_block (La (Lz _)) (by simp)
  have R0 : Hid (Wr (Sq B (fun k => P k ∨ k = w.heap.size) q) (w.alloc (.cells #[.int .i64 x.1, .int .i64 x.2] 105)) (w.alloc (.cells #[.int .i64 x.1, .int .i64 x.2] 105))) := Wr.refl _ _
  have hfr : Hid (∀ (r : Value) (o : Ob) (e : Ending) (w' : World), Pt B (fun k => P k ∨ k = w.heap.size) q (w.alloc (.cells #[.int .i64 x.1, .int .i64 x.2] 105)) d o r e w' → Pt B P q w d o r e w') := fun r o e w' h => (h.drop (fun k hk => Or.inl hk)).ahead (sq_later (La (Lz _)))
  have hnp : Hid (¬ Sq B (fun k => P k ∨ k = w.heap.size) q w.heap.size) := fun x => by rcases x with x | x; omega; exact x.2 (Or.inr rfl)
  clear h
  generalize eN x.1 = o1 at *
  generalize eK x.2 = o2 at *
  go_enter Try.func59, Try.ntmps59
  have rp := (R0.out).row hnp.out hrow.out
  have k0 : (w.alloc (.cells #[.int .i64 x.1, .int .i64 x.2] 105)).cell? ⟨w.heap.size, 0, none⟩ = some (.int .i64 x.1) := rp.cell (i := 0) (by decide)
  have k1 : (w.alloc (.cells #[.int .i64 x.1, .int .i64 x.2] 105)).cell? ⟨w.heap.size, 1, none⟩ = some (.int .i64 x.2) := rp.cell (i := 1) (by decide)
  have lp : w.heap.size < (w.alloc (.cells #[.int .i64 x.1, .int .i64 x.2] 105)).heap.size := cell_lt k0
  clear rp
  go_wp2_with fail
  refine (H1.out _ _ E0.out).mono ?_
  clear H1 k0 k1 lp
  rintro e w1 ⟨V1, (⟨b1, hb1, rfl, E1⟩ | ⟨n1, rfl⟩)⟩
  rotate_left
  · exact ⟨rfl, hfr.out _ _ _ _ (Pt.stop V1 n1)⟩
  have R1 : Hid (Wr (Sq B (fun k => P k ∨ k = w.heap.size) q) (w.alloc (.cells #[.int .i64 x.1, .int .i64 x.2] 105)) w1) := R0.out.trans V1
  replace V1 : Hid _ := V1
  replace E1 : Hid _ := E1
  replace hb1 : Hid _ := hb1
  have rp := (R1.out).row hnp.out hrow.out
  have k0 : w1.cell? ⟨w.heap.size, 0, none⟩ = some (.int .i64 x.1) := rp.cell (i := 0) (by decide)
  have k1 : w1.cell? ⟨w.heap.size, 1, none⟩ = some (.int .i64 x.2) := rp.cell (i := 1) (by decide)
  have lp : w.heap.size < w1.heap.size := cell_lt k0
  clear rp
  go_wp2_with fail
  refine (H2.out _ _ E1.out).mono ?_
  clear H2 k0 k1 lp
  rintro e w2 ⟨V2, (⟨b2, hb2, rfl, E2⟩ | ⟨n2, rfl⟩)⟩
  rotate_left
  · exact ⟨rfl, hfr.out _ _ _ _ (Pt.next hb1.out V1.out (Pt.bad V2 n2))⟩
  have R2 : Hid (Wr (Sq B (fun k => P k ∨ k = w.heap.size) q) (w.alloc (.cells #[.int .i64 x.1, .int .i64 x.2] 105)) w2) := R1.out.trans V2
  replace V2 : Hid _ := V2
  replace E2 : Hid _ := E2
  replace hb2 : Hid _ := hb2
  go_wp2_with fail
  go_end0
  exact hfr.out _ _ _ _ (Pt.next hb1.out V1.out (⟨V2.out, Or.inl ⟨b2, hb2.out, rfl, E2.out⟩⟩))
theorem export_any (x : ByteArray × Int × Int) (hs : x.1.size < 9223372036854775000) (h : Ew B P q w d) :
    Calls Try.prog 39 #[.pointer (some ⟨q, 0, none⟩), .agg #[.string x.1, .int .i64 x.2.1, .int .i64 x.2.2]] w (Pt B P q w d (eEx x) (.tuple #[])) := by
  have hsp : eEx x = oB (eT x.1) (oB (eKi x.2.1) (eN x.2.2)) := rfl
  rw [hsp]
  clear hsp
  have hq := h.lt_q
  have H1 : Hid (∀ (W : World) (d : List Int), Ew B (fun k => P k ∨ k = w.heap.size) q W d → Calls Try.prog 47 #[.pointer (some ⟨q, 0, none⟩), .string x.1] W (Pt B (fun k => P k ∨ k = w.heap.size) q W d (eT x.1) (.tuple #[]))) := fun W d h => name_any x.1 hs h
  have H2 : Hid (∀ (W : World) (d : List Int), Ew B (fun k => P k ∨ k = w.heap.size) q W d → Calls Try.prog 48 #[.pointer (some ⟨q, 0, none⟩), .int .i64 x.2.1] W (Pt B (fun k => P k ∨ k = w.heap.size) q W d (eKi x.2.1) (.tuple #[]))) := fun W d h => kind_any x.2.1 h
  have H3 : Hid (∀ (W : World) (d : List Int), Ew B (fun k => P k ∨ k = w.heap.size) q W d → Calls Try.prog 32 #[.pointer (some ⟨q, 0, none⟩), .int .i64 x.2.2] W (Pt B (fun k => P k ∨ k = w.heap.size) q W d (eN x.2.2) (.tuple #[]))) := fun W d h => number_any x.2.2 h
  have hrow : Hid ((w.alloc (.cells #[.string x.1, .int .i64 x.2.1, .int .i64 x.2.2] 47)).rowIs w.heap.size 47 3 (fun j => [.string x.1, .int .i64 x.2.1, .int .i64 x.2.2].getD j undef)) := row_new w 47 [.string x.1, .int .i64 x.2.1, .int .i64 x.2.2]
  have E0 : Hid (Ew B (fun k => P k ∨ k = w.heap.size) q (w.alloc (.cells #[.string x.1, .int .i64 x.2.1, .int .i64 x.2.2] 47)) d) := h.with_block (La (Lz _)) (by simp)
  have R0 : Hid (Wr (Sq B (fun k => P k ∨ k = w.heap.size) q) (w.alloc (.cells #[.string x.1, .int .i64 x.2.1, .int .i64 x.2.2] 47)) (w.alloc (.cells #[.string x.1, .int .i64 x.2.1, .int .i64 x.2.2] 47))) := Wr.refl _ _
  have hfr : Hid (∀ (r : Value) (o : Ob) (e : Ending) (w' : World), Pt B (fun k => P k ∨ k = w.heap.size) q (w.alloc (.cells #[.string x.1, .int .i64 x.2.1, .int .i64 x.2.2] 47)) d o r e w' → Pt B P q w d o r e w') := fun r o e w' h => (h.drop (fun k hk => Or.inl hk)).ahead (sq_later (La (Lz _)))
  have hnp : Hid (¬ Sq B (fun k => P k ∨ k = w.heap.size) q w.heap.size) := fun x => by rcases x with x | x; omega; exact x.2 (Or.inr rfl)
  clear h
  clear hs
  generalize eT x.1 = o1 at *
  generalize eKi x.2.1 = o2 at *
  generalize eN x.2.2 = o3 at *
  go_enter Try.func39, Try.ntmps39
  have rp := (R0.out).row hnp.out hrow.out
  have k0 : (w.alloc (.cells #[.string x.1, .int .i64 x.2.1, .int .i64 x.2.2] 47)).cell? ⟨w.heap.size, 0, none⟩ = some (.string x.1) := rp.cell (i := 0) (by decide)
  have k1 : (w.alloc (.cells #[.string x.1, .int .i64 x.2.1, .int .i64 x.2.2] 47)).cell? ⟨w.heap.size, 1, none⟩ = some (.int .i64 x.2.1) := rp.cell (i := 1) (by decide)
  have k2 : (w.alloc (.cells #[.string x.1, .int .i64 x.2.1, .int .i64 x.2.2] 47)).cell? ⟨w.heap.size, 2, none⟩ = some (.int .i64 x.2.2) := rp.cell (i := 2) (by decide)
  have lp : w.heap.size < (w.alloc (.cells #[.string x.1, .int .i64 x.2.1, .int .i64 x.2.2] 47)).heap.size := cell_lt k0
  clear rp
  go_wp2_with fail
  refine (H1.out _ _ E0.out).mono ?_
  clear H1 k0 k1 k2 lp
  rintro e w1 ⟨V1, (⟨b1, hb1, rfl, E1⟩ | ⟨n1, rfl⟩)⟩
  rotate_left
  · exact ⟨rfl, hfr.out _ _ _ _ (Pt.stop V1 n1)⟩
  have R1 : Hid (Wr (Sq B (fun k => P k ∨ k = w.heap.size) q) (w.alloc (.cells #[.string x.1, .int .i64 x.2.1, .int .i64 x.2.2] 47)) w1) := R0.out.trans V1
  replace V1 : Hid _ := V1
  replace E1 : Hid _ := E1
  replace hb1 : Hid _ := hb1
  have rp := (R1.out).row hnp.out hrow.out
  have k0 : w1.cell? ⟨w.heap.size, 0, none⟩ = some (.string x.1) := rp.cell (i := 0) (by decide)
  have k1 : w1.cell? ⟨w.heap.size, 1, none⟩ = some (.int .i64 x.2.1) := rp.cell (i := 1) (by decide)
  have k2 : w1.cell? ⟨w.heap.size, 2, none⟩ = some (.int .i64 x.2.2) := rp.cell (i := 2) (by decide)
  have lp : w.heap.size < w1.heap.size := cell_lt k0
  clear rp
  go_wp2_with fail
  refine (H2.out _ _ E1.out).mono ?_
  clear H2 k0 k1 k2 lp
  rintro e w2 ⟨V2, (⟨b2, hb2, rfl, E2⟩ | ⟨n2, rfl⟩)⟩
  rotate_left
  · exact ⟨rfl, hfr.out _ _ _ _ (Pt.next hb1.out V1.out (Pt.stop V2 n2))⟩
  have R2 : Hid (Wr (Sq B (fun k => P k ∨ k = w.heap.size) q) (w.alloc (.cells #[.string x.1, .int .i64 x.2.1, .int .i64 x.2.2] 47)) w2) := R1.out.trans V2
  replace V2 : Hid _ := V2
  replace E2 : Hid _ := E2
  replace hb2 : Hid _ := hb2
  have rp := (R2.out).row hnp.out hrow.out
  have k0 : w2.cell? ⟨w.heap.size, 0, none⟩ = some (.string x.1) := rp.cell (i := 0) (by decide)
  have k1 : w2.cell? ⟨w.heap.size, 1, none⟩ = some (.int .i64 x.2.1) := rp.cell (i := 1) (by decide)
  have k2 : w2.cell? ⟨w.heap.size, 2, none⟩ = some (.int .i64 x.2.2) := rp.cell (i := 2) (by decide)
  have lp : w.heap.size < w2.heap.size := cell_lt k0
  clear rp
  go_wp2_with fail
  refine (H3.out _ _ E2.out).mono ?_
  clear H3 k0 k1 k2 lp
  rintro e w3 ⟨V3, (⟨b3, hb3, rfl, E3⟩ | ⟨n3, rfl⟩)⟩
  rotate_left
  · exact ⟨rfl, hfr.out _ _ _ _ (Pt.next hb1.out V1.out (Pt.next hb2.out V2.out (Pt.bad V3 n3)))⟩
  have R3 : Hid (Wr (Sq B (fun k => P k ∨ k = w.heap.size) q) (w.alloc (.cells #[.string x.1, .int .i64 x.2.1, .int .i64 x.2.2] 47)) w3) := R2.out.trans V3
  replace V3 : Hid _ := V3
  replace E3 : Hid _ := E3
  replace hb3 : Hid _ := hb3
  go_wp2_with fail
  go_end0
  exact hfr.out _ _ _ _ (Pt.next hb1.out V1.out (Pt.next hb2.out V2.out (⟨V3.out, Or.inl ⟨b3, hb3.out, rfl, E3.out⟩⟩)))
theorem global_any (x : Int × Bool × Fs) (ho : x.2.2.Ok) (hfl : x.2.2.len * 112 ≤ 140737488351232) (Z : Nat → Prop) (hZ : ∀ k, Z k → k < w.heap.size → ¬ Sq B P q k) (A : Option Addr) (c : Nat) (hT : Tr Z w A x.2.2) (h : Ew B P q w d) :
    Calls Try.prog 37 #[.pointer (some ⟨q, 0, none⟩), .agg #[.int .i64 x.1, .bool x.2.1, .slice A x.2.2.len c]] w (Pt B P q w d (eGl x) (.tuple #[])) := by
  have hsp : eGl x = oB (eK x.1) (oB (eB x.2.1) (eI x.2.2)) := rfl
  rw [hsp]
  clear hsp
  have hq := h.lt_q
  have H1 : Hid (∀ (W : World) (d : List Int), Ew B (fun k => P k ∨ k = w.heap.size) q W d → Calls Try.prog 46 #[.pointer (some ⟨q, 0, none⟩), .int .i64 x.1] W (Pt B (fun k => P k ∨ k = w.heap.size) q W d (eK x.1) (.tuple #[]))) := fun W d h => vtype_any x.1 h
  have H2 : Hid (∀ (W : World) (d : List Int), Ew B (fun k => P k ∨ k = w.heap.size) q W d → Calls Try.prog 49 #[.pointer (some ⟨q, 0, none⟩), .bool x.2.1] W (Pt B (fun k => P k ∨ k = w.heap.size) q W d (eB x.2.1) (.tuple #[]))) := fun W d h => flag_any x.2.1 h
  have H3 : Hid (∀ (W : World) (d : List Int), Ew B (fun k => P k ∨ k = w.heap.size) q W d → Wr (Sq B (fun k => P k ∨ k = w.heap.size) q) (w.alloc (.cells #[.int .i64 x.1, .bool x.2.1, .slice A x.2.2.len c] 45)) W → Calls Try.prog 52 #[.pointer (some ⟨q, 0, none⟩), .slice A x.2.2.len c] W (Pt B (fun k => P k ∨ k = w.heap.size) q W d (eI x.2.2) (.tuple #[]))) := fun W d h V => instrs_any x.2.2 ho hfl (fun k => Z k ∧ k < w.heap.size) A c (hT.move fun k hk hl => ⟨⟨hk, hl⟩, mv_block (La (Lz _)) V k hl (sq_more (fun _ x => Or.inl x) (hZ k hk hl))⟩) h
  have hrow : Hid ((w.alloc (.cells #[.int .i64 x.1, .bool x.2.1, .slice A x.2.2.len c] 45)).rowIs w.heap.size 45 3 (fun j => [.int .i64 x.1, .bool x.2.1, .slice A x.2.2.len c].getD j undef)) := row_new w 45 [.int .i64 x.1, .bool x.2.1, .slice A x.2.2.len c]
  have E0 : Hid (Ew B (fun k => P k ∨ k = w.heap.size) q (w.alloc (.cells #[.int .i64 x.1, .bool x.2.1, .slice A x.2.2.len c] 45)) d) := h.with_block (La (Lz _)) (by simp)
  have R0 : Hid (Wr (Sq B (fun k => P k ∨ k = w.heap.size) q) (w.alloc (.cells #[.int .i64 x.1, .bool x.2.1, .slice A x.2.2.len c] 45)) (w.alloc (.cells #[.int .i64 x.1, .bool x.2.1, .slice A x.2.2.len c] 45))) := Wr.refl _ _
  have hfr : Hid (∀ (r : Value) (o : Ob) (e : Ending) (w' : World), Pt B (fun k => P k ∨ k = w.heap.size) q (w.alloc (.cells #[.int .i64 x.1, .bool x.2.1, .slice A x.2.2.len c] 45)) d o r e w' → Pt B P q w d o r e w') := fun r o e w' h => (h.drop (fun k hk => Or.inl hk)).ahead (sq_later (La (Lz _)))
  have hnp : Hid (¬ Sq B (fun k => P k ∨ k = w.heap.size) q w.heap.size) := fun x => by rcases x with x | x; omega; exact x.2 (Or.inr rfl)
  clear h
  clear ho hfl hZ hT
  generalize x.2.2.len = fl at *
  generalize eK x.1 = o1 at *
  generalize eB x.2.1 = o2 at *
  generalize eI x.2.2 = o3 at *
  go_enter Try.func37, Try.ntmps37
  have rp := (R0.out).row hnp.out hrow.out
  have k0 : (w.alloc (.cells #[.int .i64 x.1, .bool x.2.1, .slice A fl c] 45)).cell? ⟨w.heap.size, 0, none⟩ = some (.int .i64 x.1) := rp.cell (i := 0) (by decide)
  have k1 : (w.alloc (.cells #[.int .i64 x.1, .bool x.2.1, .slice A fl c] 45)).cell? ⟨w.heap.size, 1, none⟩ = some (.bool x.2.1) := rp.cell (i := 1) (by decide)
  have k2 : (w.alloc (.cells #[.int .i64 x.1, .bool x.2.1, .slice A fl c] 45)).cell? ⟨w.heap.size, 2, none⟩ = some (.slice A fl c) := rp.cell (i := 2) (by decide)
  have lp : w.heap.size < (w.alloc (.cells #[.int .i64 x.1, .bool x.2.1, .slice A fl c] 45)).heap.size := cell_lt k0
  clear rp
  go_wp2_with fail
  refine (H1.out _ _ E0.out).mono ?_
  clear H1 k0 k1 k2 lp
  rintro e w1 ⟨V1, (⟨b1, hb1, rfl, E1⟩ | ⟨n1, rfl⟩)⟩
  rotate_left
  · exact ⟨rfl, hfr.out _ _ _ _ (Pt.stop V1 n1)⟩
  have R1 : Hid (Wr (Sq B (fun k => P k ∨ k = w.heap.size) q) (w.alloc (.cells #[.int .i64 x.1, .bool x.2.1, .slice A fl c] 45)) w1) := R0.out.trans V1
  replace V1 : Hid _ := V1
  replace E1 : Hid _ := E1
  replace hb1 : Hid _ := hb1
  have rp := (R1.out).row hnp.out hrow.out
  have k0 : w1.cell? ⟨w.heap.size, 0, none⟩ = some (.int .i64 x.1) := rp.cell (i := 0) (by decide)
  have k1 : w1.cell? ⟨w.heap.size, 1, none⟩ = some (.bool x.2.1) := rp.cell (i := 1) (by decide)
  have k2 : w1.cell? ⟨w.heap.size, 2, none⟩ = some (.slice A fl c) := rp.cell (i := 2) (by decide)
  have lp : w.heap.size < w1.heap.size := cell_lt k0
  clear rp
  go_wp2_with fail
  refine (H2.out _ _ E1.out).mono ?_
  clear H2 k0 k1 k2 lp
  rintro e w2 ⟨V2, (⟨b2, hb2, rfl, E2⟩ | ⟨n2, rfl⟩)⟩
  rotate_left
  · exact ⟨rfl, hfr.out _ _ _ _ (Pt.next hb1.out V1.out (Pt.stop V2 n2))⟩
  have R2 : Hid (Wr (Sq B (fun k => P k ∨ k = w.heap.size) q) (w.alloc (.cells #[.int .i64 x.1, .bool x.2.1, .slice A fl c] 45)) w2) := R1.out.trans V2
  replace V2 : Hid _ := V2
  replace E2 : Hid _ := E2
  replace hb2 : Hid _ := hb2
  have rp := (R2.out).row hnp.out hrow.out
  have k0 : w2.cell? ⟨w.heap.size, 0, none⟩ = some (.int .i64 x.1) := rp.cell (i := 0) (by decide)
  have k1 : w2.cell? ⟨w.heap.size, 1, none⟩ = some (.bool x.2.1) := rp.cell (i := 1) (by decide)
  have k2 : w2.cell? ⟨w.heap.size, 2, none⟩ = some (.slice A fl c) := rp.cell (i := 2) (by decide)
  have lp : w.heap.size < w2.heap.size := cell_lt k0
  clear rp
  go_wp2_with fail
  refine (H3.out _ _ E2.out R2.out).mono ?_
  clear H3 k0 k1 k2 lp
  rintro e w3 ⟨V3, (⟨b3, hb3, rfl, E3⟩ | ⟨n3, rfl⟩)⟩
  rotate_left
  · exact ⟨rfl, hfr.out _ _ _ _ (Pt.next hb1.out V1.out (Pt.next hb2.out V2.out (Pt.bad V3 n3)))⟩
  have R3 : Hid (Wr (Sq B (fun k => P k ∨ k = w.heap.size) q) (w.alloc (.cells #[.int .i64 x.1, .bool x.2.1, .slice A fl c] 45)) w3) := R2.out.trans V3
  replace V3 : Hid _ := V3
  replace E3 : Hid _ := E3
  replace hb3 : Hid _ := hb3
  go_wp2_with fail
  go_end0
  exact hfr.out _ _ _ _ (Pt.next hb1.out V1.out (Pt.next hb2.out V2.out (⟨V3.out, Or.inl ⟨b3, hb3.out, rfl, E3.out⟩⟩)))
theorem data_any (x : Fs × ByteArray) (hs : x.2.size ≤ 140737488351232) (ho : x.1.Ok) (hfl : x.1.len * 112 ≤ 140737488351232) (Z : Nat → Prop) (hZ : ∀ k, Z k → k < w.heap.size → ¬ Sq B P q k) (A : Option Addr) (c : Nat) (hT : Tr Z w A x.1) (h : Ew B P q w d) :
    Calls Try.prog 45 #[.pointer (some ⟨q, 0, none⟩), .agg #[.slice A x.1.len c, .string x.2]] w (Pt B P q w d (oB (eC 0) (oB (eI x.1) (oB (eN (x.2.size : Int)) (some (strL x.2))))) (.tuple #[])) := by
  have hsp : oB (eC 0) (oB (eI x.1) (oB (eN (x.2.size : Int)) (some (strL x.2)))) = oB (eC 0) (oB (eI x.1) (oB (eN (x.2.size : Int)) (some (strL x.2)))) := rfl
  rw [hsp]
  clear hsp
  have hq := h.lt_q
  have H1 : Hid (∀ (W : World) (d : List Int), Ew B (fun k => P k ∨ k = w.heap.size) q W d → Calls Try.prog 32 #[.pointer (some ⟨q, 0, none⟩), .int .i64 0] W (Pt B (fun k => P k ∨ k = w.heap.size) q W d (eC 0) (.tuple #[]))) := fun W d h => (show eN 0 = eC 0 from rfl) ▸ number_any 0 h
  have H2 : Hid (∀ (W : World) (d : List Int), Ew B (fun k => P k ∨ k = w.heap.size) q W d → Wr (Sq B (fun k => P k ∨ k = w.heap.size) q) (w.alloc (.cells #[.slice A x.1.len c, .string x.2] 52)) W → Calls Try.prog 52 #[.pointer (some ⟨q, 0, none⟩), .slice A x.1.len c] W (Pt B (fun k => P k ∨ k = w.heap.size) q W d (eI x.1) (.tuple #[]))) := fun W d h V => instrs_any x.1 ho hfl (fun k => Z k ∧ k < w.heap.size) A c (hT.move fun k hk hl => ⟨⟨hk, hl⟩, mv_block (La (Lz _)) V k hl (sq_more (fun _ x => Or.inl x) (hZ k hk hl))⟩) h
  have H3 : Hid (∀ (W : World) (d : List Int), Ew B (fun k => P k ∨ k = w.heap.size) q W d → Calls Try.prog 32 #[.pointer (some ⟨q, 0, none⟩), .int .i64 (x.2.size : Int)] W (Pt B (fun k => P k ∨ k = w.heap.size) q W d (eN (x.2.size : Int)) (.tuple #[]))) := fun W d h => number_any _ h
  have H4 : Hid (∀ (W : World) (d : List Int), Ew B (fun k => P k ∨ k = w.heap.size) q W d → Calls Try.prog 11 #[.pointer (some ⟨q, 0, none⟩), .string x.2] W (Pt B (fun k => P k ∨ k = w.heap.size) q W d (some (strL x.2)) (.tuple #[]))) := fun W d h => put_any x.2 hs h
  have hrow : Hid ((w.alloc (.cells #[.slice A x.1.len c, .string x.2] 52)).rowIs w.heap.size 52 2 (fun j => [.slice A x.1.len c, .string x.2].getD j undef)) := row_new w 52 [.slice A x.1.len c, .string x.2]
  have E0 : Hid (Ew B (fun k => P k ∨ k = w.heap.size) q (w.alloc (.cells #[.slice A x.1.len c, .string x.2] 52)) d) := h.with_block (La (Lz _)) (by simp)
  have R0 : Hid (Wr (Sq B (fun k => P k ∨ k = w.heap.size) q) (w.alloc (.cells #[.slice A x.1.len c, .string x.2] 52)) (w.alloc (.cells #[.slice A x.1.len c, .string x.2] 52))) := Wr.refl _ _
  have hfr : Hid (∀ (r : Value) (o : Ob) (e : Ending) (w' : World), Pt B (fun k => P k ∨ k = w.heap.size) q (w.alloc (.cells #[.slice A x.1.len c, .string x.2] 52)) d o r e w' → Pt B P q w d o r e w') := fun r o e w' h => (h.drop (fun k hk => Or.inl hk)).ahead (sq_later (La (Lz _)))
  have hnp : Hid (¬ Sq B (fun k => P k ∨ k = w.heap.size) q w.heap.size) := fun x => by rcases x with x | x; omega; exact x.2 (Or.inr rfl)
  clear h
  clear ho hfl hZ hT hs
  generalize x.1.len = fl at *
  generalize eC 0 = o1 at *
  generalize eI x.1 = o2 at *
  generalize eN (x.2.size : Int) = o3 at *
  go_enter Try.func45, Try.ntmps45
  have rp := (R0.out).row hnp.out hrow.out
  have k0 : (w.alloc (.cells #[.slice A fl c, .string x.2] 52)).cell? ⟨w.heap.size, 0, none⟩ = some (.slice A fl c) := rp.cell (i := 0) (by decide)
  have k1 : (w.alloc (.cells #[.slice A fl c, .string x.2] 52)).cell? ⟨w.heap.size, 1, none⟩ = some (.string x.2) := rp.cell (i := 1) (by decide)
  have lp : w.heap.size < (w.alloc (.cells #[.slice A fl c, .string x.2] 52)).heap.size := cell_lt k0
  clear rp
  go_wp2_with fail
  refine (H1.out _ _ E0.out).mono ?_
  clear H1 k0 k1 lp
  rintro e w1 ⟨V1, (⟨b1, hb1, rfl, E1⟩ | ⟨n1, rfl⟩)⟩
  rotate_left
  · exact ⟨rfl, hfr.out _ _ _ _ (Pt.stop V1 n1)⟩
  have R1 : Hid (Wr (Sq B (fun k => P k ∨ k = w.heap.size) q) (w.alloc (.cells #[.slice A fl c, .string x.2] 52)) w1) := R0.out.trans V1
  replace V1 : Hid _ := V1
  replace E1 : Hid _ := E1
  replace hb1 : Hid _ := hb1
  have rp := (R1.out).row hnp.out hrow.out
  have k0 : w1.cell? ⟨w.heap.size, 0, none⟩ = some (.slice A fl c) := rp.cell (i := 0) (by decide)
  have k1 : w1.cell? ⟨w.heap.size, 1, none⟩ = some (.string x.2) := rp.cell (i := 1) (by decide)
  have lp : w.heap.size < w1.heap.size := cell_lt k0
  clear rp
  go_wp2_with fail
  refine (H2.out _ _ E1.out R1.out).mono ?_
  clear H2 k0 k1 lp
  rintro e w2 ⟨V2, (⟨b2, hb2, rfl, E2⟩ | ⟨n2, rfl⟩)⟩
  rotate_left
  · exact ⟨rfl, hfr.out _ _ _ _ (Pt.next hb1.out V1.out (Pt.stop V2 n2))⟩
  have R2 : Hid (Wr (Sq B (fun k => P k ∨ k = w.heap.size) q) (w.alloc (.cells #[.slice A fl c, .string x.2] 52)) w2) := R1.out.trans V2
  replace V2 : Hid _ := V2
  replace E2 : Hid _ := E2
  replace hb2 : Hid _ := hb2
  have rp := (R2.out).row hnp.out hrow.out
  have k0 : w2.cell? ⟨w.heap.size, 0, none⟩ = some (.slice A fl c) := rp.cell (i := 0) (by decide)
  have k1 : w2.cell? ⟨w.heap.size, 1, none⟩ = some (.string x.2) := rp.cell (i := 1) (by decide)
  have lp : w.heap.size < w2.heap.size := cell_lt k0
  clear rp
  go_wp2_with fail
  refine (H3.out _ _ E2.out).mono ?_
  clear H3 k0 k1 lp
  rintro e w3 ⟨V3, (⟨b3, hb3, rfl, E3⟩ | ⟨n3, rfl⟩)⟩
  rotate_left
  · exact ⟨rfl, hfr.out _ _ _ _ (Pt.next hb1.out V1.out (Pt.next hb2.out V2.out (Pt.stop V3 n3)))⟩
  have R3 : Hid (Wr (Sq B (fun k => P k ∨ k = w.heap.size) q) (w.alloc (.cells #[.slice A fl c, .string x.2] 52)) w3) := R2.out.trans V3
  replace V3 : Hid _ := V3
  replace E3 : Hid _ := E3
  replace hb3 : Hid _ := hb3
  have rp := (R3.out).row hnp.out hrow.out
  have k0 : w3.cell? ⟨w.heap.size, 0, none⟩ = some (.slice A fl c) := rp.cell (i := 0) (by decide)
  have k1 : w3.cell? ⟨w.heap.size, 1, none⟩ = some (.string x.2) := rp.cell (i := 1) (by decide)
  have lp : w.heap.size < w3.heap.size := cell_lt k0
  clear rp
  go_wp2_with fail
  refine (H4.out _ _ E3.out).mono ?_
  clear H4 k0 k1 lp
  rintro e w4 ⟨V4, (⟨b4, hb4, rfl, E4⟩ | ⟨n4, rfl⟩)⟩
  rotate_left
  · exact ⟨rfl, hfr.out _ _ _ _ (Pt.next hb1.out V1.out (Pt.next hb2.out V2.out (Pt.next hb3.out V3.out (Pt.bad V4 n4))))⟩
  have R4 : Hid (Wr (Sq B (fun k => P k ∨ k = w.heap.size) q) (w.alloc (.cells #[.slice A fl c, .string x.2] 52)) w4) := R3.out.trans V4
  replace V4 : Hid _ := V4
  replace E4 : Hid _ := E4
  replace hb4 : Hid _ := hb4
  go_wp2_with fail
  go_end0
  exact hfr.out _ _ _ _ (Pt.next hb1.out V1.out (Pt.next hb2.out V2.out (Pt.next hb3.out V3.out (⟨V4.out, Or.inl ⟨b4, hb4.out, rfl, E4.out⟩⟩))))
/-- so many bytes that no text bears them -/
theorem fit_data (f : Fs) (s : ByteArray) : ¬ Fit d (oB (eC 0) (oB (eI f) (oB (eN (s.size : Int)) (some (strL s))))) → ¬ Fit d (eDa (f, s)) := by
  rintro n ⟨b, hb, hl⟩
  obtain ⟨x, y, e1, e2, rfl⟩ := oB_eq hb
  obtain ⟨x2, y2, e3, e4, rfl⟩ := oB_eq e2
  have e4 := Option.some.inj e4
  refine n ⟨x ++ (x2 ++ (lebL (s.size : Int) ++ strL s)), ?_, by rw [e4]; exact hl⟩
  have hs : s.size ≤ 65536 := by
    have h1 := congrArg List.length e4
    simp only [List.length_append, strl_len] at h1 hl
    omega
  show oB (eC 0) (oB (eI f) (oB (eN (s.size : Int)) (some (strL s)))) = _
  rw [show eI f = some x2 from e3, len_wrap _ hs]
  obtain rfl := Option.some.inj e1
  rfl
theorem data_any2 (x : Fs × ByteArray) (hs : x.2.size ≤ 140737488351232) (ho : x.1.Ok) (hfl : x.1.len * 112 ≤ 140737488351232) (Z : Nat → Prop) (hZ : ∀ k, Z k → k < w.heap.size → ¬ Sq B P q k) (A : Option Addr) (c : Nat) (hT : Tr Z w A x.1) (h : Ew B P q w d) :
    Calls Try.prog 45 #[.pointer (some ⟨q, 0, none⟩), .agg #[.slice A x.1.len c, .string x.2]] w (Pt B P q w d (eDa x) (.tuple #[])) := by
  refine (data_any x hs ho hfl Z hZ A c hT h).mono ?_
  rintro e w' ⟨V, h1⟩
  refine ⟨V, ?_⟩
  rcases h1 with ⟨b, hb, he, hE⟩ | ⟨n, he⟩
  · refine Or.inl ⟨b, ?_, he, hE⟩
    obtain ⟨x1, y1, e1, e2, rfl⟩ := oB_eq hb
    obtain ⟨x2, y2, e3, e4, rfl⟩ := oB_eq e2
    obtain ⟨x3, y3, e5, e6, rfl⟩ := oB_eq e4
    obtain rfl := Option.some.inj e6
    have hk : x3 = lebL (x.2.size : Int) := by
      unfold eN at e5
      split at e5
      · exact (Option.some.inj e5).symm
      · cases e5
    subst hk
    show oB (eC 0) (oB (eI x.1) (some (lebL (x.2.size : Int) ++ strL x.2))) = _
    rw [e1, e3]
    rfl
  · exact Or.inr ⟨fit_data x.1 x.2 n, he⟩
end Go.Proofs.Ytngciahmoenkiac.en
