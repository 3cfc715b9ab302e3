/- package encode: types and elements; lists of structs. -/
import Derived.Test.YtngciahmoenkiacBI
set_option linter.unusedVariables false
set_option linter.unusedSimpArgs false
set_option maxRecDepth 100000
set_option maxHeartbeats 4000000
namespace Go.Proofs.Ytngciahmoenkiac.en
open Go.RowKit
variable {B q : Nat} {P : Nat → Prop} {w w' w1 : World} {d b : List Int} {o o2 : Ob} {r : Value} {e : Ending}
theorem itc_ints {Z : Nat → Prop} {w : World} : ∀ xs : List Int, itc Z w (xs.flatMap f1) (xs.map fun x => Value.int .i64 x)
  | [] => rfl
  | x :: r => ⟨_, _, rfl, rfl, itc_ints r⟩
theorem lq_rt {Z : Nat → Prop} {w : World} {A : Option Addr} {xs : List Int} (h : Lq Z w A xs) : Rt f1 Z w A xs := by
  by_cases h0 : xs = []
  · exact Or.inl h0
  · obtain ⟨h1, h2⟩ := h
    rcases h1 with h1 | ⟨b, o, e, h1⟩
    · exact absurd (List.length_eq_zero_iff.1 h1) h0
    · subst e
      refine Or.inr ⟨b, o, _, rfl, h2 h0 _ rfl, fun j u hu => ?_, itc_ints xs⟩
      rw [List.getElem?_map] at hu
      have hj : j < xs.length := by
        by_cases hj : j < xs.length
        · exact hj
        · rw [List.getElem?_eq_none (by omega)] at hu; cases hu
      rw [List.getElem?_eq_getElem hj] at hu
      have hu := Option.some.inj hu
      rw [h1 j hj, ← hu]
      show some (Value.int IntKind.i64 (xs.getD j 0)) = _
      rw [List.getD_eq_getElem?_getD, List.getElem?_eq_getElem hj]
      rfl
theorem functype_any (x : List Int × List Int) (Z : Nat → Prop) (hZ : ∀ k, Z k → k < w.heap.size → ¬ Sq B P q k) (hl1 : x.1.length ≤ 140737488351232) (hl2 : x.2.length ≤ 140737488351232) (A1 A2 : Option Addr) (c1 c2 : Nat) (hT1 : Lq Z w A1 x.1) (hT2 : Lq Z w A2 x.2) (h : Ew B P q w d) :
    Calls Try.prog 28 #[.pointer (some ⟨q, 0, none⟩), .agg #[.slice A1 x.1.length c1, .slice A2 x.2.length c2]] w (Pt B P q w d (eTy x) (.tuple #[])) := by
  have hsp : eTy x = oB (eC 96) (oB (eL 1024 eK x.1) (eL 1024 eK x.2)) := rfl
  rw [hsp]
  clear hsp
  have hq := h.lt_q
  have H1 : Hid (∀ (W : World) (d : List Int), Ew B (fun k => P k ∨ k = w.heap.size) q W d → Calls Try.prog 25 #[.pointer (some ⟨q, 0, none⟩), .int .i64 96] W (Pt B (fun k => P k ∨ k = w.heap.size) q W d (eC 96) (.tuple #[]))) := fun W d h => byte_any 96 (by decide) h
  have H2 : Hid (∀ (W : World) (d : List Int), Ew B (fun k => P k ∨ k = w.heap.size) q W d → Wr (Sq B (fun k => P k ∨ k = w.heap.size) q) (w.alloc (.cells #[.slice A1 x.1.length c1, .slice A2 x.2.length c2] 36)) W → Calls Try.prog 31 #[.pointer (some ⟨q, 0, none⟩), .slice A1 x.1.length c1, .int .i64 1024, .func (.func 46) #[.pointer (some ⟨q, 0, none⟩)] #[]] W (Pt B (fun k => P k ∨ k = w.heap.size) q W d (eL 1024 eK x.1) (.int .i64 x.1.length))) := fun W d h V => list_kinds x.1 A1 c1 (fun k => Z k ∧ k < w.heap.size) ((lq_rt hT1).move (fun _ => Nat.succ_pos _) fun k hk hl => ⟨⟨hk, hl⟩, mv_block (La (Lz _)) V k hl (sq_more (fun _ x => Or.inl x) (hZ k hk hl))⟩) (fun k hk _ => sq_more (fun _ x => Or.inl x) (hZ k hk.1 hk.2)) hl1 h
  have H3 : Hid (∀ (W : World) (d : List Int), Ew B (fun k => P k ∨ k = w.heap.size) q W d → Wr (Sq B (fun k => P k ∨ k = w.heap.size) q) (w.alloc (.cells #[.slice A1 x.1.length c1, .slice A2 x.2.length c2] 36)) W → Calls Try.prog 31 #[.pointer (some ⟨q, 0, none⟩), .slice A2 x.2.length c2, .int .i64 1024, .func (.func 46) #[.pointer (some ⟨q, 0, none⟩)] #[]] W (Pt B (fun k => P k ∨ k = w.heap.size) q W d (eL 1024 eK x.2) (.int .i64 x.2.length))) := fun W d h V => list_kinds x.2 A2 c2 (fun k => Z k ∧ k < w.heap.size) ((lq_rt hT2).move (fun _ => Nat.succ_pos _) fun k hk hl => ⟨⟨hk, hl⟩, mv_block (La (Lz _)) V k hl (sq_more (fun _ x => Or.inl x) (hZ k hk hl))⟩) (fun k hk _ => sq_more (fun _ x => Or.inl x) (hZ k hk.1 hk.2)) hl2 h
  have hrow : Hid ((w.alloc (.cells #[.slice A1 x.1.length c1, .slice A2 x.2.length c2] 36)).rowIs w.heap.size 36 2 (fun j => [.slice A1 x.1.length c1, .slice A2 x.2.length c2].getD j undef)) := row_new w 36 [.slice A1 x.1.length c1, .slice A2 x.2.length c2]
  have E0 : Hid (Ew B (fun k => P k ∨ k = w.heap.size) q (w.alloc (.cells #[.slice A1 x.1.length c1, .slice A2 x.2.length c2] 36)) d) := h.with_block (La (Lz _)) (by simp)
  have R0 : Hid (Wr (Sq B (fun k => P k ∨ k = w.heap.size) q) (w.alloc (.cells #[.slice A1 x.1.length c1, .slice A2 x.2.length c2] 36)) (w.alloc (.cells #[.slice A1 x.1.length c1, .slice A2 x.2.length c2] 36))) := Wr.refl _ _
  have hfr : Hid (∀ (r : Value) (o : Ob) (e : Ending) (w' : World), Pt B (fun k => P k ∨ k = w.heap.size) q (w.alloc (.cells #[.slice A1 x.1.length c1, .slice A2 x.2.length c2] 36)) d o r e w' → Pt B P q w d o r e w') := fun r o e w' h => (h.drop (fun k hk => Or.inl hk)).ahead (sq_later (La (Lz _)))
  have hnp : Hid (¬ Sq B (fun k => P k ∨ k = w.heap.size) q w.heap.size) := fun x => by rcases x with x | x; omega; exact x.2 (Or.inr rfl)
  clear h
  clear hZ hT1 hT2 hl1 hl2
  generalize x.1.length = l1 at *
  generalize x.2.length = l2 at *
  generalize eC 96 = o1 at *
  generalize eL 1024 eK x.1 = o2 at *
  generalize eL 1024 eK x.2 = o3 at *
  go_enter Try.func28, Try.ntmps28
  have rp := (R0.out).row hnp.out hrow.out
  have k0 : (w.alloc (.cells #[.slice A1 l1 c1, .slice A2 l2 c2] 36)).cell? ⟨w.heap.size, 0, none⟩ = some (.slice A1 l1 c1) := rp.cell (i := 0) (by decide)
  have k1 : (w.alloc (.cells #[.slice A1 l1 c1, .slice A2 l2 c2] 36)).cell? ⟨w.heap.size, 1, none⟩ = some (.slice A2 l2 c2) := rp.cell (i := 1) (by decide)
  have lp : w.heap.size < (w.alloc (.cells #[.slice A1 l1 c1, .slice A2 l2 c2] 36)).heap.size := cell_lt k0
  clear rp
  go_wp2_with fail
  refine (H1.out _ _ E0.out).mono ?_
  clear H1 k0 k1 lp
  rintro e w1 ⟨V1, (⟨b1, hb1, rfl, E1⟩ | ⟨n1, rfl⟩)⟩
  rotate_left
  · exact ⟨rfl, hfr.out _ _ _ _ (Pt.stop V1 n1)⟩
  have R1 : Hid (Wr (Sq B (fun k => P k ∨ k = w.heap.size) q) (w.alloc (.cells #[.slice A1 l1 c1, .slice A2 l2 c2] 36)) w1) := R0.out.trans V1
  replace V1 : Hid _ := V1
  replace E1 : Hid _ := E1
  replace hb1 : Hid _ := hb1
  have rp := (R1.out).row hnp.out hrow.out
  have k0 : w1.cell? ⟨w.heap.size, 0, none⟩ = some (.slice A1 l1 c1) := rp.cell (i := 0) (by decide)
  have k1 : w1.cell? ⟨w.heap.size, 1, none⟩ = some (.slice A2 l2 c2) := rp.cell (i := 1) (by decide)
  have lp : w.heap.size < w1.heap.size := cell_lt k0
  clear rp
  go_wp2_with fail
  refine (H2.out _ _ E1.out R1.out).mono ?_
  clear H2 k0 k1 lp
  rintro e w2 ⟨V2, (⟨b2, hb2, rfl, E2⟩ | ⟨n2, rfl⟩)⟩
  rotate_left
  · exact ⟨rfl, hfr.out _ _ _ _ (Pt.next hb1.out V1.out (Pt.stop V2 n2))⟩
  have R2 : Hid (Wr (Sq B (fun k => P k ∨ k = w.heap.size) q) (w.alloc (.cells #[.slice A1 l1 c1, .slice A2 l2 c2] 36)) w2) := R1.out.trans V2
  replace V2 : Hid _ := V2
  replace E2 : Hid _ := E2
  replace hb2 : Hid _ := hb2
  have rp := (R2.out).row hnp.out hrow.out
  have k0 : w2.cell? ⟨w.heap.size, 0, none⟩ = some (.slice A1 l1 c1) := rp.cell (i := 0) (by decide)
  have k1 : w2.cell? ⟨w.heap.size, 1, none⟩ = some (.slice A2 l2 c2) := rp.cell (i := 1) (by decide)
  have lp : w.heap.size < w2.heap.size := cell_lt k0
  clear rp
  go_wp2_with fail
  refine (H3.out _ _ E2.out R2.out).mono ?_
  clear H3 k0 k1 lp
  rintro e w3 ⟨V3, (⟨b3, hb3, rfl, E3⟩ | ⟨n3, rfl⟩)⟩
  rotate_left
  · exact ⟨rfl, hfr.out _ _ _ _ (Pt.next hb1.out V1.out (Pt.next hb2.out V2.out (Pt.bad V3 n3)))⟩
  have R3 : Hid (Wr (Sq B (fun k => P k ∨ k = w.heap.size) q) (w.alloc (.cells #[.slice A1 l1 c1, .slice A2 l2 c2] 36)) w3) := R2.out.trans V3
  replace V3 : Hid _ := V3
  replace E3 : Hid _ := E3
  replace hb3 : Hid _ := hb3
  go_wp2_with fail
  go_end0
  exact hfr.out _ _ _ _ (Pt.next hb1.out V1.out (Pt.next hb2.out V2.out (⟨V3.out, Or.inl ⟨b3, hb3.out, rfl, E3.out⟩⟩)))
theorem elem_any (x : Fs × List Int) (hl1 : x.2.length ≤ 140737488351232) (ho : x.1.Ok) (hfl : x.1.len * 112 ≤ 140737488351232) (Z : Nat → Prop) (hZ : ∀ k, Z k → k < w.heap.size → ¬ Sq B P q k) (A : Option Addr) (c : Nat) (hT : Tr Z w A x.1) (A1 : Option Addr) (c1 : Nat) (hT1 : Lq Z w A1 x.2) (h : Ew B P q w d) :
    Calls Try.prog 41 #[.pointer (some ⟨q, 0, none⟩), .agg #[.slice A x.1.len c, .slice A1 x.2.length c1]] w (Pt B P q w d (eEl x) (.tuple #[])) := by
  have hsp : eEl x = oB (eC 0) (oB (eI x.1) (eL 1024 eN x.2)) := rfl
  rw [hsp]
  clear hsp
  have hq := h.lt_q
  have H1 : Hid (∀ (W : World) (d : List Int), Ew B (fun k => P k ∨ k = w.heap.size) q W d → Calls Try.prog 32 #[.pointer (some ⟨q, 0, none⟩), .int .i64 0] W (Pt B (fun k => P k ∨ k = w.heap.size) q W d (eC 0) (.tuple #[]))) := fun W d h => (show eN 0 = eC 0 from rfl) ▸ number_any 0 h
  have H2 : Hid (∀ (W : World) (d : List Int), Ew B (fun k => P k ∨ k = w.heap.size) q W d → Wr (Sq B (fun k => P k ∨ k = w.heap.size) q) (w.alloc (.cells #[.slice A x.1.len c, .slice A1 x.2.length c1] 49)) W → Calls Try.prog 52 #[.pointer (some ⟨q, 0, none⟩), .slice A x.1.len c] W (Pt B (fun k => P k ∨ k = w.heap.size) q W d (eI x.1) (.tuple #[]))) := fun W d h V => instrs_any x.1 ho hfl (fun k => Z k ∧ k < w.heap.size) A c (hT.move fun k hk hl => ⟨⟨hk, hl⟩, mv_block (La (Lz _)) V k hl (sq_more (fun _ x => Or.inl x) (hZ k hk hl))⟩) h
  have H3 : Hid (∀ (W : World) (d : List Int), Ew B (fun k => P k ∨ k = w.heap.size) q W d → Wr (Sq B (fun k => P k ∨ k = w.heap.size) q) (w.alloc (.cells #[.slice A x.1.len c, .slice A1 x.2.length c1] 49)) W → Calls Try.prog 31 #[.pointer (some ⟨q, 0, none⟩), .slice A1 x.2.length c1, .int .i64 1024, .func (.func 32) #[.pointer (some ⟨q, 0, none⟩)] #[]] W (Pt B (fun k => P k ∨ k = w.heap.size) q W d (eL 1024 eN x.2) (.int .i64 x.2.length))) := fun W d h V => list_nums x.2 A1 c1 (fun k => Z k ∧ k < w.heap.size) ((lq_rt hT1).move (fun _ => Nat.succ_pos _) fun k hk hl => ⟨⟨hk, hl⟩, mv_block (La (Lz _)) V k hl (sq_more (fun _ x => Or.inl x) (hZ k hk hl))⟩) (fun k hk _ => sq_more (fun _ x => Or.inl x) (hZ k hk.1 hk.2)) hl1 h
  have hrow : Hid ((w.alloc (.cells #[.slice A x.1.len c, .slice A1 x.2.length c1] 49)).rowIs w.heap.size 49 2 (fun j => [.slice A x.1.len c, .slice A1 x.2.length c1].getD j undef)) := row_new w 49 [.slice A x.1.len c, .slice A1 x.2.length c1]
  have E0 : Hid (Ew B (fun k => P k ∨ k = w.heap.size) q (w.alloc (.cells #[.slice A x.1.len c, .slice A1 x.2.length c1] 49)) d) := h.with_block (La (Lz _)) (by simp)
  have R0 : Hid (Wr (Sq B (fun k => P k ∨ k = w.heap.size) q) (w.alloc (.cells #[.slice A x.1.len c, .slice A1 x.2.length c1] 49)) (w.alloc (.cells #[.slice A x.1.len c, .slice A1 x.2.length c1] 49))) := Wr.refl _ _
  have hfr : Hid (∀ (r : Value) (o : Ob) (e : Ending) (w' : World), Pt B (fun k => P k ∨ k = w.heap.size) q (w.alloc (.cells #[.slice A x.1.len c, .slice A1 x.2.length c1] 49)) d o r e w' → Pt B P q w d o r e w') := fun r o e w' h => (h.drop (fun k hk => Or.inl hk)).ahead (sq_later (La (Lz _)))
  have hnp : Hid (¬ Sq B (fun k => P k ∨ k = w.heap.size) q w.heap.size) := fun x => by rcases x with x | x; omega; exact x.2 (Or.inr rfl)
  clear h
  clear ho hfl hZ hT hl1 hT1
  generalize x.1.len = fl at *
  generalize x.2.length = l1 at *
  generalize eC 0 = o1 at *
  generalize eI x.1 = o2 at *
  generalize eL 1024 eN x.2 = o3 at *
  go_enter Try.func41, Try.ntmps41
  have rp := (R0.out).row hnp.out hrow.out
  have k0 : (w.alloc (.cells #[.slice A fl c, .slice A1 l1 c1] 49)).cell? ⟨w.heap.size, 0, none⟩ = some (.slice A fl c) := rp.cell (i := 0) (by decide)
  have k1 : (w.alloc (.cells #[.slice A fl c, .slice A1 l1 c1] 49)).cell? ⟨w.heap.size, 1, none⟩ = some (.slice A1 l1 c1) := rp.cell (i := 1) (by decide)
  have lp : w.heap.size < (w.alloc (.cells #[.slice A fl c, .slice A1 l1 c1] 49)).heap.size := cell_lt k0
  clear rp
  go_wp2_with fail
  refine (H1.out _ _ E0.out).mono ?_
  clear H1 k0 k1 lp
  rintro e w1 ⟨V1, (⟨b1, hb1, rfl, E1⟩ | ⟨n1, rfl⟩)⟩
  rotate_left
  · exact ⟨rfl, hfr.out _ _ _ _ (Pt.stop V1 n1)⟩
  have R1 : Hid (Wr (Sq B (fun k => P k ∨ k = w.heap.size) q) (w.alloc (.cells #[.slice A fl c, .slice A1 l1 c1] 49)) w1) := R0.out.trans V1
  replace V1 : Hid _ := V1
  replace E1 : Hid _ := E1
  replace hb1 : Hid _ := hb1
  have rp := (R1.out).row hnp.out hrow.out
  have k0 : w1.cell? ⟨w.heap.size, 0, none⟩ = some (.slice A fl c) := rp.cell (i := 0) (by decide)
  have k1 : w1.cell? ⟨w.heap.size, 1, none⟩ = some (.slice A1 l1 c1) := rp.cell (i := 1) (by decide)
  have lp : w.heap.size < w1.heap.size := cell_lt k0
  clear rp
  go_wp2_with fail
  refine (H2.out _ _ E1.out R1.out).mono ?_
  clear H2 k0 k1 lp
  rintro e w2 ⟨V2, (⟨b2, hb2, rfl, E2⟩ | ⟨n2, rfl⟩)⟩
  rotate_left
  · exact ⟨rfl, hfr.out _ _ _ _ (Pt.next hb1.out V1.out (Pt.stop V2 n2))⟩
  have R2 : Hid (Wr (Sq B (fun k => P k ∨ k = w.heap.size) q) (w.alloc (.cells #[.slice A fl c, .slice A1 l1 c1] 49)) w2) := R1.out.trans V2
  replace V2 : Hid _ := V2
  replace E2 : Hid _ := E2
  replace hb2 : Hid _ := hb2
  have rp := (R2.out).row hnp.out hrow.out
  have k0 : w2.cell? ⟨w.heap.size, 0, none⟩ = some (.slice A fl c) := rp.cell (i := 0) (by decide)
  have k1 : w2.cell? ⟨w.heap.size, 1, none⟩ = some (.slice A1 l1 c1) := rp.cell (i := 1) (by decide)
  have lp : w.heap.size < w2.heap.size := cell_lt k0
  clear rp
  go_wp2_with fail
  refine (H3.out _ _ E2.out R2.out).mono ?_
  clear H3 k0 k1 lp
  rintro e w3 ⟨V3, (⟨b3, hb3, rfl, E3⟩ | ⟨n3, rfl⟩)⟩
  rotate_left
  · exact ⟨rfl, hfr.out _ _ _ _ (Pt.next hb1.out V1.out (Pt.next hb2.out V2.out (Pt.bad V3 n3)))⟩
  have R3 : Hid (Wr (Sq B (fun k => P k ∨ k = w.heap.size) q) (w.alloc (.cells #[.slice A fl c, .slice A1 l1 c1] 49)) w3) := R2.out.trans V3
  replace V3 : Hid _ := V3
  replace E3 : Hid _ := E3
  replace hb3 : Hid _ := hb3
  go_wp2_with fail
  go_end0
  exact hfr.out _ _ _ _ (Pt.next hb1.out V1.out (Pt.next hb2.out V2.out (⟨V3.out, Or.inl ⟨b3, hb3.out, rfl, E3.out⟩⟩)))
theorem list_tabs (xs : List (Int × Int)) (A : Option Addr) (c : Nat) (Z : Nat → Prop) (hR : Rt fLi Z w A xs) (hZ : ∀ k, Z k → k < w.heap.size → ¬ Sq B P q k) (hl : xs.length ≤ 140737488351232) (h : Ew B P q w d) :
    Calls Try.prog 33 #[.pointer (some ⟨q, 0, none⟩), .slice A xs.length c, .int .i64 1024, .func (.func 34) #[.pointer (some ⟨q, 0, none⟩)] #[]] w (Pt B P q w d (eL 1024 eTa xs) (.int .i64 xs.length)) := by
  by_cases hm : xs.length ≤ 1024
  · have hn : Hid (∀ w : World, Calls Try.prog 10 #[.bool true] w fun e w' => e = .returned (.tuple #[]) ∧ w' = w) := need_ok
    have hN : Hid (Calls Try.prog 32 #[.pointer (some ⟨q, 0, none⟩), .int .i64 (xs.length : Int)] w (Pt B P q w d (some (lebL (xs.length : Int))) (.tuple #[]))) := by
      have := number_any (xs.length : Int) h
      rwa [len_wrap _ (by omega)] at this
    have hround : Hid (∀ (j : Nat) (hj : j < xs.length) (W : World) (d : List Int), Ew B P q W d → Wr (Sq B P q) w W → ∃ g o, A = some ⟨g, o, none⟩ ∧ W.cell? ⟨g, o + j * 2, none⟩ = some (.int .i64 xs[j].1) ∧ W.cell? ⟨g, o + j * 2 + 1, none⟩ = some (.int .i64 xs[j].2) ∧ ∀ W2, Later W W2 → Calls Try.prog 34 #[.pointer (some ⟨q, 0, none⟩), .agg #[.int .i64 xs[j].1, .int .i64 xs[j].2]] W2 (Pt B P q W2 d (eTa xs[j]) (.tuple #[]))) := fun j hj W d h V => by
      have hR2 : Rt fLi (fun k => Z k ∧ k < w.heap.size) W A xs := hR.move (fun _ => Nat.succ_pos _) fun k hk hl => ⟨⟨hk, hl⟩, V.block k hl (hZ k hk hl)⟩
      have hZ2 : ∀ k, (Z k ∧ k < w.heap.size) → k < W.heap.size → ¬ Sq B P q k := fun k hk _ => hZ k hk.1 hk.2
      obtain ⟨g, o, c, e, hz, hc, hi⟩ := rt_at 2 (fun _ => rfl) hR2 j hj
      obtain ⟨v0, _, rfl, h0, v1, _, rfl, h1, rfl⟩ := hi
      obtain rfl : v0 = .int .i64 xs[j].1 := h0
      obtain rfl : v1 = .int .i64 xs[j].2 := h1
      exact ⟨g, o, e, hc 0 _ rfl, hc 1 _ rfl, fun W' hl => table_any _ (h.later hl)⟩
    obtain ⟨n, hnx⟩ : ∃ n, n = xs.length := ⟨_, rfl⟩
    obtain ⟨D1, hD⟩ : ∃ D1, D1 = lebL (n : Int) := ⟨_, rfl⟩
    have hend : Hid (∀ j b, j = n → eA eTa (xs.take j) = some b → eL 1024 eTa xs = some (D1 ++ b)) := fun j b hj hb => by subst hj hD hnx; exact el_some hm hb
    have hbad : Hid (∀ (j : Nat) (hj : j < xs.length) (b : List Int), eA eTa (xs.take j) = some b → ¬ Fit (d ++ (D1 ++ b)) (eTa xs[j]) → ¬ Fit d (eL 1024 eTa xs)) := fun j hj b hb n => el_bad hj (by rw [hD, hnx]) hb n
    have hhd : Hid (¬ Fit d (some D1) → ¬ Fit d (eL 1024 eTa xs)) := fun n => by rw [hD, hnx] at n; exact el_head n
    have htk : Hid (∀ j (hj : j < xs.length), eA eTa (xs.take (j + 1)) = oB (eA eTa (xs.take j)) (eTa xs[j])) := fun j hj => ea_take eTa xs j hj
    have g1 : (n : Int) ≤ 1024 := by omega
    clear h hR hZ hl hm
    rw [← hnx, ← hD] at hN
    rw [← hnx]
    clear hD
    replace hnx : Hid (n = xs.length) := hnx
    generalize hO : eL 1024 eTa xs = O at *
    clear hO
    go_enter Try.func33, Try.ntmps33
    go_wp2_with (first | (go_at_call 10; refine (hn.out _).mono ?_; rintro e w0 ⟨rfl, hw0⟩; obtain rfl := hw0.symm) | (go_at_call 32; refine hN.out.mono ?_; rintro e w1 ⟨V1, (⟨b1, hb1, rfl, E1⟩ | ⟨n1, rfl⟩)⟩))
    · obtain rfl : D1 = b1 := Option.some.inj hb1
      replace V1 : Hid _ := V1
      replace E1 : Hid _ := E1
      clear hN hn hhd hb1
      go_loopw [22] (fun i wr => ∃ (j : Nat) (bj : List Int), i = .int .i64 (j : Nat) ∧ j ≤ n ∧ eA eTa (xs.take j) = some bj ∧ Ew B P q wr (d ++ (D1 ++ bj)) ∧ Wr (Sq B P q) w wr) (fun i _ => n - (intOf i).toNat)
      case atStart => exact ⟨0, [], rfl, Nat.zero_le _, rfl, by rw [List.append_nil]; exact E1.out, V1.out⟩
      case round =>
        obtain ⟨j, bj, rfl, hj, hb, hE, hV⟩ := hrel
        clear E1 V1
        by_cases hlt : j < n
        · have hl1 : (j : Int) < (n : Int) := by omega
          have hlx : j < xs.length := by have := hnx.out; omega
          obtain ⟨g, o, rfl, c0, c1, hcall⟩ := hround.out j hlx wr _ hE hV
          have hl0 := cell_lt c0
          have hbd : Hid (¬ Fit (d ++ (D1 ++ bj)) (eTa xs[j]) → ¬ Fit d O) := fun n => hbad.out j hlx bj hb n
          have htk2 := htk.out j hlx
          rw [hb] at htk2
          replace htk2 : Hid (eA eTa (xs.take (j + 1)) = oB (some bj) (eTa xs[j])) := htk2
          replace hcall : Hid _ := hcall
          replace hV : Hid _ := hV
          clear hround hend hbad htk hb hE
          generalize eTa xs[j] = oj at *
          go_wp2_with fail
          refine Calls.mono (hcall.out _ (La (Lz _))) ?_
          clear hcall
          rintro e w2 ⟨V20, (⟨b2, hb2, rfl, E2⟩ | ⟨n2, rfl⟩)⟩
          · have V2 : Wr (Sq B P q) wr w2 := (sq_later (La (Lz _))).trans V20
            have hf : Hid (eA eTa (xs.take (j + 1)) = some (bj ++ b2) ∧ Ew B P q w2 (d ++ (D1 ++ (bj ++ b2))) ∧ Wr (Sq B P q) w w2) := ⟨by rw [htk2.out, hb2]; rfl, by rw [show d ++ (D1 ++ (bj ++ b2)) = d ++ (D1 ++ bj) ++ b2 by simp [List.append_assoc]]; exact E2, hV.out.trans V2⟩
            clear V2 V20 E2 hb2 htk2 hV hbd
            go_wp2_with fail
            go_roundw
            case rel => exact ⟨j + 1, bj ++ b2, by go_num, by omega, hf.out.1, hf.out.2.1, hf.out.2.2⟩
            case measure => simp [intOf]; omega
          · have V2 : Wr (Sq B P q) wr w2 := (sq_later (La (Lz _))).trans V20
            exact ⟨rfl, hV.out.trans V2, Or.inr ⟨hbd.out n2, rfl⟩⟩
        · have hl1 : ¬ (j : Int) < (n : Int) := by omega
          have hf : Hid (Pt B P q w d O (.int .i64 (n : Int)) (.returned (.int .i64 (n : Int))) wr) := ⟨hV, Or.inl ⟨D1 ++ bj, hend.out j bj (by omega) hb, rfl, hE⟩⟩
          clear hround hend hbad htk hb hE hV
          go_wp2_with fail
          go_ret
          exact hf.out
    · exact ⟨rfl, V1, Or.inr ⟨hhd.out n1, rfl⟩⟩
  · have hn : Hid (∀ w : World, Calls Try.prog 10 #[.bool false] w fun e w' => e = thn ∧ w' = w) := need_bad
    have hfin : Hid (Pt B P q w d (eL 1024 eTa xs) (.int .i64 xs.length) thn w) := Pt.bad (Wr.refl _ _) (el_many hm)
    have g : ¬ (xs.length : Int) ≤ 1024 := by omega
    clear h hR hZ hl hm
    generalize eL 1024 eTa xs = O at *
    generalize xs.length = n at *
    go_enter Try.func33, Try.ntmps33
    go_wp2_with (go_at_call 10; refine (hn.out _).mono ?_; rintro e w0 ⟨rfl, hw0⟩; obtain rfl := hw0.symm)
    exact ⟨rfl, hfin.out⟩
theorem list_exps (xs : List (ByteArray × Int × Int)) (A : Option Addr) (c : Nat) (Z : Nat → Prop) (hR : Rt fEx Z w A xs) (hZ : ∀ k, Z k → k < w.heap.size → ¬ Sq B P q k) (hl : xs.length ≤ 140737488351232) (hok : ∀ x ∈ xs, x.1.size < 9223372036854775000) (h : Ew B P q w d) :
    Calls Try.prog 38 #[.pointer (some ⟨q, 0, none⟩), .slice A xs.length c, .int .i64 1024, .func (.func 39) #[.pointer (some ⟨q, 0, none⟩)] #[]] w (Pt B P q w d (eL 1024 eEx xs) (.int .i64 xs.length)) := by
  by_cases hm : xs.length ≤ 1024
  · have hn : Hid (∀ w : World, Calls Try.prog 10 #[.bool true] w fun e w' => e = .returned (.tuple #[]) ∧ w' = w) := need_ok
    have hN : Hid (Calls Try.prog 32 #[.pointer (some ⟨q, 0, none⟩), .int .i64 (xs.length : Int)] w (Pt B P q w d (some (lebL (xs.length : Int))) (.tuple #[]))) := by
      have := number_any (xs.length : Int) h
      rwa [len_wrap _ (by omega)] at this
    have hround : Hid (∀ (j : Nat) (hj : j < xs.length) (W : World) (d : List Int), Ew B P q W d → Wr (Sq B P q) w W → ∃ g o, A = some ⟨g, o, none⟩ ∧ W.cell? ⟨g, o + j * 3, none⟩ = some (.string xs[j].1) ∧ W.cell? ⟨g, o + j * 3 + 1, none⟩ = some (.int .i64 xs[j].2.1) ∧ W.cell? ⟨g, o + j * 3 + 2, none⟩ = some (.int .i64 xs[j].2.2) ∧ ∀ W2, Later W W2 → Calls Try.prog 39 #[.pointer (some ⟨q, 0, none⟩), .agg #[.string xs[j].1, .int .i64 xs[j].2.1, .int .i64 xs[j].2.2]] W2 (Pt B P q W2 d (eEx xs[j]) (.tuple #[]))) := fun j hj W d h V => by
      have hR2 : Rt fEx (fun k => Z k ∧ k < w.heap.size) W A xs := hR.move (fun _ => Nat.succ_pos _) fun k hk hl => ⟨⟨hk, hl⟩, V.block k hl (hZ k hk hl)⟩
      have hZ2 : ∀ k, (Z k ∧ k < w.heap.size) → k < W.heap.size → ¬ Sq B P q k := fun k hk _ => hZ k hk.1 hk.2
      obtain ⟨g, o, c, e, hz, hc, hi⟩ := rt_at 3 (fun _ => rfl) hR2 j hj
      obtain ⟨v0, _, rfl, h0, v1, _, rfl, h1, v2, _, rfl, h2, rfl⟩ := hi
      obtain rfl : v0 = .string xs[j].1 := h0
      obtain rfl : v1 = .int .i64 xs[j].2.1 := h1
      obtain rfl : v2 = .int .i64 xs[j].2.2 := h2
      exact ⟨g, o, e, hc 0 _ rfl, hc 1 _ rfl, hc 2 _ rfl, fun W' hl => export_any _ (hok _ (List.getElem_mem hj)) (h.later hl)⟩
    obtain ⟨n, hnx⟩ : ∃ n, n = xs.length := ⟨_, rfl⟩
    obtain ⟨D1, hD⟩ : ∃ D1, D1 = lebL (n : Int) := ⟨_, rfl⟩
    have hend : Hid (∀ j b, j = n → eA eEx (xs.take j) = some b → eL 1024 eEx xs = some (D1 ++ b)) := fun j b hj hb => by subst hj hD hnx; exact el_some hm hb
    have hbad : Hid (∀ (j : Nat) (hj : j < xs.length) (b : List Int), eA eEx (xs.take j) = some b → ¬ Fit (d ++ (D1 ++ b)) (eEx xs[j]) → ¬ Fit d (eL 1024 eEx xs)) := fun j hj b hb n => el_bad hj (by rw [hD, hnx]) hb n
    have hhd : Hid (¬ Fit d (some D1) → ¬ Fit d (eL 1024 eEx xs)) := fun n => by rw [hD, hnx] at n; exact el_head n
    have htk : Hid (∀ j (hj : j < xs.length), eA eEx (xs.take (j + 1)) = oB (eA eEx (xs.take j)) (eEx xs[j])) := fun j hj => ea_take eEx xs j hj
    have g1 : (n : Int) ≤ 1024 := by omega
    clear h hR hZ hl hm
    rw [← hnx, ← hD] at hN
    rw [← hnx]
    clear hD
    replace hnx : Hid (n = xs.length) := hnx
    generalize hO : eL 1024 eEx xs = O at *
    clear hO
    go_enter Try.func38, Try.ntmps38
    go_wp2_with (first | (go_at_call 10; refine (hn.out _).mono ?_; rintro e w0 ⟨rfl, hw0⟩; obtain rfl := hw0.symm) | (go_at_call 32; refine hN.out.mono ?_; rintro e w1 ⟨V1, (⟨b1, hb1, rfl, E1⟩ | ⟨n1, rfl⟩)⟩))
    · obtain rfl : D1 = b1 := Option.some.inj hb1
      replace V1 : Hid _ := V1
      replace E1 : Hid _ := E1
      clear hN hn hhd hb1
      go_loopw [22] (fun i wr => ∃ (j : Nat) (bj : List Int), i = .int .i64 (j : Nat) ∧ j ≤ n ∧ eA eEx (xs.take j) = some bj ∧ Ew B P q wr (d ++ (D1 ++ bj)) ∧ Wr (Sq B P q) w wr) (fun i _ => n - (intOf i).toNat)
      case atStart => exact ⟨0, [], rfl, Nat.zero_le _, rfl, by rw [List.append_nil]; exact E1.out, V1.out⟩
      case round =>
        obtain ⟨j, bj, rfl, hj, hb, hE, hV⟩ := hrel
        clear E1 V1
        by_cases hlt : j < n
        · have hl1 : (j : Int) < (n : Int) := by omega
          have hlx : j < xs.length := by have := hnx.out; omega
          obtain ⟨g, o, rfl, c0, c1, c2, hcall⟩ := hround.out j hlx wr _ hE hV
          have hl0 := cell_lt c0
          have hbd : Hid (¬ Fit (d ++ (D1 ++ bj)) (eEx xs[j]) → ¬ Fit d O) := fun n => hbad.out j hlx bj hb n
          have htk2 := htk.out j hlx
          rw [hb] at htk2
          replace htk2 : Hid (eA eEx (xs.take (j + 1)) = oB (some bj) (eEx xs[j])) := htk2
          replace hcall : Hid _ := hcall
          replace hV : Hid _ := hV
          clear hround hend hbad htk hb hE
          generalize eEx xs[j] = oj at *
          go_wp2_with fail
          refine Calls.mono (hcall.out _ (La (Lz _))) ?_
          clear hcall
          rintro e w2 ⟨V20, (⟨b2, hb2, rfl, E2⟩ | ⟨n2, rfl⟩)⟩
          · have V2 : Wr (Sq B P q) wr w2 := (sq_later (La (Lz _))).trans V20
            have hf : Hid (eA eEx (xs.take (j + 1)) = some (bj ++ b2) ∧ Ew B P q w2 (d ++ (D1 ++ (bj ++ b2))) ∧ Wr (Sq B P q) w w2) := ⟨by rw [htk2.out, hb2]; rfl, by rw [show d ++ (D1 ++ (bj ++ b2)) = d ++ (D1 ++ bj) ++ b2 by simp [List.append_assoc]]; exact E2, hV.out.trans V2⟩
            clear V2 V20 E2 hb2 htk2 hV hbd
            go_wp2_with fail
            go_roundw
            case rel => exact ⟨j + 1, bj ++ b2, by go_num, by omega, hf.out.1, hf.out.2.1, hf.out.2.2⟩
            case measure => simp [intOf]; omega
          · have V2 : Wr (Sq B P q) wr w2 := (sq_later (La (Lz _))).trans V20
            exact ⟨rfl, hV.out.trans V2, Or.inr ⟨hbd.out n2, rfl⟩⟩
        · have hl1 : ¬ (j : Int) < (n : Int) := by omega
          have hf : Hid (Pt B P q w d O (.int .i64 (n : Int)) (.returned (.int .i64 (n : Int))) wr) := ⟨hV, Or.inl ⟨D1 ++ bj, hend.out j bj (by omega) hb, rfl, hE⟩⟩
          clear hround hend hbad htk hb hE hV
          go_wp2_with fail
          go_ret
          exact hf.out
    · exact ⟨rfl, V1, Or.inr ⟨hhd.out n1, rfl⟩⟩
  · have hn : Hid (∀ w : World, Calls Try.prog 10 #[.bool false] w fun e w' => e = thn ∧ w' = w) := need_bad
    have hfin : Hid (Pt B P q w d (eL 1024 eEx xs) (.int .i64 xs.length) thn w) := Pt.bad (Wr.refl _ _) (el_many hm)
    have g : ¬ (xs.length : Int) ≤ 1024 := by omega
    clear h hR hZ hl hm
    generalize eL 1024 eEx xs = O at *
    generalize xs.length = n at *
    go_enter Try.func38, Try.ntmps38
    go_wp2_with (go_at_call 10; refine (hn.out _).mono ?_; rintro e w0 ⟨rfl, hw0⟩; obtain rfl := hw0.symm)
    exact ⟨rfl, hfin.out⟩
theorem list_glos (xs : List (Int × Bool × Fs)) (A : Option Addr) (c : Nat) (Z : Nat → Prop) (hR : Rt fGl Z w A xs) (hZ : ∀ k, Z k → k < w.heap.size → ¬ Sq B P q k) (hl : xs.length ≤ 140737488351232) (hok : ∀ x ∈ xs, x.2.2.Ok ∧ x.2.2.len * 112 ≤ 140737488351232) (h : Ew B P q w d) :
    Calls Try.prog 36 #[.pointer (some ⟨q, 0, none⟩), .slice A xs.length c, .int .i64 1024, .func (.func 37) #[.pointer (some ⟨q, 0, none⟩)] #[]] w (Pt B P q w d (eL 1024 eGl xs) (.int .i64 xs.length)) := by
  by_cases hm : xs.length ≤ 1024
  · have hn : Hid (∀ w : World, Calls Try.prog 10 #[.bool true] w fun e w' => e = .returned (.tuple #[]) ∧ w' = w) := need_ok
    have hN : Hid (Calls Try.prog 32 #[.pointer (some ⟨q, 0, none⟩), .int .i64 (xs.length : Int)] w (Pt B P q w d (some (lebL (xs.length : Int))) (.tuple #[]))) := by
      have := number_any (xs.length : Int) h
      rwa [len_wrap _ (by omega)] at this
    have hround : Hid (∀ (j : Nat) (hj : j < xs.length) (W : World) (d : List Int), Ew B P q W d → Wr (Sq B P q) w W → ∃ g o, A = some ⟨g, o, none⟩ ∧ ∃ A1 c1, W.cell? ⟨g, o + j * 3, none⟩ = some (.int .i64 xs[j].1) ∧ W.cell? ⟨g, o + j * 3 + 1, none⟩ = some (.bool xs[j].2.1) ∧ W.cell? ⟨g, o + j * 3 + 2, none⟩ = some (.slice A1 xs[j].2.2.len c1) ∧ ∀ W2, Later W W2 → Calls Try.prog 37 #[.pointer (some ⟨q, 0, none⟩), .agg #[.int .i64 xs[j].1, .bool xs[j].2.1, .slice A1 xs[j].2.2.len c1]] W2 (Pt B P q W2 d (eGl xs[j]) (.tuple #[]))) := fun j hj W d h V => by
      have hR2 : Rt fGl (fun k => Z k ∧ k < w.heap.size) W A xs := hR.move (fun _ => Nat.succ_pos _) fun k hk hl => ⟨⟨hk, hl⟩, V.block k hl (hZ k hk hl)⟩
      have hZ2 : ∀ k, (Z k ∧ k < w.heap.size) → k < W.heap.size → ¬ Sq B P q k := fun k hk _ => hZ k hk.1 hk.2
      obtain ⟨g, o, c, e, hz, hc, hi⟩ := rt_at 3 (fun _ => rfl) hR2 j hj
      obtain ⟨v0, _, rfl, h0, v1, _, rfl, h1, v2, _, rfl, ⟨A1, c1, rfl, hT1⟩, rfl⟩ := hi
      obtain rfl : v0 = .int .i64 xs[j].1 := h0
      obtain rfl : v1 = .bool xs[j].2.1 := h1
      exact ⟨g, o, e, A1, c1, hc 0 _ rfl, hc 1 _ rfl, hc 2 _ rfl, fun W' hl => global_any _ (hok _ (List.getElem_mem hj)).1 (hok _ (List.getElem_mem hj)).2 (fun k => Z k ∧ k < w.heap.size) (fun k hk _ => hZ k hk.1 hk.2) A1 c1 (hT1.later hl) (h.later hl)⟩
    obtain ⟨n, hnx⟩ : ∃ n, n = xs.length := ⟨_, rfl⟩
    obtain ⟨D1, hD⟩ : ∃ D1, D1 = lebL (n : Int) := ⟨_, rfl⟩
    have hend : Hid (∀ j b, j = n → eA eGl (xs.take j) = some b → eL 1024 eGl xs = some (D1 ++ b)) := fun j b hj hb => by subst hj hD hnx; exact el_some hm hb
    have hbad : Hid (∀ (j : Nat) (hj : j < xs.length) (b : List Int), eA eGl (xs.take j) = some b → ¬ Fit (d ++ (D1 ++ b)) (eGl xs[j]) → ¬ Fit d (eL 1024 eGl xs)) := fun j hj b hb n => el_bad hj (by rw [hD, hnx]) hb n
    have hhd : Hid (¬ Fit d (some D1) → ¬ Fit d (eL 1024 eGl xs)) := fun n => by rw [hD, hnx] at n; exact el_head n
    have htk : Hid (∀ j (hj : j < xs.length), eA eGl (xs.take (j + 1)) = oB (eA eGl (xs.take j)) (eGl xs[j])) := fun j hj => ea_take eGl xs j hj
    have g1 : (n : Int) ≤ 1024 := by omega
    clear h hR hZ hl hm
    rw [← hnx, ← hD] at hN
    rw [← hnx]
    clear hD
    replace hnx : Hid (n = xs.length) := hnx
    generalize hO : eL 1024 eGl xs = O at *
    clear hO
    go_enter Try.func36, Try.ntmps36
    go_wp2_with (first | (go_at_call 10; refine (hn.out _).mono ?_; rintro e w0 ⟨rfl, hw0⟩; obtain rfl := hw0.symm) | (go_at_call 32; refine hN.out.mono ?_; rintro e w1 ⟨V1, (⟨b1, hb1, rfl, E1⟩ | ⟨n1, rfl⟩)⟩))
    · obtain rfl : D1 = b1 := Option.some.inj hb1
      replace V1 : Hid _ := V1
      replace E1 : Hid _ := E1
      clear hN hn hhd hb1
      go_loopw [22] (fun i wr => ∃ (j : Nat) (bj : List Int), i = .int .i64 (j : Nat) ∧ j ≤ n ∧ eA eGl (xs.take j) = some bj ∧ Ew B P q wr (d ++ (D1 ++ bj)) ∧ Wr (Sq B P q) w wr) (fun i _ => n - (intOf i).toNat)
      case atStart => exact ⟨0, [], rfl, Nat.zero_le _, rfl, by rw [List.append_nil]; exact E1.out, V1.out⟩
      case round =>
        obtain ⟨j, bj, rfl, hj, hb, hE, hV⟩ := hrel
        clear E1 V1
        by_cases hlt : j < n
        · have hl1 : (j : Int) < (n : Int) := by omega
          have hlx : j < xs.length := by have := hnx.out; omega
          obtain ⟨g, o, rfl, A1, c1, c0, c1, c2, hcall⟩ := hround.out j hlx wr _ hE hV
          have hl0 := cell_lt c0
          have hbd : Hid (¬ Fit (d ++ (D1 ++ bj)) (eGl xs[j]) → ¬ Fit d O) := fun n => hbad.out j hlx bj hb n
          have htk2 := htk.out j hlx
          rw [hb] at htk2
          replace htk2 : Hid (eA eGl (xs.take (j + 1)) = oB (some bj) (eGl xs[j])) := htk2
          replace hcall : Hid _ := hcall
          replace hV : Hid _ := hV
          clear hround hend hbad htk hb hE
          generalize eGl xs[j] = oj at *
          go_wp2_with fail
          refine Calls.mono (hcall.out _ (La (Lz _))) ?_
          clear hcall
          rintro e w2 ⟨V20, (⟨b2, hb2, rfl, E2⟩ | ⟨n2, rfl⟩)⟩
          · have V2 : Wr (Sq B P q) wr w2 := (sq_later (La (Lz _))).trans V20
            have hf : Hid (eA eGl (xs.take (j + 1)) = some (bj ++ b2) ∧ Ew B P q w2 (d ++ (D1 ++ (bj ++ b2))) ∧ Wr (Sq B P q) w w2) := ⟨by rw [htk2.out, hb2]; rfl, by rw [show d ++ (D1 ++ (bj ++ b2)) = d ++ (D1 ++ bj) ++ b2 by simp [List.append_assoc]]; exact E2, hV.out.trans V2⟩
            clear V2 V20 E2 hb2 htk2 hV hbd
            go_wp2_with fail
            go_roundw
            case rel => exact ⟨j + 1, bj ++ b2, by go_num, by omega, hf.out.1, hf.out.2.1, hf.out.2.2⟩
            case measure => simp [intOf]; omega
          · have V2 : Wr (Sq B P q) wr w2 := (sq_later (La (Lz _))).trans V20
            exact ⟨rfl, hV.out.trans V2, Or.inr ⟨hbd.out n2, rfl⟩⟩
        · have hl1 : ¬ (j : Int) < (n : Int) := by omega
          have hf : Hid (Pt B P q w d O (.int .i64 (n : Int)) (.returned (.int .i64 (n : Int))) wr) := ⟨hV, Or.inl ⟨D1 ++ bj, hend.out j bj (by omega) hb, rfl, hE⟩⟩
          clear hround hend hbad htk hb hE hV
          go_wp2_with fail
          go_ret
          exact hf.out
    · exact ⟨rfl, V1, Or.inr ⟨hhd.out n1, rfl⟩⟩
  · have hn : Hid (∀ w : World, Calls Try.prog 10 #[.bool false] w fun e w' => e = thn ∧ w' = w) := need_bad
    have hfin : Hid (Pt B P q w d (eL 1024 eGl xs) (.int .i64 xs.length) thn w) := Pt.bad (Wr.refl _ _) (el_many hm)
    have g : ¬ (xs.length : Int) ≤ 1024 := by omega
    clear h hR hZ hl hm
    generalize eL 1024 eGl xs = O at *
    generalize xs.length = n at *
    go_enter Try.func36, Try.ntmps36
    go_wp2_with (go_at_call 10; refine (hn.out _).mono ?_; rintro e w0 ⟨rfl, hw0⟩; obtain rfl := hw0.symm)
    exact ⟨rfl, hfin.out⟩
theorem list_dats (xs : List (Fs × ByteArray)) (A : Option Addr) (c : Nat) (Z : Nat → Prop) (hR : Rt fDa Z w A xs) (hZ : ∀ k, Z k → k < w.heap.size → ¬ Sq B P q k) (hl : xs.length ≤ 140737488351232) (hok : ∀ x ∈ xs, x.1.Ok ∧ x.1.len * 112 ≤ 140737488351232 ∧ x.2.size ≤ 140737488351232) (h : Ew B P q w d) :
    Calls Try.prog 44 #[.pointer (some ⟨q, 0, none⟩), .slice A xs.length c, .int .i64 1024, .func (.func 45) #[.pointer (some ⟨q, 0, none⟩)] #[]] w (Pt B P q w d (eL 1024 eDa xs) (.int .i64 xs.length)) := by
  by_cases hm : xs.length ≤ 1024
  · have hn : Hid (∀ w : World, Calls Try.prog 10 #[.bool true] w fun e w' => e = .returned (.tuple #[]) ∧ w' = w) := need_ok
    have hN : Hid (Calls Try.prog 32 #[.pointer (some ⟨q, 0, none⟩), .int .i64 (xs.length : Int)] w (Pt B P q w d (some (lebL (xs.length : Int))) (.tuple #[]))) := by
      have := number_any (xs.length : Int) h
      rwa [len_wrap _ (by omega)] at this
    have hround : Hid (∀ (j : Nat) (hj : j < xs.length) (W : World) (d : List Int), Ew B P q W d → Wr (Sq B P q) w W → ∃ g o, A = some ⟨g, o, none⟩ ∧ ∃ A1 c1, W.cell? ⟨g, o + j * 2, none⟩ = some (.slice A1 xs[j].1.len c1) ∧ W.cell? ⟨g, o + j * 2 + 1, none⟩ = some (.string xs[j].2) ∧ ∀ W2, Later W W2 → Calls Try.prog 45 #[.pointer (some ⟨q, 0, none⟩), .agg #[.slice A1 xs[j].1.len c1, .string xs[j].2]] W2 (Pt B P q W2 d (eDa xs[j]) (.tuple #[]))) := fun j hj W d h V => by
      have hR2 : Rt fDa (fun k => Z k ∧ k < w.heap.size) W A xs := hR.move (fun _ => Nat.succ_pos _) fun k hk hl => ⟨⟨hk, hl⟩, V.block k hl (hZ k hk hl)⟩
      have hZ2 : ∀ k, (Z k ∧ k < w.heap.size) → k < W.heap.size → ¬ Sq B P q k := fun k hk _ => hZ k hk.1 hk.2
      obtain ⟨g, o, c, e, hz, hc, hi⟩ := rt_at 2 (fun _ => rfl) hR2 j hj
      obtain ⟨v0, _, rfl, ⟨A1, c1, rfl, hT1⟩, v1, _, rfl, h1, rfl⟩ := hi
      obtain rfl : v1 = .string xs[j].2 := h1
      exact ⟨g, o, e, A1, c1, hc 0 _ rfl, hc 1 _ rfl, fun W' hl => data_any2 _ (hok _ (List.getElem_mem hj)).2.2 (hok _ (List.getElem_mem hj)).1 (hok _ (List.getElem_mem hj)).2.1 (fun k => Z k ∧ k < w.heap.size) (fun k hk _ => hZ k hk.1 hk.2) A1 c1 (hT1.later hl) (h.later hl)⟩
    obtain ⟨n, hnx⟩ : ∃ n, n = xs.length := ⟨_, rfl⟩
    obtain ⟨D1, hD⟩ : ∃ D1, D1 = lebL (n : Int) := ⟨_, rfl⟩
    have hend : Hid (∀ j b, j = n → eA eDa (xs.take j) = some b → eL 1024 eDa xs = some (D1 ++ b)) := fun j b hj hb => by subst hj hD hnx; exact el_some hm hb
    have hbad : Hid (∀ (j : Nat) (hj : j < xs.length) (b : List Int), eA eDa (xs.take j) = some b → ¬ Fit (d ++ (D1 ++ b)) (eDa xs[j]) → ¬ Fit d (eL 1024 eDa xs)) := fun j hj b hb n => el_bad hj (by rw [hD, hnx]) hb n
    have hhd : Hid (¬ Fit d (some D1) → ¬ Fit d (eL 1024 eDa xs)) := fun n => by rw [hD, hnx] at n; exact el_head n
    have htk : Hid (∀ j (hj : j < xs.length), eA eDa (xs.take (j + 1)) = oB (eA eDa (xs.take j)) (eDa xs[j])) := fun j hj => ea_take eDa xs j hj
    have g1 : (n : Int) ≤ 1024 := by omega
    clear h hR hZ hl hm
    rw [← hnx, ← hD] at hN
    rw [← hnx]
    clear hD
    replace hnx : Hid (n = xs.length) := hnx
    generalize hO : eL 1024 eDa xs = O at *
    clear hO
    go_enter Try.func44, Try.ntmps44
    go_wp2_with (first | (go_at_call 10; refine (hn.out _).mono ?_; rintro e w0 ⟨rfl, hw0⟩; obtain rfl := hw0.symm) | (go_at_call 32; refine hN.out.mono ?_; rintro e w1 ⟨V1, (⟨b1, hb1, rfl, E1⟩ | ⟨n1, rfl⟩)⟩))
    · obtain rfl : D1 = b1 := Option.some.inj hb1
      replace V1 : Hid _ := V1
      replace E1 : Hid _ := E1
      clear hN hn hhd hb1
      go_loopw [22] (fun i wr => ∃ (j : Nat) (bj : List Int), i = .int .i64 (j : Nat) ∧ j ≤ n ∧ eA eDa (xs.take j) = some bj ∧ Ew B P q wr (d ++ (D1 ++ bj)) ∧ Wr (Sq B P q) w wr) (fun i _ => n - (intOf i).toNat)
      case atStart => exact ⟨0, [], rfl, Nat.zero_le _, rfl, by rw [List.append_nil]; exact E1.out, V1.out⟩
      case round =>
        obtain ⟨j, bj, rfl, hj, hb, hE, hV⟩ := hrel
        clear E1 V1
        by_cases hlt : j < n
        · have hl1 : (j : Int) < (n : Int) := by omega
          have hlx : j < xs.length := by have := hnx.out; omega
          obtain ⟨g, o, rfl, A1, c1, c0, c1, hcall⟩ := hround.out j hlx wr _ hE hV
          have hl0 := cell_lt c0
          have hbd : Hid (¬ Fit (d ++ (D1 ++ bj)) (eDa xs[j]) → ¬ Fit d O) := fun n => hbad.out j hlx bj hb n
          have htk2 := htk.out j hlx
          rw [hb] at htk2
          replace htk2 : Hid (eA eDa (xs.take (j + 1)) = oB (some bj) (eDa xs[j])) := htk2
          replace hcall : Hid _ := hcall
          replace hV : Hid _ := hV
          clear hround hend hbad htk hb hE
          generalize eDa xs[j] = oj at *
          go_wp2_with fail
          refine Calls.mono (hcall.out _ (La (Lz _))) ?_
          clear hcall
          rintro e w2 ⟨V20, (⟨b2, hb2, rfl, E2⟩ | ⟨n2, rfl⟩)⟩
          · have V2 : Wr (Sq B P q) wr w2 := (sq_later (La (Lz _))).trans V20
            have hf : Hid (eA eDa (xs.take (j + 1)) = some (bj ++ b2) ∧ Ew B P q w2 (d ++ (D1 ++ (bj ++ b2))) ∧ Wr (Sq B P q) w w2) := ⟨by rw [htk2.out, hb2]; rfl, by rw [show d ++ (D1 ++ (bj ++ b2)) = d ++ (D1 ++ bj) ++ b2 by simp [List.append_assoc]]; exact E2, hV.out.trans V2⟩
            clear V2 V20 E2 hb2 htk2 hV hbd
            go_wp2_with fail
            go_roundw
            case rel => exact ⟨j + 1, bj ++ b2, by go_num, by omega, hf.out.1, hf.out.2.1, hf.out.2.2⟩
            case measure => simp [intOf]; omega
          · have V2 : Wr (Sq B P q) wr w2 := (sq_later (La (Lz _))).trans V20
            exact ⟨rfl, hV.out.trans V2, Or.inr ⟨hbd.out n2, rfl⟩⟩
        · have hl1 : ¬ (j : Int) < (n : Int) := by omega
          have hf : Hid (Pt B P q w d O (.int .i64 (n : Int)) (.returned (.int .i64 (n : Int))) wr) := ⟨hV, Or.inl ⟨D1 ++ bj, hend.out j bj (by omega) hb, rfl, hE⟩⟩
          clear hround hend hbad htk hb hE hV
          go_wp2_with fail
          go_ret
          exact hf.out
    · exact ⟨rfl, V1, Or.inr ⟨hhd.out n1, rfl⟩⟩
  · have hn : Hid (∀ w : World, Calls Try.prog 10 #[.bool false] w fun e w' => e = thn ∧ w' = w) := need_bad
    have hfin : Hid (Pt B P q w d (eL 1024 eDa xs) (.int .i64 xs.length) thn w) := Pt.bad (Wr.refl _ _) (el_many hm)
    have g : ¬ (xs.length : Int) ≤ 1024 := by omega
    clear h hR hZ hl hm
    generalize eL 1024 eDa xs = O at *
    generalize xs.length = n at *
    go_enter Try.func44, Try.ntmps44
    go_wp2_with (go_at_call 10; refine (hn.out _).mono ?_; rintro e w0 ⟨rfl, hw0⟩; obtain rfl := hw0.symm)
    exact ⟨rfl, hfin.out⟩
theorem list_elms (xs : List (Fs × List Int)) (A : Option Addr) (c : Nat) (Z : Nat → Prop) (hR : Rt fEl Z w A xs) (hZ : ∀ k, Z k → k < w.heap.size → ¬ Sq B P q k) (hl : xs.length ≤ 140737488351232) (hok : ∀ x ∈ xs, x.1.Ok ∧ x.1.len * 112 ≤ 140737488351232 ∧ x.2.length ≤ 140737488351232) (h : Ew B P q w d) :
    Calls Try.prog 40 #[.pointer (some ⟨q, 0, none⟩), .slice A xs.length c, .int .i64 1024, .func (.func 41) #[.pointer (some ⟨q, 0, none⟩)] #[]] w (Pt B P q w d (eL 1024 eEl xs) (.int .i64 xs.length)) := by
  by_cases hm : xs.length ≤ 1024
  · have hn : Hid (∀ w : World, Calls Try.prog 10 #[.bool true] w fun e w' => e = .returned (.tuple #[]) ∧ w' = w) := need_ok
    have hN : Hid (Calls Try.prog 32 #[.pointer (some ⟨q, 0, none⟩), .int .i64 (xs.length : Int)] w (Pt B P q w d (some (lebL (xs.length : Int))) (.tuple #[]))) := by
      have := number_any (xs.length : Int) h
      rwa [len_wrap _ (by omega)] at this
    have hround : Hid (∀ (j : Nat) (hj : j < xs.length) (W : World) (d : List Int), Ew B P q W d → Wr (Sq B P q) w W → ∃ g o, A = some ⟨g, o, none⟩ ∧ ∃ A1 c1 A2 c2, W.cell? ⟨g, o + j * 2, none⟩ = some (.slice A1 xs[j].1.len c1) ∧ W.cell? ⟨g, o + j * 2 + 1, none⟩ = some (.slice A2 xs[j].2.length c2) ∧ ∀ W2, Later W W2 → Calls Try.prog 41 #[.pointer (some ⟨q, 0, none⟩), .agg #[.slice A1 xs[j].1.len c1, .slice A2 xs[j].2.length c2]] W2 (Pt B P q W2 d (eEl xs[j]) (.tuple #[]))) := fun j hj W d h V => by
      have hR2 : Rt fEl (fun k => Z k ∧ k < w.heap.size) W A xs := hR.move (fun _ => Nat.succ_pos _) fun k hk hl => ⟨⟨hk, hl⟩, V.block k hl (hZ k hk hl)⟩
      have hZ2 : ∀ k, (Z k ∧ k < w.heap.size) → k < W.heap.size → ¬ Sq B P q k := fun k hk _ => hZ k hk.1 hk.2
      obtain ⟨g, o, c, e, hz, hc, hi⟩ := rt_at 2 (fun _ => rfl) hR2 j hj
      obtain ⟨v0, _, rfl, ⟨A1, c1, rfl, hT1⟩, v1, _, rfl, ⟨A2, c2, rfl, hT2⟩, rfl⟩ := hi
      exact ⟨g, o, e, A1, c1, A2, c2, hc 0 _ rfl, hc 1 _ rfl, fun W' hl => elem_any _ (hok _ (List.getElem_mem hj)).2.2 (hok _ (List.getElem_mem hj)).1 (hok _ (List.getElem_mem hj)).2.1 (fun k => Z k ∧ k < w.heap.size) (fun k hk _ => hZ k hk.1 hk.2) A1 c1 (hT1.later hl) A2 c2 (hT2.later hl) (h.later hl)⟩
    obtain ⟨n, hnx⟩ : ∃ n, n = xs.length := ⟨_, rfl⟩
    obtain ⟨D1, hD⟩ : ∃ D1, D1 = lebL (n : Int) := ⟨_, rfl⟩
    have hend : Hid (∀ j b, j = n → eA eEl (xs.take j) = some b → eL 1024 eEl xs = some (D1 ++ b)) := fun j b hj hb => by subst hj hD hnx; exact el_some hm hb
    have hbad : Hid (∀ (j : Nat) (hj : j < xs.length) (b : List Int), eA eEl (xs.take j) = some b → ¬ Fit (d ++ (D1 ++ b)) (eEl xs[j]) → ¬ Fit d (eL 1024 eEl xs)) := fun j hj b hb n => el_bad hj (by rw [hD, hnx]) hb n
    have hhd : Hid (¬ Fit d (some D1) → ¬ Fit d (eL 1024 eEl xs)) := fun n => by rw [hD, hnx] at n; exact el_head n
    have htk : Hid (∀ j (hj : j < xs.length), eA eEl (xs.take (j + 1)) = oB (eA eEl (xs.take j)) (eEl xs[j])) := fun j hj => ea_take eEl xs j hj
    have g1 : (n : Int) ≤ 1024 := by omega
    clear h hR hZ hl hm
    rw [← hnx, ← hD] at hN
    rw [← hnx]
    clear hD
    replace hnx : Hid (n = xs.length) := hnx
    generalize hO : eL 1024 eEl xs = O at *
    clear hO
    go_enter Try.func40, Try.ntmps40
    go_wp2_with (first | (go_at_call 10; refine (hn.out _).mono ?_; rintro e w0 ⟨rfl, hw0⟩; obtain rfl := hw0.symm) | (go_at_call 32; refine hN.out.mono ?_; rintro e w1 ⟨V1, (⟨b1, hb1, rfl, E1⟩ | ⟨n1, rfl⟩)⟩))
    · obtain rfl : D1 = b1 := Option.some.inj hb1
      replace V1 : Hid _ := V1
      replace E1 : Hid _ := E1
      clear hN hn hhd hb1
      go_loopw [22] (fun i wr => ∃ (j : Nat) (bj : List Int), i = .int .i64 (j : Nat) ∧ j ≤ n ∧ eA eEl (xs.take j) = some bj ∧ Ew B P q wr (d ++ (D1 ++ bj)) ∧ Wr (Sq B P q) w wr) (fun i _ => n - (intOf i).toNat)
      case atStart => exact ⟨0, [], rfl, Nat.zero_le _, rfl, by rw [List.append_nil]; exact E1.out, V1.out⟩
      case round =>
        obtain ⟨j, bj, rfl, hj, hb, hE, hV⟩ := hrel
        clear E1 V1
        by_cases hlt : j < n
        · have hl1 : (j : Int) < (n : Int) := by omega
          have hlx : j < xs.length := by have := hnx.out; omega
          obtain ⟨g, o, rfl, A1, c1, A2, c2, c0, c1, hcall⟩ := hround.out j hlx wr _ hE hV
          have hl0 := cell_lt c0
          have hbd : Hid (¬ Fit (d ++ (D1 ++ bj)) (eEl xs[j]) → ¬ Fit d O) := fun n => hbad.out j hlx bj hb n
          have htk2 := htk.out j hlx
          rw [hb] at htk2
          replace htk2 : Hid (eA eEl (xs.take (j + 1)) = oB (some bj) (eEl xs[j])) := htk2
          replace hcall : Hid _ := hcall
          replace hV : Hid _ := hV
          clear hround hend hbad htk hb hE
          generalize eEl xs[j] = oj at *
          go_wp2_with fail
          refine Calls.mono (hcall.out _ (La (Lz _))) ?_
          clear hcall
          rintro e w2 ⟨V20, (⟨b2, hb2, rfl, E2⟩ | ⟨n2, rfl⟩)⟩
          · have V2 : Wr (Sq B P q) wr w2 := (sq_later (La (Lz _))).trans V20
            have hf : Hid (eA eEl (xs.take (j + 1)) = some (bj ++ b2) ∧ Ew B P q w2 (d ++ (D1 ++ (bj ++ b2))) ∧ Wr (Sq B P q) w w2) := ⟨by rw [htk2.out, hb2]; rfl, by rw [show d ++ (D1 ++ (bj ++ b2)) = d ++ (D1 ++ bj) ++ b2 by simp [List.append_assoc]]; exact E2, hV.out.trans V2⟩
            clear V2 V20 E2 hb2 htk2 hV hbd
            go_wp2_with fail
            go_roundw
            case rel => exact ⟨j + 1, bj ++ b2, by go_num, by omega, hf.out.1, hf.out.2.1, hf.out.2.2⟩
            case measure => simp [intOf]; omega
          · have V2 : Wr (Sq B P q) wr w2 := (sq_later (La (Lz _))).trans V20
            exact ⟨rfl, hV.out.trans V2, Or.inr ⟨hbd.out n2, rfl⟩⟩
        · have hl1 : ¬ (j : Int) < (n : Int) := by omega
          have hf : Hid (Pt B P q w d O (.int .i64 (n : Int)) (.returned (.int .i64 (n : Int))) wr) := ⟨hV, Or.inl ⟨D1 ++ bj, hend.out j bj (by omega) hb, rfl, hE⟩⟩
          clear hround hend hbad htk hb hE hV
          go_wp2_with fail
          go_ret
          exact hf.out
    · exact ⟨rfl, V1, Or.inr ⟨hhd.out n1, rfl⟩⟩
  · have hn : Hid (∀ w : World, Calls Try.prog 10 #[.bool false] w fun e w' => e = thn ∧ w' = w) := need_bad
    have hfin : Hid (Pt B P q w d (eL 1024 eEl xs) (.int .i64 xs.length) thn w) := Pt.bad (Wr.refl _ _) (el_many hm)
    have g : ¬ (xs.length : Int) ≤ 1024 := by omega
    clear h hR hZ hl hm
    generalize eL 1024 eEl xs = O at *
    generalize xs.length = n at *
    go_enter Try.func40, Try.ntmps40
    go_wp2_with (go_at_call 10; refine (hn.out _).mono ?_; rintro e w0 ⟨rfl, hw0⟩; obtain rfl := hw0.symm)
    exact ⟨rfl, hfin.out⟩
theorem list_tys (xs : List (List Int × List Int)) (A : Option Addr) (c : Nat) (Z : Nat → Prop) (hR : Rt fTy Z w A xs) (hZ : ∀ k, Z k → k < w.heap.size → ¬ Sq B P q k) (hl : xs.length ≤ 140737488351232) (hok : ∀ x ∈ xs, x.1.length ≤ 140737488351232 ∧ x.2.length ≤ 140737488351232) (h : Ew B P q w d) :
    Calls Try.prog 27 #[.pointer (some ⟨q, 0, none⟩), .slice A xs.length c, .int .i64 256, .func (.func 28) #[.pointer (some ⟨q, 0, none⟩)] #[]] w (Pt B P q w d (eL 256 eTy xs) (.int .i64 xs.length)) := by
  by_cases hm : xs.length ≤ 256
  · have hn : Hid (∀ w : World, Calls Try.prog 10 #[.bool true] w fun e w' => e = .returned (.tuple #[]) ∧ w' = w) := need_ok
    have hN : Hid (Calls Try.prog 32 #[.pointer (some ⟨q, 0, none⟩), .int .i64 (xs.length : Int)] w (Pt B P q w d (some (lebL (xs.length : Int))) (.tuple #[]))) := by
      have := number_any (xs.length : Int) h
      rwa [len_wrap _ (by omega)] at this
    have hround : Hid (∀ (j : Nat) (hj : j < xs.length) (W : World) (d : List Int), Ew B P q W d → Wr (Sq B P q) w W → ∃ g o, A = some ⟨g, o, none⟩ ∧ ∃ A1 c1 A2 c2, W.cell? ⟨g, o + j * 2, none⟩ = some (.slice A1 xs[j].1.length c1) ∧ W.cell? ⟨g, o + j * 2 + 1, none⟩ = some (.slice A2 xs[j].2.length c2) ∧ ∀ W2, Later W W2 → Calls Try.prog 28 #[.pointer (some ⟨q, 0, none⟩), .agg #[.slice A1 xs[j].1.length c1, .slice A2 xs[j].2.length c2]] W2 (Pt B P q W2 d (eTy xs[j]) (.tuple #[]))) := fun j hj W d h V => by
      have hR2 : Rt fTy (fun k => Z k ∧ k < w.heap.size) W A xs := hR.move (fun _ => Nat.succ_pos _) fun k hk hl => ⟨⟨hk, hl⟩, V.block k hl (hZ k hk hl)⟩
      have hZ2 : ∀ k, (Z k ∧ k < w.heap.size) → k < W.heap.size → ¬ Sq B P q k := fun k hk _ => hZ k hk.1 hk.2
      obtain ⟨g, o, c, e, hz, hc, hi⟩ := rt_at 2 (fun _ => rfl) hR2 j hj
      obtain ⟨v0, _, rfl, ⟨A1, c1, rfl, hT1⟩, v1, _, rfl, ⟨A2, c2, rfl, hT2⟩, rfl⟩ := hi
      exact ⟨g, o, e, A1, c1, A2, c2, hc 0 _ rfl, hc 1 _ rfl, fun W' hl => functype_any _ (fun k => Z k ∧ k < w.heap.size) (fun k hk _ => hZ k hk.1 hk.2) (hok _ (List.getElem_mem hj)).1 (hok _ (List.getElem_mem hj)).2 A1 A2 c1 c2 (hT1.later hl) (hT2.later hl) (h.later hl)⟩
    obtain ⟨n, hnx⟩ : ∃ n, n = xs.length := ⟨_, rfl⟩
    obtain ⟨D1, hD⟩ : ∃ D1, D1 = lebL (n : Int) := ⟨_, rfl⟩
    have hend : Hid (∀ j b, j = n → eA eTy (xs.take j) = some b → eL 256 eTy xs = some (D1 ++ b)) := fun j b hj hb => by subst hj hD hnx; exact el_some hm hb
    have hbad : Hid (∀ (j : Nat) (hj : j < xs.length) (b : List Int), eA eTy (xs.take j) = some b → ¬ Fit (d ++ (D1 ++ b)) (eTy xs[j]) → ¬ Fit d (eL 256 eTy xs)) := fun j hj b hb n => el_bad hj (by rw [hD, hnx]) hb n
    have hhd : Hid (¬ Fit d (some D1) → ¬ Fit d (eL 256 eTy xs)) := fun n => by rw [hD, hnx] at n; exact el_head n
    have htk : Hid (∀ j (hj : j < xs.length), eA eTy (xs.take (j + 1)) = oB (eA eTy (xs.take j)) (eTy xs[j])) := fun j hj => ea_take eTy xs j hj
    have g1 : (n : Int) ≤ 256 := by omega
    clear h hR hZ hl hm
    rw [← hnx, ← hD] at hN
    rw [← hnx]
    clear hD
    replace hnx : Hid (n = xs.length) := hnx
    generalize hO : eL 256 eTy xs = O at *
    clear hO
    go_enter Try.func27, Try.ntmps27
    go_wp2_with (first | (go_at_call 10; refine (hn.out _).mono ?_; rintro e w0 ⟨rfl, hw0⟩; obtain rfl := hw0.symm) | (go_at_call 32; refine hN.out.mono ?_; rintro e w1 ⟨V1, (⟨b1, hb1, rfl, E1⟩ | ⟨n1, rfl⟩)⟩))
    · obtain rfl : D1 = b1 := Option.some.inj hb1
      replace V1 : Hid _ := V1
      replace E1 : Hid _ := E1
      clear hN hn hhd hb1
      go_loopw [22] (fun i wr => ∃ (j : Nat) (bj : List Int), i = .int .i64 (j : Nat) ∧ j ≤ n ∧ eA eTy (xs.take j) = some bj ∧ Ew B P q wr (d ++ (D1 ++ bj)) ∧ Wr (Sq B P q) w wr) (fun i _ => n - (intOf i).toNat)
      case atStart => exact ⟨0, [], rfl, Nat.zero_le _, rfl, by rw [List.append_nil]; exact E1.out, V1.out⟩
      case round =>
        obtain ⟨j, bj, rfl, hj, hb, hE, hV⟩ := hrel
        clear E1 V1
        by_cases hlt : j < n
        · have hl1 : (j : Int) < (n : Int) := by omega
          have hlx : j < xs.length := by have := hnx.out; omega
          obtain ⟨g, o, rfl, A1, c1, A2, c2, c0, c1, hcall⟩ := hround.out j hlx wr _ hE hV
          have hl0 := cell_lt c0
          have hbd : Hid (¬ Fit (d ++ (D1 ++ bj)) (eTy xs[j]) → ¬ Fit d O) := fun n => hbad.out j hlx bj hb n
          have htk2 := htk.out j hlx
          rw [hb] at htk2
          replace htk2 : Hid (eA eTy (xs.take (j + 1)) = oB (some bj) (eTy xs[j])) := htk2
          replace hcall : Hid _ := hcall
          replace hV : Hid _ := hV
          clear hround hend hbad htk hb hE
          generalize eTy xs[j] = oj at *
          go_wp2_with fail
          refine Calls.mono (hcall.out _ (La (Lz _))) ?_
          clear hcall
          rintro e w2 ⟨V20, (⟨b2, hb2, rfl, E2⟩ | ⟨n2, rfl⟩)⟩
          · have V2 : Wr (Sq B P q) wr w2 := (sq_later (La (Lz _))).trans V20
            have hf : Hid (eA eTy (xs.take (j + 1)) = some (bj ++ b2) ∧ Ew B P q w2 (d ++ (D1 ++ (bj ++ b2))) ∧ Wr (Sq B P q) w w2) := ⟨by rw [htk2.out, hb2]; rfl, by rw [show d ++ (D1 ++ (bj ++ b2)) = d ++ (D1 ++ bj) ++ b2 by simp [List.append_assoc]]; exact E2, hV.out.trans V2⟩
            clear V2 V20 E2 hb2 htk2 hV hbd
            go_wp2_with fail
            go_roundw
            case rel => exact ⟨j + 1, bj ++ b2, by go_num, by omega, hf.out.1, hf.out.2.1, hf.out.2.2⟩
            case measure => simp [intOf]; omega
          · have V2 : Wr (Sq B P q) wr w2 := (sq_later (La (Lz _))).trans V20
            exact ⟨rfl, hV.out.trans V2, Or.inr ⟨hbd.out n2, rfl⟩⟩
        · have hl1 : ¬ (j : Int) < (n : Int) := by omega
          have hf : Hid (Pt B P q w d O (.int .i64 (n : Int)) (.returned (.int .i64 (n : Int))) wr) := ⟨hV, Or.inl ⟨D1 ++ bj, hend.out j bj (by omega) hb, rfl, hE⟩⟩
          clear hround hend hbad htk hb hE hV
          go_wp2_with fail
          go_ret
          exact hf.out
    · exact ⟨rfl, V1, Or.inr ⟨hhd.out n1, rfl⟩⟩
  · have hn : Hid (∀ w : World, Calls Try.prog 10 #[.bool false] w fun e w' => e = thn ∧ w' = w) := need_bad
    have hfin : Hid (Pt B P q w d (eL 256 eTy xs) (.int .i64 xs.length) thn w) := Pt.bad (Wr.refl _ _) (el_many hm)
    have g : ¬ (xs.length : Int) ≤ 256 := by omega
    clear h hR hZ hl hm
    generalize eL 256 eTy xs = O at *
    generalize xs.length = n at *
    go_enter Try.func27, Try.ntmps27
    go_wp2_with (go_at_call 10; refine (hn.out _).mono ?_; rintro e w0 ⟨rfl, hw0⟩; obtain rfl := hw0.symm)
    exact ⟨rfl, hfin.out⟩
end Go.Proofs.Ytngciahmoenkiac.en
