/- package encode: the head and all sections (text). -/
import Derived.Test.YtngciahmoenkiacBP
import Derived.RegionDies
import Derived.LoopTactic
set_option linter.unusedVariables false
set_option linter.unusedSimpArgs false
set_option maxRecDepth 100000
set_option maxHeartbeats 4000000
namespace Go.Proofs.Ytngciahmoenkiac.en
open Go.RowKit
variable {B q mb : Nat} {P Z : Nat → Prop} {w w' w1 : World} {d b : List Int} {o o2 : Ob} {r : Value} {e : Ending} {m : Md}
theorem text_bad (hM : Mo Z w mb m) (hn : ¬ m.fu.length = m.co.length) : Calls Try.prog 9 #[.pointer (some ⟨mb, 0, none⟩)] w fun e w' => e = thn ∧ Hid (Later w w') := by
  obtain ⟨L, hrow, hC, hz⟩ := hM
  obtain ⟨v0, v1, v2, v3, v4, v5, v6, v8, v9, v10, eL0, h0, h1, h2, h3, h4, h5, h6, h8, h9, h10⟩ := hC
  obtain ⟨A2, c2, rfl, _⟩ := h2
  obtain ⟨A9, c9, rfl, _⟩ := h9
  have k2 : w.cell? ⟨mb, 2, none⟩ = some (.slice A2 m.fu.length c2) := by
    have := hrow.cell (i := 2) (by decide)
    rw [eL0] at this
    exact this
  have k9 : w.cell? ⟨mb, 9, none⟩ = some (.slice A9 m.co.length c9) := by
    have := hrow.cell (i := 9) (by decide)
    rw [eL0] at this
    exact this
  have l0 := cell_lt k2
  have hne : Hid (∀ w : World, Calls Try.prog 10 #[.bool false] w fun e w' => e = thn ∧ w' = w) := need_bad
  have g : ((m.fu.length : Int) == (m.co.length : Int)) = false := by
    rw [beq_eq_false_iff_ne]
    omega
  clear hrow eL0 hz h0 h1 h3 h4 h5 h6 h8 h10
  generalize m.fu.length = n2 at *
  generalize m.co.length = n9 at *
  go_enter Try.func9, Try.ntmps9
  go_wp2_with fail
  go_region_dies
  all_goals
    refine (hne.out _).mono ?_
    rintro e w1 ⟨rfl, rfl⟩
    exact ⟨rfl, rfl, Ld (Lz _)⟩
/-- the sections, one behind the other -/
def pM (m : Md) : List Ob := [eS 1 m.ty.length (eL 256 eTy m.ty), eS 2 m.im.length (eL 1024 eIm m.im), eS 3 m.fu.length (eL 256 eN m.fu), eS 4 m.ta.length (eL 1024 eTa m.ta), eS 5 m.me.length (eL 1024 eLi m.me), eS 6 m.gl.length (eL 1024 eGl m.gl), eS 7 m.ex.length (eL 1024 eEx m.ex), eS 8 (nSt m.st) (oSt m.st), eS 9 m.el.length (eL 1024 eEl m.el), eS 10 m.co.length (eL 256 eCo m.co), eS 11 m.da.length (eL 1024 eDa m.da)]
theorem es_st (x : Int) : eS 8 (nSt x) (oSt x) = eSt x := by
  unfold eSt oSt nSt
  by_cases h : x = -1
  · rw [if_pos h, if_pos h, if_pos h]; rfl
  · rw [if_neg h, if_neg h, if_neg h]
theorem eM_eq (m : Md) : eM m = eA id (pM m) := by
  unfold pM eM
  rw [← es_st]
  simp only [eA, id, oB_nil]
theorem Mo.mv {W : World} (h : Mo Z w mb m) (hk : ∀ k, Z k → k < w.heap.size → W.heap[k]? = w.heap[k]?) : Mo (fun k => Z k ∧ k < w.heap.size) W mb m := by
  obtain ⟨L, h1, h2, h3⟩ := h
  exact ⟨L, h1.of_block (hk mb h3 h1.lt), h2.move fun k hz hl => ⟨⟨hz, hl⟩, hk k hz hl⟩, h3, h1.lt⟩
abbrev SC : List Value := [.int .i64 1, .func (.func 14) #[] #[], .int .i64 2, .func (.func 15) #[] #[], .int .i64 3, .func (.func 16) #[] #[], .int .i64 4, .func (.func 17) #[] #[], .int .i64 5, .func (.func 18) #[] #[], .int .i64 6, .func (.func 19) #[] #[], .int .i64 7, .func (.func 20) #[] #[], .int .i64 8, .func (.func 21) #[] #[], .int .i64 9, .func (.func 22) #[] #[], .int .i64 10, .func (.func 23) #[] #[], .int .i64 11, .func (.func 24) #[] #[]]
theorem sections_any (w : World) : Calls Try.prog 12 #[] w fun e w' => e = .returned (.slice (some ⟨w.heap.size, 0, none⟩) 11 11) ∧ w' = w.alloc (.cells SC.toArray 71) := by
  go_enter Try.func12, Try.ntmps12
  go_wp2_with fail
  go_ret
  exact ⟨rfl, rfl⟩
/-- one section, by its place -/
theorem sec_at (hb : MdB m) (g0 : Nat) (W : World) (hrow : W.rowIs g0 71 22 (fun i => SC.getD i undef)) (Y : Nat → Prop) (hM : Mo Y W mb m) (hY : ∀ k, Y k → k < W.heap.size) (h : Ew B P q W d) :
    ∀ (j : Nat) (hj : j < (pM m).length), ∃ (x : Int) (fk : Nat), W.cell? ⟨g0, j * 2, none⟩ = some (.int .i64 x) ∧ W.cell? ⟨g0, j * 2 + 1, none⟩ = some (.func (.func fk) #[] #[]) ∧ ∀ W2, Later W W2 → Calls Try.prog 13 #[.pointer (some ⟨q, 0, none⟩), .agg #[.int .i64 x, .func (.func fk) #[] #[]], .pointer (some ⟨mb, 0, none⟩)] W2 (Pt B P q W2 d ((pM m)[j]) (.tuple #[]))
  | 0, _ => ⟨_, _, hrow.cell (i := 0) (by decide), hrow.cell (i := 1) (by decide), fun W2 hl => s_types (hM.later hl) (fun k hk => Nat.lt_of_lt_of_le hk.2 hl.size) hb (h.later hl)⟩
  | 1, _ => ⟨_, _, hrow.cell (i := 2) (by decide), hrow.cell (i := 3) (by decide), fun W2 hl => s_imports (hM.later hl) (fun k hk => Nat.lt_of_lt_of_le hk.2 hl.size) hb (h.later hl)⟩
  | 2, _ => ⟨_, _, hrow.cell (i := 4) (by decide), hrow.cell (i := 5) (by decide), fun W2 hl => s_funcs (hM.later hl) (fun k hk => Nat.lt_of_lt_of_le hk.2 hl.size) hb (h.later hl)⟩
  | 3, _ => ⟨_, _, hrow.cell (i := 6) (by decide), hrow.cell (i := 7) (by decide), fun W2 hl => s_tables (hM.later hl) (fun k hk => Nat.lt_of_lt_of_le hk.2 hl.size) hb (h.later hl)⟩
  | 4, _ => ⟨_, _, hrow.cell (i := 8) (by decide), hrow.cell (i := 9) (by decide), fun W2 hl => s_mems (hM.later hl) (fun k hk => Nat.lt_of_lt_of_le hk.2 hl.size) hb (h.later hl)⟩
  | 5, _ => ⟨_, _, hrow.cell (i := 10) (by decide), hrow.cell (i := 11) (by decide), fun W2 hl => s_globals (hM.later hl) (fun k hk => Nat.lt_of_lt_of_le hk.2 hl.size) hb (h.later hl)⟩
  | 6, _ => ⟨_, _, hrow.cell (i := 12) (by decide), hrow.cell (i := 13) (by decide), fun W2 hl => s_exports (hM.later hl) (fun k hk => Nat.lt_of_lt_of_le hk.2 hl.size) hb (h.later hl)⟩
  | 7, _ => ⟨_, _, hrow.cell (i := 14) (by decide), hrow.cell (i := 15) (by decide), fun W2 hl => s_start (hM.later hl) (fun k hk => Nat.lt_of_lt_of_le hk.2 hl.size) hb (h.later hl)⟩
  | 8, _ => ⟨_, _, hrow.cell (i := 16) (by decide), hrow.cell (i := 17) (by decide), fun W2 hl => s_elems (hM.later hl) (fun k hk => Nat.lt_of_lt_of_le hk.2 hl.size) hb (h.later hl)⟩
  | 9, _ => ⟨_, _, hrow.cell (i := 18) (by decide), hrow.cell (i := 19) (by decide), fun W2 hl => s_codes (hM.later hl) (fun k hk => Nat.lt_of_lt_of_le hk.2 hl.size) hb (h.later hl)⟩
  | 10, _ => ⟨_, _, hrow.cell (i := 20) (by decide), hrow.cell (i := 21) (by decide), fun W2 hl => s_datas (hM.later hl) (fun k hk => Nat.lt_of_lt_of_le hk.2 hl.size) hb (h.later hl)⟩
  | j + 11, hj => absurd hj (by show ¬ j + 11 < 11; omega)
theorem by_list : ∀ (l : List Ob), (∀ o ∈ l, By o) → By (eA id l)
  | [], _ => fun b hb x hx => by obtain rfl := Option.some.inj hb; cases hx
  | o :: r, h => (h o List.mem_cons_self).two (by_list r fun y hy => h y (List.mem_cons_of_mem _ hy))
theorem by_eS (id : Int) (hid : 0 ≤ id ∧ id < 256) (n : Nat) (o : Ob) (h : By o) : By (eS id n o) := by
  cases o with
  | none => exact by_none
  | some x =>
    show By (if n = 0 then some [] else some (id :: (lebL (x.length : Int) ++ x)))
    split
    · intro b hb y hy; obtain rfl := Option.some.inj hb; cases hy
    · exact (by_eC id hid).two ((by_leb (x.length : Int)).two h)
theorem by_oSt (x : Int) : By (oSt x) := by
  unfold oSt
  split
  · intro b hb y hy; obtain rfl := Option.some.inj hb; cases hy
  · exact by_eN x
theorem by_pM (m : Md) : By (eA id (pM m)) := by
  refine by_list _ fun o ho => ?_
  simp only [pM, List.mem_cons, List.not_mem_nil, or_false] at ho
  rcases ho with rfl | rfl | rfl | rfl | rfl | rfl | rfl | rfl | rfl | rfl | rfl
  · exact by_eS _ (by decide) _ _ (by_eL _ by_eTy _)
  · exact by_eS _ (by decide) _ _ (by_eL _ by_eIm _)
  · exact by_eS _ (by decide) _ _ (by_eL _ by_eN _)
  · exact by_eS _ (by decide) _ _ (by_eL _ by_eTa _)
  · exact by_eS _ (by decide) _ _ (by_eL _ by_eLi _)
  · exact by_eS _ (by decide) _ _ (by_eL _ by_eGl _)
  · exact by_eS _ (by decide) _ _ (by_eL _ by_eEx _)
  · exact by_eS _ (by decide) _ _ (by_oSt _)
  · exact by_eS _ (by decide) _ _ (by_eL _ by_eEl _)
  · exact by_eS _ (by decide) _ _ (by_eL _ by_eCo _)
  · exact by_eS _ (by decide) _ _ (by_eL _ by_eDa _)
end Go.Proofs.Ytngciahmoenkiac.en
