/- package encode: a module's text (text). -/
import Derived.Test.YtngciahmoenkiacBQ
import Derived.Laws.EntriesVeiled
set_option linter.unusedVariables false
set_option linter.unusedSimpArgs false
set_option maxRecDepth 100000
set_option maxHeartbeats 4000000
namespace Go.Proofs.Ytngciahmoenkiac.en
open Go.RowKit
variable {B q mb : Nat} {P Z : Nat → Prop} {w w' w1 : World} {d b : List Int} {o o2 : Ob} {r : Value} {e : Ending} {m : Md}
/-- what the text may be -/
def Tx (m : Md) (e : Ending) : Prop := (∃ b, eM m = some b ∧ b.length + 8 ≤ 65536 ∧ e = .returned (.string (strOfNums (eHd ++ b)))) ∨ ((∀ b, eM m = some b → ¬ b.length + 8 ≤ 65536) ∧ e = thn)
theorem text_good (hM : Mo Z w mb m) (hb : MdB m) (hn : m.fu.length = m.co.length) : Calls Try.prog 9 #[.pointer (some ⟨mb, 0, none⟩)] w fun e w' => Tx m e ∧ Hid (Later w w') := by
  have hM0 := hM
  obtain ⟨L, hrow, hC, hz⟩ := hM0
  obtain ⟨v0, v1, v2, v3, v4, v5, v6, v8, v9, v10, eL0, h0, h1, h2, h3, h4, h5, h6, h8, h9, h10⟩ := hC
  obtain ⟨A2, c2, rfl, _⟩ := h2
  obtain ⟨A9, c9, rfl, _⟩ := h9
  have k2 : w.cell? ⟨mb, 2, none⟩ = some (.slice A2 m.fu.length c2) := by
    have := hrow.cell (i := 2) (by decide)
    rw [eL0] at this
    exact this
  have k9 : w.cell? ⟨mb, 9, none⟩ = some (.slice A9 m.co.length c9) := by
    have := hrow.cell (i := 9) (by decide)
    rw [eL0] at this
    exact this
  have l0 := cell_lt k2
  have hne : Hid (∀ w : World, Calls Try.prog 10 #[.bool true] w fun e w' => e = .returned (.tuple #[]) ∧ w' = w) := need_ok
  -- the writer
  have hl1 : Later w ((w.alloc (.cells #[.slice none 0 0] 65)).drew) := Ld (La (Lz _))
  have I0 : Ew (w.heap.size + 1) (fun _ => False) w.heap.size ((w.alloc (.cells #[.slice none 0 0] 65)).drew) [] := (start_at rfl).later (Ld (Lz _))
  have hput : Hid (Calls Try.prog 11 #[.pointer (some ⟨w.heap.size, 0, none⟩), .string ⟨#[0, 97, 115, 109, 1, 0, 0, 0]⟩] ((w.alloc (.cells #[.slice none 0 0] 65)).drew) (Pt (w.heap.size + 1) (fun _ => False) w.heap.size ((w.alloc (.cells #[.slice none 0 0] 65)).drew) [] (some eHd) (.tuple #[]))) := put_any ⟨#[0, 97, 115, 109, 1, 0, 0, 0]⟩ (by decide) I0
  have hsec : Hid (∀ w : World, Calls Try.prog 12 #[] w fun e w' => e = .returned (.slice (some ⟨w.heap.size, 0, none⟩) 11 11) ∧ w' = w.alloc (.cells SC.toArray 71)) := sections_any
  have hround : Hid (∀ (w2 : World) (d0 : List Int), Wr (Sq (w.heap.size + 1) (fun _ => False) w.heap.size) ((w.alloc (.cells #[.slice none 0 0] 65)).drew) w2 → Ew (w.heap.size + 1) (fun _ => False) w.heap.size w2 d0 →
      Ew (w.heap.size + 1) (fun k => False ∨ k = w2.heap.size) w.heap.size (w2.alloc (.cells SC.toArray 71)) d0 ∧
      (∀ w', Wr (Sq (w.heap.size + 1) (fun k => False ∨ k = w2.heap.size) w.heap.size) (w2.alloc (.cells SC.toArray 71)) w' → Later w w') ∧
      ∀ (j : Nat) (hj : j < (pM m).length) (W : World) (d : List Int), Ew (w.heap.size + 1) (fun k => False ∨ k = w2.heap.size) w.heap.size W d → Wr (Sq (w.heap.size + 1) (fun k => False ∨ k = w2.heap.size) w.heap.size) (w2.alloc (.cells SC.toArray 71)) W →
        ∃ (x : Int) (fk : Nat), W.cell? ⟨w2.heap.size, j * 2, none⟩ = some (.int .i64 x) ∧ W.cell? ⟨w2.heap.size, j * 2 + 1, none⟩ = some (.func (.func fk) #[] #[]) ∧ ∀ W2, Later W W2 → Calls Try.prog 13 #[.pointer (some ⟨w.heap.size, 0, none⟩), .agg #[.int .i64 x, .func (.func fk) #[] #[]], .pointer (some ⟨mb, 0, none⟩)] W2 (Pt (w.heap.size + 1) (fun k => False ∨ k = w2.heap.size) w.heap.size W2 d ((pM m)[j]) (.tuple #[]))) := fun w2 d0 V2 E2 => by
    have hsz := V2.size
    have hl2 : Later w w2 := ((Wr.of_later (S := fun k => w.heap.size ≤ k) hl1).trans (V2.mono fun k _ hk => by rcases hk with rfl | hk; exact Nat.le_refl _; (have := hk.1; show w.heap.size ≤ k; omega))).later (fun _ h => h)
    have hlt : w.heap.size < w2.heap.size := E2.lt_q
    refine ⟨E2.with_block (La (Lz _)) (by simp), fun w' V => ?_, fun j hj W d E V => ?_⟩
    · exact ((Wr.of_later (S := fun k => w.heap.size ≤ k) (La hl2)).trans (V.mono fun k _ hk => by rcases hk with rfl | hk; exact Nat.le_refl _; (have := hk.1; show w.heap.size ≤ k; omega))).later (fun _ h => h)
    · have hlw : Later w W := ((Wr.of_later (S := fun k => w.heap.size ≤ k) (La hl2)).trans (V.mono fun k _ hk => by rcases hk with rfl | hk; exact Nat.le_refl _; (have := hk.1; show w.heap.size ≤ k; omega))).later (fun _ h => h)
      have hr := V.row (b := w2.heap.size) (fun x => by rcases x with x | x; omega; exact x.2 (Or.inr rfl)) (row_new w2 71 SC)
      exact sec_at hb w2.heap.size W hr _ (hM.later hlw) (fun k hk => Nat.lt_of_lt_of_le hk.2 hlw.size) E j hj
  have htk : Hid (∀ j (hj : j < (pM m).length), eA id ((pM m).take (j + 1)) = oB (eA id ((pM m).take j)) ((pM m)[j])) := fun j hj => ea_take id (pM m) j hj
  have hall : Hid (eA id ((pM m).take 11) = eM m) := by rw [eM_eq]; rfl
  have hby : Hid (∀ j bj, eA id ((pM m).take j) = some bj → ∀ x ∈ eHd ++ bj, 0 ≤ x ∧ x < 256) := fun j bj hj x hx => by
    rcases List.mem_append.1 hx with hx | hx
    · simp only [eHd, List.mem_cons, List.not_mem_nil, or_false] at hx
      omega
    · exact by_list _ (fun o ho => by
        have := List.mem_of_mem_take ho
        simp only [pM, List.mem_cons, List.not_mem_nil, or_false] at this
        rcases this with rfl | rfl | rfl | rfl | rfl | rfl | rfl | rfl | rfl | rfl | rfl
        · exact by_eS _ (by decide) _ _ (by_eL _ by_eTy _)
        · exact by_eS _ (by decide) _ _ (by_eL _ by_eIm _)
        · exact by_eS _ (by decide) _ _ (by_eL _ by_eN _)
        · exact by_eS _ (by decide) _ _ (by_eL _ by_eTa _)
        · exact by_eS _ (by decide) _ _ (by_eL _ by_eLi _)
        · exact by_eS _ (by decide) _ _ (by_eL _ by_eGl _)
        · exact by_eS _ (by decide) _ _ (by_eL _ by_eEx _)
        · exact by_eS _ (by decide) _ _ (by_oSt _)
        · exact by_eS _ (by decide) _ _ (by_eL _ by_eEl _)
        · exact by_eS _ (by decide) _ _ (by_eL _ by_eCo _)
        · exact by_eS _ (by decide) _ _ (by_eL _ by_eDa _)) bj hj x hx
  have hbad : Hid (∀ (j : Nat) (hj : j < (pM m).length) (bj : List Int), eA id ((pM m).take j) = some bj → ¬ Fit (eHd ++ bj) ((pM m)[j]) → Tx m thn) := fun j hj bj hb n => by
    refine Or.inr ⟨fun b hb2 hl => ?_, rfl⟩
    rw [eM_eq] at hb2
    have hs : eA id (pM m) = oB (eA id ((pM m).take j)) (oB ((pM m)[j]) (eA id ((pM m).drop (j + 1)))) := by
      conv => lhs; rw [← List.take_append_drop j (pM m), eA_app, List.drop_eq_getElem_cons hj]
      rfl
    rw [hs, hb] at hb2
    obtain ⟨x, y, e1, e2, rfl⟩ := oB_eq hb2
    obtain rfl := Option.some.inj e1
    obtain ⟨x2, y2, e3, e4, rfl⟩ := oB_eq e2
    refine n ⟨x2, e3, ?_⟩
    simp only [List.length_append] at hl ⊢
    show 8 + _ + _ ≤ _
    omega
  have hlen : Hid ((pM m).length = 11) := rfl
  clear hrow eL0 hz h0 h1 h3 h4 h5 h6 h8 h10 hM hb hl1 I0
  rw [← hn] at k9
  generalize m.fu.length = n2 at *
  generalize hpm : pM m = pm at *
  clear hpm
  go_enter Try.func9, Try.ntmps9
  go_wp2_with fail
  go_region_law (go_simp; go_at_call 10; refine (hne.out _).mono ?_; rintro e w1 ⟨rfl, rfl⟩)
  all_goals
    clear hne k2 k9
    go_wp2_with fail
    refine hput.out.mono ?_
    rintro e w2 ⟨V2, (⟨b2, hb2, rfl, E2⟩ | ⟨n2', rfl⟩)⟩
    rotate_left
    · exact absurd ⟨eHd, rfl, by decide⟩ n2'
    obtain rfl : eHd = b2 := Option.some.inj hb2
    rw [List.nil_append] at E2
    obtain ⟨E3, hL, hR⟩ := hround.out w2 eHd V2 E2
    clear hround hput V2 E2 hb2
    replace E3 : Hid _ := E3
    replace hL : Hid (∀ w', Wr (Sq (w.heap.size + 1) (fun k => False ∨ k = w2.heap.size) w.heap.size) (w2.alloc (.cells SC.toArray 71)) w' → Later w w') := hL
    replace hR : Hid _ := hR
    go_wp2_with fail
    refine (hsec.out _).mono ?_
    clear hsec
    rintro e w3 ⟨rfl, rfl⟩
    go_wp2_with fail
    go_loopw [21] (fun i wr => ∃ (j : Nat) (bj : List Int), i = .int .i64 (j : Nat) ∧ j ≤ 11 ∧ eA id (pm.take j) = some bj ∧ Ew (w.heap.size + 1) (fun k => False ∨ k = w2.heap.size) w.heap.size wr (eHd ++ bj) ∧ Wr (Sq (w.heap.size + 1) (fun k => False ∨ k = w2.heap.size) w.heap.size) (w2.alloc (.cells SC.toArray 71)) wr) (fun i _ => 11 - (intOf i).toNat)
    case atStart => exact ⟨0, [], rfl, Nat.zero_le _, rfl, by rw [List.append_nil]; exact E3.out, Wr.refl _ _⟩
    case round =>
      obtain ⟨j, bj, rfl, hj, hb, hE, hV⟩ := hrel
      clear E3
      by_cases hlt : j < 11
      · have hl1 : (j : Int) < 11 := by omega
        have hlx : j < pm.length := by rw [hlen.out]; exact hlt
        obtain ⟨x, fk, c0, c1, hcall⟩ := hR.out j hlx wr _ hE hV
        have hl0 := cell_lt c0
        have hbd : Hid (¬ Fit (eHd ++ bj) pm[j] → Tx m thn) := fun n => hbad.out j hlx bj hb n
        have htk2 := htk.out j hlx
        rw [hb] at htk2
        replace htk2 : Hid (eA id (pm.take (j + 1)) = oB (some bj) pm[j]) := htk2
        replace hcall : Hid (∀ W2, Later wr W2 → Calls Try.prog 13 #[.pointer (some ⟨w.heap.size, 0, none⟩), .agg #[.int .i64 x, .func (.func fk) #[] #[]], .pointer (some ⟨mb, 0, none⟩)] W2 (Pt (w.heap.size + 1) (fun k => False ∨ k = w2.heap.size) w.heap.size W2 (eHd ++ bj) pm[j] (.tuple #[]))) := hcall
        replace hV : Hid _ := hV
        clear hR htk hbad hb hE hall hby
        generalize pm[j] = oj at *
        go_wp2_with fail
        refine Calls.mono (hcall.out _ (La (Lz _))) ?_
        clear hcall
        rintro e w4 ⟨V20, (⟨b2, hb2, rfl, E2⟩ | ⟨n2, rfl⟩)⟩
        · have V2 : Wr (Sq (w.heap.size + 1) (fun k => False ∨ k = w2.heap.size) w.heap.size) wr w4 := (sq_later (La (Lz _))).trans V20
          have hf : Hid (eA id (pm.take (j + 1)) = some (bj ++ b2) ∧ Ew (w.heap.size + 1) (fun k => False ∨ k = w2.heap.size) w.heap.size w4 (eHd ++ (bj ++ b2)) ∧ Wr (Sq (w.heap.size + 1) (fun k => False ∨ k = w2.heap.size) w.heap.size) (w2.alloc (.cells SC.toArray 71)) w4) := ⟨by rw [htk2.out, hb2]; rfl, by rw [← List.append_assoc]; exact E2, hV.out.trans V2⟩
          clear V2 V20 E2 hb2 htk2 hV hbd
          go_wp2_with fail
          go_roundw
          case rel => exact ⟨j + 1, bj ++ b2, by go_num, by omega, hf.out.1, hf.out.2.1, hf.out.2.2⟩
          case measure => simp [intOf]; omega
        · have V2 : Wr (Sq (w.heap.size + 1) (fun k => False ∨ k = w2.heap.size) w.heap.size) wr w4 := (sq_later (La (Lz _))).trans V20
          have hf : Hid (Later w w4) := hL.out _ (hV.out.trans V2)
          exact ⟨rfl, hbd.out n2, hf⟩
      · have hl1 : ¬ (j : Int) < 11 := by omega
        obtain rfl : j = 11 := by omega
        rw [hall.out] at hb
        have hfits := hE.2.2.1
        obtain ⟨A, c, k0, f0, l0'⟩ := hE.form
        have cv := conv_row (hE.rw8 k0).1 (fun x => by cases x) (hby.out 11 bj (by rw [hall.out]; exact hb)) (eHd ++ bj).length c rfl
        have hf : Hid (Tx m (.returned (.string (strOfNums (eHd ++ bj)))) ∧ Hid (Later w wr)) := ⟨Or.inl ⟨bj, hb, by rw [List.length_append] at hfits; (have : eHd.length = 8 := rfl); omega, rfl⟩, hL.out _ hV⟩
        clear hR htk hbad hb hE hall hby hV hfits
        generalize strOfNums (eHd ++ bj) = S at *
        generalize (eHd ++ bj).length = n at *
        go_wp2_with fail
        go_ret
        exact ⟨hf.out.1, hf.out.2⟩
end Go.Proofs.Ytngciahmoenkiac.en
