/- package encode: sections. -/
import Derived.Test.YtngciahmoenkiacBO
set_option linter.unusedVariables false
set_option linter.unusedSimpArgs false
set_option maxRecDepth 100000
set_option maxHeartbeats 4000000
namespace Go.Proofs.Ytngciahmoenkiac.en
open Go.RowKit
variable {B q mb : Nat} {P Z : Nat → Prop} {w w' w1 : World} {d b : List Int} {o o2 : Ob} {r : Value} {e : Ending} {m : Md}
theorem s_types (hM : Mo Z w mb m) (hZ : ∀ k, Z k → k < w.heap.size) (hb : MdB m) (h : Ew B P q w d) :
    Calls Try.prog 13 #[.pointer (some ⟨q, 0, none⟩), .agg #[.int .i64 1, .func (.func 14) #[] #[]], .pointer (some ⟨mb, 0, none⟩)] w (Pt B P q w d (eS 1 (m.ty.length) (eL 256 eTy m.ty)) (.tuple #[])) := by
  have hl1 : Later w ((w.alloc (.cells #[.int .i64 1, .func (.func 14) #[] #[]] 71)).alloc (.cells #[.slice none 0 0] 65)) := La (La (Lz _))
  have I0 : Ew (w.heap.size + 1 + 1) (fun _ => False) (w.heap.size + 1) ((w.alloc (.cells #[.int .i64 1, .func (.func 14) #[] #[]] 71)).alloc (.cells #[.slice none 0 0] 65)) [] := start_at (by simp)
  have hrow : Hid (((w.alloc (.cells #[.int .i64 1, .func (.func 14) #[] #[]] 71)).alloc (.cells #[.slice none 0 0] 65)).rowIs w.heap.size 71 2 (fun j => [.int .i64 1, .func (.func 14) #[] #[]].getD j undef)) := rowIs_later (La (Lz _)) (row_new w 71 [.int .i64 1, .func (.func 14) #[] #[]])
  generalize hW1 : ((w.alloc (.cells #[.int .i64 1, .func (.func 14) #[] #[]] 71)).alloc (.cells #[.slice none 0 0] 65)) = W1 at *
  have H1 : Hid (Calls Try.prog 14 #[.pointer (some ⟨w.heap.size + 1, 0, none⟩), .pointer (some ⟨mb, 0, none⟩)] W1 (Pt (w.heap.size + 1 + 1) (fun _ => False) (w.heap.size + 1) W1 [] (eL 256 eTy m.ty) (.int .i64 ((m.ty.length : Nat) : Int)))) := c_types (hM.later hl1) (fun k hk _ x => by have := hk.2; rcases x with x | x; omega; (have := x.1; omega)) hb I0
  have hby : Hid (∀ b, eL 256 eTy m.ty = some b → ∀ x ∈ b, 0 ≤ x ∧ x < 256) := by_eL 256 by_eTy m.ty
  have hnil : m.ty.length = 0 → Fit [] (eL 256 eTy m.ty) := fun hx => el_nil hx
  have HB : Hid (∀ (W : World), Wr (Sq (w.heap.size + 1 + 1) (fun _ => False) (w.heap.size + 1)) W1 W → ¬ Fit [] (eL 256 eTy m.ty) → Pt B P q w d (eS 1 (m.ty.length) (eL 256 eTy m.ty)) (.tuple #[]) thn W) := fun W V n => Pt.bad (sq_later (inner_later hl1 (by omega) V)) (fit_sec hnil n)
  have HN : Hid (∀ (W : World) (b : List Int), m.ty.length = 0 → eL 256 eTy m.ty = some b → Wr (Sq (w.heap.size + 1 + 1) (fun _ => False) (w.heap.size + 1)) W1 W → Pt B P q w d (eS 1 (m.ty.length) (eL 256 eTy m.ty)) (.tuple #[]) (.returned (.tuple #[])) W) := fun W b hn hb V => by
    have hL := inner_later hl1 (by omega) V
    refine ⟨sq_later hL, Or.inl ⟨[], ?_, rfl, by rw [List.append_nil]; exact h.later hL⟩⟩
    rw [hb]
    exact if_pos hn
  have HY : Hid (∀ (w1 : World) (b : List Int), ¬ m.ty.length = 0 → eL 256 eTy m.ty = some b → Wr (Sq (w.heap.size + 1 + 1) (fun _ => False) (w.heap.size + 1)) W1 w1 → Ew (w.heap.size + 1 + 1) (fun _ => False) (w.heap.size + 1) w1 b →
      ∃ A c, Ew B (fun k => P k ∨ (w.heap.size ≤ k ∧ k < w1.heap.size)) q w1 d ∧ w1.cell? ⟨w.heap.size + 1, 0, none⟩ = some (.slice A b.length c) ∧ (∀ (W2 : World) (d2 : List Int), Ew B (fun k => P k ∨ (w.heap.size ≤ k ∧ k < w1.heap.size)) q W2 d2 → Wr (Sq B (fun k => P k ∨ (w.heap.size ≤ k ∧ k < w1.heap.size)) q) w1 W2 → W2.cell? ⟨w.heap.size + 1, 0, none⟩ = some (.slice A b.length c) ∧ Calls Try.prog 26 #[.pointer (some ⟨q, 0, none⟩), .slice A b.length c] W2 (Pt B (fun k => P k ∨ (w.heap.size ≤ k ∧ k < w1.heap.size)) q W2 d2 (eZ (some b)) (.tuple #[]))) ∧
        (∀ (r : Value) (e : Ending) (w' : World), Pt B (fun k => P k ∨ (w.heap.size ≤ k ∧ k < w1.heap.size)) q w1 d (oB (eC 1) (eZ (some b))) r e w' → Pt B P q w d (eS 1 (m.ty.length) (eL 256 eTy m.ty)) r e w') ∧ ¬ Sq B (fun k => P k ∨ (w.heap.size ≤ k ∧ k < w1.heap.size)) q w.heap.size) := fun w1 b hn hb V I => by
    have hL := inner_later hl1 (by omega) V
    obtain ⟨A, c, hc, hs⟩ := sized_inner h hl1 (by omega) V I (el_ne hb) (hby.out b hb)
    refine ⟨A, c, h.with_new hL, hc, hs, fun r e w' hp => ?_, fun x => ?_⟩
    · rw [hb, es_two hn]
      exact (hp.drop (fun k hk => Or.inl hk)).ahead (sq_later hL)
    · have := h.lt_q
      have h2 : w.heap.size < w1.heap.size := by
        have a := hL.size
        have b := V.size
        have c : W1.heap.size = w.heap.size + 2 := by rw [← hW1]; simp
        omega
      rcases x with x | x
      · omega
      · exact x.2 (Or.inr ⟨Nat.le_refl _, h2⟩)
  have hbyte : Hid (∀ (Q : Nat → Prop) (W : World) (d : List Int), Ew B Q q W d → Calls Try.prog 25 #[.pointer (some ⟨q, 0, none⟩), .int .i64 1] W (Pt B Q q W d (eC 1) (.tuple #[]))) := fun Q W d h => byte_any 1 (by decide) h
  have hnp : Hid (¬ Sq (w.heap.size + 1 + 1) (fun _ => False) (w.heap.size + 1) w.heap.size) := fun y => by rcases y with y | y; omega; (have := y.1; omega)
  clear hM hZ hb h hl1 hnil hby I0
  generalize eS 1 (m.ty.length) (eL 256 eTy m.ty) = os at *
  generalize eL 256 eTy m.ty = o at *
  generalize m.ty.length = n at *
  have k0 : W1.cell? ⟨w.heap.size, 0, none⟩ = some (.int .i64 1) := hrow.out.cell (i := 0) (by decide)
  have k1 : W1.cell? ⟨w.heap.size, 1, none⟩ = some (.func (.func 14) #[] #[]) := hrow.out.cell (i := 1) (by decide)
  have lp := cell_lt k0
  by_cases hn : n = 0
  · have g : ¬ (0 : Int) < (n : Int) := by omega
    go_enter Try.func13, Try.ntmps13
    go_wp2_with fail
    refine (H1.out).mono ?_
    rintro e w1 ⟨V1, (⟨b1, hb1, rfl, E1⟩ | ⟨n1, rfl⟩)⟩
    · have hf : Hid (Pt B P q w d os (.tuple #[]) (.returned (.tuple #[])) w1) := HN.out w1 b1 hn hb1 V1
      clear H1 HB HN HY hbyte k0 k1 lp V1 E1 hb1
      go_wp2_with fail
      go_end0
      exact hf.out
    · exact ⟨rfl, HB.out _ V1 n1⟩
  · have g : (0 : Int) < (n : Int) := by omega
    go_enter Try.func13, Try.ntmps13
    go_wp2_with fail
    refine (H1.out).mono ?_
    rintro e w1 ⟨V1, (⟨b1, hb1, rfl, E1⟩ | ⟨n1, rfl⟩)⟩
    rotate_left
    · exact ⟨rfl, HB.out _ V1 n1⟩
    obtain ⟨A, c, F1, hc, hs, hfr, hns⟩ := HY.out w1 b1 hn hb1 V1 E1
    have rp := V1.row hnp.out hrow.out
    replace hs : Hid (∀ (W2 : World) (d2 : List Int), Ew B (fun k => P k ∨ (w.heap.size ≤ k ∧ k < w1.heap.size)) q W2 d2 → Wr (Sq B (fun k => P k ∨ (w.heap.size ≤ k ∧ k < w1.heap.size)) q) w1 W2 → W2.cell? ⟨w.heap.size + 1, 0, none⟩ = some (.slice A b1.length c) ∧ Calls Try.prog 26 #[.pointer (some ⟨q, 0, none⟩), .slice A b1.length c] W2 (Pt B (fun k => P k ∨ (w.heap.size ≤ k ∧ k < w1.heap.size)) q W2 d2 (eZ (some b1)) (.tuple #[]))) := hs
    replace hfr : Hid (∀ (r : Value) (e : Ending) (w' : World), Pt B (fun k => P k ∨ (w.heap.size ≤ k ∧ k < w1.heap.size)) q w1 d (oB (eC 1) (eZ (some b1))) r e w' → Pt B P q w d os r e w') := hfr
    have k0 : w1.cell? ⟨w.heap.size, 0, none⟩ = some (.int .i64 1) := rp.cell (i := 0) (by decide)
    have lp := cell_lt k0
    have hbb := hbyte.out _ _ _ F1
    replace hbb : Hid (Calls Try.prog 25 #[.pointer (some ⟨q, 0, none⟩), .int .i64 1] w1 (Pt B (fun k => P k ∨ (w.heap.size ≤ k ∧ k < w1.heap.size)) q w1 d (eC 1) (.tuple #[]))) := hbb
    clear H1 HB HN HY hbyte V1 E1 hb1 rp F1 hc hns hW1
    generalize eZ (some b1) = oz at *
    generalize eC 1 = oc at *
    generalize b1.length = n1 at *
    go_wp2_with fail
    refine (hbb.out).mono ?_
    clear hbb k0 lp
    rintro e w2 ⟨V2, (⟨b2, hb2, rfl, E2⟩ | ⟨n2, rfl⟩)⟩
    rotate_left
    · exact ⟨rfl, hfr.out _ _ _ (Pt.stop V2 n2)⟩
    obtain ⟨hc, hz⟩ := hs.out w2 _ E2 V2
    have l3 := cell_lt hc
    replace hz : Hid (Calls Try.prog 26 #[.pointer (some ⟨q, 0, none⟩), .slice A n1 c] w2 (Pt B (fun k => P k ∨ (w.heap.size ≤ k ∧ k < w1.heap.size)) q w2 (d ++ b2) oz (.tuple #[]))) := hz
    replace V2 : Hid _ := V2
    replace hb2 : Hid (oc = some b2) := hb2
    clear hs E2
    go_wp2_with fail
    refine (hz.out).mono ?_
    clear hz hc l3
    rintro e w3 h3
    have hf : Hid (Pt B P q w d os (.tuple #[]) e w3) := hfr.out _ _ _ (Pt.next hb2.out V2.out h3)
    rcases h3 with ⟨V3, (⟨b3, hb3, rfl, E3⟩ | ⟨n3, rfl⟩)⟩
    · clear V3 hb3 E3 hfr V2 hb2
      go_wp2_with fail
      go_end0
      exact hf.out
    · exact ⟨rfl, hf.out⟩
theorem s_imports (hM : Mo Z w mb m) (hZ : ∀ k, Z k → k < w.heap.size) (hb : MdB m) (h : Ew B P q w d) :
    Calls Try.prog 13 #[.pointer (some ⟨q, 0, none⟩), .agg #[.int .i64 2, .func (.func 15) #[] #[]], .pointer (some ⟨mb, 0, none⟩)] w (Pt B P q w d (eS 2 (m.im.length) (eL 1024 eIm m.im)) (.tuple #[])) := by
  have hl1 : Later w ((w.alloc (.cells #[.int .i64 2, .func (.func 15) #[] #[]] 71)).alloc (.cells #[.slice none 0 0] 65)) := La (La (Lz _))
  have I0 : Ew (w.heap.size + 1 + 1) (fun _ => False) (w.heap.size + 1) ((w.alloc (.cells #[.int .i64 2, .func (.func 15) #[] #[]] 71)).alloc (.cells #[.slice none 0 0] 65)) [] := start_at (by simp)
  have hrow : Hid (((w.alloc (.cells #[.int .i64 2, .func (.func 15) #[] #[]] 71)).alloc (.cells #[.slice none 0 0] 65)).rowIs w.heap.size 71 2 (fun j => [.int .i64 2, .func (.func 15) #[] #[]].getD j undef)) := rowIs_later (La (Lz _)) (row_new w 71 [.int .i64 2, .func (.func 15) #[] #[]])
  generalize hW1 : ((w.alloc (.cells #[.int .i64 2, .func (.func 15) #[] #[]] 71)).alloc (.cells #[.slice none 0 0] 65)) = W1 at *
  have H1 : Hid (Calls Try.prog 15 #[.pointer (some ⟨w.heap.size + 1, 0, none⟩), .pointer (some ⟨mb, 0, none⟩)] W1 (Pt (w.heap.size + 1 + 1) (fun _ => False) (w.heap.size + 1) W1 [] (eL 1024 eIm m.im) (.int .i64 ((m.im.length : Nat) : Int)))) := c_imports (hM.later hl1) (fun k hk _ x => by have := hk.2; rcases x with x | x; omega; (have := x.1; omega)) hb I0
  have hby : Hid (∀ b, eL 1024 eIm m.im = some b → ∀ x ∈ b, 0 ≤ x ∧ x < 256) := by_eL 1024 by_eIm m.im
  have hnil : m.im.length = 0 → Fit [] (eL 1024 eIm m.im) := fun hx => el_nil hx
  have HB : Hid (∀ (W : World), Wr (Sq (w.heap.size + 1 + 1) (fun _ => False) (w.heap.size + 1)) W1 W → ¬ Fit [] (eL 1024 eIm m.im) → Pt B P q w d (eS 2 (m.im.length) (eL 1024 eIm m.im)) (.tuple #[]) thn W) := fun W V n => Pt.bad (sq_later (inner_later hl1 (by omega) V)) (fit_sec hnil n)
  have HN : Hid (∀ (W : World) (b : List Int), m.im.length = 0 → eL 1024 eIm m.im = some b → Wr (Sq (w.heap.size + 1 + 1) (fun _ => False) (w.heap.size + 1)) W1 W → Pt B P q w d (eS 2 (m.im.length) (eL 1024 eIm m.im)) (.tuple #[]) (.returned (.tuple #[])) W) := fun W b hn hb V => by
    have hL := inner_later hl1 (by omega) V
    refine ⟨sq_later hL, Or.inl ⟨[], ?_, rfl, by rw [List.append_nil]; exact h.later hL⟩⟩
    rw [hb]
    exact if_pos hn
  have HY : Hid (∀ (w1 : World) (b : List Int), ¬ m.im.length = 0 → eL 1024 eIm m.im = some b → Wr (Sq (w.heap.size + 1 + 1) (fun _ => False) (w.heap.size + 1)) W1 w1 → Ew (w.heap.size + 1 + 1) (fun _ => False) (w.heap.size + 1) w1 b →
      ∃ A c, Ew B (fun k => P k ∨ (w.heap.size ≤ k ∧ k < w1.heap.size)) q w1 d ∧ w1.cell? ⟨w.heap.size + 1, 0, none⟩ = some (.slice A b.length c) ∧ (∀ (W2 : World) (d2 : List Int), Ew B (fun k => P k ∨ (w.heap.size ≤ k ∧ k < w1.heap.size)) q W2 d2 → Wr (Sq B (fun k => P k ∨ (w.heap.size ≤ k ∧ k < w1.heap.size)) q) w1 W2 → W2.cell? ⟨w.heap.size + 1, 0, none⟩ = some (.slice A b.length c) ∧ Calls Try.prog 26 #[.pointer (some ⟨q, 0, none⟩), .slice A b.length c] W2 (Pt B (fun k => P k ∨ (w.heap.size ≤ k ∧ k < w1.heap.size)) q W2 d2 (eZ (some b)) (.tuple #[]))) ∧
        (∀ (r : Value) (e : Ending) (w' : World), Pt B (fun k => P k ∨ (w.heap.size ≤ k ∧ k < w1.heap.size)) q w1 d (oB (eC 2) (eZ (some b))) r e w' → Pt B P q w d (eS 2 (m.im.length) (eL 1024 eIm m.im)) r e w') ∧ ¬ Sq B (fun k => P k ∨ (w.heap.size ≤ k ∧ k < w1.heap.size)) q w.heap.size) := fun w1 b hn hb V I => by
    have hL := inner_later hl1 (by omega) V
    obtain ⟨A, c, hc, hs⟩ := sized_inner h hl1 (by omega) V I (el_ne hb) (hby.out b hb)
    refine ⟨A, c, h.with_new hL, hc, hs, fun r e w' hp => ?_, fun x => ?_⟩
    · rw [hb, es_two hn]
      exact (hp.drop (fun k hk => Or.inl hk)).ahead (sq_later hL)
    · have := h.lt_q
      have h2 : w.heap.size < w1.heap.size := by
        have a := hL.size
        have b := V.size
        have c : W1.heap.size = w.heap.size + 2 := by rw [← hW1]; simp
        omega
      rcases x with x | x
      · omega
      · exact x.2 (Or.inr ⟨Nat.le_refl _, h2⟩)
  have hbyte : Hid (∀ (Q : Nat → Prop) (W : World) (d : List Int), Ew B Q q W d → Calls Try.prog 25 #[.pointer (some ⟨q, 0, none⟩), .int .i64 2] W (Pt B Q q W d (eC 2) (.tuple #[]))) := fun Q W d h => byte_any 2 (by decide) h
  have hnp : Hid (¬ Sq (w.heap.size + 1 + 1) (fun _ => False) (w.heap.size + 1) w.heap.size) := fun y => by rcases y with y | y; omega; (have := y.1; omega)
  clear hM hZ hb h hl1 hnil hby I0
  generalize eS 2 (m.im.length) (eL 1024 eIm m.im) = os at *
  generalize eL 1024 eIm m.im = o at *
  generalize m.im.length = n at *
  have k0 : W1.cell? ⟨w.heap.size, 0, none⟩ = some (.int .i64 2) := hrow.out.cell (i := 0) (by decide)
  have k1 : W1.cell? ⟨w.heap.size, 1, none⟩ = some (.func (.func 15) #[] #[]) := hrow.out.cell (i := 1) (by decide)
  have lp := cell_lt k0
  by_cases hn : n = 0
  · have g : ¬ (0 : Int) < (n : Int) := by omega
    go_enter Try.func13, Try.ntmps13
    go_wp2_with fail
    refine (H1.out).mono ?_
    rintro e w1 ⟨V1, (⟨b1, hb1, rfl, E1⟩ | ⟨n1, rfl⟩)⟩
    · have hf : Hid (Pt B P q w d os (.tuple #[]) (.returned (.tuple #[])) w1) := HN.out w1 b1 hn hb1 V1
      clear H1 HB HN HY hbyte k0 k1 lp V1 E1 hb1
      go_wp2_with fail
      go_end0
      exact hf.out
    · exact ⟨rfl, HB.out _ V1 n1⟩
  · have g : (0 : Int) < (n : Int) := by omega
    go_enter Try.func13, Try.ntmps13
    go_wp2_with fail
    refine (H1.out).mono ?_
    rintro e w1 ⟨V1, (⟨b1, hb1, rfl, E1⟩ | ⟨n1, rfl⟩)⟩
    rotate_left
    · exact ⟨rfl, HB.out _ V1 n1⟩
    obtain ⟨A, c, F1, hc, hs, hfr, hns⟩ := HY.out w1 b1 hn hb1 V1 E1
    have rp := V1.row hnp.out hrow.out
    replace hs : Hid (∀ (W2 : World) (d2 : List Int), Ew B (fun k => P k ∨ (w.heap.size ≤ k ∧ k < w1.heap.size)) q W2 d2 → Wr (Sq B (fun k => P k ∨ (w.heap.size ≤ k ∧ k < w1.heap.size)) q) w1 W2 → W2.cell? ⟨w.heap.size + 1, 0, none⟩ = some (.slice A b1.length c) ∧ Calls Try.prog 26 #[.pointer (some ⟨q, 0, none⟩), .slice A b1.length c] W2 (Pt B (fun k => P k ∨ (w.heap.size ≤ k ∧ k < w1.heap.size)) q W2 d2 (eZ (some b1)) (.tuple #[]))) := hs
    replace hfr : Hid (∀ (r : Value) (e : Ending) (w' : World), Pt B (fun k => P k ∨ (w.heap.size ≤ k ∧ k < w1.heap.size)) q w1 d (oB (eC 2) (eZ (some b1))) r e w' → Pt B P q w d os r e w') := hfr
    have k0 : w1.cell? ⟨w.heap.size, 0, none⟩ = some (.int .i64 2) := rp.cell (i := 0) (by decide)
    have lp := cell_lt k0
    have hbb := hbyte.out _ _ _ F1
    replace hbb : Hid (Calls Try.prog 25 #[.pointer (some ⟨q, 0, none⟩), .int .i64 2] w1 (Pt B (fun k => P k ∨ (w.heap.size ≤ k ∧ k < w1.heap.size)) q w1 d (eC 2) (.tuple #[]))) := hbb
    clear H1 HB HN HY hbyte V1 E1 hb1 rp F1 hc hns hW1
    generalize eZ (some b1) = oz at *
    generalize eC 2 = oc at *
    generalize b1.length = n1 at *
    go_wp2_with fail
    refine (hbb.out).mono ?_
    clear hbb k0 lp
    rintro e w2 ⟨V2, (⟨b2, hb2, rfl, E2⟩ | ⟨n2, rfl⟩)⟩
    rotate_left
    · exact ⟨rfl, hfr.out _ _ _ (Pt.stop V2 n2)⟩
    obtain ⟨hc, hz⟩ := hs.out w2 _ E2 V2
    have l3 := cell_lt hc
    replace hz : Hid (Calls Try.prog 26 #[.pointer (some ⟨q, 0, none⟩), .slice A n1 c] w2 (Pt B (fun k => P k ∨ (w.heap.size ≤ k ∧ k < w1.heap.size)) q w2 (d ++ b2) oz (.tuple #[]))) := hz
    replace V2 : Hid _ := V2
    replace hb2 : Hid (oc = some b2) := hb2
    clear hs E2
    go_wp2_with fail
    refine (hz.out).mono ?_
    clear hz hc l3
    rintro e w3 h3
    have hf : Hid (Pt B P q w d os (.tuple #[]) e w3) := hfr.out _ _ _ (Pt.next hb2.out V2.out h3)
    rcases h3 with ⟨V3, (⟨b3, hb3, rfl, E3⟩ | ⟨n3, rfl⟩)⟩
    · clear V3 hb3 E3 hfr V2 hb2
      go_wp2_with fail
      go_end0
      exact hf.out
    · exact ⟨rfl, hf.out⟩
theorem s_funcs (hM : Mo Z w mb m) (hZ : ∀ k, Z k → k < w.heap.size) (hb : MdB m) (h : Ew B P q w d) :
    Calls Try.prog 13 #[.pointer (some ⟨q, 0, none⟩), .agg #[.int .i64 3, .func (.func 16) #[] #[]], .pointer (some ⟨mb, 0, none⟩)] w (Pt B P q w d (eS 3 (m.fu.length) (eL 256 eN m.fu)) (.tuple #[])) := by
  have hl1 : Later w ((w.alloc (.cells #[.int .i64 3, .func (.func 16) #[] #[]] 71)).alloc (.cells #[.slice none 0 0] 65)) := La (La (Lz _))
  have I0 : Ew (w.heap.size + 1 + 1) (fun _ => False) (w.heap.size + 1) ((w.alloc (.cells #[.int .i64 3, .func (.func 16) #[] #[]] 71)).alloc (.cells #[.slice none 0 0] 65)) [] := start_at (by simp)
  have hrow : Hid (((w.alloc (.cells #[.int .i64 3, .func (.func 16) #[] #[]] 71)).alloc (.cells #[.slice none 0 0] 65)).rowIs w.heap.size 71 2 (fun j => [.int .i64 3, .func (.func 16) #[] #[]].getD j undef)) := rowIs_later (La (Lz _)) (row_new w 71 [.int .i64 3, .func (.func 16) #[] #[]])
  generalize hW1 : ((w.alloc (.cells #[.int .i64 3, .func (.func 16) #[] #[]] 71)).alloc (.cells #[.slice none 0 0] 65)) = W1 at *
  have H1 : Hid (Calls Try.prog 16 #[.pointer (some ⟨w.heap.size + 1, 0, none⟩), .pointer (some ⟨mb, 0, none⟩)] W1 (Pt (w.heap.size + 1 + 1) (fun _ => False) (w.heap.size + 1) W1 [] (eL 256 eN m.fu) (.int .i64 ((m.fu.length : Nat) : Int)))) := c_funcs (hM.later hl1) (fun k hk _ x => by have := hk.2; rcases x with x | x; omega; (have := x.1; omega)) hb I0
  have hby : Hid (∀ b, eL 256 eN m.fu = some b → ∀ x ∈ b, 0 ≤ x ∧ x < 256) := by_eL 256 by_eN m.fu
  have hnil : m.fu.length = 0 → Fit [] (eL 256 eN m.fu) := fun hx => el_nil hx
  have HB : Hid (∀ (W : World), Wr (Sq (w.heap.size + 1 + 1) (fun _ => False) (w.heap.size + 1)) W1 W → ¬ Fit [] (eL 256 eN m.fu) → Pt B P q w d (eS 3 (m.fu.length) (eL 256 eN m.fu)) (.tuple #[]) thn W) := fun W V n => Pt.bad (sq_later (inner_later hl1 (by omega) V)) (fit_sec hnil n)
  have HN : Hid (∀ (W : World) (b : List Int), m.fu.length = 0 → eL 256 eN m.fu = some b → Wr (Sq (w.heap.size + 1 + 1) (fun _ => False) (w.heap.size + 1)) W1 W → Pt B P q w d (eS 3 (m.fu.length) (eL 256 eN m.fu)) (.tuple #[]) (.returned (.tuple #[])) W) := fun W b hn hb V => by
    have hL := inner_later hl1 (by omega) V
    refine ⟨sq_later hL, Or.inl ⟨[], ?_, rfl, by rw [List.append_nil]; exact h.later hL⟩⟩
    rw [hb]
    exact if_pos hn
  have HY : Hid (∀ (w1 : World) (b : List Int), ¬ m.fu.length = 0 → eL 256 eN m.fu = some b → Wr (Sq (w.heap.size + 1 + 1) (fun _ => False) (w.heap.size + 1)) W1 w1 → Ew (w.heap.size + 1 + 1) (fun _ => False) (w.heap.size + 1) w1 b →
      ∃ A c, Ew B (fun k => P k ∨ (w.heap.size ≤ k ∧ k < w1.heap.size)) q w1 d ∧ w1.cell? ⟨w.heap.size + 1, 0, none⟩ = some (.slice A b.length c) ∧ (∀ (W2 : World) (d2 : List Int), Ew B (fun k => P k ∨ (w.heap.size ≤ k ∧ k < w1.heap.size)) q W2 d2 → Wr (Sq B (fun k => P k ∨ (w.heap.size ≤ k ∧ k < w1.heap.size)) q) w1 W2 → W2.cell? ⟨w.heap.size + 1, 0, none⟩ = some (.slice A b.length c) ∧ Calls Try.prog 26 #[.pointer (some ⟨q, 0, none⟩), .slice A b.length c] W2 (Pt B (fun k => P k ∨ (w.heap.size ≤ k ∧ k < w1.heap.size)) q W2 d2 (eZ (some b)) (.tuple #[]))) ∧
        (∀ (r : Value) (e : Ending) (w' : World), Pt B (fun k => P k ∨ (w.heap.size ≤ k ∧ k < w1.heap.size)) q w1 d (oB (eC 3) (eZ (some b))) r e w' → Pt B P q w d (eS 3 (m.fu.length) (eL 256 eN m.fu)) r e w') ∧ ¬ Sq B (fun k => P k ∨ (w.heap.size ≤ k ∧ k < w1.heap.size)) q w.heap.size) := fun w1 b hn hb V I => by
    have hL := inner_later hl1 (by omega) V
    obtain ⟨A, c, hc, hs⟩ := sized_inner h hl1 (by omega) V I (el_ne hb) (hby.out b hb)
    refine ⟨A, c, h.with_new hL, hc, hs, fun r e w' hp => ?_, fun x => ?_⟩
    · rw [hb, es_two hn]
      exact (hp.drop (fun k hk => Or.inl hk)).ahead (sq_later hL)
    · have := h.lt_q
      have h2 : w.heap.size < w1.heap.size := by
        have a := hL.size
        have b := V.size
        have c : W1.heap.size = w.heap.size + 2 := by rw [← hW1]; simp
        omega
      rcases x with x | x
      · omega
      · exact x.2 (Or.inr ⟨Nat.le_refl _, h2⟩)
  have hbyte : Hid (∀ (Q : Nat → Prop) (W : World) (d : List Int), Ew B Q q W d → Calls Try.prog 25 #[.pointer (some ⟨q, 0, none⟩), .int .i64 3] W (Pt B Q q W d (eC 3) (.tuple #[]))) := fun Q W d h => byte_any 3 (by decide) h
  have hnp : Hid (¬ Sq (w.heap.size + 1 + 1) (fun _ => False) (w.heap.size + 1) w.heap.size) := fun y => by rcases y with y | y; omega; (have := y.1; omega)
  clear hM hZ hb h hl1 hnil hby I0
  generalize eS 3 (m.fu.length) (eL 256 eN m.fu) = os at *
  generalize eL 256 eN m.fu = o at *
  generalize m.fu.length = n at *
  have k0 : W1.cell? ⟨w.heap.size, 0, none⟩ = some (.int .i64 3) := hrow.out.cell (i := 0) (by decide)
  have k1 : W1.cell? ⟨w.heap.size, 1, none⟩ = some (.func (.func 16) #[] #[]) := hrow.out.cell (i := 1) (by decide)
  have lp := cell_lt k0
  by_cases hn : n = 0
  · have g : ¬ (0 : Int) < (n : Int) := by omega
    go_enter Try.func13, Try.ntmps13
    go_wp2_with fail
    refine (H1.out).mono ?_
    rintro e w1 ⟨V1, (⟨b1, hb1, rfl, E1⟩ | ⟨n1, rfl⟩)⟩
    · have hf : Hid (Pt B P q w d os (.tuple #[]) (.returned (.tuple #[])) w1) := HN.out w1 b1 hn hb1 V1
      clear H1 HB HN HY hbyte k0 k1 lp V1 E1 hb1
      go_wp2_with fail
      go_end0
      exact hf.out
    · exact ⟨rfl, HB.out _ V1 n1⟩
  · have g : (0 : Int) < (n : Int) := by omega
    go_enter Try.func13, Try.ntmps13
    go_wp2_with fail
    refine (H1.out).mono ?_
    rintro e w1 ⟨V1, (⟨b1, hb1, rfl, E1⟩ | ⟨n1, rfl⟩)⟩
    rotate_left
    · exact ⟨rfl, HB.out _ V1 n1⟩
    obtain ⟨A, c, F1, hc, hs, hfr, hns⟩ := HY.out w1 b1 hn hb1 V1 E1
    have rp := V1.row hnp.out hrow.out
    replace hs : Hid (∀ (W2 : World) (d2 : List Int), Ew B (fun k => P k ∨ (w.heap.size ≤ k ∧ k < w1.heap.size)) q W2 d2 → Wr (Sq B (fun k => P k ∨ (w.heap.size ≤ k ∧ k < w1.heap.size)) q) w1 W2 → W2.cell? ⟨w.heap.size + 1, 0, none⟩ = some (.slice A b1.length c) ∧ Calls Try.prog 26 #[.pointer (some ⟨q, 0, none⟩), .slice A b1.length c] W2 (Pt B (fun k => P k ∨ (w.heap.size ≤ k ∧ k < w1.heap.size)) q W2 d2 (eZ (some b1)) (.tuple #[]))) := hs
    replace hfr : Hid (∀ (r : Value) (e : Ending) (w' : World), Pt B (fun k => P k ∨ (w.heap.size ≤ k ∧ k < w1.heap.size)) q w1 d (oB (eC 3) (eZ (some b1))) r e w' → Pt B P q w d os r e w') := hfr
    have k0 : w1.cell? ⟨w.heap.size, 0, none⟩ = some (.int .i64 3) := rp.cell (i := 0) (by decide)
    have lp := cell_lt k0
    have hbb := hbyte.out _ _ _ F1
    replace hbb : Hid (Calls Try.prog 25 #[.pointer (some ⟨q, 0, none⟩), .int .i64 3] w1 (Pt B (fun k => P k ∨ (w.heap.size ≤ k ∧ k < w1.heap.size)) q w1 d (eC 3) (.tuple #[]))) := hbb
    clear H1 HB HN HY hbyte V1 E1 hb1 rp F1 hc hns hW1
    generalize eZ (some b1) = oz at *
    generalize eC 3 = oc at *
    generalize b1.length = n1 at *
    go_wp2_with fail
    refine (hbb.out).mono ?_
    clear hbb k0 lp
    rintro e w2 ⟨V2, (⟨b2, hb2, rfl, E2⟩ | ⟨n2, rfl⟩)⟩
    rotate_left
    · exact ⟨rfl, hfr.out _ _ _ (Pt.stop V2 n2)⟩
    obtain ⟨hc, hz⟩ := hs.out w2 _ E2 V2
    have l3 := cell_lt hc
    replace hz : Hid (Calls Try.prog 26 #[.pointer (some ⟨q, 0, none⟩), .slice A n1 c] w2 (Pt B (fun k => P k ∨ (w.heap.size ≤ k ∧ k < w1.heap.size)) q w2 (d ++ b2) oz (.tuple #[]))) := hz
    replace V2 : Hid _ := V2
    replace hb2 : Hid (oc = some b2) := hb2
    clear hs E2
    go_wp2_with fail
    refine (hz.out).mono ?_
    clear hz hc l3
    rintro e w3 h3
    have hf : Hid (Pt B P q w d os (.tuple #[]) e w3) := hfr.out _ _ _ (Pt.next hb2.out V2.out h3)
    rcases h3 with ⟨V3, (⟨b3, hb3, rfl, E3⟩ | ⟨n3, rfl⟩)⟩
    · clear V3 hb3 E3 hfr V2 hb2
      go_wp2_with fail
      go_end0
      exact hf.out
    · exact ⟨rfl, hf.out⟩
theorem s_tables (hM : Mo Z w mb m) (hZ : ∀ k, Z k → k < w.heap.size) (hb : MdB m) (h : Ew B P q w d) :
    Calls Try.prog 13 #[.pointer (some ⟨q, 0, none⟩), .agg #[.int .i64 4, .func (.func 17) #[] #[]], .pointer (some ⟨mb, 0, none⟩)] w (Pt B P q w d (eS 4 (m.ta.length) (eL 1024 eTa m.ta)) (.tuple #[])) := by
  have hl1 : Later w ((w.alloc (.cells #[.int .i64 4, .func (.func 17) #[] #[]] 71)).alloc (.cells #[.slice none 0 0] 65)) := La (La (Lz _))
  have I0 : Ew (w.heap.size + 1 + 1) (fun _ => False) (w.heap.size + 1) ((w.alloc (.cells #[.int .i64 4, .func (.func 17) #[] #[]] 71)).alloc (.cells #[.slice none 0 0] 65)) [] := start_at (by simp)
  have hrow : Hid (((w.alloc (.cells #[.int .i64 4, .func (.func 17) #[] #[]] 71)).alloc (.cells #[.slice none 0 0] 65)).rowIs w.heap.size 71 2 (fun j => [.int .i64 4, .func (.func 17) #[] #[]].getD j undef)) := rowIs_later (La (Lz _)) (row_new w 71 [.int .i64 4, .func (.func 17) #[] #[]])
  generalize hW1 : ((w.alloc (.cells #[.int .i64 4, .func (.func 17) #[] #[]] 71)).alloc (.cells #[.slice none 0 0] 65)) = W1 at *
  have H1 : Hid (Calls Try.prog 17 #[.pointer (some ⟨w.heap.size + 1, 0, none⟩), .pointer (some ⟨mb, 0, none⟩)] W1 (Pt (w.heap.size + 1 + 1) (fun _ => False) (w.heap.size + 1) W1 [] (eL 1024 eTa m.ta) (.int .i64 ((m.ta.length : Nat) : Int)))) := c_tables (hM.later hl1) (fun k hk _ x => by have := hk.2; rcases x with x | x; omega; (have := x.1; omega)) hb I0
  have hby : Hid (∀ b, eL 1024 eTa m.ta = some b → ∀ x ∈ b, 0 ≤ x ∧ x < 256) := by_eL 1024 by_eTa m.ta
  have hnil : m.ta.length = 0 → Fit [] (eL 1024 eTa m.ta) := fun hx => el_nil hx
  have HB : Hid (∀ (W : World), Wr (Sq (w.heap.size + 1 + 1) (fun _ => False) (w.heap.size + 1)) W1 W → ¬ Fit [] (eL 1024 eTa m.ta) → Pt B P q w d (eS 4 (m.ta.length) (eL 1024 eTa m.ta)) (.tuple #[]) thn W) := fun W V n => Pt.bad (sq_later (inner_later hl1 (by omega) V)) (fit_sec hnil n)
  have HN : Hid (∀ (W : World) (b : List Int), m.ta.length = 0 → eL 1024 eTa m.ta = some b → Wr (Sq (w.heap.size + 1 + 1) (fun _ => False) (w.heap.size + 1)) W1 W → Pt B P q w d (eS 4 (m.ta.length) (eL 1024 eTa m.ta)) (.tuple #[]) (.returned (.tuple #[])) W) := fun W b hn hb V => by
    have hL := inner_later hl1 (by omega) V
    refine ⟨sq_later hL, Or.inl ⟨[], ?_, rfl, by rw [List.append_nil]; exact h.later hL⟩⟩
    rw [hb]
    exact if_pos hn
  have HY : Hid (∀ (w1 : World) (b : List Int), ¬ m.ta.length = 0 → eL 1024 eTa m.ta = some b → Wr (Sq (w.heap.size + 1 + 1) (fun _ => False) (w.heap.size + 1)) W1 w1 → Ew (w.heap.size + 1 + 1) (fun _ => False) (w.heap.size + 1) w1 b →
      ∃ A c, Ew B (fun k => P k ∨ (w.heap.size ≤ k ∧ k < w1.heap.size)) q w1 d ∧ w1.cell? ⟨w.heap.size + 1, 0, none⟩ = some (.slice A b.length c) ∧ (∀ (W2 : World) (d2 : List Int), Ew B (fun k => P k ∨ (w.heap.size ≤ k ∧ k < w1.heap.size)) q W2 d2 → Wr (Sq B (fun k => P k ∨ (w.heap.size ≤ k ∧ k < w1.heap.size)) q) w1 W2 → W2.cell? ⟨w.heap.size + 1, 0, none⟩ = some (.slice A b.length c) ∧ Calls Try.prog 26 #[.pointer (some ⟨q, 0, none⟩), .slice A b.length c] W2 (Pt B (fun k => P k ∨ (w.heap.size ≤ k ∧ k < w1.heap.size)) q W2 d2 (eZ (some b)) (.tuple #[]))) ∧
        (∀ (r : Value) (e : Ending) (w' : World), Pt B (fun k => P k ∨ (w.heap.size ≤ k ∧ k < w1.heap.size)) q w1 d (oB (eC 4) (eZ (some b))) r e w' → Pt B P q w d (eS 4 (m.ta.length) (eL 1024 eTa m.ta)) r e w') ∧ ¬ Sq B (fun k => P k ∨ (w.heap.size ≤ k ∧ k < w1.heap.size)) q w.heap.size) := fun w1 b hn hb V I => by
    have hL := inner_later hl1 (by omega) V
    obtain ⟨A, c, hc, hs⟩ := sized_inner h hl1 (by omega) V I (el_ne hb) (hby.out b hb)
    refine ⟨A, c, h.with_new hL, hc, hs, fun r e w' hp => ?_, fun x => ?_⟩
    · rw [hb, es_two hn]
      exact (hp.drop (fun k hk => Or.inl hk)).ahead (sq_later hL)
    · have := h.lt_q
      have h2 : w.heap.size < w1.heap.size := by
        have a := hL.size
        have b := V.size
        have c : W1.heap.size = w.heap.size + 2 := by rw [← hW1]; simp
        omega
      rcases x with x | x
      · omega
      · exact x.2 (Or.inr ⟨Nat.le_refl _, h2⟩)
  have hbyte : Hid (∀ (Q : Nat → Prop) (W : World) (d : List Int), Ew B Q q W d → Calls Try.prog 25 #[.pointer (some ⟨q, 0, none⟩), .int .i64 4] W (Pt B Q q W d (eC 4) (.tuple #[]))) := fun Q W d h => byte_any 4 (by decide) h
  have hnp : Hid (¬ Sq (w.heap.size + 1 + 1) (fun _ => False) (w.heap.size + 1) w.heap.size) := fun y => by rcases y with y | y; omega; (have := y.1; omega)
  clear hM hZ hb h hl1 hnil hby I0
  generalize eS 4 (m.ta.length) (eL 1024 eTa m.ta) = os at *
  generalize eL 1024 eTa m.ta = o at *
  generalize m.ta.length = n at *
  have k0 : W1.cell? ⟨w.heap.size, 0, none⟩ = some (.int .i64 4) := hrow.out.cell (i := 0) (by decide)
  have k1 : W1.cell? ⟨w.heap.size, 1, none⟩ = some (.func (.func 17) #[] #[]) := hrow.out.cell (i := 1) (by decide)
  have lp := cell_lt k0
  by_cases hn : n = 0
  · have g : ¬ (0 : Int) < (n : Int) := by omega
    go_enter Try.func13, Try.ntmps13
    go_wp2_with fail
    refine (H1.out).mono ?_
    rintro e w1 ⟨V1, (⟨b1, hb1, rfl, E1⟩ | ⟨n1, rfl⟩)⟩
    · have hf : Hid (Pt B P q w d os (.tuple #[]) (.returned (.tuple #[])) w1) := HN.out w1 b1 hn hb1 V1
      clear H1 HB HN HY hbyte k0 k1 lp V1 E1 hb1
      go_wp2_with fail
      go_end0
      exact hf.out
    · exact ⟨rfl, HB.out _ V1 n1⟩
  · have g : (0 : Int) < (n : Int) := by omega
    go_enter Try.func13, Try.ntmps13
    go_wp2_with fail
    refine (H1.out).mono ?_
    rintro e w1 ⟨V1, (⟨b1, hb1, rfl, E1⟩ | ⟨n1, rfl⟩)⟩
    rotate_left
    · exact ⟨rfl, HB.out _ V1 n1⟩
    obtain ⟨A, c, F1, hc, hs, hfr, hns⟩ := HY.out w1 b1 hn hb1 V1 E1
    have rp := V1.row hnp.out hrow.out
    replace hs : Hid (∀ (W2 : World) (d2 : List Int), Ew B (fun k => P k ∨ (w.heap.size ≤ k ∧ k < w1.heap.size)) q W2 d2 → Wr (Sq B (fun k => P k ∨ (w.heap.size ≤ k ∧ k < w1.heap.size)) q) w1 W2 → W2.cell? ⟨w.heap.size + 1, 0, none⟩ = some (.slice A b1.length c) ∧ Calls Try.prog 26 #[.pointer (some ⟨q, 0, none⟩), .slice A b1.length c] W2 (Pt B (fun k => P k ∨ (w.heap.size ≤ k ∧ k < w1.heap.size)) q W2 d2 (eZ (some b1)) (.tuple #[]))) := hs
    replace hfr : Hid (∀ (r : Value) (e : Ending) (w' : World), Pt B (fun k => P k ∨ (w.heap.size ≤ k ∧ k < w1.heap.size)) q w1 d (oB (eC 4) (eZ (some b1))) r e w' → Pt B P q w d os r e w') := hfr
    have k0 : w1.cell? ⟨w.heap.size, 0, none⟩ = some (.int .i64 4) := rp.cell (i := 0) (by decide)
    have lp := cell_lt k0
    have hbb := hbyte.out _ _ _ F1
    replace hbb : Hid (Calls Try.prog 25 #[.pointer (some ⟨q, 0, none⟩), .int .i64 4] w1 (Pt B (fun k => P k ∨ (w.heap.size ≤ k ∧ k < w1.heap.size)) q w1 d (eC 4) (.tuple #[]))) := hbb
    clear H1 HB HN HY hbyte V1 E1 hb1 rp F1 hc hns hW1
    generalize eZ (some b1) = oz at *
    generalize eC 4 = oc at *
    generalize b1.length = n1 at *
    go_wp2_with fail
    refine (hbb.out).mono ?_
    clear hbb k0 lp
    rintro e w2 ⟨V2, (⟨b2, hb2, rfl, E2⟩ | ⟨n2, rfl⟩)⟩
    rotate_left
    · exact ⟨rfl, hfr.out _ _ _ (Pt.stop V2 n2)⟩
    obtain ⟨hc, hz⟩ := hs.out w2 _ E2 V2
    have l3 := cell_lt hc
    replace hz : Hid (Calls Try.prog 26 #[.pointer (some ⟨q, 0, none⟩), .slice A n1 c] w2 (Pt B (fun k => P k ∨ (w.heap.size ≤ k ∧ k < w1.heap.size)) q w2 (d ++ b2) oz (.tuple #[]))) := hz
    replace V2 : Hid _ := V2
    replace hb2 : Hid (oc = some b2) := hb2
    clear hs E2
    go_wp2_with fail
    refine (hz.out).mono ?_
    clear hz hc l3
    rintro e w3 h3
    have hf : Hid (Pt B P q w d os (.tuple #[]) e w3) := hfr.out _ _ _ (Pt.next hb2.out V2.out h3)
    rcases h3 with ⟨V3, (⟨b3, hb3, rfl, E3⟩ | ⟨n3, rfl⟩)⟩
    · clear V3 hb3 E3 hfr V2 hb2
      go_wp2_with fail
      go_end0
      exact hf.out
    · exact ⟨rfl, hf.out⟩
theorem s_mems (hM : Mo Z w mb m) (hZ : ∀ k, Z k → k < w.heap.size) (hb : MdB m) (h : Ew B P q w d) :
    Calls Try.prog 13 #[.pointer (some ⟨q, 0, none⟩), .agg #[.int .i64 5, .func (.func 18) #[] #[]], .pointer (some ⟨mb, 0, none⟩)] w (Pt B P q w d (eS 5 (m.me.length) (eL 1024 eLi m.me)) (.tuple #[])) := by
  have hl1 : Later w ((w.alloc (.cells #[.int .i64 5, .func (.func 18) #[] #[]] 71)).alloc (.cells #[.slice none 0 0] 65)) := La (La (Lz _))
  have I0 : Ew (w.heap.size + 1 + 1) (fun _ => False) (w.heap.size + 1) ((w.alloc (.cells #[.int .i64 5, .func (.func 18) #[] #[]] 71)).alloc (.cells #[.slice none 0 0] 65)) [] := start_at (by simp)
  have hrow : Hid (((w.alloc (.cells #[.int .i64 5, .func (.func 18) #[] #[]] 71)).alloc (.cells #[.slice none 0 0] 65)).rowIs w.heap.size 71 2 (fun j => [.int .i64 5, .func (.func 18) #[] #[]].getD j undef)) := rowIs_later (La (Lz _)) (row_new w 71 [.int .i64 5, .func (.func 18) #[] #[]])
  generalize hW1 : ((w.alloc (.cells #[.int .i64 5, .func (.func 18) #[] #[]] 71)).alloc (.cells #[.slice none 0 0] 65)) = W1 at *
  have H1 : Hid (Calls Try.prog 18 #[.pointer (some ⟨w.heap.size + 1, 0, none⟩), .pointer (some ⟨mb, 0, none⟩)] W1 (Pt (w.heap.size + 1 + 1) (fun _ => False) (w.heap.size + 1) W1 [] (eL 1024 eLi m.me) (.int .i64 ((m.me.length : Nat) : Int)))) := c_mems (hM.later hl1) (fun k hk _ x => by have := hk.2; rcases x with x | x; omega; (have := x.1; omega)) hb I0
  have hby : Hid (∀ b, eL 1024 eLi m.me = some b → ∀ x ∈ b, 0 ≤ x ∧ x < 256) := by_eL 1024 by_eLi m.me
  have hnil : m.me.length = 0 → Fit [] (eL 1024 eLi m.me) := fun hx => el_nil hx
  have HB : Hid (∀ (W : World), Wr (Sq (w.heap.size + 1 + 1) (fun _ => False) (w.heap.size + 1)) W1 W → ¬ Fit [] (eL 1024 eLi m.me) → Pt B P q w d (eS 5 (m.me.length) (eL 1024 eLi m.me)) (.tuple #[]) thn W) := fun W V n => Pt.bad (sq_later (inner_later hl1 (by omega) V)) (fit_sec hnil n)
  have HN : Hid (∀ (W : World) (b : List Int), m.me.length = 0 → eL 1024 eLi m.me = some b → Wr (Sq (w.heap.size + 1 + 1) (fun _ => False) (w.heap.size + 1)) W1 W → Pt B P q w d (eS 5 (m.me.length) (eL 1024 eLi m.me)) (.tuple #[]) (.returned (.tuple #[])) W) := fun W b hn hb V => by
    have hL := inner_later hl1 (by omega) V
    refine ⟨sq_later hL, Or.inl ⟨[], ?_, rfl, by rw [List.append_nil]; exact h.later hL⟩⟩
    rw [hb]
    exact if_pos hn
  have HY : Hid (∀ (w1 : World) (b : List Int), ¬ m.me.length = 0 → eL 1024 eLi m.me = some b → Wr (Sq (w.heap.size + 1 + 1) (fun _ => False) (w.heap.size + 1)) W1 w1 → Ew (w.heap.size + 1 + 1) (fun _ => False) (w.heap.size + 1) w1 b →
      ∃ A c, Ew B (fun k => P k ∨ (w.heap.size ≤ k ∧ k < w1.heap.size)) q w1 d ∧ w1.cell? ⟨w.heap.size + 1, 0, none⟩ = some (.slice A b.length c) ∧ (∀ (W2 : World) (d2 : List Int), Ew B (fun k => P k ∨ (w.heap.size ≤ k ∧ k < w1.heap.size)) q W2 d2 → Wr (Sq B (fun k => P k ∨ (w.heap.size ≤ k ∧ k < w1.heap.size)) q) w1 W2 → W2.cell? ⟨w.heap.size + 1, 0, none⟩ = some (.slice A b.length c) ∧ Calls Try.prog 26 #[.pointer (some ⟨q, 0, none⟩), .slice A b.length c] W2 (Pt B (fun k => P k ∨ (w.heap.size ≤ k ∧ k < w1.heap.size)) q W2 d2 (eZ (some b)) (.tuple #[]))) ∧
        (∀ (r : Value) (e : Ending) (w' : World), Pt B (fun k => P k ∨ (w.heap.size ≤ k ∧ k < w1.heap.size)) q w1 d (oB (eC 5) (eZ (some b))) r e w' → Pt B P q w d (eS 5 (m.me.length) (eL 1024 eLi m.me)) r e w') ∧ ¬ Sq B (fun k => P k ∨ (w.heap.size ≤ k ∧ k < w1.heap.size)) q w.heap.size) := fun w1 b hn hb V I => by
    have hL := inner_later hl1 (by omega) V
    obtain ⟨A, c, hc, hs⟩ := sized_inner h hl1 (by omega) V I (el_ne hb) (hby.out b hb)
    refine ⟨A, c, h.with_new hL, hc, hs, fun r e w' hp => ?_, fun x => ?_⟩
    · rw [hb, es_two hn]
      exact (hp.drop (fun k hk => Or.inl hk)).ahead (sq_later hL)
    · have := h.lt_q
      have h2 : w.heap.size < w1.heap.size := by
        have a := hL.size
        have b := V.size
        have c : W1.heap.size = w.heap.size + 2 := by rw [← hW1]; simp
        omega
      rcases x with x | x
      · omega
      · exact x.2 (Or.inr ⟨Nat.le_refl _, h2⟩)
  have hbyte : Hid (∀ (Q : Nat → Prop) (W : World) (d : List Int), Ew B Q q W d → Calls Try.prog 25 #[.pointer (some ⟨q, 0, none⟩), .int .i64 5] W (Pt B Q q W d (eC 5) (.tuple #[]))) := fun Q W d h => byte_any 5 (by decide) h
  have hnp : Hid (¬ Sq (w.heap.size + 1 + 1) (fun _ => False) (w.heap.size + 1) w.heap.size) := fun y => by rcases y with y | y; omega; (have := y.1; omega)
  clear hM hZ hb h hl1 hnil hby I0
  generalize eS 5 (m.me.length) (eL 1024 eLi m.me) = os at *
  generalize eL 1024 eLi m.me = o at *
  generalize m.me.length = n at *
  have k0 : W1.cell? ⟨w.heap.size, 0, none⟩ = some (.int .i64 5) := hrow.out.cell (i := 0) (by decide)
  have k1 : W1.cell? ⟨w.heap.size, 1, none⟩ = some (.func (.func 18) #[] #[]) := hrow.out.cell (i := 1) (by decide)
  have lp := cell_lt k0
  by_cases hn : n = 0
  · have g : ¬ (0 : Int) < (n : Int) := by omega
    go_enter Try.func13, Try.ntmps13
    go_wp2_with fail
    refine (H1.out).mono ?_
    rintro e w1 ⟨V1, (⟨b1, hb1, rfl, E1⟩ | ⟨n1, rfl⟩)⟩
    · have hf : Hid (Pt B P q w d os (.tuple #[]) (.returned (.tuple #[])) w1) := HN.out w1 b1 hn hb1 V1
      clear H1 HB HN HY hbyte k0 k1 lp V1 E1 hb1
      go_wp2_with fail
      go_end0
      exact hf.out
    · exact ⟨rfl, HB.out _ V1 n1⟩
  · have g : (0 : Int) < (n : Int) := by omega
    go_enter Try.func13, Try.ntmps13
    go_wp2_with fail
    refine (H1.out).mono ?_
    rintro e w1 ⟨V1, (⟨b1, hb1, rfl, E1⟩ | ⟨n1, rfl⟩)⟩
    rotate_left
    · exact ⟨rfl, HB.out _ V1 n1⟩
    obtain ⟨A, c, F1, hc, hs, hfr, hns⟩ := HY.out w1 b1 hn hb1 V1 E1
    have rp := V1.row hnp.out hrow.out
    replace hs : Hid (∀ (W2 : World) (d2 : List Int), Ew B (fun k => P k ∨ (w.heap.size ≤ k ∧ k < w1.heap.size)) q W2 d2 → Wr (Sq B (fun k => P k ∨ (w.heap.size ≤ k ∧ k < w1.heap.size)) q) w1 W2 → W2.cell? ⟨w.heap.size + 1, 0, none⟩ = some (.slice A b1.length c) ∧ Calls Try.prog 26 #[.pointer (some ⟨q, 0, none⟩), .slice A b1.length c] W2 (Pt B (fun k => P k ∨ (w.heap.size ≤ k ∧ k < w1.heap.size)) q W2 d2 (eZ (some b1)) (.tuple #[]))) := hs
    replace hfr : Hid (∀ (r : Value) (e : Ending) (w' : World), Pt B (fun k => P k ∨ (w.heap.size ≤ k ∧ k < w1.heap.size)) q w1 d (oB (eC 5) (eZ (some b1))) r e w' → Pt B P q w d os r e w') := hfr
    have k0 : w1.cell? ⟨w.heap.size, 0, none⟩ = some (.int .i64 5) := rp.cell (i := 0) (by decide)
    have lp := cell_lt k0
    have hbb := hbyte.out _ _ _ F1
    replace hbb : Hid (Calls Try.prog 25 #[.pointer (some ⟨q, 0, none⟩), .int .i64 5] w1 (Pt B (fun k => P k ∨ (w.heap.size ≤ k ∧ k < w1.heap.size)) q w1 d (eC 5) (.tuple #[]))) := hbb
    clear H1 HB HN HY hbyte V1 E1 hb1 rp F1 hc hns hW1
    generalize eZ (some b1) = oz at *
    generalize eC 5 = oc at *
    generalize b1.length = n1 at *
    go_wp2_with fail
    refine (hbb.out).mono ?_
    clear hbb k0 lp
    rintro e w2 ⟨V2, (⟨b2, hb2, rfl, E2⟩ | ⟨n2, rfl⟩)⟩
    rotate_left
    · exact ⟨rfl, hfr.out _ _ _ (Pt.stop V2 n2)⟩
    obtain ⟨hc, hz⟩ := hs.out w2 _ E2 V2
    have l3 := cell_lt hc
    replace hz : Hid (Calls Try.prog 26 #[.pointer (some ⟨q, 0, none⟩), .slice A n1 c] w2 (Pt B (fun k => P k ∨ (w.heap.size ≤ k ∧ k < w1.heap.size)) q w2 (d ++ b2) oz (.tuple #[]))) := hz
    replace V2 : Hid _ := V2
    replace hb2 : Hid (oc = some b2) := hb2
    clear hs E2
    go_wp2_with fail
    refine (hz.out).mono ?_
    clear hz hc l3
    rintro e w3 h3
    have hf : Hid (Pt B P q w d os (.tuple #[]) e w3) := hfr.out _ _ _ (Pt.next hb2.out V2.out h3)
    rcases h3 with ⟨V3, (⟨b3, hb3, rfl, E3⟩ | ⟨n3, rfl⟩)⟩
    · clear V3 hb3 E3 hfr V2 hb2
      go_wp2_with fail
      go_end0
      exact hf.out
    · exact ⟨rfl, hf.out⟩
theorem s_globals (hM : Mo Z w mb m) (hZ : ∀ k, Z k → k < w.heap.size) (hb : MdB m) (h : Ew B P q w d) :
    Calls Try.prog 13 #[.pointer (some ⟨q, 0, none⟩), .agg #[.int .i64 6, .func (.func 19) #[] #[]], .pointer (some ⟨mb, 0, none⟩)] w (Pt B P q w d (eS 6 (m.gl.length) (eL 1024 eGl m.gl)) (.tuple #[])) := by
  have hl1 : Later w ((w.alloc (.cells #[.int .i64 6, .func (.func 19) #[] #[]] 71)).alloc (.cells #[.slice none 0 0] 65)) := La (La (Lz _))
  have I0 : Ew (w.heap.size + 1 + 1) (fun _ => False) (w.heap.size + 1) ((w.alloc (.cells #[.int .i64 6, .func (.func 19) #[] #[]] 71)).alloc (.cells #[.slice none 0 0] 65)) [] := start_at (by simp)
  have hrow : Hid (((w.alloc (.cells #[.int .i64 6, .func (.func 19) #[] #[]] 71)).alloc (.cells #[.slice none 0 0] 65)).rowIs w.heap.size 71 2 (fun j => [.int .i64 6, .func (.func 19) #[] #[]].getD j undef)) := rowIs_later (La (Lz _)) (row_new w 71 [.int .i64 6, .func (.func 19) #[] #[]])
  generalize hW1 : ((w.alloc (.cells #[.int .i64 6, .func (.func 19) #[] #[]] 71)).alloc (.cells #[.slice none 0 0] 65)) = W1 at *
  have H1 : Hid (Calls Try.prog 19 #[.pointer (some ⟨w.heap.size + 1, 0, none⟩), .pointer (some ⟨mb, 0, none⟩)] W1 (Pt (w.heap.size + 1 + 1) (fun _ => False) (w.heap.size + 1) W1 [] (eL 1024 eGl m.gl) (.int .i64 ((m.gl.length : Nat) : Int)))) := c_globals (hM.later hl1) (fun k hk _ x => by have := hk.2; rcases x with x | x; omega; (have := x.1; omega)) hb I0
  have hby : Hid (∀ b, eL 1024 eGl m.gl = some b → ∀ x ∈ b, 0 ≤ x ∧ x < 256) := by_eL 1024 by_eGl m.gl
  have hnil : m.gl.length = 0 → Fit [] (eL 1024 eGl m.gl) := fun hx => el_nil hx
  have HB : Hid (∀ (W : World), Wr (Sq (w.heap.size + 1 + 1) (fun _ => False) (w.heap.size + 1)) W1 W → ¬ Fit [] (eL 1024 eGl m.gl) → Pt B P q w d (eS 6 (m.gl.length) (eL 1024 eGl m.gl)) (.tuple #[]) thn W) := fun W V n => Pt.bad (sq_later (inner_later hl1 (by omega) V)) (fit_sec hnil n)
  have HN : Hid (∀ (W : World) (b : List Int), m.gl.length = 0 → eL 1024 eGl m.gl = some b → Wr (Sq (w.heap.size + 1 + 1) (fun _ => False) (w.heap.size + 1)) W1 W → Pt B P q w d (eS 6 (m.gl.length) (eL 1024 eGl m.gl)) (.tuple #[]) (.returned (.tuple #[])) W) := fun W b hn hb V => by
    have hL := inner_later hl1 (by omega) V
    refine ⟨sq_later hL, Or.inl ⟨[], ?_, rfl, by rw [List.append_nil]; exact h.later hL⟩⟩
    rw [hb]
    exact if_pos hn
  have HY : Hid (∀ (w1 : World) (b : List Int), ¬ m.gl.length = 0 → eL 1024 eGl m.gl = some b → Wr (Sq (w.heap.size + 1 + 1) (fun _ => False) (w.heap.size + 1)) W1 w1 → Ew (w.heap.size + 1 + 1) (fun _ => False) (w.heap.size + 1) w1 b →
      ∃ A c, Ew B (fun k => P k ∨ (w.heap.size ≤ k ∧ k < w1.heap.size)) q w1 d ∧ w1.cell? ⟨w.heap.size + 1, 0, none⟩ = some (.slice A b.length c) ∧ (∀ (W2 : World) (d2 : List Int), Ew B (fun k => P k ∨ (w.heap.size ≤ k ∧ k < w1.heap.size)) q W2 d2 → Wr (Sq B (fun k => P k ∨ (w.heap.size ≤ k ∧ k < w1.heap.size)) q) w1 W2 → W2.cell? ⟨w.heap.size + 1, 0, none⟩ = some (.slice A b.length c) ∧ Calls Try.prog 26 #[.pointer (some ⟨q, 0, none⟩), .slice A b.length c] W2 (Pt B (fun k => P k ∨ (w.heap.size ≤ k ∧ k < w1.heap.size)) q W2 d2 (eZ (some b)) (.tuple #[]))) ∧
        (∀ (r : Value) (e : Ending) (w' : World), Pt B (fun k => P k ∨ (w.heap.size ≤ k ∧ k < w1.heap.size)) q w1 d (oB (eC 6) (eZ (some b))) r e w' → Pt B P q w d (eS 6 (m.gl.length) (eL 1024 eGl m.gl)) r e w') ∧ ¬ Sq B (fun k => P k ∨ (w.heap.size ≤ k ∧ k < w1.heap.size)) q w.heap.size) := fun w1 b hn hb V I => by
    have hL := inner_later hl1 (by omega) V
    obtain ⟨A, c, hc, hs⟩ := sized_inner h hl1 (by omega) V I (el_ne hb) (hby.out b hb)
    refine ⟨A, c, h.with_new hL, hc, hs, fun r e w' hp => ?_, fun x => ?_⟩
    · rw [hb, es_two hn]
      exact (hp.drop (fun k hk => Or.inl hk)).ahead (sq_later hL)
    · have := h.lt_q
      have h2 : w.heap.size < w1.heap.size := by
        have a := hL.size
        have b := V.size
        have c : W1.heap.size = w.heap.size + 2 := by rw [← hW1]; simp
        omega
      rcases x with x | x
      · omega
      · exact x.2 (Or.inr ⟨Nat.le_refl _, h2⟩)
  have hbyte : Hid (∀ (Q : Nat → Prop) (W : World) (d : List Int), Ew B Q q W d → Calls Try.prog 25 #[.pointer (some ⟨q, 0, none⟩), .int .i64 6] W (Pt B Q q W d (eC 6) (.tuple #[]))) := fun Q W d h => byte_any 6 (by decide) h
  have hnp : Hid (¬ Sq (w.heap.size + 1 + 1) (fun _ => False) (w.heap.size + 1) w.heap.size) := fun y => by rcases y with y | y; omega; (have := y.1; omega)
  clear hM hZ hb h hl1 hnil hby I0
  generalize eS 6 (m.gl.length) (eL 1024 eGl m.gl) = os at *
  generalize eL 1024 eGl m.gl = o at *
  generalize m.gl.length = n at *
  have k0 : W1.cell? ⟨w.heap.size, 0, none⟩ = some (.int .i64 6) := hrow.out.cell (i := 0) (by decide)
  have k1 : W1.cell? ⟨w.heap.size, 1, none⟩ = some (.func (.func 19) #[] #[]) := hrow.out.cell (i := 1) (by decide)
  have lp := cell_lt k0
  by_cases hn : n = 0
  · have g : ¬ (0 : Int) < (n : Int) := by omega
    go_enter Try.func13, Try.ntmps13
    go_wp2_with fail
    refine (H1.out).mono ?_
    rintro e w1 ⟨V1, (⟨b1, hb1, rfl, E1⟩ | ⟨n1, rfl⟩)⟩
    · have hf : Hid (Pt B P q w d os (.tuple #[]) (.returned (.tuple #[])) w1) := HN.out w1 b1 hn hb1 V1
      clear H1 HB HN HY hbyte k0 k1 lp V1 E1 hb1
      go_wp2_with fail
      go_end0
      exact hf.out
    · exact ⟨rfl, HB.out _ V1 n1⟩
  · have g : (0 : Int) < (n : Int) := by omega
    go_enter Try.func13, Try.ntmps13
    go_wp2_with fail
    refine (H1.out).mono ?_
    rintro e w1 ⟨V1, (⟨b1, hb1, rfl, E1⟩ | ⟨n1, rfl⟩)⟩
    rotate_left
    · exact ⟨rfl, HB.out _ V1 n1⟩
    obtain ⟨A, c, F1, hc, hs, hfr, hns⟩ := HY.out w1 b1 hn hb1 V1 E1
    have rp := V1.row hnp.out hrow.out
    replace hs : Hid (∀ (W2 : World) (d2 : List Int), Ew B (fun k => P k ∨ (w.heap.size ≤ k ∧ k < w1.heap.size)) q W2 d2 → Wr (Sq B (fun k => P k ∨ (w.heap.size ≤ k ∧ k < w1.heap.size)) q) w1 W2 → W2.cell? ⟨w.heap.size + 1, 0, none⟩ = some (.slice A b1.length c) ∧ Calls Try.prog 26 #[.pointer (some ⟨q, 0, none⟩), .slice A b1.length c] W2 (Pt B (fun k => P k ∨ (w.heap.size ≤ k ∧ k < w1.heap.size)) q W2 d2 (eZ (some b1)) (.tuple #[]))) := hs
    replace hfr : Hid (∀ (r : Value) (e : Ending) (w' : World), Pt B (fun k => P k ∨ (w.heap.size ≤ k ∧ k < w1.heap.size)) q w1 d (oB (eC 6) (eZ (some b1))) r e w' → Pt B P q w d os r e w') := hfr
    have k0 : w1.cell? ⟨w.heap.size, 0, none⟩ = some (.int .i64 6) := rp.cell (i := 0) (by decide)
    have lp := cell_lt k0
    have hbb := hbyte.out _ _ _ F1
    replace hbb : Hid (Calls Try.prog 25 #[.pointer (some ⟨q, 0, none⟩), .int .i64 6] w1 (Pt B (fun k => P k ∨ (w.heap.size ≤ k ∧ k < w1.heap.size)) q w1 d (eC 6) (.tuple #[]))) := hbb
    clear H1 HB HN HY hbyte V1 E1 hb1 rp F1 hc hns hW1
    generalize eZ (some b1) = oz at *
    generalize eC 6 = oc at *
    generalize b1.length = n1 at *
    go_wp2_with fail
    refine (hbb.out).mono ?_
    clear hbb k0 lp
    rintro e w2 ⟨V2, (⟨b2, hb2, rfl, E2⟩ | ⟨n2, rfl⟩)⟩
    rotate_left
    · exact ⟨rfl, hfr.out _ _ _ (Pt.stop V2 n2)⟩
    obtain ⟨hc, hz⟩ := hs.out w2 _ E2 V2
    have l3 := cell_lt hc
    replace hz : Hid (Calls Try.prog 26 #[.pointer (some ⟨q, 0, none⟩), .slice A n1 c] w2 (Pt B (fun k => P k ∨ (w.heap.size ≤ k ∧ k < w1.heap.size)) q w2 (d ++ b2) oz (.tuple #[]))) := hz
    replace V2 : Hid _ := V2
    replace hb2 : Hid (oc = some b2) := hb2
    clear hs E2
    go_wp2_with fail
    refine (hz.out).mono ?_
    clear hz hc l3
    rintro e w3 h3
    have hf : Hid (Pt B P q w d os (.tuple #[]) e w3) := hfr.out _ _ _ (Pt.next hb2.out V2.out h3)
    rcases h3 with ⟨V3, (⟨b3, hb3, rfl, E3⟩ | ⟨n3, rfl⟩)⟩
    · clear V3 hb3 E3 hfr V2 hb2
      go_wp2_with fail
      go_end0
      exact hf.out
    · exact ⟨rfl, hf.out⟩
theorem s_exports (hM : Mo Z w mb m) (hZ : ∀ k, Z k → k < w.heap.size) (hb : MdB m) (h : Ew B P q w d) :
    Calls Try.prog 13 #[.pointer (some ⟨q, 0, none⟩), .agg #[.int .i64 7, .func (.func 20) #[] #[]], .pointer (some ⟨mb, 0, none⟩)] w (Pt B P q w d (eS 7 (m.ex.length) (eL 1024 eEx m.ex)) (.tuple #[])) := by
  have hl1 : Later w ((w.alloc (.cells #[.int .i64 7, .func (.func 20) #[] #[]] 71)).alloc (.cells #[.slice none 0 0] 65)) := La (La (Lz _))
  have I0 : Ew (w.heap.size + 1 + 1) (fun _ => False) (w.heap.size + 1) ((w.alloc (.cells #[.int .i64 7, .func (.func 20) #[] #[]] 71)).alloc (.cells #[.slice none 0 0] 65)) [] := start_at (by simp)
  have hrow : Hid (((w.alloc (.cells #[.int .i64 7, .func (.func 20) #[] #[]] 71)).alloc (.cells #[.slice none 0 0] 65)).rowIs w.heap.size 71 2 (fun j => [.int .i64 7, .func (.func 20) #[] #[]].getD j undef)) := rowIs_later (La (Lz _)) (row_new w 71 [.int .i64 7, .func (.func 20) #[] #[]])
  generalize hW1 : ((w.alloc (.cells #[.int .i64 7, .func (.func 20) #[] #[]] 71)).alloc (.cells #[.slice none 0 0] 65)) = W1 at *
  have H1 : Hid (Calls Try.prog 20 #[.pointer (some ⟨w.heap.size + 1, 0, none⟩), .pointer (some ⟨mb, 0, none⟩)] W1 (Pt (w.heap.size + 1 + 1) (fun _ => False) (w.heap.size + 1) W1 [] (eL 1024 eEx m.ex) (.int .i64 ((m.ex.length : Nat) : Int)))) := c_exports (hM.later hl1) (fun k hk _ x => by have := hk.2; rcases x with x | x; omega; (have := x.1; omega)) hb I0
  have hby : Hid (∀ b, eL 1024 eEx m.ex = some b → ∀ x ∈ b, 0 ≤ x ∧ x < 256) := by_eL 1024 by_eEx m.ex
  have hnil : m.ex.length = 0 → Fit [] (eL 1024 eEx m.ex) := fun hx => el_nil hx
  have HB : Hid (∀ (W : World), Wr (Sq (w.heap.size + 1 + 1) (fun _ => False) (w.heap.size + 1)) W1 W → ¬ Fit [] (eL 1024 eEx m.ex) → Pt B P q w d (eS 7 (m.ex.length) (eL 1024 eEx m.ex)) (.tuple #[]) thn W) := fun W V n => Pt.bad (sq_later (inner_later hl1 (by omega) V)) (fit_sec hnil n)
  have HN : Hid (∀ (W : World) (b : List Int), m.ex.length = 0 → eL 1024 eEx m.ex = some b → Wr (Sq (w.heap.size + 1 + 1) (fun _ => False) (w.heap.size + 1)) W1 W → Pt B P q w d (eS 7 (m.ex.length) (eL 1024 eEx m.ex)) (.tuple #[]) (.returned (.tuple #[])) W) := fun W b hn hb V => by
    have hL := inner_later hl1 (by omega) V
    refine ⟨sq_later hL, Or.inl ⟨[], ?_, rfl, by rw [List.append_nil]; exact h.later hL⟩⟩
    rw [hb]
    exact if_pos hn
  have HY : Hid (∀ (w1 : World) (b : List Int), ¬ m.ex.length = 0 → eL 1024 eEx m.ex = some b → Wr (Sq (w.heap.size + 1 + 1) (fun _ => False) (w.heap.size + 1)) W1 w1 → Ew (w.heap.size + 1 + 1) (fun _ => False) (w.heap.size + 1) w1 b →
      ∃ A c, Ew B (fun k => P k ∨ (w.heap.size ≤ k ∧ k < w1.heap.size)) q w1 d ∧ w1.cell? ⟨w.heap.size + 1, 0, none⟩ = some (.slice A b.length c) ∧ (∀ (W2 : World) (d2 : List Int), Ew B (fun k => P k ∨ (w.heap.size ≤ k ∧ k < w1.heap.size)) q W2 d2 → Wr (Sq B (fun k => P k ∨ (w.heap.size ≤ k ∧ k < w1.heap.size)) q) w1 W2 → W2.cell? ⟨w.heap.size + 1, 0, none⟩ = some (.slice A b.length c) ∧ Calls Try.prog 26 #[.pointer (some ⟨q, 0, none⟩), .slice A b.length c] W2 (Pt B (fun k => P k ∨ (w.heap.size ≤ k ∧ k < w1.heap.size)) q W2 d2 (eZ (some b)) (.tuple #[]))) ∧
        (∀ (r : Value) (e : Ending) (w' : World), Pt B (fun k => P k ∨ (w.heap.size ≤ k ∧ k < w1.heap.size)) q w1 d (oB (eC 7) (eZ (some b))) r e w' → Pt B P q w d (eS 7 (m.ex.length) (eL 1024 eEx m.ex)) r e w') ∧ ¬ Sq B (fun k => P k ∨ (w.heap.size ≤ k ∧ k < w1.heap.size)) q w.heap.size) := fun w1 b hn hb V I => by
    have hL := inner_later hl1 (by omega) V
    obtain ⟨A, c, hc, hs⟩ := sized_inner h hl1 (by omega) V I (el_ne hb) (hby.out b hb)
    refine ⟨A, c, h.with_new hL, hc, hs, fun r e w' hp => ?_, fun x => ?_⟩
    · rw [hb, es_two hn]
      exact (hp.drop (fun k hk => Or.inl hk)).ahead (sq_later hL)
    · have := h.lt_q
      have h2 : w.heap.size < w1.heap.size := by
        have a := hL.size
        have b := V.size
        have c : W1.heap.size = w.heap.size + 2 := by rw [← hW1]; simp
        omega
      rcases x with x | x
      · omega
      · exact x.2 (Or.inr ⟨Nat.le_refl _, h2⟩)
  have hbyte : Hid (∀ (Q : Nat → Prop) (W : World) (d : List Int), Ew B Q q W d → Calls Try.prog 25 #[.pointer (some ⟨q, 0, none⟩), .int .i64 7] W (Pt B Q q W d (eC 7) (.tuple #[]))) := fun Q W d h => byte_any 7 (by decide) h
  have hnp : Hid (¬ Sq (w.heap.size + 1 + 1) (fun _ => False) (w.heap.size + 1) w.heap.size) := fun y => by rcases y with y | y; omega; (have := y.1; omega)
  clear hM hZ hb h hl1 hnil hby I0
  generalize eS 7 (m.ex.length) (eL 1024 eEx m.ex) = os at *
  generalize eL 1024 eEx m.ex = o at *
  generalize m.ex.length = n at *
  have k0 : W1.cell? ⟨w.heap.size, 0, none⟩ = some (.int .i64 7) := hrow.out.cell (i := 0) (by decide)
  have k1 : W1.cell? ⟨w.heap.size, 1, none⟩ = some (.func (.func 20) #[] #[]) := hrow.out.cell (i := 1) (by decide)
  have lp := cell_lt k0
  by_cases hn : n = 0
  · have g : ¬ (0 : Int) < (n : Int) := by omega
    go_enter Try.func13, Try.ntmps13
    go_wp2_with fail
    refine (H1.out).mono ?_
    rintro e w1 ⟨V1, (⟨b1, hb1, rfl, E1⟩ | ⟨n1, rfl⟩)⟩
    · have hf : Hid (Pt B P q w d os (.tuple #[]) (.returned (.tuple #[])) w1) := HN.out w1 b1 hn hb1 V1
      clear H1 HB HN HY hbyte k0 k1 lp V1 E1 hb1
      go_wp2_with fail
      go_end0
      exact hf.out
    · exact ⟨rfl, HB.out _ V1 n1⟩
  · have g : (0 : Int) < (n : Int) := by omega
    go_enter Try.func13, Try.ntmps13
    go_wp2_with fail
    refine (H1.out).mono ?_
    rintro e w1 ⟨V1, (⟨b1, hb1, rfl, E1⟩ | ⟨n1, rfl⟩)⟩
    rotate_left
    · exact ⟨rfl, HB.out _ V1 n1⟩
    obtain ⟨A, c, F1, hc, hs, hfr, hns⟩ := HY.out w1 b1 hn hb1 V1 E1
    have rp := V1.row hnp.out hrow.out
    replace hs : Hid (∀ (W2 : World) (d2 : List Int), Ew B (fun k => P k ∨ (w.heap.size ≤ k ∧ k < w1.heap.size)) q W2 d2 → Wr (Sq B (fun k => P k ∨ (w.heap.size ≤ k ∧ k < w1.heap.size)) q) w1 W2 → W2.cell? ⟨w.heap.size + 1, 0, none⟩ = some (.slice A b1.length c) ∧ Calls Try.prog 26 #[.pointer (some ⟨q, 0, none⟩), .slice A b1.length c] W2 (Pt B (fun k => P k ∨ (w.heap.size ≤ k ∧ k < w1.heap.size)) q W2 d2 (eZ (some b1)) (.tuple #[]))) := hs
    replace hfr : Hid (∀ (r : Value) (e : Ending) (w' : World), Pt B (fun k => P k ∨ (w.heap.size ≤ k ∧ k < w1.heap.size)) q w1 d (oB (eC 7) (eZ (some b1))) r e w' → Pt B P q w d os r e w') := hfr
    have k0 : w1.cell? ⟨w.heap.size, 0, none⟩ = some (.int .i64 7) := rp.cell (i := 0) (by decide)
    have lp := cell_lt k0
    have hbb := hbyte.out _ _ _ F1
    replace hbb : Hid (Calls Try.prog 25 #[.pointer (some ⟨q, 0, none⟩), .int .i64 7] w1 (Pt B (fun k => P k ∨ (w.heap.size ≤ k ∧ k < w1.heap.size)) q w1 d (eC 7) (.tuple #[]))) := hbb
    clear H1 HB HN HY hbyte V1 E1 hb1 rp F1 hc hns hW1
    generalize eZ (some b1) = oz at *
    generalize eC 7 = oc at *
    generalize b1.length = n1 at *
    go_wp2_with fail
    refine (hbb.out).mono ?_
    clear hbb k0 lp
    rintro e w2 ⟨V2, (⟨b2, hb2, rfl, E2⟩ | ⟨n2, rfl⟩)⟩
    rotate_left
    · exact ⟨rfl, hfr.out _ _ _ (Pt.stop V2 n2)⟩
    obtain ⟨hc, hz⟩ := hs.out w2 _ E2 V2
    have l3 := cell_lt hc
    replace hz : Hid (Calls Try.prog 26 #[.pointer (some ⟨q, 0, none⟩), .slice A n1 c] w2 (Pt B (fun k => P k ∨ (w.heap.size ≤ k ∧ k < w1.heap.size)) q w2 (d ++ b2) oz (.tuple #[]))) := hz
    replace V2 : Hid _ := V2
    replace hb2 : Hid (oc = some b2) := hb2
    clear hs E2
    go_wp2_with fail
    refine (hz.out).mono ?_
    clear hz hc l3
    rintro e w3 h3
    have hf : Hid (Pt B P q w d os (.tuple #[]) e w3) := hfr.out _ _ _ (Pt.next hb2.out V2.out h3)
    rcases h3 with ⟨V3, (⟨b3, hb3, rfl, E3⟩ | ⟨n3, rfl⟩)⟩
    · clear V3 hb3 E3 hfr V2 hb2
      go_wp2_with fail
      go_end0
      exact hf.out
    · exact ⟨rfl, hf.out⟩
theorem s_elems (hM : Mo Z w mb m) (hZ : ∀ k, Z k → k < w.heap.size) (hb : MdB m) (h : Ew B P q w d) :
    Calls Try.prog 13 #[.pointer (some ⟨q, 0, none⟩), .agg #[.int .i64 9, .func (.func 22) #[] #[]], .pointer (some ⟨mb, 0, none⟩)] w (Pt B P q w d (eS 9 (m.el.length) (eL 1024 eEl m.el)) (.tuple #[])) := by
  have hl1 : Later w ((w.alloc (.cells #[.int .i64 9, .func (.func 22) #[] #[]] 71)).alloc (.cells #[.slice none 0 0] 65)) := La (La (Lz _))
  have I0 : Ew (w.heap.size + 1 + 1) (fun _ => False) (w.heap.size + 1) ((w.alloc (.cells #[.int .i64 9, .func (.func 22) #[] #[]] 71)).alloc (.cells #[.slice none 0 0] 65)) [] := start_at (by simp)
  have hrow : Hid (((w.alloc (.cells #[.int .i64 9, .func (.func 22) #[] #[]] 71)).alloc (.cells #[.slice none 0 0] 65)).rowIs w.heap.size 71 2 (fun j => [.int .i64 9, .func (.func 22) #[] #[]].getD j undef)) := rowIs_later (La (Lz _)) (row_new w 71 [.int .i64 9, .func (.func 22) #[] #[]])
  generalize hW1 : ((w.alloc (.cells #[.int .i64 9, .func (.func 22) #[] #[]] 71)).alloc (.cells #[.slice none 0 0] 65)) = W1 at *
  have H1 : Hid (Calls Try.prog 22 #[.pointer (some ⟨w.heap.size + 1, 0, none⟩), .pointer (some ⟨mb, 0, none⟩)] W1 (Pt (w.heap.size + 1 + 1) (fun _ => False) (w.heap.size + 1) W1 [] (eL 1024 eEl m.el) (.int .i64 ((m.el.length : Nat) : Int)))) := c_elems (hM.later hl1) (fun k hk _ x => by have := hk.2; rcases x with x | x; omega; (have := x.1; omega)) hb I0
  have hby : Hid (∀ b, eL 1024 eEl m.el = some b → ∀ x ∈ b, 0 ≤ x ∧ x < 256) := by_eL 1024 by_eEl m.el
  have hnil : m.el.length = 0 → Fit [] (eL 1024 eEl m.el) := fun hx => el_nil hx
  have HB : Hid (∀ (W : World), Wr (Sq (w.heap.size + 1 + 1) (fun _ => False) (w.heap.size + 1)) W1 W → ¬ Fit [] (eL 1024 eEl m.el) → Pt B P q w d (eS 9 (m.el.length) (eL 1024 eEl m.el)) (.tuple #[]) thn W) := fun W V n => Pt.bad (sq_later (inner_later hl1 (by omega) V)) (fit_sec hnil n)
  have HN : Hid (∀ (W : World) (b : List Int), m.el.length = 0 → eL 1024 eEl m.el = some b → Wr (Sq (w.heap.size + 1 + 1) (fun _ => False) (w.heap.size + 1)) W1 W → Pt B P q w d (eS 9 (m.el.length) (eL 1024 eEl m.el)) (.tuple #[]) (.returned (.tuple #[])) W) := fun W b hn hb V => by
    have hL := inner_later hl1 (by omega) V
    refine ⟨sq_later hL, Or.inl ⟨[], ?_, rfl, by rw [List.append_nil]; exact h.later hL⟩⟩
    rw [hb]
    exact if_pos hn
  have HY : Hid (∀ (w1 : World) (b : List Int), ¬ m.el.length = 0 → eL 1024 eEl m.el = some b → Wr (Sq (w.heap.size + 1 + 1) (fun _ => False) (w.heap.size + 1)) W1 w1 → Ew (w.heap.size + 1 + 1) (fun _ => False) (w.heap.size + 1) w1 b →
      ∃ A c, Ew B (fun k => P k ∨ (w.heap.size ≤ k ∧ k < w1.heap.size)) q w1 d ∧ w1.cell? ⟨w.heap.size + 1, 0, none⟩ = some (.slice A b.length c) ∧ (∀ (W2 : World) (d2 : List Int), Ew B (fun k => P k ∨ (w.heap.size ≤ k ∧ k < w1.heap.size)) q W2 d2 → Wr (Sq B (fun k => P k ∨ (w.heap.size ≤ k ∧ k < w1.heap.size)) q) w1 W2 → W2.cell? ⟨w.heap.size + 1, 0, none⟩ = some (.slice A b.length c) ∧ Calls Try.prog 26 #[.pointer (some ⟨q, 0, none⟩), .slice A b.length c] W2 (Pt B (fun k => P k ∨ (w.heap.size ≤ k ∧ k < w1.heap.size)) q W2 d2 (eZ (some b)) (.tuple #[]))) ∧
        (∀ (r : Value) (e : Ending) (w' : World), Pt B (fun k => P k ∨ (w.heap.size ≤ k ∧ k < w1.heap.size)) q w1 d (oB (eC 9) (eZ (some b))) r e w' → Pt B P q w d (eS 9 (m.el.length) (eL 1024 eEl m.el)) r e w') ∧ ¬ Sq B (fun k => P k ∨ (w.heap.size ≤ k ∧ k < w1.heap.size)) q w.heap.size) := fun w1 b hn hb V I => by
    have hL := inner_later hl1 (by omega) V
    obtain ⟨A, c, hc, hs⟩ := sized_inner h hl1 (by omega) V I (el_ne hb) (hby.out b hb)
    refine ⟨A, c, h.with_new hL, hc, hs, fun r e w' hp => ?_, fun x => ?_⟩
    · rw [hb, es_two hn]
      exact (hp.drop (fun k hk => Or.inl hk)).ahead (sq_later hL)
    · have := h.lt_q
      have h2 : w.heap.size < w1.heap.size := by
        have a := hL.size
        have b := V.size
        have c : W1.heap.size = w.heap.size + 2 := by rw [← hW1]; simp
        omega
      rcases x with x | x
      · omega
      · exact x.2 (Or.inr ⟨Nat.le_refl _, h2⟩)
  have hbyte : Hid (∀ (Q : Nat → Prop) (W : World) (d : List Int), Ew B Q q W d → Calls Try.prog 25 #[.pointer (some ⟨q, 0, none⟩), .int .i64 9] W (Pt B Q q W d (eC 9) (.tuple #[]))) := fun Q W d h => byte_any 9 (by decide) h
  have hnp : Hid (¬ Sq (w.heap.size + 1 + 1) (fun _ => False) (w.heap.size + 1) w.heap.size) := fun y => by rcases y with y | y; omega; (have := y.1; omega)
  clear hM hZ hb h hl1 hnil hby I0
  generalize eS 9 (m.el.length) (eL 1024 eEl m.el) = os at *
  generalize eL 1024 eEl m.el = o at *
  generalize m.el.length = n at *
  have k0 : W1.cell? ⟨w.heap.size, 0, none⟩ = some (.int .i64 9) := hrow.out.cell (i := 0) (by decide)
  have k1 : W1.cell? ⟨w.heap.size, 1, none⟩ = some (.func (.func 22) #[] #[]) := hrow.out.cell (i := 1) (by decide)
  have lp := cell_lt k0
  by_cases hn : n = 0
  · have g : ¬ (0 : Int) < (n : Int) := by omega
    go_enter Try.func13, Try.ntmps13
    go_wp2_with fail
    refine (H1.out).mono ?_
    rintro e w1 ⟨V1, (⟨b1, hb1, rfl, E1⟩ | ⟨n1, rfl⟩)⟩
    · have hf : Hid (Pt B P q w d os (.tuple #[]) (.returned (.tuple #[])) w1) := HN.out w1 b1 hn hb1 V1
      clear H1 HB HN HY hbyte k0 k1 lp V1 E1 hb1
      go_wp2_with fail
      go_end0
      exact hf.out
    · exact ⟨rfl, HB.out _ V1 n1⟩
  · have g : (0 : Int) < (n : Int) := by omega
    go_enter Try.func13, Try.ntmps13
    go_wp2_with fail
    refine (H1.out).mono ?_
    rintro e w1 ⟨V1, (⟨b1, hb1, rfl, E1⟩ | ⟨n1, rfl⟩)⟩
    rotate_left
    · exact ⟨rfl, HB.out _ V1 n1⟩
    obtain ⟨A, c, F1, hc, hs, hfr, hns⟩ := HY.out w1 b1 hn hb1 V1 E1
    have rp := V1.row hnp.out hrow.out
    replace hs : Hid (∀ (W2 : World) (d2 : List Int), Ew B (fun k => P k ∨ (w.heap.size ≤ k ∧ k < w1.heap.size)) q W2 d2 → Wr (Sq B (fun k => P k ∨ (w.heap.size ≤ k ∧ k < w1.heap.size)) q) w1 W2 → W2.cell? ⟨w.heap.size + 1, 0, none⟩ = some (.slice A b1.length c) ∧ Calls Try.prog 26 #[.pointer (some ⟨q, 0, none⟩), .slice A b1.length c] W2 (Pt B (fun k => P k ∨ (w.heap.size ≤ k ∧ k < w1.heap.size)) q W2 d2 (eZ (some b1)) (.tuple #[]))) := hs
    replace hfr : Hid (∀ (r : Value) (e : Ending) (w' : World), Pt B (fun k => P k ∨ (w.heap.size ≤ k ∧ k < w1.heap.size)) q w1 d (oB (eC 9) (eZ (some b1))) r e w' → Pt B P q w d os r e w') := hfr
    have k0 : w1.cell? ⟨w.heap.size, 0, none⟩ = some (.int .i64 9) := rp.cell (i := 0) (by decide)
    have lp := cell_lt k0
    have hbb := hbyte.out _ _ _ F1
    replace hbb : Hid (Calls Try.prog 25 #[.pointer (some ⟨q, 0, none⟩), .int .i64 9] w1 (Pt B (fun k => P k ∨ (w.heap.size ≤ k ∧ k < w1.heap.size)) q w1 d (eC 9) (.tuple #[]))) := hbb
    clear H1 HB HN HY hbyte V1 E1 hb1 rp F1 hc hns hW1
    generalize eZ (some b1) = oz at *
    generalize eC 9 = oc at *
    generalize b1.length = n1 at *
    go_wp2_with fail
    refine (hbb.out).mono ?_
    clear hbb k0 lp
    rintro e w2 ⟨V2, (⟨b2, hb2, rfl, E2⟩ | ⟨n2, rfl⟩)⟩
    rotate_left
    · exact ⟨rfl, hfr.out _ _ _ (Pt.stop V2 n2)⟩
    obtain ⟨hc, hz⟩ := hs.out w2 _ E2 V2
    have l3 := cell_lt hc
    replace hz : Hid (Calls Try.prog 26 #[.pointer (some ⟨q, 0, none⟩), .slice A n1 c] w2 (Pt B (fun k => P k ∨ (w.heap.size ≤ k ∧ k < w1.heap.size)) q w2 (d ++ b2) oz (.tuple #[]))) := hz
    replace V2 : Hid _ := V2
    replace hb2 : Hid (oc = some b2) := hb2
    clear hs E2
    go_wp2_with fail
    refine (hz.out).mono ?_
    clear hz hc l3
    rintro e w3 h3
    have hf : Hid (Pt B P q w d os (.tuple #[]) e w3) := hfr.out _ _ _ (Pt.next hb2.out V2.out h3)
    rcases h3 with ⟨V3, (⟨b3, hb3, rfl, E3⟩ | ⟨n3, rfl⟩)⟩
    · clear V3 hb3 E3 hfr V2 hb2
      go_wp2_with fail
      go_end0
      exact hf.out
    · exact ⟨rfl, hf.out⟩
theorem s_codes (hM : Mo Z w mb m) (hZ : ∀ k, Z k → k < w.heap.size) (hb : MdB m) (h : Ew B P q w d) :
    Calls Try.prog 13 #[.pointer (some ⟨q, 0, none⟩), .agg #[.int .i64 10, .func (.func 23) #[] #[]], .pointer (some ⟨mb, 0, none⟩)] w (Pt B P q w d (eS 10 (m.co.length) (eL 256 eCo m.co)) (.tuple #[])) := by
  have hl1 : Later w ((w.alloc (.cells #[.int .i64 10, .func (.func 23) #[] #[]] 71)).alloc (.cells #[.slice none 0 0] 65)) := La (La (Lz _))
  have I0 : Ew (w.heap.size + 1 + 1) (fun _ => False) (w.heap.size + 1) ((w.alloc (.cells #[.int .i64 10, .func (.func 23) #[] #[]] 71)).alloc (.cells #[.slice none 0 0] 65)) [] := start_at (by simp)
  have hrow : Hid (((w.alloc (.cells #[.int .i64 10, .func (.func 23) #[] #[]] 71)).alloc (.cells #[.slice none 0 0] 65)).rowIs w.heap.size 71 2 (fun j => [.int .i64 10, .func (.func 23) #[] #[]].getD j undef)) := rowIs_later (La (Lz _)) (row_new w 71 [.int .i64 10, .func (.func 23) #[] #[]])
  generalize hW1 : ((w.alloc (.cells #[.int .i64 10, .func (.func 23) #[] #[]] 71)).alloc (.cells #[.slice none 0 0] 65)) = W1 at *
  have H1 : Hid (Calls Try.prog 23 #[.pointer (some ⟨w.heap.size + 1, 0, none⟩), .pointer (some ⟨mb, 0, none⟩)] W1 (Pt (w.heap.size + 1 + 1) (fun _ => False) (w.heap.size + 1) W1 [] (eL 256 eCo m.co) (.int .i64 ((m.co.length : Nat) : Int)))) := c_codes (hM.later hl1) (fun k hk _ x => by have := hk.2; rcases x with x | x; omega; (have := x.1; omega)) hb I0
  have hby : Hid (∀ b, eL 256 eCo m.co = some b → ∀ x ∈ b, 0 ≤ x ∧ x < 256) := by_eL 256 by_eCo m.co
  have hnil : m.co.length = 0 → Fit [] (eL 256 eCo m.co) := fun hx => el_nil hx
  have HB : Hid (∀ (W : World), Wr (Sq (w.heap.size + 1 + 1) (fun _ => False) (w.heap.size + 1)) W1 W → ¬ Fit [] (eL 256 eCo m.co) → Pt B P q w d (eS 10 (m.co.length) (eL 256 eCo m.co)) (.tuple #[]) thn W) := fun W V n => Pt.bad (sq_later (inner_later hl1 (by omega) V)) (fit_sec hnil n)
  have HN : Hid (∀ (W : World) (b : List Int), m.co.length = 0 → eL 256 eCo m.co = some b → Wr (Sq (w.heap.size + 1 + 1) (fun _ => False) (w.heap.size + 1)) W1 W → Pt B P q w d (eS 10 (m.co.length) (eL 256 eCo m.co)) (.tuple #[]) (.returned (.tuple #[])) W) := fun W b hn hb V => by
    have hL := inner_later hl1 (by omega) V
    refine ⟨sq_later hL, Or.inl ⟨[], ?_, rfl, by rw [List.append_nil]; exact h.later hL⟩⟩
    rw [hb]
    exact if_pos hn
  have HY : Hid (∀ (w1 : World) (b : List Int), ¬ m.co.length = 0 → eL 256 eCo m.co = some b → Wr (Sq (w.heap.size + 1 + 1) (fun _ => False) (w.heap.size + 1)) W1 w1 → Ew (w.heap.size + 1 + 1) (fun _ => False) (w.heap.size + 1) w1 b →
      ∃ A c, Ew B (fun k => P k ∨ (w.heap.size ≤ k ∧ k < w1.heap.size)) q w1 d ∧ w1.cell? ⟨w.heap.size + 1, 0, none⟩ = some (.slice A b.length c) ∧ (∀ (W2 : World) (d2 : List Int), Ew B (fun k => P k ∨ (w.heap.size ≤ k ∧ k < w1.heap.size)) q W2 d2 → Wr (Sq B (fun k => P k ∨ (w.heap.size ≤ k ∧ k < w1.heap.size)) q) w1 W2 → W2.cell? ⟨w.heap.size + 1, 0, none⟩ = some (.slice A b.length c) ∧ Calls Try.prog 26 #[.pointer (some ⟨q, 0, none⟩), .slice A b.length c] W2 (Pt B (fun k => P k ∨ (w.heap.size ≤ k ∧ k < w1.heap.size)) q W2 d2 (eZ (some b)) (.tuple #[]))) ∧
        (∀ (r : Value) (e : Ending) (w' : World), Pt B (fun k => P k ∨ (w.heap.size ≤ k ∧ k < w1.heap.size)) q w1 d (oB (eC 10) (eZ (some b))) r e w' → Pt B P q w d (eS 10 (m.co.length) (eL 256 eCo m.co)) r e w') ∧ ¬ Sq B (fun k => P k ∨ (w.heap.size ≤ k ∧ k < w1.heap.size)) q w.heap.size) := fun w1 b hn hb V I => by
    have hL := inner_later hl1 (by omega) V
    obtain ⟨A, c, hc, hs⟩ := sized_inner h hl1 (by omega) V I (el_ne hb) (hby.out b hb)
    refine ⟨A, c, h.with_new hL, hc, hs, fun r e w' hp => ?_, fun x => ?_⟩
    · rw [hb, es_two hn]
      exact (hp.drop (fun k hk => Or.inl hk)).ahead (sq_later hL)
    · have := h.lt_q
      have h2 : w.heap.size < w1.heap.size := by
        have a := hL.size
        have b := V.size
        have c : W1.heap.size = w.heap.size + 2 := by rw [← hW1]; simp
        omega
      rcases x with x | x
      · omega
      · exact x.2 (Or.inr ⟨Nat.le_refl _, h2⟩)
  have hbyte : Hid (∀ (Q : Nat → Prop) (W : World) (d : List Int), Ew B Q q W d → Calls Try.prog 25 #[.pointer (some ⟨q, 0, none⟩), .int .i64 10] W (Pt B Q q W d (eC 10) (.tuple #[]))) := fun Q W d h => byte_any 10 (by decide) h
  have hnp : Hid (¬ Sq (w.heap.size + 1 + 1) (fun _ => False) (w.heap.size + 1) w.heap.size) := fun y => by rcases y with y | y; omega; (have := y.1; omega)
  clear hM hZ hb h hl1 hnil hby I0
  generalize eS 10 (m.co.length) (eL 256 eCo m.co) = os at *
  generalize eL 256 eCo m.co = o at *
  generalize m.co.length = n at *
  have k0 : W1.cell? ⟨w.heap.size, 0, none⟩ = some (.int .i64 10) := hrow.out.cell (i := 0) (by decide)
  have k1 : W1.cell? ⟨w.heap.size, 1, none⟩ = some (.func (.func 23) #[] #[]) := hrow.out.cell (i := 1) (by decide)
  have lp := cell_lt k0
  by_cases hn : n = 0
  · have g : ¬ (0 : Int) < (n : Int) := by omega
    go_enter Try.func13, Try.ntmps13
    go_wp2_with fail
    refine (H1.out).mono ?_
    rintro e w1 ⟨V1, (⟨b1, hb1, rfl, E1⟩ | ⟨n1, rfl⟩)⟩
    · have hf : Hid (Pt B P q w d os (.tuple #[]) (.returned (.tuple #[])) w1) := HN.out w1 b1 hn hb1 V1
      clear H1 HB HN HY hbyte k0 k1 lp V1 E1 hb1
      go_wp2_with fail
      go_end0
      exact hf.out
    · exact ⟨rfl, HB.out _ V1 n1⟩
  · have g : (0 : Int) < (n : Int) := by omega
    go_enter Try.func13, Try.ntmps13
    go_wp2_with fail
    refine (H1.out).mono ?_
    rintro e w1 ⟨V1, (⟨b1, hb1, rfl, E1⟩ | ⟨n1, rfl⟩)⟩
    rotate_left
    · exact ⟨rfl, HB.out _ V1 n1⟩
    obtain ⟨A, c, F1, hc, hs, hfr, hns⟩ := HY.out w1 b1 hn hb1 V1 E1
    have rp := V1.row hnp.out hrow.out
    replace hs : Hid (∀ (W2 : World) (d2 : List Int), Ew B (fun k => P k ∨ (w.heap.size ≤ k ∧ k < w1.heap.size)) q W2 d2 → Wr (Sq B (fun k => P k ∨ (w.heap.size ≤ k ∧ k < w1.heap.size)) q) w1 W2 → W2.cell? ⟨w.heap.size + 1, 0, none⟩ = some (.slice A b1.length c) ∧ Calls Try.prog 26 #[.pointer (some ⟨q, 0, none⟩), .slice A b1.length c] W2 (Pt B (fun k => P k ∨ (w.heap.size ≤ k ∧ k < w1.heap.size)) q W2 d2 (eZ (some b1)) (.tuple #[]))) := hs
    replace hfr : Hid (∀ (r : Value) (e : Ending) (w' : World), Pt B (fun k => P k ∨ (w.heap.size ≤ k ∧ k < w1.heap.size)) q w1 d (oB (eC 10) (eZ (some b1))) r e w' → Pt B P q w d os r e w') := hfr
    have k0 : w1.cell? ⟨w.heap.size, 0, none⟩ = some (.int .i64 10) := rp.cell (i := 0) (by decide)
    have lp := cell_lt k0
    have hbb := hbyte.out _ _ _ F1
    replace hbb : Hid (Calls Try.prog 25 #[.pointer (some ⟨q, 0, none⟩), .int .i64 10] w1 (Pt B (fun k => P k ∨ (w.heap.size ≤ k ∧ k < w1.heap.size)) q w1 d (eC 10) (.tuple #[]))) := hbb
    clear H1 HB HN HY hbyte V1 E1 hb1 rp F1 hc hns hW1
    generalize eZ (some b1) = oz at *
    generalize eC 10 = oc at *
    generalize b1.length = n1 at *
    go_wp2_with fail
    refine (hbb.out).mono ?_
    clear hbb k0 lp
    rintro e w2 ⟨V2, (⟨b2, hb2, rfl, E2⟩ | ⟨n2, rfl⟩)⟩
    rotate_left
    · exact ⟨rfl, hfr.out _ _ _ (Pt.stop V2 n2)⟩
    obtain ⟨hc, hz⟩ := hs.out w2 _ E2 V2
    have l3 := cell_lt hc
    replace hz : Hid (Calls Try.prog 26 #[.pointer (some ⟨q, 0, none⟩), .slice A n1 c] w2 (Pt B (fun k => P k ∨ (w.heap.size ≤ k ∧ k < w1.heap.size)) q w2 (d ++ b2) oz (.tuple #[]))) := hz
    replace V2 : Hid _ := V2
    replace hb2 : Hid (oc = some b2) := hb2
    clear hs E2
    go_wp2_with fail
    refine (hz.out).mono ?_
    clear hz hc l3
    rintro e w3 h3
    have hf : Hid (Pt B P q w d os (.tuple #[]) e w3) := hfr.out _ _ _ (Pt.next hb2.out V2.out h3)
    rcases h3 with ⟨V3, (⟨b3, hb3, rfl, E3⟩ | ⟨n3, rfl⟩)⟩
    · clear V3 hb3 E3 hfr V2 hb2
      go_wp2_with fail
      go_end0
      exact hf.out
    · exact ⟨rfl, hf.out⟩
theorem s_datas (hM : Mo Z w mb m) (hZ : ∀ k, Z k → k < w.heap.size) (hb : MdB m) (h : Ew B P q w d) :
    Calls Try.prog 13 #[.pointer (some ⟨q, 0, none⟩), .agg #[.int .i64 11, .func (.func 24) #[] #[]], .pointer (some ⟨mb, 0, none⟩)] w (Pt B P q w d (eS 11 (m.da.length) (eL 1024 eDa m.da)) (.tuple #[])) := by
  have hl1 : Later w ((w.alloc (.cells #[.int .i64 11, .func (.func 24) #[] #[]] 71)).alloc (.cells #[.slice none 0 0] 65)) := La (La (Lz _))
  have I0 : Ew (w.heap.size + 1 + 1) (fun _ => False) (w.heap.size + 1) ((w.alloc (.cells #[.int .i64 11, .func (.func 24) #[] #[]] 71)).alloc (.cells #[.slice none 0 0] 65)) [] := start_at (by simp)
  have hrow : Hid (((w.alloc (.cells #[.int .i64 11, .func (.func 24) #[] #[]] 71)).alloc (.cells #[.slice none 0 0] 65)).rowIs w.heap.size 71 2 (fun j => [.int .i64 11, .func (.func 24) #[] #[]].getD j undef)) := rowIs_later (La (Lz _)) (row_new w 71 [.int .i64 11, .func (.func 24) #[] #[]])
  generalize hW1 : ((w.alloc (.cells #[.int .i64 11, .func (.func 24) #[] #[]] 71)).alloc (.cells #[.slice none 0 0] 65)) = W1 at *
  have H1 : Hid (Calls Try.prog 24 #[.pointer (some ⟨w.heap.size + 1, 0, none⟩), .pointer (some ⟨mb, 0, none⟩)] W1 (Pt (w.heap.size + 1 + 1) (fun _ => False) (w.heap.size + 1) W1 [] (eL 1024 eDa m.da) (.int .i64 ((m.da.length : Nat) : Int)))) := c_datas (hM.later hl1) (fun k hk _ x => by have := hk.2; rcases x with x | x; omega; (have := x.1; omega)) hb I0
  have hby : Hid (∀ b, eL 1024 eDa m.da = some b → ∀ x ∈ b, 0 ≤ x ∧ x < 256) := by_eL 1024 by_eDa m.da
  have hnil : m.da.length = 0 → Fit [] (eL 1024 eDa m.da) := fun hx => el_nil hx
  have HB : Hid (∀ (W : World), Wr (Sq (w.heap.size + 1 + 1) (fun _ => False) (w.heap.size + 1)) W1 W → ¬ Fit [] (eL 1024 eDa m.da) → Pt B P q w d (eS 11 (m.da.length) (eL 1024 eDa m.da)) (.tuple #[]) thn W) := fun W V n => Pt.bad (sq_later (inner_later hl1 (by omega) V)) (fit_sec hnil n)
  have HN : Hid (∀ (W : World) (b : List Int), m.da.length = 0 → eL 1024 eDa m.da = some b → Wr (Sq (w.heap.size + 1 + 1) (fun _ => False) (w.heap.size + 1)) W1 W → Pt B P q w d (eS 11 (m.da.length) (eL 1024 eDa m.da)) (.tuple #[]) (.returned (.tuple #[])) W) := fun W b hn hb V => by
    have hL := inner_later hl1 (by omega) V
    refine ⟨sq_later hL, Or.inl ⟨[], ?_, rfl, by rw [List.append_nil]; exact h.later hL⟩⟩
    rw [hb]
    exact if_pos hn
  have HY : Hid (∀ (w1 : World) (b : List Int), ¬ m.da.length = 0 → eL 1024 eDa m.da = some b → Wr (Sq (w.heap.size + 1 + 1) (fun _ => False) (w.heap.size + 1)) W1 w1 → Ew (w.heap.size + 1 + 1) (fun _ => False) (w.heap.size + 1) w1 b →
      ∃ A c, Ew B (fun k => P k ∨ (w.heap.size ≤ k ∧ k < w1.heap.size)) q w1 d ∧ w1.cell? ⟨w.heap.size + 1, 0, none⟩ = some (.slice A b.length c) ∧ (∀ (W2 : World) (d2 : List Int), Ew B (fun k => P k ∨ (w.heap.size ≤ k ∧ k < w1.heap.size)) q W2 d2 → Wr (Sq B (fun k => P k ∨ (w.heap.size ≤ k ∧ k < w1.heap.size)) q) w1 W2 → W2.cell? ⟨w.heap.size + 1, 0, none⟩ = some (.slice A b.length c) ∧ Calls Try.prog 26 #[.pointer (some ⟨q, 0, none⟩), .slice A b.length c] W2 (Pt B (fun k => P k ∨ (w.heap.size ≤ k ∧ k < w1.heap.size)) q W2 d2 (eZ (some b)) (.tuple #[]))) ∧
        (∀ (r : Value) (e : Ending) (w' : World), Pt B (fun k => P k ∨ (w.heap.size ≤ k ∧ k < w1.heap.size)) q w1 d (oB (eC 11) (eZ (some b))) r e w' → Pt B P q w d (eS 11 (m.da.length) (eL 1024 eDa m.da)) r e w') ∧ ¬ Sq B (fun k => P k ∨ (w.heap.size ≤ k ∧ k < w1.heap.size)) q w.heap.size) := fun w1 b hn hb V I => by
    have hL := inner_later hl1 (by omega) V
    obtain ⟨A, c, hc, hs⟩ := sized_inner h hl1 (by omega) V I (el_ne hb) (hby.out b hb)
    refine ⟨A, c, h.with_new hL, hc, hs, fun r e w' hp => ?_, fun x => ?_⟩
    · rw [hb, es_two hn]
      exact (hp.drop (fun k hk => Or.inl hk)).ahead (sq_later hL)
    · have := h.lt_q
      have h2 : w.heap.size < w1.heap.size := by
        have a := hL.size
        have b := V.size
        have c : W1.heap.size = w.heap.size + 2 := by rw [← hW1]; simp
        omega
      rcases x with x | x
      · omega
      · exact x.2 (Or.inr ⟨Nat.le_refl _, h2⟩)
  have hbyte : Hid (∀ (Q : Nat → Prop) (W : World) (d : List Int), Ew B Q q W d → Calls Try.prog 25 #[.pointer (some ⟨q, 0, none⟩), .int .i64 11] W (Pt B Q q W d (eC 11) (.tuple #[]))) := fun Q W d h => byte_any 11 (by decide) h
  have hnp : Hid (¬ Sq (w.heap.size + 1 + 1) (fun _ => False) (w.heap.size + 1) w.heap.size) := fun y => by rcases y with y | y; omega; (have := y.1; omega)
  clear hM hZ hb h hl1 hnil hby I0
  generalize eS 11 (m.da.length) (eL 1024 eDa m.da) = os at *
  generalize eL 1024 eDa m.da = o at *
  generalize m.da.length = n at *
  have k0 : W1.cell? ⟨w.heap.size, 0, none⟩ = some (.int .i64 11) := hrow.out.cell (i := 0) (by decide)
  have k1 : W1.cell? ⟨w.heap.size, 1, none⟩ = some (.func (.func 24) #[] #[]) := hrow.out.cell (i := 1) (by decide)
  have lp := cell_lt k0
  by_cases hn : n = 0
  · have g : ¬ (0 : Int) < (n : Int) := by omega
    go_enter Try.func13, Try.ntmps13
    go_wp2_with fail
    refine (H1.out).mono ?_
    rintro e w1 ⟨V1, (⟨b1, hb1, rfl, E1⟩ | ⟨n1, rfl⟩)⟩
    · have hf : Hid (Pt B P q w d os (.tuple #[]) (.returned (.tuple #[])) w1) := HN.out w1 b1 hn hb1 V1
      clear H1 HB HN HY hbyte k0 k1 lp V1 E1 hb1
      go_wp2_with fail
      go_end0
      exact hf.out
    · exact ⟨rfl, HB.out _ V1 n1⟩
  · have g : (0 : Int) < (n : Int) := by omega
    go_enter Try.func13, Try.ntmps13
    go_wp2_with fail
    refine (H1.out).mono ?_
    rintro e w1 ⟨V1, (⟨b1, hb1, rfl, E1⟩ | ⟨n1, rfl⟩)⟩
    rotate_left
    · exact ⟨rfl, HB.out _ V1 n1⟩
    obtain ⟨A, c, F1, hc, hs, hfr, hns⟩ := HY.out w1 b1 hn hb1 V1 E1
    have rp := V1.row hnp.out hrow.out
    replace hs : Hid (∀ (W2 : World) (d2 : List Int), Ew B (fun k => P k ∨ (w.heap.size ≤ k ∧ k < w1.heap.size)) q W2 d2 → Wr (Sq B (fun k => P k ∨ (w.heap.size ≤ k ∧ k < w1.heap.size)) q) w1 W2 → W2.cell? ⟨w.heap.size + 1, 0, none⟩ = some (.slice A b1.length c) ∧ Calls Try.prog 26 #[.pointer (some ⟨q, 0, none⟩), .slice A b1.length c] W2 (Pt B (fun k => P k ∨ (w.heap.size ≤ k ∧ k < w1.heap.size)) q W2 d2 (eZ (some b1)) (.tuple #[]))) := hs
    replace hfr : Hid (∀ (r : Value) (e : Ending) (w' : World), Pt B (fun k => P k ∨ (w.heap.size ≤ k ∧ k < w1.heap.size)) q w1 d (oB (eC 11) (eZ (some b1))) r e w' → Pt B P q w d os r e w') := hfr
    have k0 : w1.cell? ⟨w.heap.size, 0, none⟩ = some (.int .i64 11) := rp.cell (i := 0) (by decide)
    have lp := cell_lt k0
    have hbb := hbyte.out _ _ _ F1
    replace hbb : Hid (Calls Try.prog 25 #[.pointer (some ⟨q, 0, none⟩), .int .i64 11] w1 (Pt B (fun k => P k ∨ (w.heap.size ≤ k ∧ k < w1.heap.size)) q w1 d (eC 11) (.tuple #[]))) := hbb
    clear H1 HB HN HY hbyte V1 E1 hb1 rp F1 hc hns hW1
    generalize eZ (some b1) = oz at *
    generalize eC 11 = oc at *
    generalize b1.length = n1 at *
    go_wp2_with fail
    refine (hbb.out).mono ?_
    clear hbb k0 lp
    rintro e w2 ⟨V2, (⟨b2, hb2, rfl, E2⟩ | ⟨n2, rfl⟩)⟩
    rotate_left
    · exact ⟨rfl, hfr.out _ _ _ (Pt.stop V2 n2)⟩
    obtain ⟨hc, hz⟩ := hs.out w2 _ E2 V2
    have l3 := cell_lt hc
    replace hz : Hid (Calls Try.prog 26 #[.pointer (some ⟨q, 0, none⟩), .slice A n1 c] w2 (Pt B (fun k => P k ∨ (w.heap.size ≤ k ∧ k < w1.heap.size)) q w2 (d ++ b2) oz (.tuple #[]))) := hz
    replace V2 : Hid _ := V2
    replace hb2 : Hid (oc = some b2) := hb2
    clear hs E2
    go_wp2_with fail
    refine (hz.out).mono ?_
    clear hz hc l3
    rintro e w3 h3
    have hf : Hid (Pt B P q w d os (.tuple #[]) e w3) := hfr.out _ _ _ (Pt.next hb2.out V2.out h3)
    rcases h3 with ⟨V3, (⟨b3, hb3, rfl, E3⟩ | ⟨n3, rfl⟩)⟩
    · clear V3 hb3 E3 hfr V2 hb2
      go_wp2_with fail
      go_end0
      exact hf.out
    · exact ⟨rfl, hf.out⟩
theorem s_start (hM : Mo Z w mb m) (hZ : ∀ k, Z k → k < w.heap.size) (hb : MdB m) (h : Ew B P q w d) :
    Calls Try.prog 13 #[.pointer (some ⟨q, 0, none⟩), .agg #[.int .i64 8, .func (.func 21) #[] #[]], .pointer (some ⟨mb, 0, none⟩)] w (Pt B P q w d (eS 8 (nSt m.st) (oSt m.st)) (.tuple #[])) := by
  have hl1 : Later w ((w.alloc (.cells #[.int .i64 8, .func (.func 21) #[] #[]] 71)).alloc (.cells #[.slice none 0 0] 65)) := La (La (Lz _))
  have I0 : Ew (w.heap.size + 1 + 1) (fun _ => False) (w.heap.size + 1) ((w.alloc (.cells #[.int .i64 8, .func (.func 21) #[] #[]] 71)).alloc (.cells #[.slice none 0 0] 65)) [] := start_at (by simp)
  have hrow : Hid (((w.alloc (.cells #[.int .i64 8, .func (.func 21) #[] #[]] 71)).alloc (.cells #[.slice none 0 0] 65)).rowIs w.heap.size 71 2 (fun j => [.int .i64 8, .func (.func 21) #[] #[]].getD j undef)) := rowIs_later (La (Lz _)) (row_new w 71 [.int .i64 8, .func (.func 21) #[] #[]])
  generalize hW1 : ((w.alloc (.cells #[.int .i64 8, .func (.func 21) #[] #[]] 71)).alloc (.cells #[.slice none 0 0] 65)) = W1 at *
  have H1 : Hid (Calls Try.prog 21 #[.pointer (some ⟨w.heap.size + 1, 0, none⟩), .pointer (some ⟨mb, 0, none⟩)] W1 (Pt (w.heap.size + 1 + 1) (fun _ => False) (w.heap.size + 1) W1 [] (oSt m.st) (.int .i64 ((nSt m.st : Nat) : Int)))) := c_start (hM.later hl1) (fun k hk _ x => by have := hk.2; rcases x with x | x; omega; (have := x.1; omega)) hb I0
  have hby : Hid (∀ b, oSt m.st = some b → ∀ x ∈ b, 0 ≤ x ∧ x < 256) := fun b hb => by unfold oSt at hb; split at hb; (obtain rfl := Option.some.inj hb; simp); exact by_eN _ b hb
  have hnil : nSt m.st = 0 → Fit [] (oSt m.st) := fun hx => by unfold nSt at hx; unfold oSt; split at hx; (rename_i h0; rw [if_pos h0]; exact ⟨[], rfl, by decide⟩); cases hx
  have HB : Hid (∀ (W : World), Wr (Sq (w.heap.size + 1 + 1) (fun _ => False) (w.heap.size + 1)) W1 W → ¬ Fit [] (oSt m.st) → Pt B P q w d (eS 8 (nSt m.st) (oSt m.st)) (.tuple #[]) thn W) := fun W V n => Pt.bad (sq_later (inner_later hl1 (by omega) V)) (fit_sec hnil n)
  have HN : Hid (∀ (W : World) (b : List Int), nSt m.st = 0 → oSt m.st = some b → Wr (Sq (w.heap.size + 1 + 1) (fun _ => False) (w.heap.size + 1)) W1 W → Pt B P q w d (eS 8 (nSt m.st) (oSt m.st)) (.tuple #[]) (.returned (.tuple #[])) W) := fun W b hn hb V => by
    have hL := inner_later hl1 (by omega) V
    refine ⟨sq_later hL, Or.inl ⟨[], ?_, rfl, by rw [List.append_nil]; exact h.later hL⟩⟩
    rw [hb]
    exact if_pos hn
  have HY : Hid (∀ (w1 : World) (b : List Int), ¬ nSt m.st = 0 → oSt m.st = some b → Wr (Sq (w.heap.size + 1 + 1) (fun _ => False) (w.heap.size + 1)) W1 w1 → Ew (w.heap.size + 1 + 1) (fun _ => False) (w.heap.size + 1) w1 b →
      ∃ A c, Ew B (fun k => P k ∨ (w.heap.size ≤ k ∧ k < w1.heap.size)) q w1 d ∧ w1.cell? ⟨w.heap.size + 1, 0, none⟩ = some (.slice A b.length c) ∧ (∀ (W2 : World) (d2 : List Int), Ew B (fun k => P k ∨ (w.heap.size ≤ k ∧ k < w1.heap.size)) q W2 d2 → Wr (Sq B (fun k => P k ∨ (w.heap.size ≤ k ∧ k < w1.heap.size)) q) w1 W2 → W2.cell? ⟨w.heap.size + 1, 0, none⟩ = some (.slice A b.length c) ∧ Calls Try.prog 26 #[.pointer (some ⟨q, 0, none⟩), .slice A b.length c] W2 (Pt B (fun k => P k ∨ (w.heap.size ≤ k ∧ k < w1.heap.size)) q W2 d2 (eZ (some b)) (.tuple #[]))) ∧
        (∀ (r : Value) (e : Ending) (w' : World), Pt B (fun k => P k ∨ (w.heap.size ≤ k ∧ k < w1.heap.size)) q w1 d (oB (eC 8) (eZ (some b))) r e w' → Pt B P q w d (eS 8 (nSt m.st) (oSt m.st)) r e w') ∧ ¬ Sq B (fun k => P k ∨ (w.heap.size ≤ k ∧ k < w1.heap.size)) q w.heap.size) := fun w1 b hn hb V I => by
    have hL := inner_later hl1 (by omega) V
    obtain ⟨A, c, hc, hs⟩ := sized_inner h hl1 (by omega) V I (by unfold oSt at hb; unfold nSt at hn; split at hb; (rename_i hx; exact absurd (if_pos hx) hn); exact en_ne hb) (hby.out b hb)
    refine ⟨A, c, h.with_new hL, hc, hs, fun r e w' hp => ?_, fun x => ?_⟩
    · rw [hb, es_two hn]
      exact (hp.drop (fun k hk => Or.inl hk)).ahead (sq_later hL)
    · have := h.lt_q
      have h2 : w.heap.size < w1.heap.size := by
        have a := hL.size
        have b := V.size
        have c : W1.heap.size = w.heap.size + 2 := by rw [← hW1]; simp
        omega
      rcases x with x | x
      · omega
      · exact x.2 (Or.inr ⟨Nat.le_refl _, h2⟩)
  have hbyte : Hid (∀ (Q : Nat → Prop) (W : World) (d : List Int), Ew B Q q W d → Calls Try.prog 25 #[.pointer (some ⟨q, 0, none⟩), .int .i64 8] W (Pt B Q q W d (eC 8) (.tuple #[]))) := fun Q W d h => byte_any 8 (by decide) h
  have hnp : Hid (¬ Sq (w.heap.size + 1 + 1) (fun _ => False) (w.heap.size + 1) w.heap.size) := fun y => by rcases y with y | y; omega; (have := y.1; omega)
  clear hM hZ hb h hl1 hnil hby I0
  generalize eS 8 (nSt m.st) (oSt m.st) = os at *
  generalize oSt m.st = o at *
  generalize nSt m.st = n at *
  have k0 : W1.cell? ⟨w.heap.size, 0, none⟩ = some (.int .i64 8) := hrow.out.cell (i := 0) (by decide)
  have k1 : W1.cell? ⟨w.heap.size, 1, none⟩ = some (.func (.func 21) #[] #[]) := hrow.out.cell (i := 1) (by decide)
  have lp := cell_lt k0
  by_cases hn : n = 0
  · have g : ¬ (0 : Int) < (n : Int) := by omega
    go_enter Try.func13, Try.ntmps13
    go_wp2_with fail
    refine (H1.out).mono ?_
    rintro e w1 ⟨V1, (⟨b1, hb1, rfl, E1⟩ | ⟨n1, rfl⟩)⟩
    · have hf : Hid (Pt B P q w d os (.tuple #[]) (.returned (.tuple #[])) w1) := HN.out w1 b1 hn hb1 V1
      clear H1 HB HN HY hbyte k0 k1 lp V1 E1 hb1
      go_wp2_with fail
      go_end0
      exact hf.out
    · exact ⟨rfl, HB.out _ V1 n1⟩
  · have g : (0 : Int) < (n : Int) := by omega
    go_enter Try.func13, Try.ntmps13
    go_wp2_with fail
    refine (H1.out).mono ?_
    rintro e w1 ⟨V1, (⟨b1, hb1, rfl, E1⟩ | ⟨n1, rfl⟩)⟩
    rotate_left
    · exact ⟨rfl, HB.out _ V1 n1⟩
    obtain ⟨A, c, F1, hc, hs, hfr, hns⟩ := HY.out w1 b1 hn hb1 V1 E1
    have rp := V1.row hnp.out hrow.out
    replace hs : Hid (∀ (W2 : World) (d2 : List Int), Ew B (fun k => P k ∨ (w.heap.size ≤ k ∧ k < w1.heap.size)) q W2 d2 → Wr (Sq B (fun k => P k ∨ (w.heap.size ≤ k ∧ k < w1.heap.size)) q) w1 W2 → W2.cell? ⟨w.heap.size + 1, 0, none⟩ = some (.slice A b1.length c) ∧ Calls Try.prog 26 #[.pointer (some ⟨q, 0, none⟩), .slice A b1.length c] W2 (Pt B (fun k => P k ∨ (w.heap.size ≤ k ∧ k < w1.heap.size)) q W2 d2 (eZ (some b1)) (.tuple #[]))) := hs
    replace hfr : Hid (∀ (r : Value) (e : Ending) (w' : World), Pt B (fun k => P k ∨ (w.heap.size ≤ k ∧ k < w1.heap.size)) q w1 d (oB (eC 8) (eZ (some b1))) r e w' → Pt B P q w d os r e w') := hfr
    have k0 : w1.cell? ⟨w.heap.size, 0, none⟩ = some (.int .i64 8) := rp.cell (i := 0) (by decide)
    have lp := cell_lt k0
    have hbb := hbyte.out _ _ _ F1
    replace hbb : Hid (Calls Try.prog 25 #[.pointer (some ⟨q, 0, none⟩), .int .i64 8] w1 (Pt B (fun k => P k ∨ (w.heap.size ≤ k ∧ k < w1.heap.size)) q w1 d (eC 8) (.tuple #[]))) := hbb
    clear H1 HB HN HY hbyte V1 E1 hb1 rp F1 hc hns hW1
    generalize eZ (some b1) = oz at *
    generalize eC 8 = oc at *
    generalize b1.length = n1 at *
    go_wp2_with fail
    refine (hbb.out).mono ?_
    clear hbb k0 lp
    rintro e w2 ⟨V2, (⟨b2, hb2, rfl, E2⟩ | ⟨n2, rfl⟩)⟩
    rotate_left
    · exact ⟨rfl, hfr.out _ _ _ (Pt.stop V2 n2)⟩
    obtain ⟨hc, hz⟩ := hs.out w2 _ E2 V2
    have l3 := cell_lt hc
    replace hz : Hid (Calls Try.prog 26 #[.pointer (some ⟨q, 0, none⟩), .slice A n1 c] w2 (Pt B (fun k => P k ∨ (w.heap.size ≤ k ∧ k < w1.heap.size)) q w2 (d ++ b2) oz (.tuple #[]))) := hz
    replace V2 : Hid _ := V2
    replace hb2 : Hid (oc = some b2) := hb2
    clear hs E2
    go_wp2_with fail
    refine (hz.out).mono ?_
    clear hz hc l3
    rintro e w3 h3
    have hf : Hid (Pt B P q w d os (.tuple #[]) e w3) := hfr.out _ _ _ (Pt.next hb2.out V2.out h3)
    rcases h3 with ⟨V3, (⟨b3, hb3, rfl, E3⟩ | ⟨n3, rfl⟩)⟩
    · clear V3 hb3 E3 hfr V2 hb2
      go_wp2_with fail
      go_end0
      exact hf.out
    · exact ⟨rfl, hf.out⟩
end Go.Proofs.Ytngciahmoenkiac.en
