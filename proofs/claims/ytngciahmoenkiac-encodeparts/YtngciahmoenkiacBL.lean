/- package encode: locals and codes. -/
import Derived.Test.YtngciahmoenkiacBK
set_option linter.unusedVariables false
set_option linter.unusedSimpArgs false
set_option maxRecDepth 100000
set_option maxHeartbeats 4000000
namespace Go.Proofs.Ytngciahmoenkiac.en
open Go.RowKit
variable {B q : Nat} {P : Nat → Prop} {w w' w1 : World} {d b : List Int} {o o2 : Ob} {r : Value} {e : Ending}
theorem list_runs (xs : List (Int × Int)) (A : Option Addr) (c : Nat) (Z : Nat → Prop) (hR : Rt fLi Z w A xs) (hZ : ∀ k, Z k → k < w.heap.size → ¬ Sq B P q k) (hl : xs.length ≤ 140737488351232) (h : Ew B P q w d) :
    Calls Try.prog 57 #[.pointer (some ⟨q, 0, none⟩), .slice A xs.length c, .int .i64 256, .func (.func 59) #[.pointer (some ⟨q, 0, none⟩)] #[]] w (Pt B P q w d (eL 256 eR xs) (.int .i64 xs.length)) := by
  by_cases hm : xs.length ≤ 256
  · have hn : Hid (∀ w : World, Calls Try.prog 10 #[.bool true] w fun e w' => e = .returned (.tuple #[]) ∧ w' = w) := need_ok
    have hN : Hid (Calls Try.prog 32 #[.pointer (some ⟨q, 0, none⟩), .int .i64 (xs.length : Int)] w (Pt B P q w d (some (lebL (xs.length : Int))) (.tuple #[]))) := by
      have := number_any (xs.length : Int) h
      rwa [len_wrap _ (by omega)] at this
    have hround : Hid (∀ (j : Nat) (hj : j < xs.length) (W : World) (d : List Int), Ew B P q W d → Wr (Sq B P q) w W → ∃ g o, A = some ⟨g, o, none⟩ ∧ W.cell? ⟨g, o + j * 2, none⟩ = some (.int .i64 xs[j].1) ∧ W.cell? ⟨g, o + j * 2 + 1, none⟩ = some (.int .i64 xs[j].2) ∧ ∀ W2, Later W W2 → Calls Try.prog 59 #[.pointer (some ⟨q, 0, none⟩), .agg #[.int .i64 xs[j].1, .int .i64 xs[j].2]] W2 (Pt B P q W2 d (eR xs[j]) (.tuple #[]))) := fun j hj W d h V => by
      have hR2 : Rt fLi (fun k => Z k ∧ k < w.heap.size) W A xs := hR.move (fun _ => Nat.succ_pos _) fun k hk hl => ⟨⟨hk, hl⟩, V.block k hl (hZ k hk hl)⟩
      have hZ2 : ∀ k, (Z k ∧ k < w.heap.size) → k < W.heap.size → ¬ Sq B P q k := fun k hk _ => hZ k hk.1 hk.2
      obtain ⟨g, o, c, e, hz, hc, hi⟩ := rt_at 2 (fun _ => rfl) hR2 j hj
      obtain ⟨v0, _, rfl, h0, v1, _, rfl, h1, rfl⟩ := hi
      obtain rfl : v0 = .int .i64 xs[j].1 := h0
      obtain rfl : v1 = .int .i64 xs[j].2 := h1
      exact ⟨g, o, e, hc 0 _ rfl, hc 1 _ rfl, fun W' hl => run_any _ (h.later hl)⟩
    obtain ⟨n, hnx⟩ : ∃ n, n = xs.length := ⟨_, rfl⟩
    obtain ⟨D1, hD⟩ : ∃ D1, D1 = lebL (n : Int) := ⟨_, rfl⟩
    have hend : Hid (∀ j b, j = n → eA eR (xs.take j) = some b → eL 256 eR xs = some (D1 ++ b)) := fun j b hj hb => by subst hj hD hnx; exact el_some hm hb
    have hbad : Hid (∀ (j : Nat) (hj : j < xs.length) (b : List Int), eA eR (xs.take j) = some b → ¬ Fit (d ++ (D1 ++ b)) (eR xs[j]) → ¬ Fit d (eL 256 eR xs)) := fun j hj b hb n => el_bad hj (by rw [hD, hnx]) hb n
    have hhd : Hid (¬ Fit d (some D1) → ¬ Fit d (eL 256 eR xs)) := fun n => by rw [hD, hnx] at n; exact el_head n
    have htk : Hid (∀ j (hj : j < xs.length), eA eR (xs.take (j + 1)) = oB (eA eR (xs.take j)) (eR xs[j])) := fun j hj => ea_take eR xs j hj
    have g1 : (n : Int) ≤ 256 := by omega
    clear h hR hZ hl hm
    rw [← hnx, ← hD] at hN
    rw [← hnx]
    clear hD
    replace hnx : Hid (n = xs.length) := hnx
    generalize hO : eL 256 eR xs = O at *
    clear hO
    go_enter Try.func57, Try.ntmps57
    go_wp2_with (first | (go_at_call 10; refine (hn.out _).mono ?_; rintro e w0 ⟨rfl, hw0⟩; obtain rfl := hw0.symm) | (go_at_call 32; refine hN.out.mono ?_; rintro e w1 ⟨V1, (⟨b1, hb1, rfl, E1⟩ | ⟨n1, rfl⟩)⟩))
    · obtain rfl : D1 = b1 := Option.some.inj hb1
      replace V1 : Hid _ := V1
      replace E1 : Hid _ := E1
      clear hN hn hhd hb1
      go_loopw [22] (fun i wr => ∃ (j : Nat) (bj : List Int), i = .int .i64 (j : Nat) ∧ j ≤ n ∧ eA eR (xs.take j) = some bj ∧ Ew B P q wr (d ++ (D1 ++ bj)) ∧ Wr (Sq B P q) w wr) (fun i _ => n - (intOf i).toNat)
      case atStart => exact ⟨0, [], rfl, Nat.zero_le _, rfl, by rw [List.append_nil]; exact E1.out, V1.out⟩
      case round =>
        obtain ⟨j, bj, rfl, hj, hb, hE, hV⟩ := hrel
        clear E1 V1
        by_cases hlt : j < n
        · have hl1 : (j : Int) < (n : Int) := by omega
          have hlx : j < xs.length := by have := hnx.out; omega
          obtain ⟨g, o, rfl, c0, c1, hcall⟩ := hround.out j hlx wr _ hE hV
          have hl0 := cell_lt c0
          have hbd : Hid (¬ Fit (d ++ (D1 ++ bj)) (eR xs[j]) → ¬ Fit d O) := fun n => hbad.out j hlx bj hb n
          have htk2 := htk.out j hlx
          rw [hb] at htk2
          replace htk2 : Hid (eA eR (xs.take (j + 1)) = oB (some bj) (eR xs[j])) := htk2
          replace hcall : Hid _ := hcall
          replace hV : Hid _ := hV
          clear hround hend hbad htk hb hE
          generalize eR xs[j] = oj at *
          go_wp2_with fail
          refine Calls.mono (hcall.out _ (La (Lz _))) ?_
          clear hcall
          rintro e w2 ⟨V20, (⟨b2, hb2, rfl, E2⟩ | ⟨n2, rfl⟩)⟩
          · have V2 : Wr (Sq B P q) wr w2 := (sq_later (La (Lz _))).trans V20
            have hf : Hid (eA eR (xs.take (j + 1)) = some (bj ++ b2) ∧ Ew B P q w2 (d ++ (D1 ++ (bj ++ b2))) ∧ Wr (Sq B P q) w w2) := ⟨by rw [htk2.out, hb2]; rfl, by rw [show d ++ (D1 ++ (bj ++ b2)) = d ++ (D1 ++ bj) ++ b2 by simp [List.append_assoc]]; exact E2, hV.out.trans V2⟩
            clear V2 V20 E2 hb2 htk2 hV hbd
            go_wp2_with fail
            go_roundw
            case rel => exact ⟨j + 1, bj ++ b2, by go_num, by omega, hf.out.1, hf.out.2.1, hf.out.2.2⟩
            case measure => simp [intOf]; omega
          · have V2 : Wr (Sq B P q) wr w2 := (sq_later (La (Lz _))).trans V20
            exact ⟨rfl, hV.out.trans V2, Or.inr ⟨hbd.out n2, rfl⟩⟩
        · have hl1 : ¬ (j : Int) < (n : Int) := by omega
          have hf : Hid (Pt B P q w d O (.int .i64 (n : Int)) (.returned (.int .i64 (n : Int))) wr) := ⟨hV, Or.inl ⟨D1 ++ bj, hend.out j bj (by omega) hb, rfl, hE⟩⟩
          clear hround hend hbad htk hb hE hV
          go_wp2_with fail
          go_ret
          exact hf.out
    · exact ⟨rfl, V1, Or.inr ⟨hhd.out n1, rfl⟩⟩
  · have hn : Hid (∀ w : World, Calls Try.prog 10 #[.bool false] w fun e w' => e = thn ∧ w' = w) := need_bad
    have hfin : Hid (Pt B P q w d (eL 256 eR xs) (.int .i64 xs.length) thn w) := Pt.bad (Wr.refl _ _) (el_many hm)
    have g : ¬ (xs.length : Int) ≤ 256 := by omega
    clear h hR hZ hl hm
    generalize eL 256 eR xs = O at *
    generalize xs.length = n at *
    go_enter Try.func57, Try.ntmps57
    go_wp2_with (go_at_call 10; refine (hn.out _).mono ?_; rintro e w0 ⟨rfl, hw0⟩; obtain rfl := hw0.symm)
    exact ⟨rfl, hfin.out⟩
theorem runs_most (ts : List Int) : (runs ts).length ≤ ts.length := by
  obtain ⟨f1, f2⟩ := runs_flat ts
  have := flat_len' _ f2
  rwa [f1] at this
theorem elo_eq (ts : List Int) (h : ts.length ≤ 256) : eLo ts = eL 256 eR (runs ts) := by
  unfold eLo eL
  rw [if_pos h, if_pos (Nat.le_trans (runs_most ts) h)]
/-- a writer, whatever was laid since besides, which stays as it is -/
theorem Ew.with_new {W : World} (h : Ew B P q w d) (hl : Later w W) : Ew B (fun k => P k ∨ (w.heap.size ≤ k ∧ k < W.heap.size)) q W d := by
  have hq := h.lt_q
  obtain ⟨h1, h2, h3, v, h4, h5, h6, h7⟩ := h.later hl
  obtain ⟨_, _, _, v0, g4, g5, _, g7⟩ := h
  obtain rfl : v0 = v := by
    have a := g4.cell (i := 0) (by decide)
    have b := h4.cell (i := 0) (by decide)
    rw [hl.cell_of a] at b
    exact Option.some.inj b
  refine ⟨h1, h2, h3, v0, h4, h5, fun g hg hz => ?_, fun k hk => ?_⟩
  · rcases hz with hz | hz
    · exact h6 g hg hz
    · have := (g5.lt g hg).2
      omega
  · rcases hk with hk | hk
    · exact h7 k hk
    · exact ⟨hk.2, by omega⟩
theorem locals_any (ts : List Int) (A : Option Addr) (c : Nat) (Z : Nat → Prop) (hR : Rt f1 Z w A ts) (h : Ew B P q w d) :
    Calls Try.prog 53 #[.pointer (some ⟨q, 0, none⟩), .slice A ts.length c] w (Pt B P q w d (eLo ts) (.tuple #[])) := by
  by_cases hm : ts.length ≤ 256
  · have hn : Hid (∀ w : World, Calls Try.prog 10 #[.bool true] w fun e w' => e = .returned (.tuple #[]) ∧ w' = w) := need_ok
    have hr : Hid (∀ w2 : World, w2 = w → Calls Try.prog 58 #[.slice A ts.length c] w2 fun e w' => ∃ A' c', e = .returned (.slice A' (runs ts).length c') ∧ Hid (Rt fLi (w.heap.size ≤ ·) w' A' (runs ts)) ∧ Hid (Later w w')) := fun w2 e => by subst e; exact runs_any ts hm Z A c hR
    have hL : Hid (∀ (W : World) (A' : Option Addr) (c' : Nat), Later w W → Rt fLi (w.heap.size ≤ ·) W A' (runs ts) → Calls Try.prog 57 #[.pointer (some ⟨q, 0, none⟩), .slice A' (runs ts).length c', .int .i64 256, .func (.func 59) #[.pointer (some ⟨q, 0, none⟩)] #[]] W (Pt B P q w d (eLo ts) (.int .i64 (runs ts).length))) := fun W A' c' hl hR' => by
      have hp := h.with_new hl
      have h2 := list_runs (runs ts) A' c' (fun k => w.heap.size ≤ k ∧ k < W.heap.size) (hR'.move (fun _ => Nat.succ_pos _) fun k hk hl => ⟨⟨hk, hl⟩, rfl⟩) (fun k hk _ x => by rcases x with x | x; (have := h.lt_q; omega); exact x.2 (Or.inr hk)) (by have := runs_most ts; omega) hp
      rw [← elo_eq ts hm] at h2
      exact h2.mono fun e w' h => (h.drop (fun k hk => Or.inl hk)).ahead (sq_later hl)
    have g1 : (ts.length : Int) ≤ 256 := by omega
    clear h hR hm
    generalize eLo ts = O at *
    generalize hru : runs ts = rs at *
    clear hru
    generalize ts.length = n at *
    go_enter Try.func53, Try.ntmps53
    go_wp2_with (first | (go_at_call 10; refine (hn.out _).mono ?_; rintro e w0 ⟨rfl, hw0⟩; obtain rfl := hw0.symm) | (go_at_call 58; refine (hr.out _ rfl).mono ?_; rintro e w2 ⟨A', c', rfl, hR2, hl2⟩) | (go_at_call 57; refine (hL.out _ _ _ hl2.out hR2.out).mono ?_; rintro e w' ⟨V, (⟨b, hb, rfl, E⟩ | ⟨n, rfl⟩)⟩))
    · go_end0
      exact ⟨V, Or.inl ⟨b, hb, rfl, E⟩⟩
    · exact ⟨rfl, V, Or.inr ⟨n, rfl⟩⟩
  · have hn : Hid (∀ w : World, Calls Try.prog 10 #[.bool false] w fun e w' => e = thn ∧ w' = w) := need_bad
    have hfin : Hid (Pt B P q w d (eLo ts) (.tuple #[]) thn w) := by
      unfold eLo
      rw [if_neg hm]
      exact Pt.bad (Wr.refl _ _) (fit_none d)
    have g : ¬ (ts.length : Int) ≤ 256 := by omega
    clear h hR hm
    generalize eLo ts = O at *
    generalize ts.length = n at *
    go_enter Try.func53, Try.ntmps53
    go_wp2_with (go_at_call 10; refine (hn.out _).mono ?_; rintro e w0 ⟨rfl, hw0⟩; obtain rfl := hw0.symm)
    exact ⟨rfl, hfin.out⟩
theorem fit_sized {o : Ob} (n : ¬ Fit [] o) : ¬ Fit d (eZ o) := by
  rintro ⟨b, hb, hl⟩
  cases o with
  | none => cases hb
  | some x =>
    have e : lebL (x.length : Int) ++ x = b := Option.some.inj hb
    refine n ⟨x, rfl, ?_⟩
    rw [← e, List.length_append] at hl
    simp
    omega
theorem eK_byte (t : Int) {b : List Int} (h : eK t = some b) : ∀ x ∈ b, 0 ≤ x ∧ x < 256 := by
  unfold eK at h
  split at h
  · obtain rfl := Option.some.inj h
    intro x hx
    rw [List.mem_singleton.1 hx]
    omega
  · cases h
/-- bytes alone -/
def By (o : Ob) : Prop := ∀ b, o = some b → ∀ x ∈ b, 0 ≤ x ∧ x < 256
theorem By.two {o o2 : Ob} (h : By o) (h2 : By o2) : By (oB o o2) := fun b hb x hx => by
  obtain ⟨y, z, e1, e2, rfl⟩ := oB_eq hb
  rcases List.mem_append.1 hx with hx | hx
  · exact h y e1 x hx
  · exact h2 z e2 x hx
theorem by_leb (x : Int) : By (some (lebL x)) := fun b hb => by obtain rfl := Option.some.inj hb; exact lebL_byte x
theorem by_eN (x : Int) : By (eN x) := by
  unfold eN
  split
  · exact by_leb x
  · intro b hb; cases hb
theorem by_eA {α : Type} {g : α → Ob} (h : ∀ x, By (g x)) : ∀ xs : List α, By (eA g xs)
  | [] => fun b hb x hx => by obtain rfl := Option.some.inj hb; cases hx
  | y :: r => (h y).two (by_eA h r)
theorem by_eL {α : Type} {g : α → Ob} (most : Nat) (h : ∀ x, By (g x)) (xs : List α) : By (eL most g xs) := by
  unfold eL
  split
  · exact (by_leb _).two (by_eA h xs)
  · intro b hb; cases hb
theorem by_eI (f : Fs) : By (eI f) := fun b hb => by
  unfold eI at hb
  split at hb
  · obtain rfl := Option.some.inj hb; exact puR_byte f
  · cases hb
theorem by_eR (x : Int × Int) : By (eR x) := (by_eN _).two (fun b hb => eK_byte _ hb)
theorem by_eLo (ts : List Int) : By (eLo ts) := by
  unfold eLo
  split
  · exact (by_leb _).two (by_eA by_eR _)
  · intro b hb; cases hb
theorem elo_ne {ts : List Int} {o : Ob} {b : List Int} (h : oB (eLo ts) o = some b) : b ≠ [] := by
  obtain ⟨x, y, e1, e2, rfl⟩ := oB_eq h
  intro hx
  unfold eLo at e1
  split at e1
  · obtain ⟨x1, y1, e3, _, rfl⟩ := oB_eq e1
    obtain rfl := Option.some.inj e3
    have := List.append_eq_nil_iff.1 (List.append_eq_nil_iff.1 hx).1
    exact lebF_ne _ _ this.1
  · cases e1
/-- what an inner writer did, seen from ahead of it -/
theorem inner_later {W1 W : World} {q1 : Nat} (hl : Later w W1) (hq1 : w.heap.size ≤ q1) (V : Wr (Sq (q1 + 1) (fun _ => False) q1) W1 W) : Later w W :=
  ((Wr.of_later (S := fun k => w.heap.size ≤ k) hl).trans (V.mono fun k _ hk => by rcases hk with rfl | hk; exact hq1; (have := hk.1; omega))).later (fun _ h => h)
/-- what an inner writer wrote, put behind its size -/
theorem sized_inner {W1 W : World} {q1 : Nat} (h : Ew B P q w d) (hl : Later w W1) (hq1 : w.heap.size ≤ q1) (V : Wr (Sq (q1 + 1) (fun _ => False) q1) W1 W) (I : Ew (q1 + 1) (fun _ => False) q1 W b) (hne : b ≠ []) (hby : ∀ x ∈ b, 0 ≤ x ∧ x < 256) :
    ∃ A c, W.cell? ⟨q1, 0, none⟩ = some (.slice A b.length c) ∧ ∀ (W2 : World) (d2 : List Int), Ew B (fun k => P k ∨ (w.heap.size ≤ k ∧ k < W.heap.size)) q W2 d2 → Wr (Sq B (fun k => P k ∨ (w.heap.size ≤ k ∧ k < W.heap.size)) q) W W2 →
      W2.cell? ⟨q1, 0, none⟩ = some (.slice A b.length c) ∧ Calls Try.prog 26 #[.pointer (some ⟨q, 0, none⟩), .slice A b.length c] W2 (Pt B (fun k => P k ∨ (w.heap.size ≤ k ∧ k < W.heap.size)) q W2 d2 (eZ (some b)) (.tuple #[])) := by
  obtain ⟨A, c, hc, _, hlt⟩ := I.form
  obtain ⟨hR, hA⟩ := I.rw8 hc
  have hq := h.lt_q
  refine ⟨A, c, hc, fun W2 d2 h2 V2 => ⟨V2.cell (fun x => ?_) hc, sized_any A c b hne hby I.2.2.1 ?_ (fun g hg => Or.inr ⟨by have := (hA g hg).1; omega, (hA g hg).2⟩) h2⟩⟩
  · rcases x with x | x
    · omega
    · exact x.2 (Or.inr ⟨hq1, hlt⟩)
  · rcases hR with e | ⟨g, rfl, hg⟩
    · exact absurd e hne
    · refine Or.inr ⟨g, rfl, fun i u hu => V2.cell (fun x => ?_) (hg i u hu)⟩
      have hg2 := hA g rfl
      rcases x with x | x
      · omega
      · exact x.2 (Or.inr ⟨by omega, hg2.2⟩)
theorem start_at {W : World} {p : Nat} (hp : W.heap.size = p) : Ew (p + 1) (fun _ => False) p (W.alloc (.cells #[.slice none 0 0] 65)) [] := by
  subst hp
  exact Ew.start W
end Go.Proofs.Ytngciahmoenkiac.en
