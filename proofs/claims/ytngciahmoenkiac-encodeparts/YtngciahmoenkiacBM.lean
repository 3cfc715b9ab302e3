/- package encode: codes. -/
import Derived.Test.YtngciahmoenkiacBL
set_option linter.unusedVariables false
set_option linter.unusedSimpArgs false
set_option maxRecDepth 100000
set_option maxHeartbeats 4000000
namespace Go.Proofs.Ytngciahmoenkiac.en
open Go.RowKit
variable {B q : Nat} {P : Nat → Prop} {w w' w1 : World} {d b : List Int} {o o2 : Ob} {r : Value} {e : Ending}
theorem code_any (x : List Int × Fs) (Z : Nat → Prop) (A1 : Option Addr) (c1 : Nat) (hT1 : Lq Z w A1 x.1) (ho : x.2.Ok) (hfl : x.2.len * 112 ≤ 140737488351232) (A : Option Addr) (c : Nat) (hT : Tr Z w A x.2) (h : Ew B P q w d) :
    Calls Try.prog 43 #[.pointer (some ⟨q, 0, none⟩), .agg #[.slice A1 x.1.length c1, .slice A x.2.len c]] w (Pt B P q w d (eCo x) (.tuple #[])) := by
  have hl1 : Later w ((w.alloc (.cells #[.slice A1 x.1.length c1, .slice A x.2.len c] 59)).alloc (.cells #[.slice none 0 0] 65)) := La (La (Lz _))
  have I0 : Ew (w.heap.size + 1 + 1) (fun _ => False) (w.heap.size + 1) ((w.alloc (.cells #[.slice A1 x.1.length c1, .slice A x.2.len c] 59)).alloc (.cells #[.slice none 0 0] 65)) [] := start_at (by simp)
  have hrow : Hid (((w.alloc (.cells #[.slice A1 x.1.length c1, .slice A x.2.len c] 59)).alloc (.cells #[.slice none 0 0] 65)).rowIs w.heap.size 59 2 (fun j => [.slice A1 x.1.length c1, .slice A x.2.len c].getD j undef)) := rowIs_later (La (Lz _)) (row_new w 59 [.slice A1 x.1.length c1, .slice A x.2.len c])
  generalize hW1 : (w.alloc (.cells #[.slice A1 x.1.length c1, .slice A x.2.len c] 59)).alloc (.cells #[.slice none 0 0] 65) = W1 at *
  have H1 : Hid (Calls Try.prog 53 #[.pointer (some ⟨w.heap.size + 1, 0, none⟩), .slice A1 x.1.length c1] W1 (Pt (w.heap.size + 1 + 1) (fun _ => False) (w.heap.size + 1) W1 [] (eLo x.1) (.tuple #[]))) := locals_any x.1 A1 c1 Z ((lq_rt hT1).later (fun _ => Nat.succ_pos _) hl1) I0
  have H2 : Hid (∀ (W : World) (d' : List Int), Ew (w.heap.size + 1 + 1) (fun _ => False) (w.heap.size + 1) W d' → Wr (Sq (w.heap.size + 1 + 1) (fun _ => False) (w.heap.size + 1)) W1 W → Calls Try.prog 52 #[.pointer (some ⟨w.heap.size + 1, 0, none⟩), .slice A x.2.len c] W (Pt (w.heap.size + 1 + 1) (fun _ => False) (w.heap.size + 1) W d' (eI x.2) (.tuple #[]))) := fun W d' I V => instrs_any x.2 ho hfl Z A c (hT.later (inner_later hl1 (by omega) V)) I
  have H3 : Hid (∀ (W : World) (b : List Int), Ew (w.heap.size + 1 + 1) (fun _ => False) (w.heap.size + 1) W b → Wr (Sq (w.heap.size + 1 + 1) (fun _ => False) (w.heap.size + 1)) W1 W → oB (eLo x.1) (eI x.2) = some b → ∃ A c, W.cell? ⟨w.heap.size + 1, 0, none⟩ = some (.slice A b.length c) ∧ Calls Try.prog 26 #[.pointer (some ⟨q, 0, none⟩), .slice A b.length c] W (Pt B P q w d (eCo x) (.tuple #[]))) := fun W b I V hb => by
    have hL := inner_later hl1 (by omega) V
    obtain ⟨A', c', hc, hs⟩ := sized_inner h hl1 (by omega) V I (elo_ne hb) (((by_eLo x.1).two (by_eI x.2)) b hb)
    refine ⟨A', c', hc, ?_⟩
    have := (hs W d (h.with_new hL) (Wr.refl _ _)).2
    unfold eCo
    rw [hb]
    exact this.mono fun e w' h => (h.drop (fun k hk => Or.inl hk)).ahead (sq_later hL)
  have HB : Hid (∀ (W : World), Wr (Sq (w.heap.size + 1 + 1) (fun _ => False) (w.heap.size + 1)) W1 W → ¬ Fit [] (oB (eLo x.1) (eI x.2)) → Pt B P q w d (eCo x) (.tuple #[]) thn W) := fun W V n => Pt.bad (sq_later (inner_later hl1 (by omega) V)) (fit_sized n)
  replace I0 : Hid _ := I0
  have hnp : Hid (¬ Sq (w.heap.size + 1 + 1) (fun _ => False) (w.heap.size + 1) w.heap.size) := fun y => by rcases y with y | y; omega; (have := y.1; omega)
  clear hT hT1 h hl1 ho hfl
  generalize eCo x = oc at *
  generalize eLo x.1 = o1 at *
  generalize eI x.2 = o2 at *
  generalize x.1.length = n1 at *
  generalize x.2.len = n2 at *
  have rp := hrow.out
  have k0 : W1.cell? ⟨w.heap.size, 0, none⟩ = some (.slice A1 n1 c1) := rp.cell (i := 0) (by decide)
  have k1 : W1.cell? ⟨w.heap.size, 1, none⟩ = some (.slice A n2 c) := rp.cell (i := 1) (by decide)
  have lp := cell_lt k0
  clear rp
  go_enter Try.func43, Try.ntmps43
  go_wp2_with fail
  refine (H1.out).mono ?_
  clear k0 k1 lp
  rintro e w1 ⟨V1, (⟨b1, hb1, rfl, E1⟩ | ⟨n1, rfl⟩)⟩
  rotate_left
  · exact ⟨rfl, HB.out _ V1 (fit_two n1)⟩
  have rp := V1.row hnp.out hrow.out
  have k0 : w1.cell? ⟨w.heap.size, 0, none⟩ = some (.slice A1 _ c1) := rp.cell (i := 0) (by decide)
  have k1 : w1.cell? ⟨w.heap.size, 1, none⟩ = some (.slice A n2 c) := rp.cell (i := 1) (by decide)
  have lp := cell_lt k0
  clear rp
  replace V1 : Hid _ := V1
  replace E1 : Hid _ := E1
  replace hb1 : Hid (o1 = some b1) := hb1
  go_wp2_with fail
  refine (H2.out _ _ E1.out V1.out).mono ?_
  rintro e w2 ⟨V2, (⟨b2, hb2, rfl, E2⟩ | ⟨n2, rfl⟩)⟩
  rotate_left
  · exact ⟨rfl, HB.out _ (V1.out.trans V2) (by rw [hb1.out]; exact fit_snd n2)⟩
  rw [List.nil_append] at E2
  obtain ⟨A3, c3, hc, hs⟩ := H3.out w2 (b1 ++ b2) E2 (V1.out.trans V2) (by rw [hb1.out, hb2]; rfl)
  have l3 := cell_lt hc
  replace hs : Hid (Calls Try.prog 26 #[.pointer (some ⟨q, 0, none⟩), .slice A3 (b1 ++ b2).length c3] w2 (Pt B P q w d oc (.tuple #[]))) := hs
  generalize (b1 ++ b2).length = n3 at *
  clear H1 H2 H3 HB k0 k1 lp E2 V2 hb2 E1 V1 hW1 hrow hnp I0 hb1
  go_wp2_with fail
  refine (Calls.mono hs.out ?_)
  rintro e w' ⟨V, (⟨b, hb, rfl, E⟩ | ⟨n, rfl⟩)⟩
  · have hf : Hid (Pt B P q w d oc (.tuple #[]) (.returned (.tuple #[])) w') := ⟨V, Or.inl ⟨b, hb, rfl, E⟩⟩
    clear V hb E
    go_wp2_with fail
    go_end0
    exact hf.out
  · exact ⟨rfl, V, Or.inr ⟨n, rfl⟩⟩
theorem list_cods (xs : List (List Int × Fs)) (A : Option Addr) (c : Nat) (Z : Nat → Prop) (hR : Rt fCo Z w A xs) (hZ : ∀ k, Z k → k < w.heap.size → ¬ Sq B P q k) (hl : xs.length ≤ 140737488351232) (hok : ∀ x ∈ xs, x.2.Ok ∧ x.2.len * 112 ≤ 140737488351232) (h : Ew B P q w d) :
    Calls Try.prog 42 #[.pointer (some ⟨q, 0, none⟩), .slice A xs.length c, .int .i64 256, .func (.func 43) #[.pointer (some ⟨q, 0, none⟩)] #[]] w (Pt B P q w d (eL 256 eCo xs) (.int .i64 xs.length)) := by
  by_cases hm : xs.length ≤ 256
  · have hn : Hid (∀ w : World, Calls Try.prog 10 #[.bool true] w fun e w' => e = .returned (.tuple #[]) ∧ w' = w) := need_ok
    have hN : Hid (Calls Try.prog 32 #[.pointer (some ⟨q, 0, none⟩), .int .i64 (xs.length : Int)] w (Pt B P q w d (some (lebL (xs.length : Int))) (.tuple #[]))) := by
      have := number_any (xs.length : Int) h
      rwa [len_wrap _ (by omega)] at this
    have hround : Hid (∀ (j : Nat) (hj : j < xs.length) (W : World) (d : List Int), Ew B P q W d → Wr (Sq B P q) w W → ∃ g o, A = some ⟨g, o, none⟩ ∧ ∃ A1 c1 A2 c2, W.cell? ⟨g, o + j * 2, none⟩ = some (.slice A1 xs[j].1.length c1) ∧ W.cell? ⟨g, o + j * 2 + 1, none⟩ = some (.slice A2 xs[j].2.len c2) ∧ ∀ W2, Later W W2 → Calls Try.prog 43 #[.pointer (some ⟨q, 0, none⟩), .agg #[.slice A1 xs[j].1.length c1, .slice A2 xs[j].2.len c2]] W2 (Pt B P q W2 d (eCo xs[j]) (.tuple #[]))) := fun j hj W d h V => by
      have hR2 : Rt fCo (fun k => Z k ∧ k < w.heap.size) W A xs := hR.move (fun _ => Nat.succ_pos _) fun k hk hl => ⟨⟨hk, hl⟩, V.block k hl (hZ k hk hl)⟩
      have hZ2 : ∀ k, (Z k ∧ k < w.heap.size) → k < W.heap.size → ¬ Sq B P q k := fun k hk _ => hZ k hk.1 hk.2
      obtain ⟨g, o, c, e, hz, hc, hi⟩ := rt_at 2 (fun _ => rfl) hR2 j hj
      obtain ⟨v0, _, rfl, ⟨A1, c1, rfl, hT1⟩, v1, _, rfl, ⟨A2, c2, rfl, hT2⟩, rfl⟩ := hi
      exact ⟨g, o, e, A1, c1, A2, c2, hc 0 _ rfl, hc 1 _ rfl, fun W' hl => code_any _ (fun k => Z k ∧ k < w.heap.size) A1 c1 (hT1.later hl) (hok _ (List.getElem_mem hj)).1 (hok _ (List.getElem_mem hj)).2 A2 c2 (hT2.later hl) (h.later hl)⟩
    obtain ⟨n, hnx⟩ : ∃ n, n = xs.length := ⟨_, rfl⟩
    obtain ⟨D1, hD⟩ : ∃ D1, D1 = lebL (n : Int) := ⟨_, rfl⟩
    have hend : Hid (∀ j b, j = n → eA eCo (xs.take j) = some b → eL 256 eCo xs = some (D1 ++ b)) := fun j b hj hb => by subst hj hD hnx; exact el_some hm hb
    have hbad : Hid (∀ (j : Nat) (hj : j < xs.length) (b : List Int), eA eCo (xs.take j) = some b → ¬ Fit (d ++ (D1 ++ b)) (eCo xs[j]) → ¬ Fit d (eL 256 eCo xs)) := fun j hj b hb n => el_bad hj (by rw [hD, hnx]) hb n
    have hhd : Hid (¬ Fit d (some D1) → ¬ Fit d (eL 256 eCo xs)) := fun n => by rw [hD, hnx] at n; exact el_head n
    have htk : Hid (∀ j (hj : j < xs.length), eA eCo (xs.take (j + 1)) = oB (eA eCo (xs.take j)) (eCo xs[j])) := fun j hj => ea_take eCo xs j hj
    have g1 : (n : Int) ≤ 256 := by omega
    clear h hR hZ hl hm
    rw [← hnx, ← hD] at hN
    rw [← hnx]
    clear hD
    replace hnx : Hid (n = xs.length) := hnx
    generalize hO : eL 256 eCo xs = O at *
    clear hO
    go_enter Try.func42, Try.ntmps42
    go_wp2_with (first | (go_at_call 10; refine (hn.out _).mono ?_; rintro e w0 ⟨rfl, hw0⟩; obtain rfl := hw0.symm) | (go_at_call 32; refine hN.out.mono ?_; rintro e w1 ⟨V1, (⟨b1, hb1, rfl, E1⟩ | ⟨n1, rfl⟩)⟩))
    · obtain rfl : D1 = b1 := Option.some.inj hb1
      replace V1 : Hid _ := V1
      replace E1 : Hid _ := E1
      clear hN hn hhd hb1
      go_loopw [22] (fun i wr => ∃ (j : Nat) (bj : List Int), i = .int .i64 (j : Nat) ∧ j ≤ n ∧ eA eCo (xs.take j) = some bj ∧ Ew B P q wr (d ++ (D1 ++ bj)) ∧ Wr (Sq B P q) w wr) (fun i _ => n - (intOf i).toNat)
      case atStart => exact ⟨0, [], rfl, Nat.zero_le _, rfl, by rw [List.append_nil]; exact E1.out, V1.out⟩
      case round =>
        obtain ⟨j, bj, rfl, hj, hb, hE, hV⟩ := hrel
        clear E1 V1
        by_cases hlt : j < n
        · have hl1 : (j : Int) < (n : Int) := by omega
          have hlx : j < xs.length := by have := hnx.out; omega
          obtain ⟨g, o, rfl, A1, c1, A2, c2, c0, c1, hcall⟩ := hround.out j hlx wr _ hE hV
          have hl0 := cell_lt c0
          have hbd : Hid (¬ Fit (d ++ (D1 ++ bj)) (eCo xs[j]) → ¬ Fit d O) := fun n => hbad.out j hlx bj hb n
          have htk2 := htk.out j hlx
          rw [hb] at htk2
          replace htk2 : Hid (eA eCo (xs.take (j + 1)) = oB (some bj) (eCo xs[j])) := htk2
          replace hcall : Hid _ := hcall
          replace hV : Hid _ := hV
          clear hround hend hbad htk hb hE
          generalize eCo xs[j] = oj at *
          go_wp2_with fail
          refine Calls.mono (hcall.out _ (La (Lz _))) ?_
          clear hcall
          rintro e w2 ⟨V20, (⟨b2, hb2, rfl, E2⟩ | ⟨n2, rfl⟩)⟩
          · have V2 : Wr (Sq B P q) wr w2 := (sq_later (La (Lz _))).trans V20
            have hf : Hid (eA eCo (xs.take (j + 1)) = some (bj ++ b2) ∧ Ew B P q w2 (d ++ (D1 ++ (bj ++ b2))) ∧ Wr (Sq B P q) w w2) := ⟨by rw [htk2.out, hb2]; rfl, by rw [show d ++ (D1 ++ (bj ++ b2)) = d ++ (D1 ++ bj) ++ b2 by simp [List.append_assoc]]; exact E2, hV.out.trans V2⟩
            clear V2 V20 E2 hb2 htk2 hV hbd
            go_wp2_with fail
            go_roundw
            case rel => exact ⟨j + 1, bj ++ b2, by go_num, by omega, hf.out.1, hf.out.2.1, hf.out.2.2⟩
            case measure => simp [intOf]; omega
          · have V2 : Wr (Sq B P q) wr w2 := (sq_later (La (Lz _))).trans V20
            exact ⟨rfl, hV.out.trans V2, Or.inr ⟨hbd.out n2, rfl⟩⟩
        · have hl1 : ¬ (j : Int) < (n : Int) := by omega
          have hf : Hid (Pt B P q w d O (.int .i64 (n : Int)) (.returned (.int .i64 (n : Int))) wr) := ⟨hV, Or.inl ⟨D1 ++ bj, hend.out j bj (by omega) hb, rfl, hE⟩⟩
          clear hround hend hbad htk hb hE hV
          go_wp2_with fail
          go_ret
          exact hf.out
    · exact ⟨rfl, V1, Or.inr ⟨hhd.out n1, rfl⟩⟩
  · have hn : Hid (∀ w : World, Calls Try.prog 10 #[.bool false] w fun e w' => e = thn ∧ w' = w) := need_bad
    have hfin : Hid (Pt B P q w d (eL 256 eCo xs) (.int .i64 xs.length) thn w) := Pt.bad (Wr.refl _ _) (el_many hm)
    have g : ¬ (xs.length : Int) ≤ 256 := by omega
    clear h hR hZ hl hm
    generalize eL 256 eCo xs = O at *
    generalize xs.length = n at *
    go_enter Try.func42, Try.ntmps42
    go_wp2_with (go_at_call 10; refine (hn.out _).mono ?_; rintro e w0 ⟨rfl, hw0⟩; obtain rfl := hw0.symm)
    exact ⟨rfl, hfin.out⟩
end Go.Proofs.Ytngciahmoenkiac.en
