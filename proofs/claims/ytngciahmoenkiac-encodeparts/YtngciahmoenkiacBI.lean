/- package encode's lists. -/
import Derived.Test.YtngciahmoenkiacBH
import Derived.LoopTactic
set_option linter.unusedVariables false
set_option linter.unusedSimpArgs false
set_option maxRecDepth 100000
set_option maxHeartbeats 4000000
namespace Go.Proofs.Ytngciahmoenkiac.en
open Go.RowKit
variable {B q : Nat} {P : Nat → Prop} {w w' w1 : World} {d b : List Int} {o o2 : Ob} {r : Value} {e : Ending}
theorem itc_get {Z : Nat → Prop} {w : World} : ∀ {fs : List Fd} {L : List Value}, itc Z w fs L → ∀ (n : Nat), itc Z w (fs.drop n) (L.drop n)
  | _, _, h, 0 => h
  | [], L, h, n + 1 => by
    obtain rfl : L = [] := h
    simpa using itc_get (fs := []) (L := []) (show ([] : List Value) = [] from rfl) n
  | x :: r, L, h, n + 1 => by
    obtain ⟨v, L', rfl, _, h2⟩ := h
    exact itc_get h2 n
theorem itc_take {Z : Nat → Prop} {w : World} : ∀ {fs : List Fd} {L : List Value}, itc Z w fs L → ∀ (n : Nat), itc Z w (fs.take n) (L.take n)
  | _, _, h, 0 => rfl
  | [], L, h, n + 1 => by
    obtain rfl : L = [] := h
    rfl
  | x :: r, L, h, n + 1 => by
    obtain ⟨v, L', rfl, h1, h2⟩ := h
    exact ⟨v, L'.take n, rfl, h1, itc_take h2 n⟩
theorem flat_part {α : Type} (f : α → List Fd) (k : Nat) (hf : ∀ x, (f x).length = k) : ∀ (xs : List α) (i : Nat) (x : α), xs[i]? = some x → ((xs.flatMap f).drop (i * k)).take k = f x
  | [], i, x, h => by simp at h
  | y :: xs, 0, x, h => by
    obtain rfl : y = x := by simpa using h
    rw [List.flatMap_cons, Nat.zero_mul, List.drop_zero, List.take_append_of_le_length (by rw [hf]; exact Nat.le_refl _), List.take_of_length_le (by rw [hf]; exact Nat.le_refl _)]
  | y :: xs, i + 1, x, h => by
    rw [List.flatMap_cons, show (i + 1) * k = (f y).length + i * k by rw [hf, Nat.add_mul, Nat.one_mul, Nat.add_comm], List.drop_append, Nat.add_sub_cancel_left, List.drop_of_length_le (by omega), List.nil_append]
    exact flat_part f k hf xs i x (by simpa using h)
/-- a struct of a row -/
theorem rt_at {α : Type} {f : α → List Fd} {Z : Nat → Prop} {w : World} {A : Option Addr} {xs : List α} (k : Nat) (hf : ∀ x, (f x).length = k) (h : Rt f Z w A xs) (i : Nat) (hi : i < xs.length) :
    ∃ g o c, A = some ⟨g, o, none⟩ ∧ Z g ∧ (∀ (t : Nat) (u : Value), c[t]? = some u → w.cell? ⟨g, o + i * k + t, none⟩ = some u) ∧ itc Z w (f xs[i]) c := by
  rcases h with h | ⟨g, o, L, e, hz, hc, hi2⟩
  · rw [h] at hi
    exact absurd hi (by simp)
  · refine ⟨g, o, (L.drop (i * k)).take k, e, hz, fun t u ht => ?_, ?_⟩
    · have h2 : (L.drop (i * k))[t]? = some u := by
        rw [List.getElem?_take] at ht
        split at ht
        · exact ht
        · cases ht
      rw [List.getElem?_drop] at h2
      rw [Nat.add_assoc]
      exact hc _ _ h2
    · have := itc_take (itc_get hi2 (i * k)) k
      rwa [flat_part f k hf xs i xs[i] (List.getElem?_eq_getElem hi)] at this
theorem el_some {α : Type} {most : Nat} {g : α → Ob} {xs : List α} {b : List Int} (hm : xs.length ≤ most) (h : eA g (xs.take xs.length) = some b) : eL most g xs = some (lebL (xs.length : Int) ++ b) := by
  rw [List.take_length] at h
  unfold eL
  rw [if_pos hm, h]
  rfl
theorem ea_take {α : Type} (g : α → Ob) (xs : List α) (j : Nat) (hj : j < xs.length) : eA g (xs.take (j + 1)) = oB (eA g (xs.take j)) (g xs[j]) := by
  rw [List.take_add_one, List.getElem?_eq_getElem hj, eA_app]
  show oB _ (oB (g xs[j]) (some [])) = _
  rw [oB_nil]
theorem el_bad {α : Type} {most : Nat} {g : α → Ob} {xs : List α} {j : Nat} (hj : j < xs.length) {D b : List Int} (hD : D = lebL (xs.length : Int)) (hb : eA g (xs.take j) = some b) (n : ¬ Fit (d ++ (D ++ b)) (g xs[j])) : ¬ Fit d (eL most g xs) := by
  rintro ⟨c, hc, hl⟩
  unfold eL at hc
  split at hc
  · obtain ⟨x, y, e1, e2, rfl⟩ := oB_eq hc
    obtain rfl := Option.some.inj e1
    have hs : eA g xs = oB (eA g (xs.take j)) (oB (g xs[j]) (eA g (xs.drop (j + 1)))) := by
      conv => lhs; rw [← List.take_append_drop j xs, eA_app, List.drop_eq_getElem_cons hj]
      rfl
    rw [hs, hb] at e2
    obtain ⟨x1, y1, e3, e4, rfl⟩ := oB_eq e2
    obtain rfl := Option.some.inj e3
    obtain ⟨x2, y2, e5, e6, rfl⟩ := oB_eq e4
    refine n ⟨x2, e5, ?_⟩
    subst hD
    simp only [List.length_append] at hl ⊢
    omega
  · cases hc
theorem el_many {α : Type} {most : Nat} {g : α → Ob} {xs : List α} (h : ¬ xs.length ≤ most) : ¬ Fit d (eL most g xs) := by
  rintro ⟨c, hc, _⟩
  unfold eL at hc
  rw [if_neg h] at hc
  cases hc
theorem el_head {α : Type} {most : Nat} {g : α → Ob} {xs : List α} (n : ¬ Fit d (some (lebL (xs.length : Int)))) : ¬ Fit d (eL most g xs) := by
  unfold eL
  split
  · exact fit_two n
  · exact fit_none d
theorem list_kinds (xs : List (Int)) (A : Option Addr) (c : Nat) (Z : Nat → Prop) (hR : Rt f1 Z w A xs) (hZ : ∀ k, Z k → k < w.heap.size → ¬ Sq B P q k) (hl : xs.length ≤ 140737488351232) (h : Ew B P q w d) :
    Calls Try.prog 31 #[.pointer (some ⟨q, 0, none⟩), .slice A xs.length c, .int .i64 1024, .func (.func 46) #[.pointer (some ⟨q, 0, none⟩)] #[]] w (Pt B P q w d (eL 1024 eK xs) (.int .i64 xs.length)) := by
  by_cases hm : xs.length ≤ 1024
  · have hn : Hid (∀ w : World, Calls Try.prog 10 #[.bool true] w fun e w' => e = .returned (.tuple #[]) ∧ w' = w) := need_ok
    have hN : Hid (Calls Try.prog 32 #[.pointer (some ⟨q, 0, none⟩), .int .i64 (xs.length : Int)] w (Pt B P q w d (some (lebL (xs.length : Int))) (.tuple #[]))) := by
      have := number_any (xs.length : Int) h
      rwa [len_wrap _ (by omega)] at this
    have hround : Hid (∀ (j : Nat) (hj : j < xs.length) (W : World) (d : List Int), Ew B P q W d → Wr (Sq B P q) w W → ∃ g o, A = some ⟨g, o, none⟩ ∧ W.cell? ⟨g, o + j, none⟩ = some (.int .i64 xs[j]) ∧ Calls Try.prog 46 #[.pointer (some ⟨q, 0, none⟩), .int .i64 xs[j]] W (Pt B P q W d (eK xs[j]) (.tuple #[]))) := fun j hj W d h V => by
      have hR2 : Rt f1 (fun k => Z k ∧ k < w.heap.size) W A xs := hR.move (fun _ => Nat.succ_pos _) fun k hk hl => ⟨⟨hk, hl⟩, V.block k hl (hZ k hk hl)⟩
      have hZ2 : ∀ k, (Z k ∧ k < w.heap.size) → k < W.heap.size → ¬ Sq B P q k := fun k hk _ => hZ k hk.1 hk.2
      obtain ⟨g, o, c, e, hz, hc, hi⟩ := rt_at 1 (fun _ => rfl) hR2 j hj
      obtain ⟨v, L', rfl, hv, _⟩ := hi
      obtain rfl : v = .int .i64 xs[j] := hv
      exact ⟨g, o, e, by have := hc 0 _ rfl; rwa [Nat.mul_one, Nat.add_zero] at this, vtype_any _ h⟩
    obtain ⟨n, hnx⟩ : ∃ n, n = xs.length := ⟨_, rfl⟩
    obtain ⟨D1, hD⟩ : ∃ D1, D1 = lebL (n : Int) := ⟨_, rfl⟩
    have hend : Hid (∀ j b, j = n → eA eK (xs.take j) = some b → eL 1024 eK xs = some (D1 ++ b)) := fun j b hj hb => by subst hj hD hnx; exact el_some hm hb
    have hbad : Hid (∀ (j : Nat) (hj : j < xs.length) (b : List Int), eA eK (xs.take j) = some b → ¬ Fit (d ++ (D1 ++ b)) (eK xs[j]) → ¬ Fit d (eL 1024 eK xs)) := fun j hj b hb n => el_bad hj (by rw [hD, hnx]) hb n
    have hhd : Hid (¬ Fit d (some D1) → ¬ Fit d (eL 1024 eK xs)) := fun n => by rw [hD, hnx] at n; exact el_head n
    have htk : Hid (∀ j (hj : j < xs.length), eA eK (xs.take (j + 1)) = oB (eA eK (xs.take j)) (eK xs[j])) := fun j hj => ea_take eK xs j hj
    have g1 : (n : Int) ≤ 1024 := by omega
    clear h hR hZ hl hm
    rw [← hnx, ← hD] at hN
    rw [← hnx]
    clear hD
    replace hnx : Hid (n = xs.length) := hnx
    generalize hO : eL 1024 eK xs = O at *
    clear hO
    go_enter Try.func31, Try.ntmps31
    go_wp2_with (first | (go_at_call 10; refine (hn.out _).mono ?_; rintro e w0 ⟨rfl, hw0⟩; obtain rfl := hw0.symm) | (go_at_call 32; refine hN.out.mono ?_; rintro e w1 ⟨V1, (⟨b1, hb1, rfl, E1⟩ | ⟨n1, rfl⟩)⟩))
    · obtain rfl : D1 = b1 := Option.some.inj hb1
      replace V1 : Hid _ := V1
      replace E1 : Hid _ := E1
      clear hN hn hhd hb1
      go_loopw [22] (fun i wr => ∃ (j : Nat) (bj : List Int), i = .int .i64 (j : Nat) ∧ j ≤ n ∧ eA eK (xs.take j) = some bj ∧ Ew B P q wr (d ++ (D1 ++ bj)) ∧ Wr (Sq B P q) w wr) (fun i _ => n - (intOf i).toNat)
      case atStart => exact ⟨0, [], rfl, Nat.zero_le _, rfl, by rw [List.append_nil]; exact E1.out, V1.out⟩
      case round =>
        obtain ⟨j, bj, rfl, hj, hb, hE, hV⟩ := hrel
        clear E1 V1
        by_cases hlt : j < n
        · have hl1 : (j : Int) < (n : Int) := by omega
          have hlx : j < xs.length := by have := hnx.out; omega
          obtain ⟨g, o, rfl, c0, hcall⟩ := hround.out j hlx wr _ hE hV
          have hl0 := cell_lt c0
          have hbd : Hid (¬ Fit (d ++ (D1 ++ bj)) (eK xs[j]) → ¬ Fit d O) := fun n => hbad.out j hlx bj hb n
          have htk2 := htk.out j hlx
          rw [hb] at htk2
          replace htk2 : Hid (eA eK (xs.take (j + 1)) = oB (some bj) (eK xs[j])) := htk2
          replace hcall : Hid _ := hcall
          replace hV : Hid _ := hV
          clear hround hend hbad htk hb hE
          generalize eK xs[j] = oj at *
          go_wp2_with fail
          refine Calls.mono (hcall.out) ?_
          clear hcall
          rintro e w2 ⟨V2, (⟨b2, hb2, rfl, E2⟩ | ⟨n2, rfl⟩)⟩
          · have hf : Hid (eA eK (xs.take (j + 1)) = some (bj ++ b2) ∧ Ew B P q w2 (d ++ (D1 ++ (bj ++ b2))) ∧ Wr (Sq B P q) w w2) := ⟨by rw [htk2.out, hb2]; rfl, by rw [show d ++ (D1 ++ (bj ++ b2)) = d ++ (D1 ++ bj) ++ b2 by simp [List.append_assoc]]; exact E2, hV.out.trans V2⟩
            clear V2 E2 hb2 htk2 hV hbd
            go_wp2_with fail
            go_roundw
            case rel => exact ⟨j + 1, bj ++ b2, by go_num, by omega, hf.out.1, hf.out.2.1, hf.out.2.2⟩
            case measure => simp [intOf]; omega
          · exact ⟨rfl, hV.out.trans V2, Or.inr ⟨hbd.out n2, rfl⟩⟩
        · have hl1 : ¬ (j : Int) < (n : Int) := by omega
          have hf : Hid (Pt B P q w d O (.int .i64 (n : Int)) (.returned (.int .i64 (n : Int))) wr) := ⟨hV, Or.inl ⟨D1 ++ bj, hend.out j bj (by omega) hb, rfl, hE⟩⟩
          clear hround hend hbad htk hb hE hV
          go_wp2_with fail
          go_ret
          exact hf.out
    · exact ⟨rfl, V1, Or.inr ⟨hhd.out n1, rfl⟩⟩
  · have hn : Hid (∀ w : World, Calls Try.prog 10 #[.bool false] w fun e w' => e = thn ∧ w' = w) := need_bad
    have hfin : Hid (Pt B P q w d (eL 1024 eK xs) (.int .i64 xs.length) thn w) := Pt.bad (Wr.refl _ _) (el_many hm)
    have g : ¬ (xs.length : Int) ≤ 1024 := by omega
    clear h hR hZ hl hm
    generalize eL 1024 eK xs = O at *
    generalize xs.length = n at *
    go_enter Try.func31, Try.ntmps31
    go_wp2_with (go_at_call 10; refine (hn.out _).mono ?_; rintro e w0 ⟨rfl, hw0⟩; obtain rfl := hw0.symm)
    exact ⟨rfl, hfin.out⟩
theorem list_nums (xs : List (Int)) (A : Option Addr) (c : Nat) (Z : Nat → Prop) (hR : Rt f1 Z w A xs) (hZ : ∀ k, Z k → k < w.heap.size → ¬ Sq B P q k) (hl : xs.length ≤ 140737488351232) (h : Ew B P q w d) :
    Calls Try.prog 31 #[.pointer (some ⟨q, 0, none⟩), .slice A xs.length c, .int .i64 1024, .func (.func 32) #[.pointer (some ⟨q, 0, none⟩)] #[]] w (Pt B P q w d (eL 1024 eN xs) (.int .i64 xs.length)) := by
  by_cases hm : xs.length ≤ 1024
  · have hn : Hid (∀ w : World, Calls Try.prog 10 #[.bool true] w fun e w' => e = .returned (.tuple #[]) ∧ w' = w) := need_ok
    have hN : Hid (Calls Try.prog 32 #[.pointer (some ⟨q, 0, none⟩), .int .i64 (xs.length : Int)] w (Pt B P q w d (some (lebL (xs.length : Int))) (.tuple #[]))) := by
      have := number_any (xs.length : Int) h
      rwa [len_wrap _ (by omega)] at this
    have hround : Hid (∀ (j : Nat) (hj : j < xs.length) (W : World) (d : List Int), Ew B P q W d → Wr (Sq B P q) w W → ∃ g o, A = some ⟨g, o, none⟩ ∧ W.cell? ⟨g, o + j, none⟩ = some (.int .i64 xs[j]) ∧ Calls Try.prog 32 #[.pointer (some ⟨q, 0, none⟩), .int .i64 xs[j]] W (Pt B P q W d (eN xs[j]) (.tuple #[]))) := fun j hj W d h V => by
      have hR2 : Rt f1 (fun k => Z k ∧ k < w.heap.size) W A xs := hR.move (fun _ => Nat.succ_pos _) fun k hk hl => ⟨⟨hk, hl⟩, V.block k hl (hZ k hk hl)⟩
      have hZ2 : ∀ k, (Z k ∧ k < w.heap.size) → k < W.heap.size → ¬ Sq B P q k := fun k hk _ => hZ k hk.1 hk.2
      obtain ⟨g, o, c, e, hz, hc, hi⟩ := rt_at 1 (fun _ => rfl) hR2 j hj
      obtain ⟨v, L', rfl, hv, _⟩ := hi
      obtain rfl : v = .int .i64 xs[j] := hv
      exact ⟨g, o, e, by have := hc 0 _ rfl; rwa [Nat.mul_one, Nat.add_zero] at this, number_any _ h⟩
    obtain ⟨n, hnx⟩ : ∃ n, n = xs.length := ⟨_, rfl⟩
    obtain ⟨D1, hD⟩ : ∃ D1, D1 = lebL (n : Int) := ⟨_, rfl⟩
    have hend : Hid (∀ j b, j = n → eA eN (xs.take j) = some b → eL 1024 eN xs = some (D1 ++ b)) := fun j b hj hb => by subst hj hD hnx; exact el_some hm hb
    have hbad : Hid (∀ (j : Nat) (hj : j < xs.length) (b : List Int), eA eN (xs.take j) = some b → ¬ Fit (d ++ (D1 ++ b)) (eN xs[j]) → ¬ Fit d (eL 1024 eN xs)) := fun j hj b hb n => el_bad hj (by rw [hD, hnx]) hb n
    have hhd : Hid (¬ Fit d (some D1) → ¬ Fit d (eL 1024 eN xs)) := fun n => by rw [hD, hnx] at n; exact el_head n
    have htk : Hid (∀ j (hj : j < xs.length), eA eN (xs.take (j + 1)) = oB (eA eN (xs.take j)) (eN xs[j])) := fun j hj => ea_take eN xs j hj
    have g1 : (n : Int) ≤ 1024 := by omega
    clear h hR hZ hl hm
    rw [← hnx, ← hD] at hN
    rw [← hnx]
    clear hD
    replace hnx : Hid (n = xs.length) := hnx
    generalize hO : eL 1024 eN xs = O at *
    clear hO
    go_enter Try.func31, Try.ntmps31
    go_wp2_with (first | (go_at_call 10; refine (hn.out _).mono ?_; rintro e w0 ⟨rfl, hw0⟩; obtain rfl := hw0.symm) | (go_at_call 32; refine hN.out.mono ?_; rintro e w1 ⟨V1, (⟨b1, hb1, rfl, E1⟩ | ⟨n1, rfl⟩)⟩))
    · obtain rfl : D1 = b1 := Option.some.inj hb1
      replace V1 : Hid _ := V1
      replace E1 : Hid _ := E1
      clear hN hn hhd hb1
      go_loopw [22] (fun i wr => ∃ (j : Nat) (bj : List Int), i = .int .i64 (j : Nat) ∧ j ≤ n ∧ eA eN (xs.take j) = some bj ∧ Ew B P q wr (d ++ (D1 ++ bj)) ∧ Wr (Sq B P q) w wr) (fun i _ => n - (intOf i).toNat)
      case atStart => exact ⟨0, [], rfl, Nat.zero_le _, rfl, by rw [List.append_nil]; exact E1.out, V1.out⟩
      case round =>
        obtain ⟨j, bj, rfl, hj, hb, hE, hV⟩ := hrel
        clear E1 V1
        by_cases hlt : j < n
        · have hl1 : (j : Int) < (n : Int) := by omega
          have hlx : j < xs.length := by have := hnx.out; omega
          obtain ⟨g, o, rfl, c0, hcall⟩ := hround.out j hlx wr _ hE hV
          have hl0 := cell_lt c0
          have hbd : Hid (¬ Fit (d ++ (D1 ++ bj)) (eN xs[j]) → ¬ Fit d O) := fun n => hbad.out j hlx bj hb n
          have htk2 := htk.out j hlx
          rw [hb] at htk2
          replace htk2 : Hid (eA eN (xs.take (j + 1)) = oB (some bj) (eN xs[j])) := htk2
          replace hcall : Hid _ := hcall
          replace hV : Hid _ := hV
          clear hround hend hbad htk hb hE
          generalize eN xs[j] = oj at *
          go_wp2_with fail
          refine Calls.mono (hcall.out) ?_
          clear hcall
          rintro e w2 ⟨V2, (⟨b2, hb2, rfl, E2⟩ | ⟨n2, rfl⟩)⟩
          · have hf : Hid (eA eN (xs.take (j + 1)) = some (bj ++ b2) ∧ Ew B P q w2 (d ++ (D1 ++ (bj ++ b2))) ∧ Wr (Sq B P q) w w2) := ⟨by rw [htk2.out, hb2]; rfl, by rw [show d ++ (D1 ++ (bj ++ b2)) = d ++ (D1 ++ bj) ++ b2 by simp [List.append_assoc]]; exact E2, hV.out.trans V2⟩
            clear V2 E2 hb2 htk2 hV hbd
            go_wp2_with fail
            go_roundw
            case rel => exact ⟨j + 1, bj ++ b2, by go_num, by omega, hf.out.1, hf.out.2.1, hf.out.2.2⟩
            case measure => simp [intOf]; omega
          · exact ⟨rfl, hV.out.trans V2, Or.inr ⟨hbd.out n2, rfl⟩⟩
        · have hl1 : ¬ (j : Int) < (n : Int) := by omega
          have hf : Hid (Pt B P q w d O (.int .i64 (n : Int)) (.returned (.int .i64 (n : Int))) wr) := ⟨hV, Or.inl ⟨D1 ++ bj, hend.out j bj (by omega) hb, rfl, hE⟩⟩
          clear hround hend hbad htk hb hE hV
          go_wp2_with fail
          go_ret
          exact hf.out
    · exact ⟨rfl, V1, Or.inr ⟨hhd.out n1, rfl⟩⟩
  · have hn : Hid (∀ w : World, Calls Try.prog 10 #[.bool false] w fun e w' => e = thn ∧ w' = w) := need_bad
    have hfin : Hid (Pt B P q w d (eL 1024 eN xs) (.int .i64 xs.length) thn w) := Pt.bad (Wr.refl _ _) (el_many hm)
    have g : ¬ (xs.length : Int) ≤ 1024 := by omega
    clear h hR hZ hl hm
    generalize eL 1024 eN xs = O at *
    generalize xs.length = n at *
    go_enter Try.func31, Try.ntmps31
    go_wp2_with (go_at_call 10; refine (hn.out _).mono ?_; rintro e w0 ⟨rfl, hw0⟩; obtain rfl := hw0.symm)
    exact ⟨rfl, hfin.out⟩
theorem list_funcs (xs : List (Int)) (A : Option Addr) (c : Nat) (Z : Nat → Prop) (hR : Rt f1 Z w A xs) (hZ : ∀ k, Z k → k < w.heap.size → ¬ Sq B P q k) (hl : xs.length ≤ 140737488351232) (h : Ew B P q w d) :
    Calls Try.prog 31 #[.pointer (some ⟨q, 0, none⟩), .slice A xs.length c, .int .i64 256, .func (.func 32) #[.pointer (some ⟨q, 0, none⟩)] #[]] w (Pt B P q w d (eL 256 eN xs) (.int .i64 xs.length)) := by
  by_cases hm : xs.length ≤ 256
  · have hn : Hid (∀ w : World, Calls Try.prog 10 #[.bool true] w fun e w' => e = .returned (.tuple #[]) ∧ w' = w) := need_ok
    have hN : Hid (Calls Try.prog 32 #[.pointer (some ⟨q, 0, none⟩), .int .i64 (xs.length : Int)] w (Pt B P q w d (some (lebL (xs.length : Int))) (.tuple #[]))) := by
      have := number_any (xs.length : Int) h
      rwa [len_wrap _ (by omega)] at this
    have hround : Hid (∀ (j : Nat) (hj : j < xs.length) (W : World) (d : List Int), Ew B P q W d → Wr (Sq B P q) w W → ∃ g o, A = some ⟨g, o, none⟩ ∧ W.cell? ⟨g, o + j, none⟩ = some (.int .i64 xs[j]) ∧ Calls Try.prog 32 #[.pointer (some ⟨q, 0, none⟩), .int .i64 xs[j]] W (Pt B P q W d (eN xs[j]) (.tuple #[]))) := fun j hj W d h V => by
      have hR2 : Rt f1 (fun k => Z k ∧ k < w.heap.size) W A xs := hR.move (fun _ => Nat.succ_pos _) fun k hk hl => ⟨⟨hk, hl⟩, V.block k hl (hZ k hk hl)⟩
      have hZ2 : ∀ k, (Z k ∧ k < w.heap.size) → k < W.heap.size → ¬ Sq B P q k := fun k hk _ => hZ k hk.1 hk.2
      obtain ⟨g, o, c, e, hz, hc, hi⟩ := rt_at 1 (fun _ => rfl) hR2 j hj
      obtain ⟨v, L', rfl, hv, _⟩ := hi
      obtain rfl : v = .int .i64 xs[j] := hv
      exact ⟨g, o, e, by have := hc 0 _ rfl; rwa [Nat.mul_one, Nat.add_zero] at this, number_any _ h⟩
    obtain ⟨n, hnx⟩ : ∃ n, n = xs.length := ⟨_, rfl⟩
    obtain ⟨D1, hD⟩ : ∃ D1, D1 = lebL (n : Int) := ⟨_, rfl⟩
    have hend : Hid (∀ j b, j = n → eA eN (xs.take j) = some b → eL 256 eN xs = some (D1 ++ b)) := fun j b hj hb => by subst hj hD hnx; exact el_some hm hb
    have hbad : Hid (∀ (j : Nat) (hj : j < xs.length) (b : List Int), eA eN (xs.take j) = some b → ¬ Fit (d ++ (D1 ++ b)) (eN xs[j]) → ¬ Fit d (eL 256 eN xs)) := fun j hj b hb n => el_bad hj (by rw [hD, hnx]) hb n
    have hhd : Hid (¬ Fit d (some D1) → ¬ Fit d (eL 256 eN xs)) := fun n => by rw [hD, hnx] at n; exact el_head n
    have htk : Hid (∀ j (hj : j < xs.length), eA eN (xs.take (j + 1)) = oB (eA eN (xs.take j)) (eN xs[j])) := fun j hj => ea_take eN xs j hj
    have g1 : (n : Int) ≤ 256 := by omega
    clear h hR hZ hl hm
    rw [← hnx, ← hD] at hN
    rw [← hnx]
    clear hD
    replace hnx : Hid (n = xs.length) := hnx
    generalize hO : eL 256 eN xs = O at *
    clear hO
    go_enter Try.func31, Try.ntmps31
    go_wp2_with (first | (go_at_call 10; refine (hn.out _).mono ?_; rintro e w0 ⟨rfl, hw0⟩; obtain rfl := hw0.symm) | (go_at_call 32; refine hN.out.mono ?_; rintro e w1 ⟨V1, (⟨b1, hb1, rfl, E1⟩ | ⟨n1, rfl⟩)⟩))
    · obtain rfl : D1 = b1 := Option.some.inj hb1
      replace V1 : Hid _ := V1
      replace E1 : Hid _ := E1
      clear hN hn hhd hb1
      go_loopw [22] (fun i wr => ∃ (j : Nat) (bj : List Int), i = .int .i64 (j : Nat) ∧ j ≤ n ∧ eA eN (xs.take j) = some bj ∧ Ew B P q wr (d ++ (D1 ++ bj)) ∧ Wr (Sq B P q) w wr) (fun i _ => n - (intOf i).toNat)
      case atStart => exact ⟨0, [], rfl, Nat.zero_le _, rfl, by rw [List.append_nil]; exact E1.out, V1.out⟩
      case round =>
        obtain ⟨j, bj, rfl, hj, hb, hE, hV⟩ := hrel
        clear E1 V1
        by_cases hlt : j < n
        · have hl1 : (j : Int) < (n : Int) := by omega
          have hlx : j < xs.length := by have := hnx.out; omega
          obtain ⟨g, o, rfl, c0, hcall⟩ := hround.out j hlx wr _ hE hV
          have hl0 := cell_lt c0
          have hbd : Hid (¬ Fit (d ++ (D1 ++ bj)) (eN xs[j]) → ¬ Fit d O) := fun n => hbad.out j hlx bj hb n
          have htk2 := htk.out j hlx
          rw [hb] at htk2
          replace htk2 : Hid (eA eN (xs.take (j + 1)) = oB (some bj) (eN xs[j])) := htk2
          replace hcall : Hid _ := hcall
          replace hV : Hid _ := hV
          clear hround hend hbad htk hb hE
          generalize eN xs[j] = oj at *
          go_wp2_with fail
          refine Calls.mono (hcall.out) ?_
          clear hcall
          rintro e w2 ⟨V2, (⟨b2, hb2, rfl, E2⟩ | ⟨n2, rfl⟩)⟩
          · have hf : Hid (eA eN (xs.take (j + 1)) = some (bj ++ b2) ∧ Ew B P q w2 (d ++ (D1 ++ (bj ++ b2))) ∧ Wr (Sq B P q) w w2) := ⟨by rw [htk2.out, hb2]; rfl, by rw [show d ++ (D1 ++ (bj ++ b2)) = d ++ (D1 ++ bj) ++ b2 by simp [List.append_assoc]]; exact E2, hV.out.trans V2⟩
            clear V2 E2 hb2 htk2 hV hbd
            go_wp2_with fail
            go_roundw
            case rel => exact ⟨j + 1, bj ++ b2, by go_num, by omega, hf.out.1, hf.out.2.1, hf.out.2.2⟩
            case measure => simp [intOf]; omega
          · exact ⟨rfl, hV.out.trans V2, Or.inr ⟨hbd.out n2, rfl⟩⟩
        · have hl1 : ¬ (j : Int) < (n : Int) := by omega
          have hf : Hid (Pt B P q w d O (.int .i64 (n : Int)) (.returned (.int .i64 (n : Int))) wr) := ⟨hV, Or.inl ⟨D1 ++ bj, hend.out j bj (by omega) hb, rfl, hE⟩⟩
          clear hround hend hbad htk hb hE hV
          go_wp2_with fail
          go_ret
          exact hf.out
    · exact ⟨rfl, V1, Or.inr ⟨hhd.out n1, rfl⟩⟩
  · have hn : Hid (∀ w : World, Calls Try.prog 10 #[.bool false] w fun e w' => e = thn ∧ w' = w) := need_bad
    have hfin : Hid (Pt B P q w d (eL 256 eN xs) (.int .i64 xs.length) thn w) := Pt.bad (Wr.refl _ _) (el_many hm)
    have g : ¬ (xs.length : Int) ≤ 256 := by omega
    clear h hR hZ hl hm
    generalize eL 256 eN xs = O at *
    generalize xs.length = n at *
    go_enter Try.func31, Try.ntmps31
    go_wp2_with (go_at_call 10; refine (hn.out _).mono ?_; rintro e w0 ⟨rfl, hw0⟩; obtain rfl := hw0.symm)
    exact ⟨rfl, hfin.out⟩
theorem list_mems (xs : List (Int × Int)) (A : Option Addr) (c : Nat) (Z : Nat → Prop) (hR : Rt fLi Z w A xs) (hZ : ∀ k, Z k → k < w.heap.size → ¬ Sq B P q k) (hl : xs.length ≤ 140737488351232) (h : Ew B P q w d) :
    Calls Try.prog 33 #[.pointer (some ⟨q, 0, none⟩), .slice A xs.length c, .int .i64 1024, .func (.func 35) #[.pointer (some ⟨q, 0, none⟩)] #[]] w (Pt B P q w d (eL 1024 eLi xs) (.int .i64 xs.length)) := by
  by_cases hm : xs.length ≤ 1024
  · have hn : Hid (∀ w : World, Calls Try.prog 10 #[.bool true] w fun e w' => e = .returned (.tuple #[]) ∧ w' = w) := need_ok
    have hN : Hid (Calls Try.prog 32 #[.pointer (some ⟨q, 0, none⟩), .int .i64 (xs.length : Int)] w (Pt B P q w d (some (lebL (xs.length : Int))) (.tuple #[]))) := by
      have := number_any (xs.length : Int) h
      rwa [len_wrap _ (by omega)] at this
    have hround : Hid (∀ (j : Nat) (hj : j < xs.length) (W : World) (d : List Int), Ew B P q W d → Wr (Sq B P q) w W → ∃ g o, A = some ⟨g, o, none⟩ ∧ W.cell? ⟨g, o + j * 2, none⟩ = some (.int .i64 xs[j].1) ∧ W.cell? ⟨g, o + j * 2 + 1, none⟩ = some (.int .i64 xs[j].2) ∧ ∀ W2, Later W W2 → Calls Try.prog 35 #[.pointer (some ⟨q, 0, none⟩), .agg #[.int .i64 xs[j].1, .int .i64 xs[j].2]] W2 (Pt B P q W2 d (eLi xs[j]) (.tuple #[]))) := fun j hj W d h V => by
      have hR2 : Rt fLi (fun k => Z k ∧ k < w.heap.size) W A xs := hR.move (fun _ => Nat.succ_pos _) fun k hk hl => ⟨⟨hk, hl⟩, V.block k hl (hZ k hk hl)⟩
      have hZ2 : ∀ k, (Z k ∧ k < w.heap.size) → k < W.heap.size → ¬ Sq B P q k := fun k hk _ => hZ k hk.1 hk.2
      obtain ⟨g, o, c, e, hz, hc, hi⟩ := rt_at 2 (fun _ => rfl) hR2 j hj
      obtain ⟨v0, _, rfl, h0, v1, _, rfl, h1, rfl⟩ := hi
      obtain rfl : v0 = .int .i64 xs[j].1 := h0
      obtain rfl : v1 = .int .i64 xs[j].2 := h1
      exact ⟨g, o, e, hc 0 _ rfl, hc 1 _ rfl, fun W' hl => limits_any _ (h.later hl)⟩
    obtain ⟨n, hnx⟩ : ∃ n, n = xs.length := ⟨_, rfl⟩
    obtain ⟨D1, hD⟩ : ∃ D1, D1 = lebL (n : Int) := ⟨_, rfl⟩
    have hend : Hid (∀ j b, j = n → eA eLi (xs.take j) = some b → eL 1024 eLi xs = some (D1 ++ b)) := fun j b hj hb => by subst hj hD hnx; exact el_some hm hb
    have hbad : Hid (∀ (j : Nat) (hj : j < xs.length) (b : List Int), eA eLi (xs.take j) = some b → ¬ Fit (d ++ (D1 ++ b)) (eLi xs[j]) → ¬ Fit d (eL 1024 eLi xs)) := fun j hj b hb n => el_bad hj (by rw [hD, hnx]) hb n
    have hhd : Hid (¬ Fit d (some D1) → ¬ Fit d (eL 1024 eLi xs)) := fun n => by rw [hD, hnx] at n; exact el_head n
    have htk : Hid (∀ j (hj : j < xs.length), eA eLi (xs.take (j + 1)) = oB (eA eLi (xs.take j)) (eLi xs[j])) := fun j hj => ea_take eLi xs j hj
    have g1 : (n : Int) ≤ 1024 := by omega
    clear h hR hZ hl hm
    rw [← hnx, ← hD] at hN
    rw [← hnx]
    clear hD
    replace hnx : Hid (n = xs.length) := hnx
    generalize hO : eL 1024 eLi xs = O at *
    clear hO
    go_enter Try.func33, Try.ntmps33
    go_wp2_with (first | (go_at_call 10; refine (hn.out _).mono ?_; rintro e w0 ⟨rfl, hw0⟩; obtain rfl := hw0.symm) | (go_at_call 32; refine hN.out.mono ?_; rintro e w1 ⟨V1, (⟨b1, hb1, rfl, E1⟩ | ⟨n1, rfl⟩)⟩))
    · obtain rfl : D1 = b1 := Option.some.inj hb1
      replace V1 : Hid _ := V1
      replace E1 : Hid _ := E1
      clear hN hn hhd hb1
      go_loopw [22] (fun i wr => ∃ (j : Nat) (bj : List Int), i = .int .i64 (j : Nat) ∧ j ≤ n ∧ eA eLi (xs.take j) = some bj ∧ Ew B P q wr (d ++ (D1 ++ bj)) ∧ Wr (Sq B P q) w wr) (fun i _ => n - (intOf i).toNat)
      case atStart => exact ⟨0, [], rfl, Nat.zero_le _, rfl, by rw [List.append_nil]; exact E1.out, V1.out⟩
      case round =>
        obtain ⟨j, bj, rfl, hj, hb, hE, hV⟩ := hrel
        clear E1 V1
        by_cases hlt : j < n
        · have hl1 : (j : Int) < (n : Int) := by omega
          have hlx : j < xs.length := by have := hnx.out; omega
          obtain ⟨g, o, rfl, c0, c1, hcall⟩ := hround.out j hlx wr _ hE hV
          have hl0 := cell_lt c0
          have hbd : Hid (¬ Fit (d ++ (D1 ++ bj)) (eLi xs[j]) → ¬ Fit d O) := fun n => hbad.out j hlx bj hb n
          have htk2 := htk.out j hlx
          rw [hb] at htk2
          replace htk2 : Hid (eA eLi (xs.take (j + 1)) = oB (some bj) (eLi xs[j])) := htk2
          replace hcall : Hid _ := hcall
          replace hV : Hid _ := hV
          clear hround hend hbad htk hb hE
          generalize eLi xs[j] = oj at *
          go_wp2_with fail
          refine Calls.mono (hcall.out _ (La (Lz _))) ?_
          clear hcall
          rintro e w2 ⟨V20, (⟨b2, hb2, rfl, E2⟩ | ⟨n2, rfl⟩)⟩
          · have V2 : Wr (Sq B P q) wr w2 := (sq_later (La (Lz _))).trans V20
            have hf : Hid (eA eLi (xs.take (j + 1)) = some (bj ++ b2) ∧ Ew B P q w2 (d ++ (D1 ++ (bj ++ b2))) ∧ Wr (Sq B P q) w w2) := ⟨by rw [htk2.out, hb2]; rfl, by rw [show d ++ (D1 ++ (bj ++ b2)) = d ++ (D1 ++ bj) ++ b2 by simp [List.append_assoc]]; exact E2, hV.out.trans V2⟩
            clear V2 V20 E2 hb2 htk2 hV hbd
            go_wp2_with fail
            go_roundw
            case rel => exact ⟨j + 1, bj ++ b2, by go_num, by omega, hf.out.1, hf.out.2.1, hf.out.2.2⟩
            case measure => simp [intOf]; omega
          · have V2 : Wr (Sq B P q) wr w2 := (sq_later (La (Lz _))).trans V20
            exact ⟨rfl, hV.out.trans V2, Or.inr ⟨hbd.out n2, rfl⟩⟩
        · have hl1 : ¬ (j : Int) < (n : Int) := by omega
          have hf : Hid (Pt B P q w d O (.int .i64 (n : Int)) (.returned (.int .i64 (n : Int))) wr) := ⟨hV, Or.inl ⟨D1 ++ bj, hend.out j bj (by omega) hb, rfl, hE⟩⟩
          clear hround hend hbad htk hb hE hV
          go_wp2_with fail
          go_ret
          exact hf.out
    · exact ⟨rfl, V1, Or.inr ⟨hhd.out n1, rfl⟩⟩
  · have hn : Hid (∀ w : World, Calls Try.prog 10 #[.bool false] w fun e w' => e = thn ∧ w' = w) := need_bad
    have hfin : Hid (Pt B P q w d (eL 1024 eLi xs) (.int .i64 xs.length) thn w) := Pt.bad (Wr.refl _ _) (el_many hm)
    have g : ¬ (xs.length : Int) ≤ 1024 := by omega
    clear h hR hZ hl hm
    generalize eL 1024 eLi xs = O at *
    generalize xs.length = n at *
    go_enter Try.func33, Try.ntmps33
    go_wp2_with (go_at_call 10; refine (hn.out _).mono ?_; rintro e w0 ⟨rfl, hw0⟩; obtain rfl := hw0.symm)
    exact ⟨rfl, hfin.out⟩
end Go.Proofs.Ytngciahmoenkiac.en
