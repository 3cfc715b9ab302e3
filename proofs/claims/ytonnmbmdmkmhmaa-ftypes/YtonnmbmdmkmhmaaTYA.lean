/- Types of functions: package ftype's May and Same, slices.Equal at numbers; the document's TypeMay and Same. -/
import Derived.Test.YtonnmbmdmkmhmaaCMA
import Derived.LoopTactic
set_option linter.unusedVariables false
set_option linter.unusedSimpArgs false
set_option maxRecDepth 100000
set_option maxHeartbeats 4000000
namespace Go.Proofs.Ytonnmbmdmkmhmaa.ty
open Go.RowKit
theorem istype_any (t : Int) (w : World) :
    Calls Try.prog 34 #[.int .i64 t] w fun e w' => e = .returned (.bool (decide (124 ≤ t ∧ t ≤ 127))) ∧ w' = w := by
  by_cases h1 : t = 127 ∨ t = 126 ∨ t = 125 ∨ t = 124
  · rw [decide_eq_true (by omega)]
    rcases h1 with rfl | rfl | rfl | rfl
    all_goals
      go_enter Try.func34, Try.ntmps34
      go_wp2
      go_ret
      exact ⟨rfl, rfl⟩
  · rw [decide_eq_false (by omega)]
    have a1 : ¬ t = 127 := by omega
    have a2 : ¬ t = 126 := by omega
    have a3 : ¬ t = 125 := by omega
    have a4 : ¬ t = 124 := by omega
    clear h1
    go_enter Try.func34, Try.ntmps34
    go_wp2
    go_ret
    exact ⟨rfl, rfl⟩
theorem typeMay_any (x : Int) (w : World) : Calls Try.prog 30 #[.int .i64 x] w fun e w' => e = .returned (.bool (decide (124 ≤ x ∧ x ≤ 127))) ∧ w' = w := by
  by_cases h1 : 124 ≤ x ∧ x ≤ 127
  · rw [decide_eq_true h1]
    obtain rfl | rfl | rfl | rfl : x = 124 ∨ x = 125 ∨ x = 126 ∨ x = 127 := by omega
    all_goals
      go_enter Try.func30, Try.ntmps30
      go_wp2
      go_ret
      exact ⟨rfl, rfl⟩
  · rw [decide_eq_false h1]
    have a1 : ¬ x = 124 := by omega
    have a2 : ¬ x = 125 := by omega
    have a3 : ¬ x = 126 := by omega
    have a4 : ¬ x = 127 := by omega
    replace h1 : ¬ 124 ≤ x ∨ (124 ≤ x ∧ ¬ x ≤ 127) := by omega
    rcases h1 with h1 | ⟨h1, h2⟩
    all_goals
      go_enter Try.func30, Try.ntmps30
      go_wp2
      go_ret
      exact ⟨rfl, rfl⟩
/-- may all of them be values' types? -/
def isT (x : Int) : Bool := decide (124 ≤ x ∧ x ≤ 127)
theorem values_any (A : Option Addr) (ls : List Int) (c : Nat) (hn : ls.length ≤ 140737488351232) (w : World) (h : Lst w A ls.length (fun j => ls.getD j 0)) :
    Calls Try.prog 29 #[.slice A ls.length c] w fun e w' => e = .returned (.bool (ls.all isT)) ∧ Later w w' := by
  replace h : Hid (Lst w A ls.length (fun j => ls.getD j 0)) := h
  obtain ⟨n, hn0⟩ : ∃ n, n = ls.length := ⟨_, rfl⟩
  obtain ⟨r, hr⟩ : ∃ r, r = ls.all isT := ⟨_, rfl⟩
  rw [← hn0] at hn ⊢
  rw [← hr]
  replace hn0 : Hid (n = ls.length) := hn0
  replace hr : Hid (r = ls.all isT) := hr
  go_enter Try.func29, Try.ntmps29
  go_wp2_with fail
  go_loopw [7] (fun i wr => ∃ j : Nat, j ≤ n ∧ i = .int .i64 (j : Nat) ∧ wr = w ∧ Hid (∀ t, t < j → isT (ls.getD t 0) = true)) (fun i _ => n - (intOf i).toNat)
  case atStart => exact ⟨0, Nat.zero_le _, rfl, rfl, fun t ht => by omega⟩
  case round =>
    obtain ⟨j, hj, rfl, rfl, hall⟩ := hrel
    by_cases hlt : j < n
    · obtain ⟨b, o, rfl, g1⟩ := h.out.resolve_left (by have := hn0.out; omega)
      obtain ⟨x, hx⟩ : ∃ x, x = ls.getD j 0 := ⟨_, rfl⟩
      have a0 := g1 j (by rw [← hn0.out]; exact hlt)
      simp only [] at a0
      rw [← hx] at a0
      have hl1 : (j : Int) < (n : Int) := by omega
      obtain ⟨T, hT⟩ : ∃ T, T = isT x := ⟨_, rfl⟩
      have ht : Hid (∀ W, Calls Try.prog 34 #[.int .i64 x] W fun e w' => e = .returned (.bool T) ∧ w' = W) := by rw [hT]; exact istype_any _
      clear g1
      replace hx : Hid (x = ls.getD j 0) := hx
      cases T
      · obtain rfl : r = false := by
          rw [hr.out, List.all_eq_false]
          have hj2 : j < ls.length := by rw [← hn0.out]; exact hlt
          refine ⟨ls[j], List.getElem_mem hj2, ?_⟩
          have : ls.getD j 0 = ls[j] := by simp [List.getD, hj2]
          rw [← this, ← hx.out, ← hT]
          simp
        clear hT
        go_wp2_with (go_at_call 34; refine (ht.out _).mono ?_; rintro e w1 ⟨rfl, rfl⟩)
        go_ret
        exact ⟨rfl, Lz _⟩
      · replace hT : Hid (true = isT x) := hT
        go_wp2_with (go_at_call 34; refine (ht.out _).mono ?_; rintro e w1 ⟨rfl, rfl⟩)
        refine ⟨⟨j + 1, by omega, by simp, by first | rfl | trivial, fun t h1 => ?_⟩, ?_⟩
        · rcases Nat.lt_or_ge t j with h2 | h2
          · exact hall.out t h2
          · obtain rfl : t = j := by omega
            rw [← hx.out]
            exact hT.out.symm
        · simp [intOf]
          omega
    · obtain rfl : j = n := by omega
      obtain rfl : r = true := by
        rw [hr.out, List.all_eq_true]
        intro x hx
        obtain ⟨t, ht, rfl⟩ := List.getElem_of_mem hx
        have := hall.out t (by rw [hn0.out]; exact ht)
        simpa [List.getD, ht] using this
      clear hall
      go_wp2_with fail
      go_ret
      exact ⟨rfl, Lz _⟩
/-- may a function have that type? -/
def tMay (x : List Int × List Int) : Bool := decide (x.1.length ≤ 32) && decide (x.2.length ≤ 1) && x.1.all isT && x.2.all isT
theorem may_any (A B : Option Addr) (x : List Int × List Int) (a b : Nat) (h1 : x.1.length ≤ 140737488351232) (h2 : x.2.length ≤ 140737488351232) (w : World) (hA : Lst w A x.1.length (fun j => x.1.getD j 0)) (hB : Lst w B x.2.length (fun j => x.2.getD j 0)) :
    Calls Try.prog 16 #[.agg #[.slice A x.1.length a, .slice B x.2.length b]] w fun e w' => e = .returned (.bool (tMay x)) ∧ Hid (Later w w') := by
  obtain ⟨p, q⟩ := x
  simp only [] at *
  have v1 : Hid (∀ W, Later w W → Calls Try.prog 29 #[.slice A p.length a] W fun e w' => e = .returned (.bool (p.all isT)) ∧ Later W w') := fun W hW => values_any A p a h1 W (hA.later hW)
  have v2 : Hid (∀ W, Later w W → Calls Try.prog 29 #[.slice B q.length b] W fun e w' => e = .returned (.bool (q.all isT)) ∧ Later W w') := fun W hW => values_any B q b h2 W (hB.later hW)
  unfold tMay
  clear hA hB
  obtain ⟨P, hP⟩ : ∃ P, P = p.all isT := ⟨_, rfl⟩
  obtain ⟨Q, hQ⟩ : ∃ Q, Q = q.all isT := ⟨_, rfl⟩
  simp only []
  rw [← hP] at v1 ⊢
  rw [← hQ] at v2 ⊢
  clear hP hQ
  generalize p.length = n at *
  generalize q.length = k at *
  by_cases l1 : n ≤ 32
  · have e1 : (n : Int) ≤ 32 := by omega
    by_cases l2 : k ≤ 1
    · have e2 : (k : Int) ≤ 1 := by omega
      simp only [l1, l2, decide_true, Bool.true_and]
      cases P
      · simp only [Bool.false_and]
        go_enter Try.func16, Try.ntmps16
        go_wp2_with (go_at_call 29; refine (v1.out _ (La (Lz _))).mono ?_; rintro e w1 ⟨rfl, l1⟩; replace l1 : Hid _ := l1)
        go_ret
        exact ⟨rfl, (La (Lz _)).trans l1.out⟩
      · simp only [Bool.true_and]
        go_enter Try.func16, Try.ntmps16
        go_wp2_with fail
        refine (v1.out _ (La (Lz _))).mono ?_
        rintro e w1 ⟨rfl, l1⟩
        have k1 : w1.cell? ⟨w.heap.size, 1, none⟩ = some (.slice B k b) := l1.cell_of (by simp [go_sem])
        have k2 := cell_lt k1
        have L1 : Hid (Later w w1) := (La (Lz _)).trans l1
        clear l1
        go_wp2_with fail
        refine (v2.out _ L1.out).mono ?_
        rintro e w2 ⟨rfl, l2⟩
        replace l2 : Hid _ := l2
        go_wp2_with fail
        go_ret
        exact ⟨rfl, L1.out.trans l2.out⟩
    · have e2 : ¬ (k : Int) ≤ 1 := by omega
      simp only [l1, l2, decide_true, decide_false, Bool.true_and, Bool.false_and]
      go_enter Try.func16, Try.ntmps16
      go_wp2_with fail
      go_ret
      exact ⟨rfl, La (Lz _)⟩
  · have e1 : ¬ (n : Int) ≤ 32 := by omega
    simp only [l1, decide_false, Bool.false_and]
    go_enter Try.func16, Try.ntmps16
    go_wp2_with fail
    go_ret
    exact ⟨rfl, La (Lz _)⟩
theorem getD_ne {a b : List Int} (hl : a.length = b.length) (j : Nat) (h : a.getD j 0 ≠ b.getD j 0) : ¬ a = b := fun e => h (by rw [e])
theorem getD_all {a b : List Int} (hl : a.length = b.length) (h : ∀ t, t < a.length → a.getD t 0 = b.getD t 0) : a = b := by
  apply List.ext_getElem hl
  intro t h1 h2
  have := h t h1
  simpa [List.getD, h1, h2] using this
/-- two lists of numbers -/
theorem equal_any (A B : Option Addr) (x y : List Int) (a b : Nat) (h1 : x.length ≤ 140737488351232) (h2 : y.length ≤ 140737488351232) (w : World) (hA : Lst w A x.length (fun j => x.getD j 0)) (hB : Lst w B y.length (fun j => y.getD j 0)) :
    Calls Try.prog 31 #[.slice A x.length a, .slice B y.length b] w fun e w' => e = .returned (.bool (decide (x = y))) ∧ Later w w' := by
  by_cases hl : x.length = y.length
  · rw [← hl] at hB ⊢
    obtain ⟨r, hr⟩ : ∃ r, r = decide (x = y) := ⟨_, rfl⟩
    rw [← hr]
    replace hr : Hid (r = decide (x = y)) := hr
    obtain ⟨n, hn0⟩ : ∃ n, n = x.length := ⟨_, rfl⟩
    rw [← hn0] at hA hB h1 ⊢
    clear h2
    replace hA : Hid (Lst w A n (fun j => x.getD j 0)) := hA
    replace hB : Hid (Lst w B n (fun j => y.getD j 0)) := hB
    replace hn0 : Hid (n = x.length) := hn0
    replace hl : Hid (x.length = y.length) := hl
    go_enter Try.func31, Try.ntmps31
    go_wp2_with fail
    go_loopw [13] (fun i wr => ∃ j d : Nat, j ≤ n ∧ i = .int .i64 (j : Nat) ∧ wr = w.drewN d ∧ Hid (∀ t, t < j → x.getD t 0 = y.getD t 0)) (fun i _ => n - (intOf i).toNat)
    case atStart => exact ⟨0, 0, Nat.zero_le _, rfl, by simp [World.drewN], fun t ht => by omega⟩
    case round =>
      obtain ⟨j, d, hj, rfl, rfl, hall⟩ := hrel
      by_cases hlt : j < n
      · obtain ⟨b1, o1, rfl, g1⟩ := hA.out.resolve_left (by omega)
        obtain ⟨b2, o2, rfl, g2⟩ := hB.out.resolve_left (by omega)
        obtain ⟨u, hu⟩ : ∃ u, u = x.getD j 0 := ⟨_, rfl⟩
        obtain ⟨v, hv⟩ : ∃ v, v = y.getD j 0 := ⟨_, rfl⟩
        have a0 := g1 j hlt
        have b0 := g2 j hlt
        simp only [] at a0 b0
        rw [← hu] at a0
        rw [← hv] at b0
        have hl1 : (j : Int) < (n : Int) := by omega
        clear g1 g2
        by_cases he : u = v
        · have hnx : Hid (∀ t, t < j + 1 → x.getD t 0 = y.getD t 0) := fun t h3 => by
            rcases Nat.lt_or_ge t j with h4 | h4
            · exact hall.out t h4
            · obtain rfl : t = j := by omega
              rw [← hu, ← hv, he]
          clear hu hv hall
          subst he
          go_wp2
          go_quiet (fail)
          go_wp2
          refine ⟨⟨j + 1, _, by omega, by simp, rfl, hnx⟩, ?_⟩
          simp [intOf]
          omega
        · obtain rfl : r = false := by
            rw [hr.out]
            exact decide_eq_false (getD_ne hl.out j (by rw [← hu, ← hv]; exact he))
          have e1 : (u == v) = false := beq_eq_false_iff_ne.2 he
          clear hu hv hall
          go_wp2
          go_quiet (fail)
          go_wp2
          go_ret
          exact ⟨rfl, by repeat first | exact Lz _ | apply Ln⟩
      · obtain rfl : j = n := by omega
        obtain rfl : r = true := by
          rw [hr.out]
          exact decide_eq_true (getD_all hl.out (by rw [← hn0.out]; exact hall.out))
        clear hall
        go_wp2_with fail
        go_ret
        exact ⟨rfl, by repeat first | exact Lz _ | apply Ln⟩
  · have hne : ¬ x = y := fun e => hl (by rw [e])
    rw [decide_eq_false hne]
    clear hA hB hne
    generalize x.length = n at *
    generalize y.length = k at *
    have e2 : ¬ (n : Int) = (k : Int) := fun e => hl (Int.ofNat.inj e)
    have e1 : ((n : Int) == (k : Int)) = false := beq_eq_false_iff_ne.2 e2
    go_enter Try.func31, Try.ntmps31
    go_wp2_with fail
    go_ret
    exact ⟨rfl, Lz _⟩
/-- are two types one? -/
def tSame (x y : List Int × List Int) : Bool := decide (x.1 = y.1) && decide (x.2 = y.2)
theorem fsame_any (A B C D : Option Addr) (x y : List Int × List Int) (a b c d : Nat) (w : World) (hx : x.1.length ≤ 140737488351232 ∧ x.2.length ≤ 140737488351232) (hy : y.1.length ≤ 140737488351232 ∧ y.2.length ≤ 140737488351232)
    (hA : Lst w A x.1.length (fun j => x.1.getD j 0)) (hB : Lst w B x.2.length (fun j => x.2.getD j 0)) (hC : Lst w C y.1.length (fun j => y.1.getD j 0)) (hD : Lst w D y.2.length (fun j => y.2.getD j 0)) :
    Calls Try.prog 18 #[.agg #[.slice A x.1.length a, .slice B x.2.length b], .agg #[.slice C y.1.length c, .slice D y.2.length d]] w fun e w' => e = .returned (.bool (tSame x y)) ∧ Hid (Later w w') := by
  obtain ⟨p, q⟩ := x
  obtain ⟨p', q'⟩ := y
  simp only [] at *
  have v1 : Hid (∀ W, Later w W → Calls Try.prog 31 #[.slice A p.length a, .slice C p'.length c] W fun e w' => e = .returned (.bool (decide (p = p'))) ∧ Later W w') := fun W hW => equal_any A C p p' a c hx.1 hy.1 W (hA.later hW) (hC.later hW)
  have v2 : Hid (∀ W, Later w W → Calls Try.prog 31 #[.slice B q.length b, .slice D q'.length d] W fun e w' => e = .returned (.bool (decide (q = q'))) ∧ Later W w') := fun W hW => equal_any B D q q' b d hx.2 hy.2 W (hB.later hW) (hD.later hW)
  unfold tSame
  clear hA hB hC hD
  simp only []
  generalize decide (p = p') = P at *
  generalize decide (q = q') = Q at *
  generalize p.length = n at *
  generalize q.length = k at *
  generalize p'.length = n' at *
  generalize q'.length = k' at *
  cases P
  · simp only [Bool.false_and]
    go_enter Try.func18, Try.ntmps18
    go_wp2_with (go_at_call 31; refine (v1.out _ (La (La (Lz _)))).mono ?_; rintro e w1 ⟨rfl, l1⟩; replace l1 : Hid _ := l1)
    go_ret
    exact ⟨rfl, (La (La (Lz _))).trans l1.out⟩
  · simp only [Bool.true_and]
    go_enter Try.func18, Try.ntmps18
    go_wp2_with fail
    refine (v1.out _ (La (La (Lz _)))).mono ?_
    rintro e w1 ⟨rfl, l1⟩
    have k1 : w1.cell? ⟨w.heap.size, 1, none⟩ = some (.slice B k b) := l1.cell_of (by simp [go_sem])
    have k2 := cell_lt k1
    have k3 : w1.cell? ⟨w.heap.size + 1, 1, none⟩ = some (.slice D k' d) := l1.cell_of (by simp [go_sem])
    have k4 := cell_lt k3
    have L1 : Hid (Later w w1) := (La (La (Lz _))).trans l1
    clear l1
    go_wp2_with fail
    refine (v2.out _ L1.out).mono ?_
    rintro e w2 ⟨rfl, l2⟩
    replace l2 : Hid _ := l2
    go_wp2_with fail
    go_ret
    exact ⟨rfl, L1.out.trans l2.out⟩
theorem alike_any (A B : Option Addr) (x y : List Int) (a b : Nat) (h1 : x.length ≤ 140737488351232) (h2 : y.length ≤ 140737488351232) (w : World) (hA : Lst w A x.length (fun j => x.getD j 0)) (hB : Lst w B y.length (fun j => y.getD j 0)) :
    Calls Try.prog 32 #[.slice A x.length a, .slice B y.length b] w fun e w' => e = .returned (.bool (decide (x = y))) ∧ Later w w' := by
  by_cases hl : x.length = y.length
  · rw [← hl] at hB ⊢
    obtain ⟨r, hr⟩ : ∃ r, r = decide (x = y) := ⟨_, rfl⟩
    rw [← hr]
    replace hr : Hid (r = decide (x = y)) := hr
    obtain ⟨n, hn0⟩ : ∃ n, n = x.length := ⟨_, rfl⟩
    rw [← hn0] at hA hB h1 ⊢
    clear h2
    replace hA : Hid (Lst w A n (fun j => x.getD j 0)) := hA
    replace hB : Hid (Lst w B n (fun j => y.getD j 0)) := hB
    replace hn0 : Hid (n = x.length) := hn0
    replace hl : Hid (x.length = y.length) := hl
    go_enter Try.func32, Try.ntmps32
    go_wp2_with fail
    go_loopw [5] (fun i wr => ∃ j d : Nat, j ≤ n ∧ i = .int .i64 (j : Nat) ∧ wr = w.drewN d ∧ Hid (∀ t, t < j → x.getD t 0 = y.getD t 0)) (fun i _ => n - (intOf i).toNat)
    case atStart => exact ⟨0, 0, Nat.zero_le _, rfl, by simp [World.drewN], fun t ht => by omega⟩
    case round =>
      obtain ⟨j, d, hj, rfl, rfl, hall⟩ := hrel
      by_cases hlt : j < n
      · obtain ⟨b1, o1, rfl, g1⟩ := hA.out.resolve_left (by omega)
        obtain ⟨b2, o2, rfl, g2⟩ := hB.out.resolve_left (by omega)
        obtain ⟨u, hu⟩ : ∃ u, u = x.getD j 0 := ⟨_, rfl⟩
        obtain ⟨v, hv⟩ : ∃ v, v = y.getD j 0 := ⟨_, rfl⟩
        have a0 := g1 j hlt
        have b0 := g2 j hlt
        simp only [] at a0 b0
        rw [← hu] at a0
        rw [← hv] at b0
        have hl1 : (j : Int) < (n : Int) := by omega
        clear g1 g2
        by_cases he : u = v
        · have hnx : Hid (∀ t, t < j + 1 → x.getD t 0 = y.getD t 0) := fun t h3 => by
            rcases Nat.lt_or_ge t j with h4 | h4
            · exact hall.out t h4
            · obtain rfl : t = j := by omega
              rw [← hu, ← hv, he]
          clear hu hv hall
          subst he
          go_wp2
          go_quiet (fail)
          go_wp2
          refine ⟨⟨j + 1, _, by omega, by simp, rfl, hnx⟩, ?_⟩
          simp [intOf]
          omega
        · obtain rfl : r = false := by
            rw [hr.out]
            exact decide_eq_false (getD_ne hl.out j (by rw [← hu, ← hv]; exact he))
          have e1 : (u == v) = false := beq_eq_false_iff_ne.2 he
          clear hu hv hall
          go_wp2
          go_quiet (fail)
          go_wp2
          go_ret
          exact ⟨rfl, by repeat first | exact Lz _ | apply Ln⟩
      · obtain rfl : j = n := by omega
        obtain rfl : r = true := by
          rw [hr.out]
          exact decide_eq_true (getD_all hl.out (by rw [← hn0.out]; exact hall.out))
        clear hall
        go_wp2_with fail
        go_ret
        exact ⟨rfl, by repeat first | exact Lz _ | apply Ln⟩
  · have hne : ¬ x = y := fun e => hl (by rw [e])
    rw [decide_eq_false hne]
    clear hA hB hne
    generalize x.length = n at *
    generalize y.length = k at *
    have e2 : ¬ (n : Int) = (k : Int) := fun e => hl (Int.ofNat.inj e)
    have e1 : ((n : Int) == (k : Int)) = false := beq_eq_false_iff_ne.2 e2
    go_enter Try.func32, Try.ntmps32
    go_wp2_with fail
    go_ret
    exact ⟨rfl, Lz _⟩
theorem rsame_any (A B C D : Option Addr) (x y : List Int × List Int) (a b c d : Nat) (w : World) (hx : x.1.length ≤ 140737488351232 ∧ x.2.length ≤ 140737488351232) (hy : y.1.length ≤ 140737488351232 ∧ y.2.length ≤ 140737488351232)
    (hA : Lst w A x.1.length (fun j => x.1.getD j 0)) (hB : Lst w B x.2.length (fun j => x.2.getD j 0)) (hC : Lst w C y.1.length (fun j => y.1.getD j 0)) (hD : Lst w D y.2.length (fun j => y.2.getD j 0)) :
    Calls Try.prog 19 #[.agg #[.slice A x.1.length a, .slice B x.2.length b], .agg #[.slice C y.1.length c, .slice D y.2.length d]] w fun e w' => e = .returned (.bool (tSame x y)) ∧ Hid (Later w w') := by
  obtain ⟨p, q⟩ := x
  obtain ⟨p', q'⟩ := y
  simp only [] at *
  have v1 : Hid (∀ W, Later w W → Calls Try.prog 32 #[.slice A p.length a, .slice C p'.length c] W fun e w' => e = .returned (.bool (decide (p = p'))) ∧ Later W w') := fun W hW => alike_any A C p p' a c hx.1 hy.1 W (hA.later hW) (hC.later hW)
  have v2 : Hid (∀ W, Later w W → Calls Try.prog 32 #[.slice B q.length b, .slice D q'.length d] W fun e w' => e = .returned (.bool (decide (q = q'))) ∧ Later W w') := fun W hW => alike_any B D q q' b d hx.2 hy.2 W (hB.later hW) (hD.later hW)
  unfold tSame
  clear hA hB hC hD
  simp only []
  generalize decide (p = p') = P at *
  generalize decide (q = q') = Q at *
  generalize p.length = n at *
  generalize q.length = k at *
  generalize p'.length = n' at *
  generalize q'.length = k' at *
  cases P
  · simp only [Bool.false_and]
    go_enter Try.func19, Try.ntmps19
    go_wp2_with (go_at_call 32; refine (v1.out _ (La (La (Lz _)))).mono ?_; rintro e w1 ⟨rfl, l1⟩; replace l1 : Hid _ := l1)
    go_ret
    exact ⟨rfl, (La (La (Lz _))).trans l1.out⟩
  · simp only [Bool.true_and]
    go_enter Try.func19, Try.ntmps19
    go_wp2_with fail
    refine (v1.out _ (La (La (Lz _)))).mono ?_
    rintro e w1 ⟨rfl, l1⟩
    have k1 : w1.cell? ⟨w.heap.size, 1, none⟩ = some (.slice B k b) := l1.cell_of (by simp [go_sem])
    have k2 := cell_lt k1
    have k3 : w1.cell? ⟨w.heap.size + 1, 1, none⟩ = some (.slice D k' d) := l1.cell_of (by simp [go_sem])
    have k4 := cell_lt k3
    have L1 : Hid (Later w w1) := (La (La (Lz _))).trans l1
    clear l1
    go_wp2_with fail
    refine (v2.out _ L1.out).mono ?_
    rintro e w2 ⟨rfl, l2⟩
    replace l2 : Hid _ := l2
    go_wp2_with fail
    go_ret
    exact ⟨rfl, L1.out.trans l2.out⟩
end Go.Proofs.Ytonnmbmdmkmhmaa.ty
