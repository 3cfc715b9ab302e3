/- XH: IFH, IFI, joined. -/
import Derived.Test.YtkdfmgdadnlnlaaXE
/- Over this seat's translation: which instructions may be, by the document: some kinds. -/
set_option linter.unusedVariables false
set_option linter.unusedSimpArgs false
set_option maxRecDepth 100000
set_option maxHeartbeats 40000000
namespace Go.Proofs.Ytkdfmgdadnlnlaa
open Go.RowKit
theorem may_8 (op a b bi ty : Int) (A B E : Option Addr) (nl lc nb bc ne ec : Nat) (hf : Hid (fo op = 8)) (r : Bool) (hr : Hid (r = true ↔ (a = 0 ∧ b = 0 ∧ nl = 0 ∧ ty = 0 ∧ nb = 0 ∧ ne = 0 ∧ (op = 66 ∨ op = 68 ∨ (0 ≤ bi ∧ bi ≤ 4294967295))))) (w : World) :
    Calls Try.prog 39 #[.agg #[.int .i64 op, .int .i64 a, .int .i64 b, .int .i64 bi, .int .i64 ty, .slice A nl lc, .slice B nb bc, .slice E ne ec]] w fun e w' => e = .returned (.bool r) ∧ Later w w' := by
  have hform : Hid (∀ w : World, Calls Try.prog 38 #[.int .i64 op] w fun e w' => e = .returned (.int .i64 8) ∧ w' = w) := fun w => by
    have := form_any op w
    rwa [hf.out] at this
  by_cases wa : 0 ≤ a ∧ a ≤ 4294967295
  case neg =>
    have hwa : Hid (∀ w : World, Calls Try.prog 58 #[.int .i64 a] w fun e w' => e = .returned (.bool false) ∧ w' = w) := word_no a wa
    go_enter Try.func39, Try.ntmps39
    go_wp2_with (first | (go_at_call 38; refine (hform.out _).mono ?_; rintro e w' ⟨rfl, rfl⟩) | (go_at_call 58; refine (hwa.out _).mono ?_; rintro e w' ⟨rfl, rfl⟩))
    all_goals
      go_ret
      refine ⟨?_, La (Lz _)⟩
      cases r
      first
      | rfl
      | exact absurd (hr.out.2 (by omega)) (by decide)
      first
      | rfl
      | exact absurd (hr.out.1 rfl) (by omega)
  have hwa : Hid (∀ w : World, Calls Try.prog 58 #[.int .i64 a] w fun e w' => e = .returned (.bool true) ∧ w' = w) := word_yes a wa
  by_cases wb : 0 ≤ b ∧ b ≤ 4294967295
  case neg =>
    have hwb : Hid (∀ w : World, Calls Try.prog 58 #[.int .i64 b] w fun e w' => e = .returned (.bool false) ∧ w' = w) := word_no b wb
    go_enter Try.func39, Try.ntmps39
    go_wp2_with (first | (go_at_call 38; refine (hform.out _).mono ?_; rintro e w' ⟨rfl, rfl⟩) | (go_at_call 58; refine (hwa.out _).mono ?_; rintro e w' ⟨rfl, rfl⟩) | (go_at_call 58; refine (hwb.out _).mono ?_; rintro e w' ⟨rfl, rfl⟩))
    all_goals
      go_ret
      refine ⟨?_, La (Lz _)⟩
      cases r
      first
      | rfl
      | exact absurd (hr.out.2 (by omega)) (by decide)
      first
      | rfl
      | exact absurd (hr.out.1 rfl) (by omega)
  have hwb : Hid (∀ w : World, Calls Try.prog 58 #[.int .i64 b] w fun e w' => e = .returned (.bool true) ∧ w' = w) := word_yes b wb
  by_cases n66 : op = 66
  case pos =>
    subst n66
    replace hr : Hid (r = true ↔ (a = 0 ∧ b = 0 ∧ nl = 0 ∧ ty = 0 ∧ nb = 0 ∧ ne = 0)) := by
      have := hr.out
      show _ ↔ _
      simpa using this
    go_enter Try.func39, Try.ntmps39
    go_wp2_with (first | (go_at_call 38; refine (hform.out _).mono ?_; rintro e w' ⟨rfl, rfl⟩) | (go_at_call 58; refine (hwa.out _).mono ?_; rintro e w' ⟨rfl, rfl⟩) | (go_at_call 58; refine (hwb.out _).mono ?_; rintro e w' ⟨rfl, rfl⟩))
    all_goals
      go_ret
      refine ⟨?_, La (Lz _)⟩
      cases r
      first
      | rfl
      | exact absurd (hr.out.2 (by omega)) (by decide)
      first
      | rfl
      | exact absurd (hr.out.1 rfl) (by omega)
  by_cases n68 : op = 68
  case pos =>
    subst n68
    replace hr : Hid (r = true ↔ (a = 0 ∧ b = 0 ∧ nl = 0 ∧ ty = 0 ∧ nb = 0 ∧ ne = 0)) := by
      have := hr.out
      show _ ↔ _
      simpa using this
    go_enter Try.func39, Try.ntmps39
    go_wp2_with (first | (go_at_call 38; refine (hform.out _).mono ?_; rintro e w' ⟨rfl, rfl⟩) | (go_at_call 58; refine (hwa.out _).mono ?_; rintro e w' ⟨rfl, rfl⟩) | (go_at_call 58; refine (hwb.out _).mono ?_; rintro e w' ⟨rfl, rfl⟩))
    all_goals
      go_ret
      refine ⟨?_, La (Lz _)⟩
      cases r
      first
      | rfl
      | exact absurd (hr.out.2 (by omega)) (by decide)
      first
      | rfl
      | exact absurd (hr.out.1 rfl) (by omega)
  have m66 := beq_false n66
  have m68 := beq_false n68
  by_cases wc : 0 ≤ bi ∧ bi ≤ 4294967295
  case neg =>
    have hwc : Hid (∀ w : World, Calls Try.prog 58 #[.int .i64 bi] w fun e w' => e = .returned (.bool false) ∧ w' = w) := word_no bi wc
    go_enter Try.func39, Try.ntmps39
    go_wp2_with (first | (go_at_call 38; refine (hform.out _).mono ?_; rintro e w' ⟨rfl, rfl⟩) | (go_at_call 58; refine (hwa.out _).mono ?_; rintro e w' ⟨rfl, rfl⟩) | (go_at_call 58; refine (hwb.out _).mono ?_; rintro e w' ⟨rfl, rfl⟩) | (go_at_call 58; refine (hwc.out _).mono ?_; rintro e w' ⟨rfl, rfl⟩))
    all_goals
      go_ret
      refine ⟨?_, La (Lz _)⟩
      cases r
      first
      | rfl
      | exact absurd (hr.out.2 (by omega)) (by decide)
      first
      | rfl
      | exact absurd (hr.out.1 rfl) (by omega)
  have hwc : Hid (∀ w : World, Calls Try.prog 58 #[.int .i64 bi] w fun e w' => e = .returned (.bool true) ∧ w' = w) := word_yes bi wc
  go_enter Try.func39, Try.ntmps39
  go_wp2_with (first | (go_at_call 38; refine (hform.out _).mono ?_; rintro e w' ⟨rfl, rfl⟩) | (go_at_call 58; refine (hwa.out _).mono ?_; rintro e w' ⟨rfl, rfl⟩) | (go_at_call 58; refine (hwb.out _).mono ?_; rintro e w' ⟨rfl, rfl⟩) | (go_at_call 58; refine (hwc.out _).mono ?_; rintro e w' ⟨rfl, rfl⟩))
  all_goals
    go_ret
    refine ⟨?_, La (Lz _)⟩
    cases r
    first
    | rfl
    | exact absurd (hr.out.2 (by omega)) (by decide)
    first
    | rfl
    | exact absurd (hr.out.1 rfl) (by omega)
theorem may_9 (op a b bi ty : Int) (A B E : Option Addr) (nl lc nb bc ne ec : Nat) (hf : Hid (fo op = 9)) (r : Bool) (hr : Hid (r = true ↔ (False))) (w : World) :
    Calls Try.prog 39 #[.agg #[.int .i64 op, .int .i64 a, .int .i64 b, .int .i64 bi, .int .i64 ty, .slice A nl lc, .slice B nb bc, .slice E ne ec]] w fun e w' => e = .returned (.bool r) ∧ Later w w' := by
  have hform : Hid (∀ w : World, Calls Try.prog 38 #[.int .i64 op] w fun e w' => e = .returned (.int .i64 9) ∧ w' = w) := fun w => by
    have := form_any op w
    rwa [hf.out] at this
  go_enter Try.func39, Try.ntmps39
  go_wp2_with (first | (go_at_call 38; refine (hform.out _).mono ?_; rintro e w' ⟨rfl, rfl⟩))
  go_ret
  refine ⟨?_, La (Lz _)⟩
  cases r
  rfl
  exact (hr.out.1 rfl).elim
end Go.Proofs.Ytkdfmgdadnlnlaa


/- Over this seat's translation: which instructions may be, by the document: labels. -/
set_option linter.unusedVariables false
set_option linter.unusedSimpArgs false
set_option maxRecDepth 100000
set_option maxHeartbeats 40000000
namespace Go.Proofs.Ytkdfmgdadnlnlaa
open Go.RowKit
theorem may_4 (op a b bi ty : Int) (A B E : Option Addr) (lc nb bc ne ec : Nat) (ls : List Int) (hl : ls.length * 8 ≤ 140737488351232) (hf : Hid (fo op = 4)) (r : Bool) (hr : Hid (r = true ↔ (a = 0 ∧ b = 0 ∧ bi = 0 ∧ ty = 0 ∧ nb = 0 ∧ ne = 0 ∧ (∀ x ∈ ls, Wd x) ∧ 1 ≤ ls.length ∧ ls.length ≤ 1024))) (Z : Nat → Prop) (w : World) (hL : Lq Z w A ls) :
    Calls Try.prog 39 #[.agg #[.int .i64 op, .int .i64 a, .int .i64 b, .int .i64 bi, .int .i64 ty, .slice A ls.length lc, .slice B nb bc, .slice E ne ec]] w fun e w' => e = .returned (.bool r) ∧ Later w w' := by
  have hform : Hid (∀ w : World, Calls Try.prog 38 #[.int .i64 op] w fun e w' => e = .returned (.int .i64 4) ∧ w' = w) := fun w => by
    have := form_any op w
    rwa [hf.out] at this
  by_cases hg : a = 0 ∧ b = 0 ∧ bi = 0 ∧ ty = 0 ∧ nb = 0 ∧ ne = 0
  case neg =>
    obtain rfl : r = false := by
      cases r
      · rfl
      · have := hr.out.1 rfl
        exact absurd ⟨this.1, this.2.1, this.2.2.1, this.2.2.2.1, this.2.2.2.2.1, this.2.2.2.2.2.1⟩ hg
    clear hr hL
    generalize ls.length = nl at *
    have hword : Hid (∀ (x : Int) (w : World), Calls Try.prog 58 #[.int .i64 x] w fun e w' => e = .returned (.bool (decide (0 ≤ x ∧ x ≤ 4294967295))) ∧ w' = w) := word_any
    by_cases wa : 0 ≤ a ∧ a ≤ 4294967295
    case neg =>
      have hwa : Hid (∀ w : World, Calls Try.prog 58 #[.int .i64 a] w fun e w' => e = .returned (.bool false) ∧ w' = w) := word_no a wa
      go_enter Try.func39, Try.ntmps39
      go_wp2_with (first | (go_at_call 38; refine (hform.out _).mono ?_; rintro e w' ⟨rfl, rfl⟩) | (go_at_call 58; refine (hwa.out _).mono ?_; rintro e w' ⟨rfl, rfl⟩))
      go_ret
      exact ⟨rfl, La (Lz _)⟩
    by_cases wb : 0 ≤ b ∧ b ≤ 4294967295
    case neg =>
      have hwa : Hid (∀ w : World, Calls Try.prog 58 #[.int .i64 a] w fun e w' => e = .returned (.bool true) ∧ w' = w) := word_yes a wa
      have hwb : Hid (∀ w : World, Calls Try.prog 58 #[.int .i64 b] w fun e w' => e = .returned (.bool false) ∧ w' = w) := word_no b wb
      go_enter Try.func39, Try.ntmps39
      go_wp2_with (first | (go_at_call 38; refine (hform.out _).mono ?_; rintro e w' ⟨rfl, rfl⟩) | (go_at_call 58; refine (hwa.out _).mono ?_; rintro e w' ⟨rfl, rfl⟩) | (go_at_call 58; refine (hwb.out _).mono ?_; rintro e w' ⟨rfl, rfl⟩))
      go_ret
      exact ⟨rfl, La (Lz _)⟩
    have hwa : Hid (∀ w : World, Calls Try.prog 58 #[.int .i64 a] w fun e w' => e = .returned (.bool true) ∧ w' = w) := word_yes a wa
    have hwb : Hid (∀ w : World, Calls Try.prog 58 #[.int .i64 b] w fun e w' => e = .returned (.bool true) ∧ w' = w) := word_yes b wb
    replace hg : (a != 0) = true ∨ (a = 0 ∧ (b != 0) = true) ∨ (a = 0 ∧ b = 0 ∧ (bi != 0) = true) ∨ (a = 0 ∧ b = 0 ∧ bi = 0 ∧ (ty != 0) = true) ∨ (a = 0 ∧ b = 0 ∧ bi = 0 ∧ ty = 0 ∧ 0 < nb) ∨ (a = 0 ∧ b = 0 ∧ bi = 0 ∧ ty = 0 ∧ nb = 0 ∧ 0 < ne) := by
      simp only [bne_iff_ne, ne_eq]
      omega
    rcases hg with h1 | ⟨rfl, h1⟩ | ⟨rfl, rfl, h1⟩ | ⟨rfl, rfl, rfl, h1⟩ | ⟨rfl, rfl, rfl, rfl, h1⟩ | ⟨rfl, rfl, rfl, rfl, rfl, h1⟩
    all_goals
      go_enter Try.func39, Try.ntmps39
      go_wp2_with (first | (go_at_call 38; refine (hform.out _).mono ?_; rintro e w' ⟨rfl, rfl⟩) | (go_at_call 58; refine (hwa.out _).mono ?_; rintro e w' ⟨rfl, rfl⟩) | (go_at_call 58; refine (hwb.out _).mono ?_; rintro e w' ⟨rfl, rfl⟩))
      go_ret
      exact ⟨rfl, La (Lz _)⟩
  case pos =>
    obtain ⟨rfl, rfl, rfl, rfl, rfl, rfl⟩ := hg
    have hr0 : Hid (r = true ↔ ((∀ x ∈ ls, Wd x) ∧ 1 ≤ ls.length ∧ ls.length ≤ 1024)) := ⟨fun h => (hr.out.1 h).2.2.2.2.2.2, fun h => hr.out.2 ⟨rfl, rfl, rfl, rfl, rfl, rfl, h⟩⟩
    clear hr
    have hw0 : Hid (∀ w : World, Calls Try.prog 58 #[.int .i64 0] w fun e w' => e = .returned (.bool true) ∧ w' = w) := word_yes 0 (by decide)
    replace hL : Hid (Lq Z w A ls) := hL
    go_enter Try.func39, Try.ntmps39
    go_wp2_with (first | (go_at_call 38; refine (hform.out _).mono ?_; rintro e w' ⟨rfl, rfl⟩) | (go_at_call 58; refine (hw0.out _).mono ?_; rintro e w' ⟨rfl, rfl⟩))
    have hs : ls.length < 9223372036854775807 := by omega
    obtain ⟨X, hX⟩ : ∃ X : World, X = w.alloc (.cells #[.int .i64 op, .int .i64 0, .int .i64 0, .int .i64 0, .int .i64 0, .slice A ls.length lc, .slice B 0 bc, .slice E 0 ec] 47) := ⟨_, rfl⟩
    have v5 : X.cell? ⟨w.heap.size, 5, none⟩ = some (.slice A ls.length lc) := by rw [hX]; simp [go_sem]
    have hv := cell_lt v5
    have LX : Hid (Later w X) := by rw [hX]; exact La (Lz _)
    rw [← hX]
    clear hX
    generalize w.heap.size = p at *
    go_loopw [4] (fun v wr => ∃ j : Nat, j ≤ ls.length ∧ v = .int .i64 (j : Nat) ∧ wr = X ∧ ∀ i, i < j → Wd (ls.getD i 0)) (fun v _ => ls.length - (intOf v).toNat)
    case atStart => exact ⟨0, Nat.zero_le _, rfl, rfl, fun i hi => absurd hi (Nat.not_lt_zero _)⟩
    case round =>
      obtain ⟨j, hj, rfl, hw, hall⟩ := hrel
      subst hw
      by_cases hlt : j < ls.length
      · have hl1 : (j : Int) < (ls.length : Int) := by omega
        obtain ⟨q, o, rfl, hc⟩ := (show Lq Z w A ls from hL).1.resolve_left (by omega)
        have c0 : wr.cell? ⟨q, o + j, none⟩ = some (.int .i64 (ls.getD j 0)) := LX.out.cell_of (hc j hlt)
        have hq := cell_lt c0
        by_cases hx : 0 ≤ ls.getD j 0 ∧ ls.getD j 0 ≤ 4294967295
        · have hwx : Hid (∀ w : World, Calls Try.prog 58 #[.int .i64 (ls.getD j 0)] w fun e w' => e = .returned (.bool true) ∧ w' = w) := word_yes _ hx
          have hall2 : Hid (∀ i, i < j + 1 → Wd (ls.getD i 0)) := fun i hi => by
            by_cases e : i = j
            · subst e; exact hx
            · exact hall i (by omega)
          clear hx hc hall hr0
          generalize ls.getD j 0 = x at *
          go_wp2_with (go_at_call 58; refine (hwx.out _).mono ?_; rintro e w' ⟨rfl, rfl⟩)
          go_roundw
          case rel => exact ⟨j + 1, by omega, by go_num, trivial, hall2.out⟩
          case measure => simp [intOf]; omega
        · have hwx : Hid (∀ w : World, Calls Try.prog 58 #[.int .i64 (ls.getD j 0)] w fun e w' => e = .returned (.bool false) ∧ w' = w) := word_no _ hx
          obtain rfl : r = false := by
            cases r
            · rfl
            · have := hr0.out.1 rfl
              refine absurd (this.1 (ls.getD j 0) ?_) hx
              rw [List.getD_eq_getElem?_getD, List.getElem?_eq_getElem hlt]
              exact List.getElem_mem hlt
          clear hx hc hall hr0
          generalize ls.getD j 0 = x at *
          go_wp2_with (go_at_call 58; refine (hwx.out _).mono ?_; rintro e w' ⟨rfl, rfl⟩)
          go_ret
          exact ⟨rfl, LX.out⟩
      · have hje : j = ls.length := by omega
        have hl1 : ¬ (j : Int) < (ls.length : Int) := by omega
        have hwd : ∀ x ∈ ls, Wd x := fun x hx => by
          obtain ⟨i, hi, rfl⟩ := List.getElem_of_mem hx
          have := hall i (by omega)
          rwa [List.getD_eq_getElem?_getD, List.getElem?_eq_getElem hi] at this
        have hr2 : r = true ↔ (1 ≤ ls.length ∧ ls.length ≤ 1024) := ⟨fun h => (hr0.out.1 h).2, fun h => hr0.out.2 ⟨hwd, h⟩⟩
        clear hr0 hall hwd hL
        generalize ls.length = nl at *
        have h3 : (¬ 1 ≤ nl ∧ r = false) ∨ (1 ≤ nl ∧ ¬ nl ≤ 1024 ∧ r = false) ∨ (1 ≤ nl ∧ nl ≤ 1024 ∧ r = true) := by
          by_cases a1 : 1 ≤ nl
          · by_cases a2 : nl ≤ 1024
            · exact Or.inr (Or.inr ⟨a1, a2, hr2.2 ⟨a1, a2⟩⟩)
            · refine Or.inr (Or.inl ⟨a1, a2, ?_⟩)
              cases r
              · rfl
              · exact absurd (hr2.1 rfl).2 a2
          · refine Or.inl ⟨a1, ?_⟩
            cases r
            · rfl
            · exact absurd (hr2.1 rfl).1 a1
        clear hr2
        rcases h3 with ⟨a1, rfl⟩ | ⟨a1, a2, rfl⟩ | ⟨a1, a2, rfl⟩
        all_goals
          go_wp2_with fail
          go_ret
          first
          | exact ⟨rfl, LX.out⟩
          | exact ⟨by show Ending.returned (.bool _) = Ending.returned (.bool _); congr 2; simp; omega, LX.out⟩
end Go.Proofs.Ytkdfmgdadnlnlaa

