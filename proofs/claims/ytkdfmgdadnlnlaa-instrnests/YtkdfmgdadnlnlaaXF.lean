/- XF: IFA, IFB, IFC, IFD, joined. -/
import Derived.Test.YtkdfmgdadnlnlaaXE
/- Over this seat's translation: which instructions may be, by the document: some kinds. -/
set_option linter.unusedVariables false
set_option linter.unusedSimpArgs false
set_option maxRecDepth 100000
set_option maxHeartbeats 40000000
namespace Go.Proofs.Ytkdfmgdadnlnlaa
open Go.RowKit
theorem may_0 (op a b bi ty : Int) (A B E : Option Addr) (nl lc nb bc ne ec : Nat) (hf : Hid (fo op = 0)) (r : Bool) (hr : Hid (r = true ↔ (a = 0 ∧ b = 0 ∧ bi = 0 ∧ nl = 0 ∧ ty = 0 ∧ nb = 0 ∧ ne = 0))) (w : World) :
    Calls Try.prog 39 #[.agg #[.int .i64 op, .int .i64 a, .int .i64 b, .int .i64 bi, .int .i64 ty, .slice A nl lc, .slice B nb bc, .slice E ne ec]] w fun e w' => e = .returned (.bool r) ∧ Later w w' := by
  have hform : Hid (∀ w : World, Calls Try.prog 38 #[.int .i64 op] w fun e w' => e = .returned (.int .i64 0) ∧ w' = w) := fun w => by
    have := form_any op w
    rwa [hf.out] at this
  by_cases wa : 0 ≤ a ∧ a ≤ 4294967295
  case neg =>
    have hwa : Hid (∀ w : World, Calls Try.prog 58 #[.int .i64 a] w fun e w' => e = .returned (.bool false) ∧ w' = w) := word_no a wa
    go_enter Try.func39, Try.ntmps39
    go_wp2_with (first | (go_at_call 38; refine (hform.out _).mono ?_; rintro e w' ⟨rfl, rfl⟩) | (go_at_call 58; refine (hwa.out _).mono ?_; rintro e w' ⟨rfl, rfl⟩))
    all_goals
      go_ret
      refine ⟨?_, La (Lz _)⟩
      cases r
      first
      | rfl
      | exact absurd (hr.out.2 (by omega)) (by decide)
      first
      | rfl
      | exact absurd (hr.out.1 rfl) (by omega)
  have hwa : Hid (∀ w : World, Calls Try.prog 58 #[.int .i64 a] w fun e w' => e = .returned (.bool true) ∧ w' = w) := word_yes a wa
  by_cases wb : 0 ≤ b ∧ b ≤ 4294967295
  case neg =>
    have hwb : Hid (∀ w : World, Calls Try.prog 58 #[.int .i64 b] w fun e w' => e = .returned (.bool false) ∧ w' = w) := word_no b wb
    go_enter Try.func39, Try.ntmps39
    go_wp2_with (first | (go_at_call 38; refine (hform.out _).mono ?_; rintro e w' ⟨rfl, rfl⟩) | (go_at_call 58; refine (hwa.out _).mono ?_; rintro e w' ⟨rfl, rfl⟩) | (go_at_call 58; refine (hwb.out _).mono ?_; rintro e w' ⟨rfl, rfl⟩))
    all_goals
      go_ret
      refine ⟨?_, La (Lz _)⟩
      cases r
      first
      | rfl
      | exact absurd (hr.out.2 (by omega)) (by decide)
      first
      | rfl
      | exact absurd (hr.out.1 rfl) (by omega)
  have hwb : Hid (∀ w : World, Calls Try.prog 58 #[.int .i64 b] w fun e w' => e = .returned (.bool true) ∧ w' = w) := word_yes b wb
  go_enter Try.func39, Try.ntmps39
  go_wp2_with (first | (go_at_call 38; refine (hform.out _).mono ?_; rintro e w' ⟨rfl, rfl⟩) | (go_at_call 58; refine (hwa.out _).mono ?_; rintro e w' ⟨rfl, rfl⟩) | (go_at_call 58; refine (hwb.out _).mono ?_; rintro e w' ⟨rfl, rfl⟩))
  all_goals
    go_ret
    refine ⟨?_, La (Lz _)⟩
    cases r
    first
    | rfl
    | exact absurd (hr.out.2 (by omega)) (by decide)
    first
    | rfl
    | exact absurd (hr.out.1 rfl) (by omega)
end Go.Proofs.Ytkdfmgdadnlnlaa


/- Over this seat's translation: which instructions may be, by the document: some kinds. -/
set_option linter.unusedVariables false
set_option linter.unusedSimpArgs false
set_option maxRecDepth 100000
set_option maxHeartbeats 40000000
namespace Go.Proofs.Ytkdfmgdadnlnlaa
open Go.RowKit
theorem may_1 (op a b bi ty : Int) (A B E : Option Addr) (nl lc nb bc ne ec : Nat) (hf : Hid (fo op = 1)) (r : Bool) (hr : Hid (r = true ↔ (a = 0 ∧ b = 0 ∧ bi = 0 ∧ nl = 0 ∧ ne = 0 ∧ (ty = 64 ∨ (124 ≤ ty ∧ ty ≤ 127))))) (w : World) :
    Calls Try.prog 39 #[.agg #[.int .i64 op, .int .i64 a, .int .i64 b, .int .i64 bi, .int .i64 ty, .slice A nl lc, .slice B nb bc, .slice E ne ec]] w fun e w' => e = .returned (.bool r) ∧ Later w w' := by
  have hform : Hid (∀ w : World, Calls Try.prog 38 #[.int .i64 op] w fun e w' => e = .returned (.int .i64 1) ∧ w' = w) := fun w => by
    have := form_any op w
    rwa [hf.out] at this
  by_cases wa : 0 ≤ a ∧ a ≤ 4294967295
  case neg =>
    have hwa : Hid (∀ w : World, Calls Try.prog 58 #[.int .i64 a] w fun e w' => e = .returned (.bool false) ∧ w' = w) := word_no a wa
    go_enter Try.func39, Try.ntmps39
    go_wp2_with (first | (go_at_call 38; refine (hform.out _).mono ?_; rintro e w' ⟨rfl, rfl⟩) | (go_at_call 58; refine (hwa.out _).mono ?_; rintro e w' ⟨rfl, rfl⟩))
    all_goals
      go_ret
      refine ⟨?_, La (Lz _)⟩
      cases r
      first
      | rfl
      | exact absurd (hr.out.2 (by omega)) (by decide)
      first
      | rfl
      | exact absurd (hr.out.1 rfl) (by omega)
  have hwa : Hid (∀ w : World, Calls Try.prog 58 #[.int .i64 a] w fun e w' => e = .returned (.bool true) ∧ w' = w) := word_yes a wa
  by_cases wb : 0 ≤ b ∧ b ≤ 4294967295
  case neg =>
    have hwb : Hid (∀ w : World, Calls Try.prog 58 #[.int .i64 b] w fun e w' => e = .returned (.bool false) ∧ w' = w) := word_no b wb
    go_enter Try.func39, Try.ntmps39
    go_wp2_with (first | (go_at_call 38; refine (hform.out _).mono ?_; rintro e w' ⟨rfl, rfl⟩) | (go_at_call 58; refine (hwa.out _).mono ?_; rintro e w' ⟨rfl, rfl⟩) | (go_at_call 58; refine (hwb.out _).mono ?_; rintro e w' ⟨rfl, rfl⟩))
    all_goals
      go_ret
      refine ⟨?_, La (Lz _)⟩
      cases r
      first
      | rfl
      | exact absurd (hr.out.2 (by omega)) (by decide)
      first
      | rfl
      | exact absurd (hr.out.1 rfl) (by omega)
  have hwb : Hid (∀ w : World, Calls Try.prog 58 #[.int .i64 b] w fun e w' => e = .returned (.bool true) ∧ w' = w) := word_yes b wb
  by_cases n64 : ty = 64
  case pos =>
    subst n64
    replace hr : Hid (r = true ↔ (a = 0 ∧ b = 0 ∧ bi = 0 ∧ nl = 0 ∧ ne = 0)) := by
      have := hr.out
      show _ ↔ _
      simpa using this
    go_enter Try.func39, Try.ntmps39
    go_wp2_with (first | (go_at_call 38; refine (hform.out _).mono ?_; rintro e w' ⟨rfl, rfl⟩) | (go_at_call 58; refine (hwa.out _).mono ?_; rintro e w' ⟨rfl, rfl⟩) | (go_at_call 58; refine (hwb.out _).mono ?_; rintro e w' ⟨rfl, rfl⟩))
    all_goals
      go_ret
      refine ⟨?_, La (Lz _)⟩
      cases r
      first
      | rfl
      | exact absurd (hr.out.2 (by omega)) (by decide)
      first
      | rfl
      | exact absurd (hr.out.1 rfl) (by omega)
  have m64 := beq_false n64
  by_cases tt : 124 ≤ ty ∧ ty ≤ 127
  case neg =>
    have ht : Hid (∀ w : World, Calls Try.prog 59 #[.int .i64 ty] w fun e w' => e = .returned (.bool false) ∧ w' = w) := tmay_no ty tt
    go_enter Try.func39, Try.ntmps39
    go_wp2_with (first | (go_at_call 38; refine (hform.out _).mono ?_; rintro e w' ⟨rfl, rfl⟩) | (go_at_call 58; refine (hwa.out _).mono ?_; rintro e w' ⟨rfl, rfl⟩) | (go_at_call 58; refine (hwb.out _).mono ?_; rintro e w' ⟨rfl, rfl⟩) | (go_at_call 59; refine (ht.out _).mono ?_; rintro e w' ⟨rfl, rfl⟩))
    all_goals
      go_ret
      refine ⟨?_, La (Lz _)⟩
      cases r
      first
      | rfl
      | exact absurd (hr.out.2 (by omega)) (by decide)
      first
      | rfl
      | exact absurd (hr.out.1 rfl) (by omega)
  have ht : Hid (∀ w : World, Calls Try.prog 59 #[.int .i64 ty] w fun e w' => e = .returned (.bool true) ∧ w' = w) := tmay_yes ty tt
  go_enter Try.func39, Try.ntmps39
  go_wp2_with (first | (go_at_call 38; refine (hform.out _).mono ?_; rintro e w' ⟨rfl, rfl⟩) | (go_at_call 58; refine (hwa.out _).mono ?_; rintro e w' ⟨rfl, rfl⟩) | (go_at_call 58; refine (hwb.out _).mono ?_; rintro e w' ⟨rfl, rfl⟩) | (go_at_call 59; refine (ht.out _).mono ?_; rintro e w' ⟨rfl, rfl⟩))
  all_goals
    go_ret
    refine ⟨?_, La (Lz _)⟩
    cases r
    first
    | rfl
    | exact absurd (hr.out.2 (by omega)) (by decide)
    first
    | rfl
    | exact absurd (hr.out.1 rfl) (by omega)
end Go.Proofs.Ytkdfmgdadnlnlaa


/- Over this seat's translation: which instructions may be, by the document: some kinds. -/
set_option linter.unusedVariables false
set_option linter.unusedSimpArgs false
set_option maxRecDepth 100000
set_option maxHeartbeats 40000000
namespace Go.Proofs.Ytkdfmgdadnlnlaa
open Go.RowKit
theorem may_2 (op a b bi ty : Int) (A B E : Option Addr) (nl lc nb bc ne ec : Nat) (hf : Hid (fo op = 2)) (r : Bool) (hr : Hid (r = true ↔ (a = 0 ∧ b = 0 ∧ bi = 0 ∧ nl = 0 ∧ (ty = 64 ∨ (124 ≤ ty ∧ ty ≤ 127))))) (w : World) :
    Calls Try.prog 39 #[.agg #[.int .i64 op, .int .i64 a, .int .i64 b, .int .i64 bi, .int .i64 ty, .slice A nl lc, .slice B nb bc, .slice E ne ec]] w fun e w' => e = .returned (.bool r) ∧ Later w w' := by
  have hform : Hid (∀ w : World, Calls Try.prog 38 #[.int .i64 op] w fun e w' => e = .returned (.int .i64 2) ∧ w' = w) := fun w => by
    have := form_any op w
    rwa [hf.out] at this
  by_cases wa : 0 ≤ a ∧ a ≤ 4294967295
  case neg =>
    have hwa : Hid (∀ w : World, Calls Try.prog 58 #[.int .i64 a] w fun e w' => e = .returned (.bool false) ∧ w' = w) := word_no a wa
    go_enter Try.func39, Try.ntmps39
    go_wp2_with (first | (go_at_call 38; refine (hform.out _).mono ?_; rintro e w' ⟨rfl, rfl⟩) | (go_at_call 58; refine (hwa.out _).mono ?_; rintro e w' ⟨rfl, rfl⟩))
    all_goals
      go_ret
      refine ⟨?_, La (Lz _)⟩
      cases r
      first
      | rfl
      | exact absurd (hr.out.2 (by omega)) (by decide)
      first
      | rfl
      | exact absurd (hr.out.1 rfl) (by omega)
  have hwa : Hid (∀ w : World, Calls Try.prog 58 #[.int .i64 a] w fun e w' => e = .returned (.bool true) ∧ w' = w) := word_yes a wa
  by_cases wb : 0 ≤ b ∧ b ≤ 4294967295
  case neg =>
    have hwb : Hid (∀ w : World, Calls Try.prog 58 #[.int .i64 b] w fun e w' => e = .returned (.bool false) ∧ w' = w) := word_no b wb
    go_enter Try.func39, Try.ntmps39
    go_wp2_with (first | (go_at_call 38; refine (hform.out _).mono ?_; rintro e w' ⟨rfl, rfl⟩) | (go_at_call 58; refine (hwa.out _).mono ?_; rintro e w' ⟨rfl, rfl⟩) | (go_at_call 58; refine (hwb.out _).mono ?_; rintro e w' ⟨rfl, rfl⟩))
    all_goals
      go_ret
      refine ⟨?_, La (Lz _)⟩
      cases r
      first
      | rfl
      | exact absurd (hr.out.2 (by omega)) (by decide)
      first
      | rfl
      | exact absurd (hr.out.1 rfl) (by omega)
  have hwb : Hid (∀ w : World, Calls Try.prog 58 #[.int .i64 b] w fun e w' => e = .returned (.bool true) ∧ w' = w) := word_yes b wb
  by_cases n64 : ty = 64
  case pos =>
    subst n64
    replace hr : Hid (r = true ↔ (a = 0 ∧ b = 0 ∧ bi = 0 ∧ nl = 0)) := by
      have := hr.out
      show _ ↔ _
      simpa using this
    go_enter Try.func39, Try.ntmps39
    go_wp2_with (first | (go_at_call 38; refine (hform.out _).mono ?_; rintro e w' ⟨rfl, rfl⟩) | (go_at_call 58; refine (hwa.out _).mono ?_; rintro e w' ⟨rfl, rfl⟩) | (go_at_call 58; refine (hwb.out _).mono ?_; rintro e w' ⟨rfl, rfl⟩))
    all_goals
      go_ret
      refine ⟨?_, La (Lz _)⟩
      cases r
      first
      | rfl
      | exact absurd (hr.out.2 (by omega)) (by decide)
      first
      | rfl
      | exact absurd (hr.out.1 rfl) (by omega)
  have m64 := beq_false n64
  by_cases tt : 124 ≤ ty ∧ ty ≤ 127
  case neg =>
    have ht : Hid (∀ w : World, Calls Try.prog 59 #[.int .i64 ty] w fun e w' => e = .returned (.bool false) ∧ w' = w) := tmay_no ty tt
    go_enter Try.func39, Try.ntmps39
    go_wp2_with (first | (go_at_call 38; refine (hform.out _).mono ?_; rintro e w' ⟨rfl, rfl⟩) | (go_at_call 58; refine (hwa.out _).mono ?_; rintro e w' ⟨rfl, rfl⟩) | (go_at_call 58; refine (hwb.out _).mono ?_; rintro e w' ⟨rfl, rfl⟩) | (go_at_call 59; refine (ht.out _).mono ?_; rintro e w' ⟨rfl, rfl⟩))
    all_goals
      go_ret
      refine ⟨?_, La (Lz _)⟩
      cases r
      first
      | rfl
      | exact absurd (hr.out.2 (by omega)) (by decide)
      first
      | rfl
      | exact absurd (hr.out.1 rfl) (by omega)
  have ht : Hid (∀ w : World, Calls Try.prog 59 #[.int .i64 ty] w fun e w' => e = .returned (.bool true) ∧ w' = w) := tmay_yes ty tt
  go_enter Try.func39, Try.ntmps39
  go_wp2_with (first | (go_at_call 38; refine (hform.out _).mono ?_; rintro e w' ⟨rfl, rfl⟩) | (go_at_call 58; refine (hwa.out _).mono ?_; rintro e w' ⟨rfl, rfl⟩) | (go_at_call 58; refine (hwb.out _).mono ?_; rintro e w' ⟨rfl, rfl⟩) | (go_at_call 59; refine (ht.out _).mono ?_; rintro e w' ⟨rfl, rfl⟩))
  all_goals
    go_ret
    refine ⟨?_, La (Lz _)⟩
    cases r
    first
    | rfl
    | exact absurd (hr.out.2 (by omega)) (by decide)
    first
    | rfl
    | exact absurd (hr.out.1 rfl) (by omega)
end Go.Proofs.Ytkdfmgdadnlnlaa


/- Over this seat's translation: which instructions may be, by the document: some kinds. -/
set_option linter.unusedVariables false
set_option linter.unusedSimpArgs false
set_option maxRecDepth 100000
set_option maxHeartbeats 40000000
namespace Go.Proofs.Ytkdfmgdadnlnlaa
open Go.RowKit
theorem may_3 (op a b bi ty : Int) (A B E : Option Addr) (nl lc nb bc ne ec : Nat) (hf : Hid (fo op = 3)) (r : Bool) (hr : Hid (r = true ↔ ((0 ≤ a ∧ a ≤ 4294967295) ∧ b = 0 ∧ bi = 0 ∧ nl = 0 ∧ ty = 0 ∧ nb = 0 ∧ ne = 0))) (w : World) :
    Calls Try.prog 39 #[.agg #[.int .i64 op, .int .i64 a, .int .i64 b, .int .i64 bi, .int .i64 ty, .slice A nl lc, .slice B nb bc, .slice E ne ec]] w fun e w' => e = .returned (.bool r) ∧ Later w w' := by
  have hform : Hid (∀ w : World, Calls Try.prog 38 #[.int .i64 op] w fun e w' => e = .returned (.int .i64 3) ∧ w' = w) := fun w => by
    have := form_any op w
    rwa [hf.out] at this
  by_cases wa : 0 ≤ a ∧ a ≤ 4294967295
  case neg =>
    have hwa : Hid (∀ w : World, Calls Try.prog 58 #[.int .i64 a] w fun e w' => e = .returned (.bool false) ∧ w' = w) := word_no a wa
    go_enter Try.func39, Try.ntmps39
    go_wp2_with (first | (go_at_call 38; refine (hform.out _).mono ?_; rintro e w' ⟨rfl, rfl⟩) | (go_at_call 58; refine (hwa.out _).mono ?_; rintro e w' ⟨rfl, rfl⟩))
    all_goals
      go_ret
      refine ⟨?_, La (Lz _)⟩
      cases r
      first
      | rfl
      | exact absurd (hr.out.2 (by omega)) (by decide)
      first
      | rfl
      | exact absurd (hr.out.1 rfl) (by omega)
  have hwa : Hid (∀ w : World, Calls Try.prog 58 #[.int .i64 a] w fun e w' => e = .returned (.bool true) ∧ w' = w) := word_yes a wa
  by_cases wb : 0 ≤ b ∧ b ≤ 4294967295
  case neg =>
    have hwb : Hid (∀ w : World, Calls Try.prog 58 #[.int .i64 b] w fun e w' => e = .returned (.bool false) ∧ w' = w) := word_no b wb
    go_enter Try.func39, Try.ntmps39
    go_wp2_with (first | (go_at_call 38; refine (hform.out _).mono ?_; rintro e w' ⟨rfl, rfl⟩) | (go_at_call 58; refine (hwa.out _).mono ?_; rintro e w' ⟨rfl, rfl⟩) | (go_at_call 58; refine (hwb.out _).mono ?_; rintro e w' ⟨rfl, rfl⟩))
    all_goals
      go_ret
      refine ⟨?_, La (Lz _)⟩
      cases r
      first
      | rfl
      | exact absurd (hr.out.2 (by omega)) (by decide)
      first
      | rfl
      | exact absurd (hr.out.1 rfl) (by omega)
  have hwb : Hid (∀ w : World, Calls Try.prog 58 #[.int .i64 b] w fun e w' => e = .returned (.bool true) ∧ w' = w) := word_yes b wb
  go_enter Try.func39, Try.ntmps39
  go_wp2_with (first | (go_at_call 38; refine (hform.out _).mono ?_; rintro e w' ⟨rfl, rfl⟩) | (go_at_call 58; refine (hwa.out _).mono ?_; rintro e w' ⟨rfl, rfl⟩) | (go_at_call 58; refine (hwb.out _).mono ?_; rintro e w' ⟨rfl, rfl⟩))
  all_goals
    go_ret
    refine ⟨?_, La (Lz _)⟩
    cases r
    first
    | rfl
    | exact absurd (hr.out.2 (by omega)) (by decide)
    first
    | rfl
    | exact absurd (hr.out.1 rfl) (by omega)
end Go.Proofs.Ytkdfmgdadnlnlaa

