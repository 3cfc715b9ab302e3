/- Over this seat's translation: package names: what may follow a byte (first, behind). -/
import Derived.Test.YthbagkaodcplmaaOB
import Derived.Test.YthbagkaodcplmaaLVE
set_option linter.unusedVariables false
set_option linter.unusedSimpArgs false
set_option maxRecDepth 100000
set_option maxHeartbeats 4000000
namespace Go.Proofs.Ythbagkaodcplmaa
open Go.RowKit
/-- how many bytes are left, and between which the next is -/
def due3 (m l h : Int) : Value := .agg #[.int .i64 m, .int .u8 l, .int .u8 h]
/-- behind a first byte -/
def fst3 (c : Int) : Int × Int × Int × Bool :=
  match lead c with
  | none => (0, 0, 0, false)
  | some (0, _, _) => (0, 0, 0, true)
  | some (m + 1, l, h) => (((m + 1 : Nat) : Int), l, h, true)
theorem first_any (c : Int) (h0 : 0 ≤ c ∧ c < 256) (w : World) :
    Calls Try.prog 30 #[.int .u8 c] w fun e w' => e = .returned (.tuple #[due3 (fst3 c).1 (fst3 c).2.1 (fst3 c).2.2.1, .bool (fst3 c).2.2.2]) ∧ Later w w' := by
  have hh : (c < 128 ∧ fst3 c = (0, 0, 0, true)) ∨ (¬ c < 128 ∧ c < 194 ∧ fst3 c = (0, 0, 0, false)) ∨ (¬ c < 128 ∧ ¬ c < 194 ∧ 244 < c ∧ fst3 c = (0, 0, 0, false))
      ∨ (¬ c < 128 ∧ ¬ c < 194 ∧ ¬ 244 < c ∧ c < 224 ∧ fst3 c = (1, 128, 191, true)) ∨ (c = 224 ∧ fst3 c = (2, 160, 191, true)) ∨ (c = 237 ∧ fst3 c = (2, 128, 159, true))
      ∨ (¬ c < 128 ∧ ¬ c < 194 ∧ ¬ 244 < c ∧ ¬ c < 224 ∧ (c == 224) = false ∧ (c == 237) = false ∧ c < 240 ∧ fst3 c = (2, 128, 191, true)) ∨ (c = 240 ∧ fst3 c = (3, 144, 191, true)) ∨ (c = 244 ∧ fst3 c = (3, 128, 143, true))
      ∨ (¬ c < 128 ∧ ¬ c < 194 ∧ ¬ 244 < c ∧ ¬ c < 224 ∧ (c == 224) = false ∧ (c == 237) = false ∧ ¬ c < 240 ∧ (c == 240) = false ∧ (c == 244) = false ∧ fst3 c = (3, 128, 191, true)) := by
    simp only [beq_eq_false_iff_ne, ne_eq]
    rcases lead_cases c h0.1 with ⟨h, e⟩ | ⟨h, e⟩ | ⟨h, e⟩ | ⟨h, e⟩ | ⟨h, e⟩ | ⟨h, e⟩ | ⟨h, e⟩ | ⟨h, e⟩ | ⟨h, e⟩ | ⟨h, e⟩ 
    · simp only [fst3, e]
      exact Or.inl ⟨h, trivial⟩
    · simp only [fst3, e]
      exact Or.inr (Or.inl ⟨by omega, by omega, trivial⟩)
    · simp only [fst3, e]
      exact Or.inr (Or.inr (Or.inr (Or.inl ⟨by omega, by omega, by omega, by omega, rfl⟩)))
    · simp only [fst3, e]
      exact Or.inr (Or.inr (Or.inr (Or.inr (Or.inl ⟨h, rfl⟩))))
    · simp only [fst3, e]
      exact Or.inr (Or.inr (Or.inr (Or.inr (Or.inr (Or.inl ⟨h, rfl⟩)))))
    · simp only [fst3, e]
      exact Or.inr (Or.inr (Or.inr (Or.inr (Or.inr (Or.inr (Or.inl ⟨by omega, by omega, by omega, by omega, by omega, by omega, by omega, rfl⟩))))))
    · simp only [fst3, e]
      exact Or.inr (Or.inr (Or.inr (Or.inr (Or.inr (Or.inr (Or.inr (Or.inl ⟨h, rfl⟩)))))))
    · simp only [fst3, e]
      exact Or.inr (Or.inr (Or.inr (Or.inr (Or.inr (Or.inr (Or.inr (Or.inr (Or.inl ⟨h, rfl⟩))))))))
    · simp only [fst3, e]
      exact Or.inr (Or.inr (Or.inr (Or.inr (Or.inr (Or.inr (Or.inr (Or.inr (Or.inr ⟨by omega, by omega, by omega, by omega, by omega, by omega, by omega, by omega, by omega, rfl⟩))))))))
    · simp only [fst3, e]
      exact Or.inr (Or.inr (Or.inl ⟨by omega, by omega, by omega, trivial⟩))
  clear h0
  rcases hh with ⟨h1, he⟩ | ⟨h1, h2, he⟩ | ⟨h1, h2, h3, he⟩ | ⟨h1, h2, h3, h4, he⟩ | ⟨rfl, he⟩ | ⟨rfl, he⟩ | ⟨h1, h2, h3, h4, h5, h6, h7, he⟩ | ⟨rfl, he⟩ | ⟨rfl, he⟩ | ⟨h1, h2, h3, h4, h5, h6, h7, h8, h9, he⟩
  all_goals
    rw [he]
    clear he
    go_enter Try.func30, Try.ntmps30
    go_wp2
    refine bodyPost_ret (v := .tuple #[_, .bool _]) (by simp [results, Try.results30, go_sem, due3]) rfl ⟨rfl, (by repeat first | exact Lz _ | apply La | apply Lv | apply Ld | apply Ln)⟩
/-- behind one more byte -/
def nxt3 (m l h c : Int) : Int × Int × Int × Bool := if m = 0 then fst3 c else if c < l ∨ h < c then (0, 0, 0, false) else (m - 1, 128, 191, true)
theorem behind_any (m l h c : Int) (hm : 0 ≤ m ∧ m ≤ 100) (hc : 0 ≤ c ∧ c < 256) (w : World) :
    Calls Try.prog 28 #[due3 m l h, .int .u8 c] w fun e w' => e = .returned (.tuple #[due3 (nxt3 m l h c).1 (nxt3 m l h c).2.1 (nxt3 m l h c).2.2.1, .bool (nxt3 m l h c).2.2.2]) ∧ Later w w' := by
  unfold nxt3
  by_cases h0 : m = 0
  · subst h0
    rw [if_pos rfl]
    have hf : Hid (∀ w : World, Calls Try.prog 30 #[.int .u8 c] w fun e w' => e = .returned (.tuple #[due3 (fst3 c).1 (fst3 c).2.1 (fst3 c).2.2.1, .bool (fst3 c).2.2.2]) ∧ Later w w') := fun w => first_any c hc w
    generalize fst3 c = p at *
    obtain ⟨x, y, z, ok⟩ := p
    simp only at hf ⊢
    unfold due3 at *
    go_enter Try.func28, Try.ntmps28
    go_wp2_with (go_at_call 30; refine (hf.out _).mono ?_; rintro e w2 ⟨rfl, bs, n, rfl⟩)
    refine bodyPost_ret (v := .tuple #[.agg #[.int .i64 x, .int .u8 y, .int .u8 z], .bool ok]) (by simp [results, Try.results28, go_sem]) rfl ⟨rfl, (by repeat first | exact Lz _ | apply La | apply Lv | apply Ld | apply Ln)⟩
  · rw [if_neg h0]
    have h1 : (m == 0) = false := beq_eq_false_iff_ne.2 h0
    have hw : m - 1 ≤ 9223372036854775807 := by omega
    have hw2 : -9223372036854775808 ≤ m - 1 := by omega
    clear h0 hm hc
    by_cases h2 : c < l
    · rw [if_pos (Or.inl h2)]
      unfold due3
      go_enter Try.func28, Try.ntmps28
      go_wp2
      refine bodyPost_ret (v := .tuple #[_, .bool _]) (by simp [results, Try.results28, go_sem]) rfl ⟨rfl, (by repeat first | exact Lz _ | apply La | apply Lv | apply Ld | apply Ln)⟩
    · by_cases h3 : h < c
      · rw [if_pos (Or.inr h3)]
        unfold due3
        go_enter Try.func28, Try.ntmps28
        go_wp2
        refine bodyPost_ret (v := .tuple #[_, .bool _]) (by simp [results, Try.results28, go_sem]) rfl ⟨rfl, (by repeat first | exact Lz _ | apply La | apply Lv | apply Ld | apply Ln)⟩
      · rw [if_neg (fun h => h.elim h2 h3)]
        unfold due3
        go_enter Try.func28, Try.ntmps28
        go_wp2
        refine bodyPost_ret (v := .tuple #[_, .bool _]) (by simp [results, Try.results28, go_sem]) rfl ⟨rfl, (by repeat first | exact Lz _ | apply La | apply Lv | apply Ld | apply Ln)⟩
end Go.Proofs.Ythbagkaodcplmaa
