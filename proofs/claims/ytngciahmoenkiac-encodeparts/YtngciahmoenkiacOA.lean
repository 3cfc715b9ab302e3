/- Over this seat's translation: UTF-8 by the document's walk (pelorusref12: tail, Utf8). -/
import Derived.Test.YtngciahmoenkiacXB
set_option linter.unusedVariables false
set_option linter.unusedSimpArgs false
set_option maxRecDepth 100000
set_option maxHeartbeats 8000000
namespace Go.Proofs.Ytngciahmoenkiac
open Go.RowKit
/-- a first byte: how many go on, and between which the next is -/
def lead (c : Int) : Option (Nat × Int × Int) :=
  if c < 128 then some (0, 128, 191) else if 194 ≤ c ∧ c ≤ 223 then some (1, 128, 191)
  else if 224 ≤ c ∧ c ≤ 239 then some (2, (if c = 224 then 160 else 128), (if c = 237 then 159 else 191))
  else if 240 ≤ c ∧ c ≤ 244 then some (3, (if c = 240 then 144 else 128), (if c = 244 then 143 else 191)) else none
/-- a byte that goes on -/
def tl (s : ByteArray) (i : Nat) (l h : Int) : Bool := decide (i < s.size ∧ l ≤ bt s i ∧ bt s i ≤ h)
def tls (s : ByteArray) : Nat → Nat → Int → Int → Bool
  | _, 0, _, _ => true
  | i, m + 1, l, h => tl s i l h && tls s (i + 1) m 128 191
/-- UTF-8 from a place on, so many runes at most -/
def utf (s : ByteArray) : Nat → Nat → Bool
  | 0, _ => true
  | f + 1, i => if i < s.size then (match lead (bt s i) with | none => false | some (m, l, h) => tls s (i + 1) m l h && utf s f (i + 1 + m)) else true
def utfR (s : ByteArray) : Bool := utf s s.size 0
theorem tls_succ (s : ByteArray) (i m : Nat) (l h : Int) : tls s i (m + 1) l h = (tl s i l h && tls s (i + 1) m 128 191) := rfl
theorem utf_end (s : ByteArray) (f i : Nat) (h : s.size ≤ i) : utf s f i = true := by
  cases f with
  | zero => rfl
  | succ f => unfold utf; rw [if_neg (by omega)]
theorem utf_fuel (s : ByteArray) : ∀ (f g i : Nat), s.size - i ≤ f → s.size - i ≤ g → utf s f i = utf s g i
  | 0, g, i, hf, hg => by rw [utf_end s 0 i (by omega), utf_end s g i (by omega)]
  | f + 1, 0, i, hf, hg => by rw [utf_end s _ i (by omega), utf_end s 0 i (by omega)]
  | f + 1, g + 1, i, hf, hg => by
    unfold utf
    by_cases hi : i < s.size
    · rw [if_pos hi, if_pos hi]
      cases lead (bt s i) with
      | none => rfl
      | some p =>
        obtain ⟨m, l, h⟩ := p
        show (tls s (i + 1) m l h && utf s f (i + 1 + m)) = (tls s (i + 1) m l h && utf s g (i + 1 + m))
        rw [utf_fuel s f g (i + 1 + m) (by omega) (by omega)]
    · rw [if_neg hi, if_neg hi]
theorem utf_succ (s : ByteArray) (f i : Nat) : utf s (f + 1) i = if i < s.size then (match lead (bt s i) with | none => false | some (m, l, h) => tls s (i + 1) m l h && utf s f (i + 1 + m)) else true := rfl
theorem utf_step (s : ByteArray) (i m : Nat) (l h : Int) (hi : i < s.size) (hl : lead (bt s i) = some (m, l, h)) : utf s (s.size - i) i = (tls s (i + 1) m l h && utf s (s.size - (i + 1 + m)) (i + 1 + m)) := by
  obtain ⟨f, hf⟩ : ∃ f, s.size - i = f + 1 := ⟨s.size - i - 1, by omega⟩
  rw [hf, utf_succ, if_pos hi, hl]
  show (tls s (i + 1) m l h && utf s f (i + 1 + m)) = _
  rw [utf_fuel s f (s.size - (i + 1 + m)) (i + 1 + m) (by omega) (Nat.le_refl _)]
theorem utf_none (s : ByteArray) (i : Nat) (hi : i < s.size) (hl : lead (bt s i) = none) : utf s (s.size - i) i = false := by
  obtain ⟨f, hf⟩ : ∃ f, s.size - i = f + 1 := ⟨s.size - i - 1, by omega⟩
  rw [hf, utf_succ, if_pos hi, hl]
theorem tls_in (s : ByteArray) : ∀ (m i : Nat) (l h : Int), tls s i m l h = true → 0 < m → i + m ≤ s.size
  | 0, i, l, h, ht, hm => by omega
  | m + 1, i, l, h, ht, hm => by
    unfold tls at ht
    rw [Bool.and_eq_true] at ht
    have h1 : i < s.size := (of_decide_eq_true ht.1).1
    by_cases h0 : m = 0
    · omega
    · have := tls_in s m (i + 1) 128 191 ht.2 (by omega)
      omega
theorem lead_cases (c : Int) (h0 : 0 ≤ c) : (c < 128 ∧ lead c = some (0, 128, 191)) ∨ ((¬ c < 128 ∧ c < 194) ∧ lead c = none) ∨ ((¬ c < 128 ∧ ¬ c < 194 ∧ c ≤ 223) ∧ lead c = some (1, 128, 191)) ∨ (c = 224 ∧ lead c = some (2, 160, 191)) ∨ (c = 237 ∧ lead c = some (2, 128, 159)) ∨ ((¬ c < 128 ∧ ¬ c < 194 ∧ ¬ c ≤ 223 ∧ ¬ c < 224 ∧ c ≤ 239 ∧ ¬ c = 224 ∧ ¬ c = 237) ∧ lead c = some (2, 128, 191)) ∨ (c = 240 ∧ lead c = some (3, 144, 191)) ∨ (c = 244 ∧ lead c = some (3, 128, 143)) ∨ ((¬ c < 128 ∧ ¬ c < 194 ∧ ¬ c ≤ 223 ∧ ¬ c < 224 ∧ ¬ c ≤ 239 ∧ ¬ c < 240 ∧ c ≤ 244 ∧ ¬ c = 240 ∧ ¬ c = 244) ∧ lead c = some (3, 128, 191)) ∨ ((¬ c < 128 ∧ ¬ c < 194 ∧ ¬ c ≤ 223 ∧ ¬ c < 224 ∧ ¬ c ≤ 239 ∧ ¬ c < 240 ∧ ¬ c ≤ 244) ∧ lead c = none) := by
  unfold lead
  by_cases h1 : c < 128
  · exact Or.inl ⟨h1, if_pos h1⟩
  · rw [if_neg h1]
    by_cases h2 : 194 ≤ c ∧ c ≤ 223
    · rw [if_pos h2]
      exact Or.inr (Or.inr (Or.inl ⟨by omega, rfl⟩))
    · rw [if_neg h2]
      by_cases h3 : 224 ≤ c ∧ c ≤ 239
      · rw [if_pos h3]
        by_cases h4 : c = 224
        · subst h4
          exact Or.inr (Or.inr (Or.inr (Or.inl ⟨rfl, rfl⟩)))
        · by_cases h5 : c = 237
          · subst h5
            exact Or.inr (Or.inr (Or.inr (Or.inr (Or.inl ⟨rfl, rfl⟩))))
          · rw [if_neg h4, if_neg h5]
            exact Or.inr (Or.inr (Or.inr (Or.inr (Or.inr (Or.inl ⟨by omega, rfl⟩)))))
      · rw [if_neg h3]
        by_cases h4 : 240 ≤ c ∧ c ≤ 244
        · rw [if_pos h4]
          by_cases h5 : c = 240
          · subst h5
            exact Or.inr (Or.inr (Or.inr (Or.inr (Or.inr (Or.inr (Or.inl ⟨rfl, rfl⟩))))))
          · by_cases h6 : c = 244
            · subst h6
              exact Or.inr (Or.inr (Or.inr (Or.inr (Or.inr (Or.inr (Or.inr (Or.inl ⟨rfl, rfl⟩)))))))
            · rw [if_neg h5, if_neg h6]
              exact Or.inr (Or.inr (Or.inr (Or.inr (Or.inr (Or.inr (Or.inr (Or.inr (Or.inl ⟨by omega, rfl⟩))))))))
        · rw [if_neg h4]
          by_cases h5 : c < 194
          · exact Or.inr (Or.inl ⟨⟨h1, h5⟩, rfl⟩)
          · exact Or.inr (Or.inr (Or.inr (Or.inr (Or.inr (Or.inr (Or.inr (Or.inr (Or.inr ⟨by omega, rfl⟩))))))))
end Go.Proofs.Ytngciahmoenkiac
