/- Over this seat's translation: UTF-8 by the document's walk (pelorusref12: tail, Utf8). -/
import Derived.Test.YtngciahmoenkiaaXB
set_option linter.unusedVariables false
set_option linter.unusedSimpArgs false
set_option maxRecDepth 100000
set_option maxHeartbeats 8000000
namespace Go.Proofs.Ytngciahmoenkiaa
open Go.RowKit
/-- a first byte: how many go on, and between which the next is -/
def lead (c : Int) : Option (Nat × Int × Int) :=
  if c < 128 then some (0, 128, 191) else if 194 ≤ c ∧ c ≤ 223 then some (1, 128, 191)
  else if 224 ≤ c ∧ c ≤ 239 then some (2, (if c = 224 then 160 else 128), (if c = 237 then 159 else 191))
  else if 240 ≤ c ∧ c ≤ 244 then some (3, (if c = 240 then 144 else 128), (if c = 244 then 143 else 191)) else none
/-- a byte that goes on -/
def tl (s : ByteArray) (i : Nat) (l h : Int) : Bool := decide (i < s.size ∧ l ≤ bt s i ∧ bt s i ≤ h)
def tls (s : ByteArray) : Nat → Nat → Int → Int → Bool
  | _, 0, _, _ => true
  | i, m + 1, l, h => tl s i l h && tls s (i + 1) m 128 191
/-- UTF-8 from a place on, so many runes at most -/
def utf (s : ByteArray) : Nat → Nat → Bool
  | 0, _ => true
  | f + 1, i => if i < s.size then (match lead (bt s i) with | none => false | some (m, l, h) => tls s (i + 1) m l h && utf s f (i + 1 + m)) else true
def utfR (s : ByteArray) : Bool := utf s s.size 0
theorem tls_succ (s : ByteArray) (i m : Nat) (l h : Int) : tls s i (m + 1) l h = (tl s i l h && tls s (i + 1) m 128 191) := rfl
theorem utf_end (s : ByteArray) (f i : Nat) (h : s.size ≤ i) : utf s f i = true := by
  cases f with
  | zero => rfl
  | succ f => unfold utf; rw [if_neg (by omega)]
theorem utf_fuel (s : ByteArray) : ∀ (f g i : Nat), s.size - i ≤ f → s.size - i ≤ g → utf s f i = utf s g i
  | 0, g, i, hf, hg => by rw [utf_end s 0 i (by omega), utf_end s g i (by omega)]
  | f + 1, 0, i, hf, hg => by rw [utf_end s _ i (by omega), utf_end s 0 i (by omega)]
  | f + 1, g + 1, i, hf, hg => by
    unfold utf
    by_cases hi : i < s.size
    · rw [if_pos hi, if_pos hi]
      cases lead (bt s i) with
      | none => rfl
      | some p =>
        obtain ⟨m, l, h⟩ := p
        show (tls s (i + 1) m l h && utf s f (i + 1 + m)) = (tls s (i + 1) m l h && utf s g (i + 1 + m))
        rw [utf_fuel s f g (i + 1 + m) (by omega) (by omega)]
    · rw [if_neg hi, if_neg hi]
theorem utf_succ (s : ByteArray) (f i : Nat) : utf s (f + 1) i = if i < s.size then (match lead (bt s i) with | none => false | some (m, l, h) => tls s (i + 1) m l h && utf s f (i + 1 + m)) else true := rfl
theorem utf_step (s : ByteArray) (i m : Nat) (l h : Int) (hi : i < s.size) (hl : lead (bt s i) = some (m, l, h)) : utf s (s.size - i) i = (tls s (i + 1) m l h && utf s (s.size - (i + 1 + m)) (i + 1 + m)) := by
  obtain ⟨f, hf⟩ : ∃ f, s.size - i = f + 1 := ⟨s.size - i - 1, by omega⟩
  rw [hf, utf_succ, if_pos hi, hl]
  show (tls s (i + 1) m l h && utf s f (i + 1 + m)) = _
  rw [utf_fuel s f (s.size - (i + 1 + m)) (i + 1 + m) (by omega) (Nat.le_refl _)]
theorem utf_none (s : ByteArray) (i : Nat) (hi : i < s.size) (hl : lead (bt s i) = none) : utf s (s.size - i) i = false := by
  obtain ⟨f, hf⟩ : ∃ f, s.size - i = f + 1 := ⟨s.size - i - 1, by omega⟩
  rw [hf, utf_succ, if_pos hi, hl]
theorem tls_in (s : ByteArray) : ∀ (m i : Nat) (l h : Int), tls s i m l h = true → 0 < m → i + m ≤ s.size
  | 0, i, l, h, ht, hm => by omega
  | m + 1, i, l, h, ht, hm => by
    unfold tls at ht
    rw [Bool.and_eq_true] at ht
    have h1 : i < s.size := (of_decide_eq_true ht.1).1
    by_cases h0 : m = 0
    · omega
    · have := tls_in s m (i + 1) 128 191 ht.2 (by omega)
      omega
theorem tail_yes (s : ByteArray) (hs : s.size < 9223372036854775000) (i : Nat) (l h : Int) (ht : tl s i l h = true) (w : World) :
    Calls Try.prog 28 #[.string s, .int .i64 (i : Int), .int .u8 l, .int .u8 h] w fun e w' => ∃ z : Int, e = .returned (.int .i64 z) ∧ 0 ≤ z ∧ w' = w := by
  obtain ⟨h1, h2, h3⟩ := of_decide_eq_true ht
  have hb : bt s i = (s[i].toNat : Int) := dif_pos h1
  have hz : 0 ≤ bt s i ∧ bt s i < 256 := bt_lt s i
  rw [hb] at h2 h3 hz
  have h4 : ¬ (s.size : Int) ≤ (i : Int) := by omega
  have h5 : ¬ ((s[i].toNat : Int) < l) := by omega
  have h6 : ¬ (h < (s[i].toNat : Int)) := by omega
  have hw : wrap64 (s[i].toNat : Int) = (s[i].toNat : Int) := by unfold wrap64; omega
  clear ht hb h2 h3
  go_enter Try.func28, Try.ntmps28
  go_wp2
  go_ret
  exact ⟨_, rfl, hz.1, rfl⟩
theorem tail_no (s : ByteArray) (hs : s.size < 9223372036854775000) (i : Nat) (l h : Int) (ht : tl s i l h = false) (w : World) :
    Calls Try.prog 28 #[.string s, .int .i64 (i : Int), .int .u8 l, .int .u8 h] w fun e w' => e = .returned (.int .i64 (-1)) ∧ w' = w := by
  have h0 := of_decide_eq_false ht
  by_cases h1 : i < s.size
  · have hb : bt s i = (s[i].toNat : Int) := dif_pos h1
    rw [hb] at h0
    have h4 : ¬ (s.size : Int) ≤ (i : Int) := by omega
    by_cases h5 : (s[i].toNat : Int) < l
    · clear ht h0 hb
      go_enter Try.func28, Try.ntmps28
      go_wp2
      go_ret
      exact ⟨rfl, rfl⟩
    · have h6 : h < (s[i].toNat : Int) := by omega
      clear ht h0 hb
      go_enter Try.func28, Try.ntmps28
      go_wp2
      go_ret
      exact ⟨rfl, rfl⟩
  · have h4 : (s.size : Int) ≤ (i : Int) := by omega
    clear ht h0
    go_enter Try.func28, Try.ntmps28
    go_wp2
    go_ret
    exact ⟨rfl, rfl⟩
theorem lead_cases (c : Int) (h0 : 0 ≤ c) : (c < 128 ∧ lead c = some (0, 128, 191)) ∨ ((¬ c < 128 ∧ c < 194) ∧ lead c = none) ∨ ((¬ c < 128 ∧ ¬ c < 194 ∧ c ≤ 223) ∧ lead c = some (1, 128, 191)) ∨ (c = 224 ∧ lead c = some (2, 160, 191)) ∨ (c = 237 ∧ lead c = some (2, 128, 159)) ∨ ((¬ c < 128 ∧ ¬ c < 194 ∧ ¬ c ≤ 223 ∧ ¬ c < 224 ∧ c ≤ 239 ∧ ¬ c = 224 ∧ ¬ c = 237) ∧ lead c = some (2, 128, 191)) ∨ (c = 240 ∧ lead c = some (3, 144, 191)) ∨ (c = 244 ∧ lead c = some (3, 128, 143)) ∨ ((¬ c < 128 ∧ ¬ c < 194 ∧ ¬ c ≤ 223 ∧ ¬ c < 224 ∧ ¬ c ≤ 239 ∧ ¬ c < 240 ∧ c ≤ 244 ∧ ¬ c = 240 ∧ ¬ c = 244) ∧ lead c = some (3, 128, 191)) ∨ ((¬ c < 128 ∧ ¬ c < 194 ∧ ¬ c ≤ 223 ∧ ¬ c < 224 ∧ ¬ c ≤ 239 ∧ ¬ c < 240 ∧ ¬ c ≤ 244) ∧ lead c = none) := by
  unfold lead
  by_cases h1 : c < 128
  · exact Or.inl ⟨h1, if_pos h1⟩
  · rw [if_neg h1]
    by_cases h2 : 194 ≤ c ∧ c ≤ 223
    · rw [if_pos h2]
      exact Or.inr (Or.inr (Or.inl ⟨by omega, rfl⟩))
    · rw [if_neg h2]
      by_cases h3 : 224 ≤ c ∧ c ≤ 239
      · rw [if_pos h3]
        by_cases h4 : c = 224
        · subst h4
          exact Or.inr (Or.inr (Or.inr (Or.inl ⟨rfl, rfl⟩)))
        · by_cases h5 : c = 237
          · subst h5
            exact Or.inr (Or.inr (Or.inr (Or.inr (Or.inl ⟨rfl, rfl⟩))))
          · rw [if_neg h4, if_neg h5]
            exact Or.inr (Or.inr (Or.inr (Or.inr (Or.inr (Or.inl ⟨by omega, rfl⟩)))))
      · rw [if_neg h3]
        by_cases h4 : 240 ≤ c ∧ c ≤ 244
        · rw [if_pos h4]
          by_cases h5 : c = 240
          · subst h5
            exact Or.inr (Or.inr (Or.inr (Or.inr (Or.inr (Or.inr (Or.inl ⟨rfl, rfl⟩))))))
          · by_cases h6 : c = 244
            · subst h6
              exact Or.inr (Or.inr (Or.inr (Or.inr (Or.inr (Or.inr (Or.inr (Or.inl ⟨rfl, rfl⟩)))))))
            · rw [if_neg h5, if_neg h6]
              exact Or.inr (Or.inr (Or.inr (Or.inr (Or.inr (Or.inr (Or.inr (Or.inr (Or.inl ⟨by omega, rfl⟩))))))))
        · rw [if_neg h4]
          by_cases h5 : c < 194
          · exact Or.inr (Or.inl ⟨⟨h1, h5⟩, rfl⟩)
          · exact Or.inr (Or.inr (Or.inr (Or.inr (Or.inr (Or.inr (Or.inr (Or.inr (Or.inr ⟨by omega, rfl⟩))))))))
theorem utf8_any (s : ByteArray) (hs : s.size < 9223372036854775000) (R : Bool) (hR0 : Hid (utfR s = R)) (w : World) :
    Calls Try.prog 20 #[.string s] w fun e w' => e = .returned (.bool R) ∧ w' = w := by
  go_enter Try.func20, Try.ntmps20
  go_wp2_with fail
  go_loopw [3] (fun v wr => ∃ i : Nat, i ≤ s.size ∧ v = .int .i64 (i : Nat) ∧ wr = w ∧ utf s (s.size - i) i = R) (fun v _ => s.size - (intOf v).toNat)
  case atStart => exact ⟨0, Nat.zero_le _, rfl, rfl, hR0.out⟩
  case round =>
    clear hR0
    obtain ⟨i, hi0, rfl, hw, hR'⟩ := hrel
    obtain rfl : w = wr := hw.symm
    have hR : Hid (utf s (s.size - i) i = R) := hR'
    by_cases hi : i < s.size
    · have hl0 : (i : Int) < (s.size : Int) := by omega
      have hb : bt s i = (s[i].toNat : Int) := dif_pos hi
      have hc := lead_cases (s[i].toNat : Int) (by omega)
      rw [← hb] at hc
      rcases hc with ⟨hc, hl⟩ | ⟨⟨c1, c2⟩, hl⟩ | ⟨⟨c1, c2, c3⟩, hl⟩ | ⟨hc, hl⟩ | ⟨hc, hl⟩ | ⟨⟨c1, c2, c3, c4, c5, c6, c7⟩, hl⟩ | ⟨hc, hl⟩ | ⟨hc, hl⟩ | ⟨⟨c1, c2, c3, c4, c5, c6, c7, c8, c9⟩, hl⟩ | ⟨⟨c1, c2, c3, c4, c5, c6, c7⟩, hl⟩
      · rw [hb] at hc
        clear hb
        have hst := utf_step s i 0 128 191 hi hl
        rw [hR.out] at hst
        obtain ⟨T, hTd⟩ : ∃ T, tls s (i + 1) 0 128 191 = T := ⟨_, rfl⟩
        rw [hTd] at hst
        have hRs : Hid (R = (T && utf s (s.size - (i + 1 + 0)) (i + 1 + 0))) := hst
        replace hTd : Hid (tls s (i + 1) 0 128 191 = T) := hTd
        clear hst hl hR hR'
        go_wp2_with fail
        go_loopw [8, 5, 6] (fun k lo hi wr => ∃ (j : Nat) (l h : Int), 1 ≤ j ∧ j ≤ 0 + 1 ∧ k = .int .i64 (j : Nat) ∧ lo = .int .u8 l ∧ hi = .int .u8 h ∧ wr = w ∧ tls s (i + j) (0 + 1 - j) l h = T) (fun k lo hi _ => 0 + 1 - (intOf k).toNat)
        case atStart => exact ⟨1, 128, 191, by omega, by omega, rfl, rfl, rfl, rfl, hTd.out⟩
        case round =>
          obtain ⟨j, l, h, hj1, hj2, rfl, rfl, rfl, hw2, hT⟩ := hrel
          obtain rfl : w = wr := hw2.symm
          by_cases hjm : j ≤ 0
          · omega
          · have hje : j = 0 + 1 := by omega
            subst hje
            rw [Nat.sub_self] at hT
            have hTt : T = true := hT.symm
            subst hTt
            have hR2 : Hid (utf s (s.size - (i + 1 + 0)) (i + 1 + 0) = R) := by
              show _ = _
              rw [hRs.out, Bool.true_and]
            have hin : i + 1 + 0 ≤ s.size := by omega
            clear hT hRs hTd
            go_wp2
            go_roundw
            case rel => exact ⟨i + 1 + 0, hin, by go_num, trivial, hR2.out⟩
            case measure => simp [intOf]; omega
      · rw [hb] at c1 c2
        clear hb
        rw [utf_none s i hi hl] at hR'
        subst hR'
        clear hl hR
        go_wp2
        go_ret
        exact ⟨rfl, rfl⟩
      · rw [hb] at c1 c2 c3
        clear hb
        have hst := utf_step s i 1 128 191 hi hl
        rw [hR.out] at hst
        obtain ⟨T, hTd⟩ : ∃ T, tls s (i + 1) 1 128 191 = T := ⟨_, rfl⟩
        rw [hTd] at hst
        have hRs : Hid (R = (T && utf s (s.size - (i + 1 + 1)) (i + 1 + 1))) := hst
        replace hTd : Hid (tls s (i + 1) 1 128 191 = T) := hTd
        clear hst hl hR hR'
        go_wp2_with fail
        go_loopw [8, 5, 6] (fun k lo hi wr => ∃ (j : Nat) (l h : Int), 1 ≤ j ∧ j ≤ 1 + 1 ∧ k = .int .i64 (j : Nat) ∧ lo = .int .u8 l ∧ hi = .int .u8 h ∧ wr = w ∧ tls s (i + j) (1 + 1 - j) l h = T) (fun k lo hi _ => 1 + 1 - (intOf k).toNat)
        case atStart => exact ⟨1, 128, 191, by omega, by omega, rfl, rfl, rfl, rfl, hTd.out⟩
        case round =>
          obtain ⟨j, l, h, hj1, hj2, rfl, rfl, rfl, hw2, hT⟩ := hrel
          obtain rfl : w = wr := hw2.symm
          by_cases hjm : j ≤ 1
          · have hl1 : (j : Int) ≤ 1 := by omega
            obtain ⟨r, hr⟩ : ∃ r, 1 + 1 - j = r + 1 := ⟨1 - j, by omega⟩
            rw [hr, tls_succ] at hT
            cases ht : tl s (i + j) l h with
            | false =>
              have hRf : R = false := by
                rw [hRs.out, ← hT, ht]
                rfl
              have hta : Hid (∀ W : World, Calls Try.prog 28 #[.string s, .int .i64 ((i : Int) + (j : Int)), .int .u8 l, .int .u8 h] W fun e w' => e = .returned (.int .i64 (-1)) ∧ w' = W) := fun W => by
                have := tail_no s hs (i + j) l h ht W
                rwa [show ((i + j : Nat) : Int) = (i : Int) + (j : Int) by omega] at this
              subst hRf
              clear hT ht hRs hr hTd
              go_wp2_with (go_at_call 28; refine (hta.out _).mono ?_; rintro e w' ⟨rfl, hw3⟩; obtain rfl : w = w' := hw3.symm)
              go_ret
              exact ⟨rfl, rfl⟩
            | true =>
              rw [ht, Bool.true_and, show i + j + 1 = i + (j + 1) by omega, show r = 1 + 1 - (j + 1) by omega] at hT
              have hta : Hid (∀ W : World, Calls Try.prog 28 #[.string s, .int .i64 ((i : Int) + (j : Int)), .int .u8 l, .int .u8 h] W fun e w' => ∃ z : Int, e = .returned (.int .i64 z) ∧ 0 ≤ z ∧ w' = W) := fun W => by
                have := tail_yes s hs (i + j) l h ht W
                rwa [show ((i + j : Nat) : Int) = (i : Int) + (j : Int) by omega] at this
              replace hT : Hid (tls s (i + (j + 1)) (1 + 1 - (j + 1)) 128 191 = T) := hT
              clear ht hr hTd
              go_wp2_with (go_at_call 28; refine (hta.out _).mono ?_; rintro e w' ⟨z, rfl, hz, hw3⟩; obtain rfl : w = w' := hw3.symm)
              go_roundw
              case rel => exact ⟨j + 1, 128, 191, by omega, by omega, by go_num, rfl, rfl, trivial, hT.out⟩
              case measure => simp [intOf]; omega
          · have hje : j = 1 + 1 := by omega
            subst hje
            rw [Nat.sub_self] at hT
            have hTt : T = true := hT.symm
            subst hTt
            have hR2 : Hid (utf s (s.size - (i + 1 + 1)) (i + 1 + 1) = R) := by
              show _ = _
              rw [hRs.out, Bool.true_and]
            have hin : i + 1 + 1 ≤ s.size := tls_in s 1 (i + 1) 128 191 hTd.out (by decide)
            clear hT hRs hTd
            go_wp2
            go_roundw
            case rel => exact ⟨i + 1 + 1, hin, by go_num, trivial, hR2.out⟩
            case measure => simp [intOf]; omega
      · rw [hb] at hc
        clear hb
        have hst := utf_step s i 2 160 191 hi hl
        rw [hR.out] at hst
        obtain ⟨T, hTd⟩ : ∃ T, tls s (i + 1) 2 160 191 = T := ⟨_, rfl⟩
        rw [hTd] at hst
        have hRs : Hid (R = (T && utf s (s.size - (i + 1 + 2)) (i + 1 + 2))) := hst
        replace hTd : Hid (tls s (i + 1) 2 160 191 = T) := hTd
        clear hst hl hR hR'
        go_wp2_with fail
        go_loopw [8, 5, 6] (fun k lo hi wr => ∃ (j : Nat) (l h : Int), 1 ≤ j ∧ j ≤ 2 + 1 ∧ k = .int .i64 (j : Nat) ∧ lo = .int .u8 l ∧ hi = .int .u8 h ∧ wr = w ∧ tls s (i + j) (2 + 1 - j) l h = T) (fun k lo hi _ => 2 + 1 - (intOf k).toNat)
        case atStart => exact ⟨1, 160, 191, by omega, by omega, rfl, rfl, rfl, rfl, hTd.out⟩
        case round =>
          obtain ⟨j, l, h, hj1, hj2, rfl, rfl, rfl, hw2, hT⟩ := hrel
          obtain rfl : w = wr := hw2.symm
          by_cases hjm : j ≤ 2
          · have hl1 : (j : Int) ≤ 2 := by omega
            obtain ⟨r, hr⟩ : ∃ r, 2 + 1 - j = r + 1 := ⟨2 - j, by omega⟩
            rw [hr, tls_succ] at hT
            cases ht : tl s (i + j) l h with
            | false =>
              have hRf : R = false := by
                rw [hRs.out, ← hT, ht]
                rfl
              have hta : Hid (∀ W : World, Calls Try.prog 28 #[.string s, .int .i64 ((i : Int) + (j : Int)), .int .u8 l, .int .u8 h] W fun e w' => e = .returned (.int .i64 (-1)) ∧ w' = W) := fun W => by
                have := tail_no s hs (i + j) l h ht W
                rwa [show ((i + j : Nat) : Int) = (i : Int) + (j : Int) by omega] at this
              subst hRf
              clear hT ht hRs hr hTd
              go_wp2_with (go_at_call 28; refine (hta.out _).mono ?_; rintro e w' ⟨rfl, hw3⟩; obtain rfl : w = w' := hw3.symm)
              go_ret
              exact ⟨rfl, rfl⟩
            | true =>
              rw [ht, Bool.true_and, show i + j + 1 = i + (j + 1) by omega, show r = 2 + 1 - (j + 1) by omega] at hT
              have hta : Hid (∀ W : World, Calls Try.prog 28 #[.string s, .int .i64 ((i : Int) + (j : Int)), .int .u8 l, .int .u8 h] W fun e w' => ∃ z : Int, e = .returned (.int .i64 z) ∧ 0 ≤ z ∧ w' = W) := fun W => by
                have := tail_yes s hs (i + j) l h ht W
                rwa [show ((i + j : Nat) : Int) = (i : Int) + (j : Int) by omega] at this
              replace hT : Hid (tls s (i + (j + 1)) (2 + 1 - (j + 1)) 128 191 = T) := hT
              clear ht hr hTd
              go_wp2_with (go_at_call 28; refine (hta.out _).mono ?_; rintro e w' ⟨z, rfl, hz, hw3⟩; obtain rfl : w = w' := hw3.symm)
              go_roundw
              case rel => exact ⟨j + 1, 128, 191, by omega, by omega, by go_num, rfl, rfl, trivial, hT.out⟩
              case measure => simp [intOf]; omega
          · have hje : j = 2 + 1 := by omega
            subst hje
            rw [Nat.sub_self] at hT
            have hTt : T = true := hT.symm
            subst hTt
            have hR2 : Hid (utf s (s.size - (i + 1 + 2)) (i + 1 + 2) = R) := by
              show _ = _
              rw [hRs.out, Bool.true_and]
            have hin : i + 1 + 2 ≤ s.size := tls_in s 2 (i + 1) 160 191 hTd.out (by decide)
            clear hT hRs hTd
            go_wp2
            go_roundw
            case rel => exact ⟨i + 1 + 2, hin, by go_num, trivial, hR2.out⟩
            case measure => simp [intOf]; omega
      · rw [hb] at hc
        clear hb
        have hst := utf_step s i 2 128 159 hi hl
        rw [hR.out] at hst
        obtain ⟨T, hTd⟩ : ∃ T, tls s (i + 1) 2 128 159 = T := ⟨_, rfl⟩
        rw [hTd] at hst
        have hRs : Hid (R = (T && utf s (s.size - (i + 1 + 2)) (i + 1 + 2))) := hst
        replace hTd : Hid (tls s (i + 1) 2 128 159 = T) := hTd
        clear hst hl hR hR'
        go_wp2_with fail
        go_loopw [8, 5, 6] (fun k lo hi wr => ∃ (j : Nat) (l h : Int), 1 ≤ j ∧ j ≤ 2 + 1 ∧ k = .int .i64 (j : Nat) ∧ lo = .int .u8 l ∧ hi = .int .u8 h ∧ wr = w ∧ tls s (i + j) (2 + 1 - j) l h = T) (fun k lo hi _ => 2 + 1 - (intOf k).toNat)
        case atStart => exact ⟨1, 128, 159, by omega, by omega, rfl, rfl, rfl, rfl, hTd.out⟩
        case round =>
          obtain ⟨j, l, h, hj1, hj2, rfl, rfl, rfl, hw2, hT⟩ := hrel
          obtain rfl : w = wr := hw2.symm
          by_cases hjm : j ≤ 2
          · have hl1 : (j : Int) ≤ 2 := by omega
            obtain ⟨r, hr⟩ : ∃ r, 2 + 1 - j = r + 1 := ⟨2 - j, by omega⟩
            rw [hr, tls_succ] at hT
            cases ht : tl s (i + j) l h with
            | false =>
              have hRf : R = false := by
                rw [hRs.out, ← hT, ht]
                rfl
              have hta : Hid (∀ W : World, Calls Try.prog 28 #[.string s, .int .i64 ((i : Int) + (j : Int)), .int .u8 l, .int .u8 h] W fun e w' => e = .returned (.int .i64 (-1)) ∧ w' = W) := fun W => by
                have := tail_no s hs (i + j) l h ht W
                rwa [show ((i + j : Nat) : Int) = (i : Int) + (j : Int) by omega] at this
              subst hRf
              clear hT ht hRs hr hTd
              go_wp2_with (go_at_call 28; refine (hta.out _).mono ?_; rintro e w' ⟨rfl, hw3⟩; obtain rfl : w = w' := hw3.symm)
              go_ret
              exact ⟨rfl, rfl⟩
            | true =>
              rw [ht, Bool.true_and, show i + j + 1 = i + (j + 1) by omega, show r = 2 + 1 - (j + 1) by omega] at hT
              have hta : Hid (∀ W : World, Calls Try.prog 28 #[.string s, .int .i64 ((i : Int) + (j : Int)), .int .u8 l, .int .u8 h] W fun e w' => ∃ z : Int, e = .returned (.int .i64 z) ∧ 0 ≤ z ∧ w' = W) := fun W => by
                have := tail_yes s hs (i + j) l h ht W
                rwa [show ((i + j : Nat) : Int) = (i : Int) + (j : Int) by omega] at this
              replace hT : Hid (tls s (i + (j + 1)) (2 + 1 - (j + 1)) 128 191 = T) := hT
              clear ht hr hTd
              go_wp2_with (go_at_call 28; refine (hta.out _).mono ?_; rintro e w' ⟨z, rfl, hz, hw3⟩; obtain rfl : w = w' := hw3.symm)
              go_roundw
              case rel => exact ⟨j + 1, 128, 191, by omega, by omega, by go_num, rfl, rfl, trivial, hT.out⟩
              case measure => simp [intOf]; omega
          · have hje : j = 2 + 1 := by omega
            subst hje
            rw [Nat.sub_self] at hT
            have hTt : T = true := hT.symm
            subst hTt
            have hR2 : Hid (utf s (s.size - (i + 1 + 2)) (i + 1 + 2) = R) := by
              show _ = _
              rw [hRs.out, Bool.true_and]
            have hin : i + 1 + 2 ≤ s.size := tls_in s 2 (i + 1) 128 159 hTd.out (by decide)
            clear hT hRs hTd
            go_wp2
            go_roundw
            case rel => exact ⟨i + 1 + 2, hin, by go_num, trivial, hR2.out⟩
            case measure => simp [intOf]; omega
      · rw [hb] at c1 c2 c3 c4 c5 c6 c7
        clear hb
        have hst := utf_step s i 2 128 191 hi hl
        rw [hR.out] at hst
        obtain ⟨T, hTd⟩ : ∃ T, tls s (i + 1) 2 128 191 = T := ⟨_, rfl⟩
        rw [hTd] at hst
        have hRs : Hid (R = (T && utf s (s.size - (i + 1 + 2)) (i + 1 + 2))) := hst
        replace hTd : Hid (tls s (i + 1) 2 128 191 = T) := hTd
        clear hst hl hR hR'
        go_wp2_with fail
        go_loopw [8, 5, 6] (fun k lo hi wr => ∃ (j : Nat) (l h : Int), 1 ≤ j ∧ j ≤ 2 + 1 ∧ k = .int .i64 (j : Nat) ∧ lo = .int .u8 l ∧ hi = .int .u8 h ∧ wr = w ∧ tls s (i + j) (2 + 1 - j) l h = T) (fun k lo hi _ => 2 + 1 - (intOf k).toNat)
        case atStart => exact ⟨1, 128, 191, by omega, by omega, rfl, rfl, rfl, rfl, hTd.out⟩
        case round =>
          obtain ⟨j, l, h, hj1, hj2, rfl, rfl, rfl, hw2, hT⟩ := hrel
          obtain rfl : w = wr := hw2.symm
          by_cases hjm : j ≤ 2
          · have hl1 : (j : Int) ≤ 2 := by omega
            obtain ⟨r, hr⟩ : ∃ r, 2 + 1 - j = r + 1 := ⟨2 - j, by omega⟩
            rw [hr, tls_succ] at hT
            cases ht : tl s (i + j) l h with
            | false =>
              have hRf : R = false := by
                rw [hRs.out, ← hT, ht]
                rfl
              have hta : Hid (∀ W : World, Calls Try.prog 28 #[.string s, .int .i64 ((i : Int) + (j : Int)), .int .u8 l, .int .u8 h] W fun e w' => e = .returned (.int .i64 (-1)) ∧ w' = W) := fun W => by
                have := tail_no s hs (i + j) l h ht W
                rwa [show ((i + j : Nat) : Int) = (i : Int) + (j : Int) by omega] at this
              subst hRf
              clear hT ht hRs hr hTd
              go_wp2_with (go_at_call 28; refine (hta.out _).mono ?_; rintro e w' ⟨rfl, hw3⟩; obtain rfl : w = w' := hw3.symm)
              go_ret
              exact ⟨rfl, rfl⟩
            | true =>
              rw [ht, Bool.true_and, show i + j + 1 = i + (j + 1) by omega, show r = 2 + 1 - (j + 1) by omega] at hT
              have hta : Hid (∀ W : World, Calls Try.prog 28 #[.string s, .int .i64 ((i : Int) + (j : Int)), .int .u8 l, .int .u8 h] W fun e w' => ∃ z : Int, e = .returned (.int .i64 z) ∧ 0 ≤ z ∧ w' = W) := fun W => by
                have := tail_yes s hs (i + j) l h ht W
                rwa [show ((i + j : Nat) : Int) = (i : Int) + (j : Int) by omega] at this
              replace hT : Hid (tls s (i + (j + 1)) (2 + 1 - (j + 1)) 128 191 = T) := hT
              clear ht hr hTd
              go_wp2_with (go_at_call 28; refine (hta.out _).mono ?_; rintro e w' ⟨z, rfl, hz, hw3⟩; obtain rfl : w = w' := hw3.symm)
              go_roundw
              case rel => exact ⟨j + 1, 128, 191, by omega, by omega, by go_num, rfl, rfl, trivial, hT.out⟩
              case measure => simp [intOf]; omega
          · have hje : j = 2 + 1 := by omega
            subst hje
            rw [Nat.sub_self] at hT
            have hTt : T = true := hT.symm
            subst hTt
            have hR2 : Hid (utf s (s.size - (i + 1 + 2)) (i + 1 + 2) = R) := by
              show _ = _
              rw [hRs.out, Bool.true_and]
            have hin : i + 1 + 2 ≤ s.size := tls_in s 2 (i + 1) 128 191 hTd.out (by decide)
            clear hT hRs hTd
            go_wp2
            go_roundw
            case rel => exact ⟨i + 1 + 2, hin, by go_num, trivial, hR2.out⟩
            case measure => simp [intOf]; omega
      · rw [hb] at hc
        clear hb
        have hst := utf_step s i 3 144 191 hi hl
        rw [hR.out] at hst
        obtain ⟨T, hTd⟩ : ∃ T, tls s (i + 1) 3 144 191 = T := ⟨_, rfl⟩
        rw [hTd] at hst
        have hRs : Hid (R = (T && utf s (s.size - (i + 1 + 3)) (i + 1 + 3))) := hst
        replace hTd : Hid (tls s (i + 1) 3 144 191 = T) := hTd
        clear hst hl hR hR'
        go_wp2_with fail
        go_loopw [8, 5, 6] (fun k lo hi wr => ∃ (j : Nat) (l h : Int), 1 ≤ j ∧ j ≤ 3 + 1 ∧ k = .int .i64 (j : Nat) ∧ lo = .int .u8 l ∧ hi = .int .u8 h ∧ wr = w ∧ tls s (i + j) (3 + 1 - j) l h = T) (fun k lo hi _ => 3 + 1 - (intOf k).toNat)
        case atStart => exact ⟨1, 144, 191, by omega, by omega, rfl, rfl, rfl, rfl, hTd.out⟩
        case round =>
          obtain ⟨j, l, h, hj1, hj2, rfl, rfl, rfl, hw2, hT⟩ := hrel
          obtain rfl : w = wr := hw2.symm
          by_cases hjm : j ≤ 3
          · have hl1 : (j : Int) ≤ 3 := by omega
            obtain ⟨r, hr⟩ : ∃ r, 3 + 1 - j = r + 1 := ⟨3 - j, by omega⟩
            rw [hr, tls_succ] at hT
            cases ht : tl s (i + j) l h with
            | false =>
              have hRf : R = false := by
                rw [hRs.out, ← hT, ht]
                rfl
              have hta : Hid (∀ W : World, Calls Try.prog 28 #[.string s, .int .i64 ((i : Int) + (j : Int)), .int .u8 l, .int .u8 h] W fun e w' => e = .returned (.int .i64 (-1)) ∧ w' = W) := fun W => by
                have := tail_no s hs (i + j) l h ht W
                rwa [show ((i + j : Nat) : Int) = (i : Int) + (j : Int) by omega] at this
              subst hRf
              clear hT ht hRs hr hTd
              go_wp2_with (go_at_call 28; refine (hta.out _).mono ?_; rintro e w' ⟨rfl, hw3⟩; obtain rfl : w = w' := hw3.symm)
              go_ret
              exact ⟨rfl, rfl⟩
            | true =>
              rw [ht, Bool.true_and, show i + j + 1 = i + (j + 1) by omega, show r = 3 + 1 - (j + 1) by omega] at hT
              have hta : Hid (∀ W : World, Calls Try.prog 28 #[.string s, .int .i64 ((i : Int) + (j : Int)), .int .u8 l, .int .u8 h] W fun e w' => ∃ z : Int, e = .returned (.int .i64 z) ∧ 0 ≤ z ∧ w' = W) := fun W => by
                have := tail_yes s hs (i + j) l h ht W
                rwa [show ((i + j : Nat) : Int) = (i : Int) + (j : Int) by omega] at this
              replace hT : Hid (tls s (i + (j + 1)) (3 + 1 - (j + 1)) 128 191 = T) := hT
              clear ht hr hTd
              go_wp2_with (go_at_call 28; refine (hta.out _).mono ?_; rintro e w' ⟨z, rfl, hz, hw3⟩; obtain rfl : w = w' := hw3.symm)
              go_roundw
              case rel => exact ⟨j + 1, 128, 191, by omega, by omega, by go_num, rfl, rfl, trivial, hT.out⟩
              case measure => simp [intOf]; omega
          · have hje : j = 3 + 1 := by omega
            subst hje
            rw [Nat.sub_self] at hT
            have hTt : T = true := hT.symm
            subst hTt
            have hR2 : Hid (utf s (s.size - (i + 1 + 3)) (i + 1 + 3) = R) := by
              show _ = _
              rw [hRs.out, Bool.true_and]
            have hin : i + 1 + 3 ≤ s.size := tls_in s 3 (i + 1) 144 191 hTd.out (by decide)
            clear hT hRs hTd
            go_wp2
            go_roundw
            case rel => exact ⟨i + 1 + 3, hin, by go_num, trivial, hR2.out⟩
            case measure => simp [intOf]; omega
      · rw [hb] at hc
        clear hb
        have hst := utf_step s i 3 128 143 hi hl
        rw [hR.out] at hst
        obtain ⟨T, hTd⟩ : ∃ T, tls s (i + 1) 3 128 143 = T := ⟨_, rfl⟩
        rw [hTd] at hst
        have hRs : Hid (R = (T && utf s (s.size - (i + 1 + 3)) (i + 1 + 3))) := hst
        replace hTd : Hid (tls s (i + 1) 3 128 143 = T) := hTd
        clear hst hl hR hR'
        go_wp2_with fail
        go_loopw [8, 5, 6] (fun k lo hi wr => ∃ (j : Nat) (l h : Int), 1 ≤ j ∧ j ≤ 3 + 1 ∧ k = .int .i64 (j : Nat) ∧ lo = .int .u8 l ∧ hi = .int .u8 h ∧ wr = w ∧ tls s (i + j) (3 + 1 - j) l h = T) (fun k lo hi _ => 3 + 1 - (intOf k).toNat)
        case atStart => exact ⟨1, 128, 143, by omega, by omega, rfl, rfl, rfl, rfl, hTd.out⟩
        case round =>
          obtain ⟨j, l, h, hj1, hj2, rfl, rfl, rfl, hw2, hT⟩ := hrel
          obtain rfl : w = wr := hw2.symm
          by_cases hjm : j ≤ 3
          · have hl1 : (j : Int) ≤ 3 := by omega
            obtain ⟨r, hr⟩ : ∃ r, 3 + 1 - j = r + 1 := ⟨3 - j, by omega⟩
            rw [hr, tls_succ] at hT
            cases ht : tl s (i + j) l h with
            | false =>
              have hRf : R = false := by
                rw [hRs.out, ← hT, ht]
                rfl
              have hta : Hid (∀ W : World, Calls Try.prog 28 #[.string s, .int .i64 ((i : Int) + (j : Int)), .int .u8 l, .int .u8 h] W fun e w' => e = .returned (.int .i64 (-1)) ∧ w' = W) := fun W => by
                have := tail_no s hs (i + j) l h ht W
                rwa [show ((i + j : Nat) : Int) = (i : Int) + (j : Int) by omega] at this
              subst hRf
              clear hT ht hRs hr hTd
              go_wp2_with (go_at_call 28; refine (hta.out _).mono ?_; rintro e w' ⟨rfl, hw3⟩; obtain rfl : w = w' := hw3.symm)
              go_ret
              exact ⟨rfl, rfl⟩
            | true =>
              rw [ht, Bool.true_and, show i + j + 1 = i + (j + 1) by omega, show r = 3 + 1 - (j + 1) by omega] at hT
              have hta : Hid (∀ W : World, Calls Try.prog 28 #[.string s, .int .i64 ((i : Int) + (j : Int)), .int .u8 l, .int .u8 h] W fun e w' => ∃ z : Int, e = .returned (.int .i64 z) ∧ 0 ≤ z ∧ w' = W) := fun W => by
                have := tail_yes s hs (i + j) l h ht W
                rwa [show ((i + j : Nat) : Int) = (i : Int) + (j : Int) by omega] at this
              replace hT : Hid (tls s (i + (j + 1)) (3 + 1 - (j + 1)) 128 191 = T) := hT
              clear ht hr hTd
              go_wp2_with (go_at_call 28; refine (hta.out _).mono ?_; rintro e w' ⟨z, rfl, hz, hw3⟩; obtain rfl : w = w' := hw3.symm)
              go_roundw
              case rel => exact ⟨j + 1, 128, 191, by omega, by omega, by go_num, rfl, rfl, trivial, hT.out⟩
              case measure => simp [intOf]; omega
          · have hje : j = 3 + 1 := by omega
            subst hje
            rw [Nat.sub_self] at hT
            have hTt : T = true := hT.symm
            subst hTt
            have hR2 : Hid (utf s (s.size - (i + 1 + 3)) (i + 1 + 3) = R) := by
              show _ = _
              rw [hRs.out, Bool.true_and]
            have hin : i + 1 + 3 ≤ s.size := tls_in s 3 (i + 1) 128 143 hTd.out (by decide)
            clear hT hRs hTd
            go_wp2
            go_roundw
            case rel => exact ⟨i + 1 + 3, hin, by go_num, trivial, hR2.out⟩
            case measure => simp [intOf]; omega
      · rw [hb] at c1 c2 c3 c4 c5 c6 c7 c8 c9
        clear hb
        have hst := utf_step s i 3 128 191 hi hl
        rw [hR.out] at hst
        obtain ⟨T, hTd⟩ : ∃ T, tls s (i + 1) 3 128 191 = T := ⟨_, rfl⟩
        rw [hTd] at hst
        have hRs : Hid (R = (T && utf s (s.size - (i + 1 + 3)) (i + 1 + 3))) := hst
        replace hTd : Hid (tls s (i + 1) 3 128 191 = T) := hTd
        clear hst hl hR hR'
        go_wp2_with fail
        go_loopw [8, 5, 6] (fun k lo hi wr => ∃ (j : Nat) (l h : Int), 1 ≤ j ∧ j ≤ 3 + 1 ∧ k = .int .i64 (j : Nat) ∧ lo = .int .u8 l ∧ hi = .int .u8 h ∧ wr = w ∧ tls s (i + j) (3 + 1 - j) l h = T) (fun k lo hi _ => 3 + 1 - (intOf k).toNat)
        case atStart => exact ⟨1, 128, 191, by omega, by omega, rfl, rfl, rfl, rfl, hTd.out⟩
        case round =>
          obtain ⟨j, l, h, hj1, hj2, rfl, rfl, rfl, hw2, hT⟩ := hrel
          obtain rfl : w = wr := hw2.symm
          by_cases hjm : j ≤ 3
          · have hl1 : (j : Int) ≤ 3 := by omega
            obtain ⟨r, hr⟩ : ∃ r, 3 + 1 - j = r + 1 := ⟨3 - j, by omega⟩
            rw [hr, tls_succ] at hT
            cases ht : tl s (i + j) l h with
            | false =>
              have hRf : R = false := by
                rw [hRs.out, ← hT, ht]
                rfl
              have hta : Hid (∀ W : World, Calls Try.prog 28 #[.string s, .int .i64 ((i : Int) + (j : Int)), .int .u8 l, .int .u8 h] W fun e w' => e = .returned (.int .i64 (-1)) ∧ w' = W) := fun W => by
                have := tail_no s hs (i + j) l h ht W
                rwa [show ((i + j : Nat) : Int) = (i : Int) + (j : Int) by omega] at this
              subst hRf
              clear hT ht hRs hr hTd
              go_wp2_with (go_at_call 28; refine (hta.out _).mono ?_; rintro e w' ⟨rfl, hw3⟩; obtain rfl : w = w' := hw3.symm)
              go_ret
              exact ⟨rfl, rfl⟩
            | true =>
              rw [ht, Bool.true_and, show i + j + 1 = i + (j + 1) by omega, show r = 3 + 1 - (j + 1) by omega] at hT
              have hta : Hid (∀ W : World, Calls Try.prog 28 #[.string s, .int .i64 ((i : Int) + (j : Int)), .int .u8 l, .int .u8 h] W fun e w' => ∃ z : Int, e = .returned (.int .i64 z) ∧ 0 ≤ z ∧ w' = W) := fun W => by
                have := tail_yes s hs (i + j) l h ht W
                rwa [show ((i + j : Nat) : Int) = (i : Int) + (j : Int) by omega] at this
              replace hT : Hid (tls s (i + (j + 1)) (3 + 1 - (j + 1)) 128 191 = T) := hT
              clear ht hr hTd
              go_wp2_with (go_at_call 28; refine (hta.out _).mono ?_; rintro e w' ⟨z, rfl, hz, hw3⟩; obtain rfl : w = w' := hw3.symm)
              go_roundw
              case rel => exact ⟨j + 1, 128, 191, by omega, by omega, by go_num, rfl, rfl, trivial, hT.out⟩
              case measure => simp [intOf]; omega
          · have hje : j = 3 + 1 := by omega
            subst hje
            rw [Nat.sub_self] at hT
            have hTt : T = true := hT.symm
            subst hTt
            have hR2 : Hid (utf s (s.size - (i + 1 + 3)) (i + 1 + 3) = R) := by
              show _ = _
              rw [hRs.out, Bool.true_and]
            have hin : i + 1 + 3 ≤ s.size := tls_in s 3 (i + 1) 128 191 hTd.out (by decide)
            clear hT hRs hTd
            go_wp2
            go_roundw
            case rel => exact ⟨i + 1 + 3, hin, by go_num, trivial, hR2.out⟩
            case measure => simp [intOf]; omega
      · rw [hb] at c1 c2 c3 c4 c5 c6 c7
        clear hb
        rw [utf_none s i hi hl] at hR'
        subst hR'
        clear hl hR
        go_wp2
        go_ret
        exact ⟨rfl, rfl⟩
    · have hie : i = s.size := by omega
      have hRt : R = true := by rw [← hR.out, utf_end s _ i (by omega)]
      subst hRt
      subst hie
      clear hR hR'
      go_wp2
      go_ret
      exact ⟨rfl, rfl⟩
end Go.Proofs.Ytngciahmoenkiaa
