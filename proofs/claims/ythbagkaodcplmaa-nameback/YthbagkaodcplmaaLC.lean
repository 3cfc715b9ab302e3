/- Over this seat's translation: parts read: the document's parts. -/
import Derived.Test.YthbagkaodcplmaaLB
set_option linter.unusedVariables false
set_option linter.unusedSimpArgs false
set_option maxRecDepth 100000
set_option maxHeartbeats 4000000
namespace Go.Proofs.Ythbagkaodcplmaa
open Go.RowKit
/-- a text's byte -/
def bt (s : ByteArray) (i : Nat) : Int := if h : i < s.size then (s[i].toNat : Int) else 0
theorem bt_lt (s : ByteArray) (i : Nat) : 0 ≤ bt s i ∧ bt s i < 256 := by
  unfold bt
  split
  · have := s[i].toNat_lt; omega
  · omega
/-- the last part's place; an error -/
def pt (s : ByteArray) (at_ : Nat) : Nat → Nat → Int × Int
  | 0, i => (0, 1200)
  | r + 1, i => if s.size ≤ at_ + i then (0, 1201) else if bt s (at_ + i) < 128 then (((at_ + i : Nat) : Int), 0) else pt s at_ r (i + 1)
def ptR (s : ByteArray) (at_ bits_ : Int) : Int × Int := if (bits_ = 32 ∨ bits_ = 64) ∧ 0 ≤ at_ ∧ at_ ≤ (s.size : Int) then pt s at_.toNat ((bits_ + 6) / 7).toNat 0 else (0, 1200)
theorem parts_form (s : ByteArray) (at_ bits_ : Int) (h : ¬ ((bits_ = 32 ∨ bits_ = 64) ∧ 0 ≤ at_ ∧ at_ ≤ (s.size : Int))) (w : World) :
    Calls Try.prog 27 #[.string s, .int .i64 at_, .int .i64 bits_] w fun e w' => e = .returned (.tuple #[.int .i64 0, .int .i64 1200]) ∧ w' = w := by
  have h3 : ((bits_ != 32) = true ∧ (bits_ != 64) = true) ∨ (bits_ = 32 ∧ at_ < 0) ∨ (bits_ = 32 ∧ ¬ at_ < 0 ∧ (s.size : Int) < at_) ∨ ((bits_ != 32) = true ∧ bits_ = 64 ∧ at_ < 0) ∨ ((bits_ != 32) = true ∧ bits_ = 64 ∧ ¬ at_ < 0 ∧ (s.size : Int) < at_) := by
    simp only [bne_iff_ne, ne_eq]
    omega
  clear h
  rcases h3 with ⟨h1, h2⟩ | ⟨rfl, h1⟩ | ⟨rfl, h1, h2⟩ | ⟨_, rfl, h1⟩ | ⟨_, rfl, h1, h2⟩
  all_goals
    go_enter Try.func27, Try.ntmps27
    go_wp2
    go_ret2
    exact ⟨rfl, rfl⟩
theorem parts_in (s : ByteArray) (hs : s.size < 9223372036854775000) (a : Nat) (ha : a ≤ s.size) (bits_ : Int) (m : Nat) (hb : (bits_ = 32 ∧ m = 5) ∨ (bits_ = 64 ∧ m = 10)) (K E : Int) (hr : Hid (pt s a m 0 = (K, E))) (w : World) :
    Calls Try.prog 27 #[.string s, .int .i64 (a : Int), .int .i64 bits_] w fun e w' => e = .returned (.tuple #[.int .i64 K, .int .i64 E]) ∧ w' = w := by
  have h1 : ¬ (a : Int) < 0 := by omega
  have h2 : ¬ (s.size : Int) < (a : Int) := by omega
  have hm : Hid (0 < m ∧ m ≤ 10) := by
    show _ ∧ _
    omega
  rcases hb with ⟨rfl, rfl⟩ | ⟨rfl, rfl⟩
  · go_enter Try.func27, Try.ntmps27
    go_wp2_with fail
    go_loopw [9] (fun v wr => ∃ i : Nat, i ≤ 5 ∧ v = .int .i64 (i : Nat) ∧ wr = w ∧ pt s a (5 - i) i = (K, E)) (fun v _ => 5 - (intOf v).toNat)
    case atStart => exact ⟨0, by decide, rfl, rfl, hr.out⟩
    case round =>
      obtain ⟨i, hi, rfl, hw, hp⟩ := hrel
      obtain rfl : w = wr := hw.symm
      clear hr
      by_cases hlt : i < 5
      · have hl1 : (i : Int) < 5 := by omega
        rw [show 5 - i = (5 - (i + 1)) + 1 by omega] at hp
        unfold pt at hp
        by_cases h3 : s.size ≤ a + i
        · rw [if_pos h3] at hp
          cases hp
          have h4 : (s.size : Int) ≤ (a : Int) + (i : Int) := by omega
          go_wp2
          go_ret2
          exact ⟨rfl, rfl⟩
        · rw [if_neg h3] at hp
          have h4 : ¬ (s.size : Int) ≤ (a : Int) + (i : Int) := by omega
          have h5 : a + i < s.size := by omega
          have hbt : bt s (a + i) = (s[a + i].toNat : Int) := dif_pos h5
          by_cases h6 : bt s (a + i) < 128
          · rw [if_pos h6] at hp
            cases hp
            rw [hbt] at h6
            clear hbt
            go_wp2
            go_ret2
            exact ⟨rfl, rfl⟩
          · rw [if_neg h6] at hp
            rw [hbt] at h6
            replace hp : Hid _ := hp
            clear hbt
            go_wp2
            go_roundw
            case rel => exact ⟨i + 1, by omega, by go_num, trivial, hp.out⟩
            case measure => simp [intOf]; omega
      · have hie : i = 5 := by omega
        subst hie
        simp only [Nat.sub_self, pt] at hp
        cases hp
        go_wp2
        go_ret2
        exact ⟨rfl, rfl⟩
  · go_enter Try.func27, Try.ntmps27
    go_wp2_with fail
    go_loopw [9] (fun v wr => ∃ i : Nat, i ≤ 10 ∧ v = .int .i64 (i : Nat) ∧ wr = w ∧ pt s a (10 - i) i = (K, E)) (fun v _ => 10 - (intOf v).toNat)
    case atStart => exact ⟨0, by decide, rfl, rfl, hr.out⟩
    case round =>
      obtain ⟨i, hi, rfl, hw, hp⟩ := hrel
      obtain rfl : w = wr := hw.symm
      clear hr
      by_cases hlt : i < 10
      · have hl1 : (i : Int) < 10 := by omega
        rw [show 10 - i = (10 - (i + 1)) + 1 by omega] at hp
        unfold pt at hp
        by_cases h3 : s.size ≤ a + i
        · rw [if_pos h3] at hp
          cases hp
          have h4 : (s.size : Int) ≤ (a : Int) + (i : Int) := by omega
          go_wp2
          go_ret2
          exact ⟨rfl, rfl⟩
        · rw [if_neg h3] at hp
          have h4 : ¬ (s.size : Int) ≤ (a : Int) + (i : Int) := by omega
          have h5 : a + i < s.size := by omega
          have hbt : bt s (a + i) = (s[a + i].toNat : Int) := dif_pos h5
          by_cases h6 : bt s (a + i) < 128
          · rw [if_pos h6] at hp
            cases hp
            rw [hbt] at h6
            clear hbt
            go_wp2
            go_ret2
            exact ⟨rfl, rfl⟩
          · rw [if_neg h6] at hp
            rw [hbt] at h6
            replace hp : Hid _ := hp
            clear hbt
            go_wp2
            go_roundw
            case rel => exact ⟨i + 1, by omega, by go_num, trivial, hp.out⟩
            case measure => simp [intOf]; omega
      · have hie : i = 10 := by omega
        subst hie
        simp only [Nat.sub_self, pt] at hp
        cases hp
        go_wp2
        go_ret2
        exact ⟨rfl, rfl⟩
end Go.Proofs.Ythbagkaodcplmaa
