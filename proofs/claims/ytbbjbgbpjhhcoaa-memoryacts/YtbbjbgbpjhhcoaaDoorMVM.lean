/- Two memories, the package's and the document's, among a call's own blocks: each answers by the same function. -/
import Derived.Test.YtbbjbgbpjhhcoaaDoorML
import Derived.Test.YtbbjbgbpjhhcoaaDoorMS
import Derived.Test.YtbbjbgbpjhhcoaaDoorMT
import Derived.Test.YtbbjbgbpjhhcoaaDoorMU
set_option linter.unusedVariables false
set_option linter.unusedSimpArgs false
set_option maxRecDepth 100000
set_option maxHeartbeats 4000000
namespace Go.Proofs.YtbbjbgbpjhhcoaaDoor
open Go.RowKit Go.BY
theorem row_ne {w : World} {a b : Nat} {t t' : TypeId} {n n' : Nat} {f f' : Nat → Value} (h : w.rowIs a t n f) (h' : w.rowIs b t' n' f') (ht : t ≠ t') : a ≠ b := by
  rintro rfl
  obtain ⟨c, hc, _⟩ := h
  obtain ⟨c', hc', _⟩ := h'
  rw [hc] at hc'
  simp at hc'
  exact ht hc'.2
/-- rows of the caller's own acts stay -/
def Keep (w w' : World) : Prop := ∀ (j n : Nat) (f : Nat → Value), w.rowIs j 35 n f → w'.rowIs j 35 n f
theorem keep_later {w w' : World} (h : Later w w') : Keep w w' := fun j n f hr => rowIs_later h hr
theorem keep_refl (w : World) : Keep w w := fun j n f hr => hr
theorem keep_turn {w w' : World} {k : Nat} {t : TypeId} {n : Nat} {f : Nat → Value} (h : Turned k w w') (hr : w.rowIs k t n f) (ht : (35 : TypeId) ≠ t) : Keep w w' := fun j n f hj => h.row hj (row_ne hj hr ht)
theorem ane : (35 : TypeId) ≠ 59 ∧ (35 : TypeId) ≠ 49 ∧ (35 : TypeId) ≠ 5 := by decide
def Duo (w0 w : World) (p p2 q q2 : Nat) (top : Int) (f g : Nat → Nat) : Prop :=
  ∃ b b2, Later w0 w ∧ Tabs w0 ∧ (w0.heap.size ≤ p ∧ w0.heap.size ≤ b ∧ w0.heap.size ≤ p2 ∧ w0.heap.size ≤ b2) ∧ Mem 59 w p b (q * 65536) top f ∧ Mem 49 w p2 b2 (q2 * 65536) top g ∧ b ≠ b2 ∧ (q : Int) ≤ top ∧ (q2 : Int) ≤ top ∧ top ≤ 16
theorem Duo.ltr {w0 w : World} {p p2 q q2 : Nat} {top : Int} {f g : Nat → Nat} (h : Duo w0 w p p2 q q2 top f g) : Later w0 w := by obtain ⟨b, b2, h1, _⟩ := h; exact h1
theorem Duo.tabs {w0 w : World} {p p2 q q2 : Nat} {top : Int} {f g : Nat → Nat} (h : Duo w0 w p p2 q q2 top f g) : Tabs w := by obtain ⟨b, b2, h1, h2, _⟩ := h; exact h2.later h1
theorem Duo.later {w0 w w' : World} {p p2 q q2 : Nat} {top : Int} {f g : Nat → Nat} (h : Duo w0 w p p2 q q2 top f g) (hl : Later w w') : Duo w0 w' p p2 q q2 top f g := by
  obtain ⟨b, b2, h1, h2, h3, h4, h5, h6⟩ := h
  exact ⟨b, b2, h1.trans hl, h2, h3, h4.later hl, h5.later hl, h6⟩
theorem tne : (59 : TypeId) ≠ 49 ∧ (59 : TypeId) ≠ 5 ∧ (49 : TypeId) ≠ 5 := by decide
theorem Duo.left {w0 w w' : World} {p p2 q q2 q' b b2 b' : Nat} {top : Int} {f g f' : Nat → Nat} (h1 : Later w0 w) (h2 : Tabs w0) (h3 : w0.heap.size ≤ p ∧ w0.heap.size ≤ b ∧ w0.heap.size ≤ p2 ∧ w0.heap.size ≤ b2) (h4 : Mem 59 w p b (q * 65536) top f) (h5 : Mem 49 w p2 b2 (q2 * 65536) top g) (h6 : b ≠ b2)
    (h8 : (q2 : Int) ≤ top) (h9 : top ≤ 16) {k : Nat} (hk : k = p ∨ k = b) (ht : Turned k w w') (hm : Mem 59 w' p b' (q' * 65536) top f') (hb' : b' = b ∨ b' = w.heap.size) (hq : (q' : Int) ≤ top) : Duo w0 w' p p2 q' q2 top f' g := by
  have e1 := row_ne h4.2.1 h5.2.1 tne.1
  have e2 := row_ne h4.2.1 h5.2.2.1 tne.2.1
  have e3 := row_ne h5.2.1 h4.2.2.1 tne.2.2
  have hs := h1.size
  have hb2 := h5.lt.2
  refine ⟨b', b2, ?_, h2, ⟨h3.1, ?_, h3.2.2⟩, hm, ?_, ?_, hq, h8, h9⟩
  · rcases hk with rfl | rfl
    · exact h1.turned h4.2.1 h3.1 ht
    · exact h1.turned h4.2.2.1 h3.2.1 ht
  · rcases hb' with rfl | rfl <;> omega
  · rcases hk with rfl | rfl
    · exact h5.turn ht (Ne.symm e1) (Ne.symm e2)
    · exact h5.turn ht e3 (Ne.symm h6)
  · rcases hb' with rfl | rfl <;> omega
theorem Duo.right {w0 w w' : World} {p p2 q q2 q' b b2 b' : Nat} {top : Int} {f g g' : Nat → Nat} (h1 : Later w0 w) (h2 : Tabs w0) (h3 : w0.heap.size ≤ p ∧ w0.heap.size ≤ b ∧ w0.heap.size ≤ p2 ∧ w0.heap.size ≤ b2) (h4 : Mem 59 w p b (q * 65536) top f) (h5 : Mem 49 w p2 b2 (q2 * 65536) top g) (h6 : b ≠ b2)
    (h8 : (q : Int) ≤ top) (h9 : top ≤ 16) {k : Nat} (hk : k = p2 ∨ k = b2) (ht : Turned k w w') (hm : Mem 49 w' p2 b' (q' * 65536) top g') (hb' : b' = b2 ∨ b' = w.heap.size) (hq : (q' : Int) ≤ top) : Duo w0 w' p p2 q q' top f g' := by
  have e1 := row_ne h4.2.1 h5.2.1 tne.1
  have e2 := row_ne h4.2.1 h5.2.2.1 tne.2.1
  have e3 := row_ne h5.2.1 h4.2.2.1 tne.2.2
  have hs := h1.size
  have hb2 := h4.lt.2
  refine ⟨b, b', ?_, h2, ⟨h3.1, h3.2.1, h3.2.2.1, ?_⟩, ?_, hm, ?_, h8, hq, h9⟩
  · rcases hk with rfl | rfl
    · exact h1.turned h5.2.1 h3.2.2.1 ht
    · exact h1.turned h5.2.2.1 h3.2.2.2 ht
  · rcases hb' with rfl | rfl <;> omega
  · rcases hk with rfl | rfl
    · exact h4.turn ht e1 (Ne.symm e3)
    · exact h4.turn ht e2 h6
  · rcases hb' with rfl | rfl <;> omega
/-- what a store answers, and what it makes of the bytes -/
def stR (n : Nat) (f : Nat → Nat) (op at_ off x : Int) : Int × (Nat → Nat) :=
  if (54 ≤ op ∧ op ≤ 62) ∧ (0 ≤ at_ ∧ at_ ≤ 4294967295) ∧ (0 ≤ off ∧ off ≤ 4294967295) then
    if at_.toNat + off.toNat + stAt (op - 54).toNat ≤ n then (0, put f (at_.toNat + off.toNat) (stAt (op - 54).toNat) (ux x)) else (801, f)
  else (800, f)
def ldR (n : Nat) (f : Nat → Nat) (op at_ off : Int) : Int × Int :=
  if (40 ≤ op ∧ op ≤ 53) ∧ (0 ≤ at_ ∧ at_ ≤ 4294967295) ∧ (0 ≤ off ∧ off ≤ 4294967295) then
    if at_.toNat + off.toNat + (ldAt (op - 40).toNat).1 ≤ n then (lv (ldAt (op - 40).toNat).1 (ldAt (op - 40).toNat).2.1 (ldAt (op - 40).toNat).2.2 (wd f (at_.toNat + off.toNat) (ldAt (op - 40).toNat).1), 0) else (0, 801)
  else (0, 800)
theorem adr (x : Int) : (x % 4294967296 == x) = decide (0 ≤ x ∧ x ≤ 4294967295) := by
  rw [Bool.eq_iff_iff]; simp; omega
theorem duo_mstore {w0 w : World} {p p2 q q2 : Nat} {top : Int} {f g : Nat → Nat} (h : Duo w0 w p p2 q q2 top f g) (op at_ off x : Int) :
    Calls Tryd.prog 13 #[.pointer (some ⟨p, 0, none⟩), .int .i64 op, .int .i64 at_, .int .i64 off, .int .i64 x] w fun e w' => e = .returned (.int .i64 (stR (q * 65536) f op at_ off x).1) ∧ Duo w0 w' p p2 q q2 top (stR (q * 65536) f op at_ off x).2 g ∧ Hid (Keep w w') := by
  obtain ⟨b, b2, h1, h2, h3, h4, h5, h6, h7, h8, h9⟩ := id h
  unfold stR
  by_cases hc : (54 ≤ op ∧ op ≤ 62) ∧ (0 ≤ at_ ∧ at_ ≤ 4294967295) ∧ (0 ≤ off ∧ off ≤ 4294967295)
  · rw [if_pos hc]
    obtain ⟨⟨o1, o2⟩, ⟨a1, a2⟩, ⟨f1, f2⟩⟩ := hc
    obtain ⟨k, rfl⟩ : ∃ k : Nat, op = ((54 + k : Nat) : Int) := ⟨(op - 54).toNat, by omega⟩
    obtain ⟨a, rfl⟩ := Int.eq_ofNat_of_zero_le a1
    obtain ⟨o, rfl⟩ := Int.eq_ofNat_of_zero_le f1
    rw [show (((54 + k : Nat) : Int) - 54).toNat = k by omega]
    simp only [Int.toNat_natCast]
    by_cases hf : a + o + stAt k ≤ q * 65536
    · rw [if_pos hf]
      exact (store_in _ p b _ k a o x top f (by omega) (by omega) (by omega) w h.tabs h4 hf).mono fun e w' hh => by
        obtain ⟨h0, wa, la, ht, hM⟩ := hh
        exact ⟨h0, Duo.left (h1.trans la) h2 h3 (h4.later la) (h5.later la) h6 h8 h9 (Or.inr rfl) ht hM (Or.inl rfl) h7, fun j n f hj => (keep_turn ht (h4.later la).2.2.1 ane.2.2) j n f (keep_later la j n f hj)⟩
    · rw [if_neg hf]
      exact (store_out _ p b _ k a o x top f (by omega) (by omega) (by omega) w h.tabs h4 hf).mono fun e w' hh => ⟨hh.1, h.later hh.2, keep_later hh.2⟩
  · rw [if_neg hc]
    by_cases ho : 54 ≤ op ∧ op ≤ 62
    · exact (store_addr p op at_ off x ho _ _ (adr at_) (adr off) (by simp; omega) w).mono fun e w' hh => ⟨hh.1, by rw [hh.2]; exact h, by rw [hh.2]; exact keep_refl w⟩
    · exact (store_op p op at_ off x (by omega) w).mono fun e w' hh => ⟨hh.1, by rw [hh.2]; exact h, by rw [hh.2]; exact keep_refl w⟩
theorem duo_rstore {w0 w : World} {p p2 q q2 : Nat} {top : Int} {f g : Nat → Nat} (h : Duo w0 w p p2 q q2 top f g) (op at_ off x : Int) :
    Calls Tryd.prog 14 #[.pointer (some ⟨p2, 0, none⟩), .int .i64 op, .int .i64 at_, .int .i64 off, .int .i64 x] w fun e w' => e = .returned (.int .i64 (stR (q2 * 65536) g op at_ off x).1) ∧ Duo w0 w' p p2 q q2 top f (stR (q2 * 65536) g op at_ off x).2 ∧ Hid (Keep w w') := by
  obtain ⟨b, b2, h1, h2, h3, h4, h5, h6, h7, h8, h9⟩ := id h
  unfold stR
  by_cases hc : (54 ≤ op ∧ op ≤ 62) ∧ (0 ≤ at_ ∧ at_ ≤ 4294967295) ∧ (0 ≤ off ∧ off ≤ 4294967295)
  · rw [if_pos hc]
    obtain ⟨⟨o1, o2⟩, ⟨a1, a2⟩, ⟨f1, f2⟩⟩ := hc
    obtain ⟨k, rfl⟩ : ∃ k : Nat, op = ((54 + k : Nat) : Int) := ⟨(op - 54).toNat, by omega⟩
    obtain ⟨a, rfl⟩ := Int.eq_ofNat_of_zero_le a1
    obtain ⟨o, rfl⟩ := Int.eq_ofNat_of_zero_le f1
    rw [show (((54 + k : Nat) : Int) - 54).toNat = k by omega]
    simp only [Int.toNat_natCast]
    by_cases hf : a + o + stAt k ≤ q2 * 65536
    · rw [if_pos hf]
      exact (rstore_in _ p2 b2 _ k a o x top g (by omega) (by omega) (by omega) w h5 hf).mono fun e w' hh => ⟨hh.1, Duo.right h1 h2 h3 h4 h5 h6 h7 h9 (Or.inr rfl) hh.2.1 hh.2.2 (Or.inl rfl) h8, keep_turn hh.2.1 h5.2.2.1 ane.2.2⟩
    · rw [if_neg hf]
      exact (rstore_out _ p2 b2 _ k a o x top g (by omega) (by omega) (by omega) w h5 hf).mono fun e w' hh => ⟨hh.1, h.later hh.2, keep_later hh.2⟩
  · rw [if_neg hc]
    by_cases ho : 54 ≤ op ∧ op ≤ 62
    · exact (rstore_addr p2 op at_ off x ho _ _ rfl rfl (by simp; omega) w).mono fun e w' hh => ⟨hh.1, h.later hh.2, keep_later hh.2⟩
    · exact (rstore_op p2 op at_ off x (by omega) w).mono fun e w' hh => ⟨hh.1, h.later hh.2, keep_later hh.2⟩
theorem duo_mload {w0 w : World} {p p2 q q2 : Nat} {top : Int} {f g : Nat → Nat} (h : Duo w0 w p p2 q q2 top f g) (op at_ off : Int) :
    Calls Tryd.prog 15 #[.pointer (some ⟨p, 0, none⟩), .int .i64 op, .int .i64 at_, .int .i64 off] w fun e w' => e = .returned (.tuple #[.int .i64 (ldR (q * 65536) f op at_ off).1, .int .i64 (ldR (q * 65536) f op at_ off).2]) ∧ Duo w0 w' p p2 q q2 top f g ∧ Hid (Keep w w') := by
  obtain ⟨b, b2, h1, h2, h3, h4, h5, h6, h7, h8, h9⟩ := id h
  unfold ldR
  by_cases hc : (40 ≤ op ∧ op ≤ 53) ∧ (0 ≤ at_ ∧ at_ ≤ 4294967295) ∧ (0 ≤ off ∧ off ≤ 4294967295)
  · rw [if_pos hc]
    obtain ⟨⟨o1, o2⟩, ⟨a1, a2⟩, ⟨f1, f2⟩⟩ := hc
    obtain ⟨k, rfl⟩ : ∃ k : Nat, op = ((40 + k : Nat) : Int) := ⟨(op - 40).toNat, by omega⟩
    obtain ⟨a, rfl⟩ := Int.eq_ofNat_of_zero_le a1
    obtain ⟨o, rfl⟩ := Int.eq_ofNat_of_zero_le f1
    rw [show (((40 + k : Nat) : Int) - 40).toNat = k by omega]
    simp only [Int.toNat_natCast]
    by_cases hf : a + o + (ldAt k).1 ≤ q * 65536
    · rw [if_pos hf]
      exact (load_in _ p b _ k a o top f (by omega) (by omega) (by omega) w h.tabs h4 hf).mono fun e w' hh => ⟨hh.1, h.later hh.2, keep_later hh.2⟩
    · rw [if_neg hf]
      exact (load_out _ p b _ k a o top f (by omega) (by omega) (by omega) w h.tabs h4 hf).mono fun e w' hh => ⟨hh.1, h.later hh.2, keep_later hh.2⟩
  · rw [if_neg hc]
    by_cases ho : 40 ≤ op ∧ op ≤ 53
    · exact (load_addr p op at_ off ho _ _ (adr at_) (adr off) (by simp; omega) w).mono fun e w' hh => ⟨hh.1, h.later hh.2, keep_later hh.2⟩
    · exact (load_op p op at_ off (by omega) w).mono fun e w' hh => ⟨hh.1, h.later hh.2, keep_later hh.2⟩
theorem duo_rload {w0 w : World} {p p2 q q2 : Nat} {top : Int} {f g : Nat → Nat} (h : Duo w0 w p p2 q q2 top f g) (op at_ off : Int) :
    Calls Tryd.prog 16 #[.pointer (some ⟨p2, 0, none⟩), .int .i64 op, .int .i64 at_, .int .i64 off] w fun e w' => e = .returned (.tuple #[.int .i64 (ldR (q2 * 65536) g op at_ off).1, .int .i64 (ldR (q2 * 65536) g op at_ off).2]) ∧ Duo w0 w' p p2 q q2 top f g ∧ Hid (Keep w w') := by
  obtain ⟨b, b2, h1, h2, h3, h4, h5, h6, h7, h8, h9⟩ := id h
  unfold ldR
  by_cases hc : (40 ≤ op ∧ op ≤ 53) ∧ (0 ≤ at_ ∧ at_ ≤ 4294967295) ∧ (0 ≤ off ∧ off ≤ 4294967295)
  · rw [if_pos hc]
    obtain ⟨⟨o1, o2⟩, ⟨a1, a2⟩, ⟨f1, f2⟩⟩ := hc
    obtain ⟨k, rfl⟩ : ∃ k : Nat, op = ((40 + k : Nat) : Int) := ⟨(op - 40).toNat, by omega⟩
    obtain ⟨a, rfl⟩ := Int.eq_ofNat_of_zero_le a1
    obtain ⟨o, rfl⟩ := Int.eq_ofNat_of_zero_le f1
    rw [show (((40 + k : Nat) : Int) - 40).toNat = k by omega]
    simp only [Int.toNat_natCast]
    by_cases hf : a + o + (ldAt k).1 ≤ q2 * 65536
    · rw [if_pos hf]
      exact (rload_in _ p2 b2 _ k a o top g (by omega) (by omega) (by omega) w h5 hf).mono fun e w' hh => ⟨hh.1, h.later hh.2, keep_later hh.2⟩
    · rw [if_neg hf]
      exact (rload_out _ p2 b2 _ k a o top g (by omega) (by omega) (by omega) w h5 hf).mono fun e w' hh => ⟨hh.1, h.later hh.2, keep_later hh.2⟩
  · rw [if_neg hc]
    by_cases ho : 40 ≤ op ∧ op ≤ 53
    · exact (rload_addr p2 op at_ off ho _ _ rfl rfl (by simp; omega) w).mono fun e w' hh => ⟨hh.1, h.later hh.2, keep_later hh.2⟩
    · exact (rload_op p2 op at_ off (by omega) w).mono fun e w' hh => ⟨hh.1, h.later hh.2, keep_later hh.2⟩
/-- what a growth answers, and the pages behind it -/
def grA (top : Int) (q : Nat) (x : Int) : Int := if top - q < x % 4294967296 then 4294967295 else q
def grQ (top : Int) (q : Nat) (x : Int) : Nat := if top - q < x % 4294967296 then q else q + (x % 4294967296).toNat
def grF (top : Int) (q : Nat) (f : Nat → Nat) (x : Int) : Nat → Nat := if top - q < x % 4294967296 then f else gr f (q * 65536)
theorem duo_mgrow {w0 w : World} {p p2 q q2 : Nat} {top : Int} {f g : Nat → Nat} (h : Duo w0 w p p2 q q2 top f g) (x : Int) :
    Calls Tryd.prog 17 #[.pointer (some ⟨p, 0, none⟩), .int .i64 x] w fun e w' => e = .returned (.int .i64 (grA top q x)) ∧ Duo w0 w' p p2 (grQ top q x) q2 top (grF top q f x) g ∧ Hid (Keep w w') := by
  obtain ⟨b, b2, h1, h2, h3, h4, h5, h6, h7, h8, h9⟩ := id h
  unfold grA grQ grF
  by_cases hx : top - q < x % 4294967296
  · rw [if_pos hx, if_pos hx, if_pos hx]
    exact (grow_no _ p b q top f x w h4 (by omega) hx).mono fun e w' hh => ⟨hh.1, by rw [hh.2]; exact h, by rw [hh.2]; exact keep_refl w⟩
  · rw [if_neg hx, if_neg hx, if_neg hx]
    obtain ⟨m, hm⟩ : ∃ m : Nat, x % 4294967296 = (m : Int) := ⟨(x % 4294967296).toNat, by omega⟩
    rw [hm, Int.toNat_natCast]
    rw [hm] at hx
    by_cases h0 : m = 0
    · subst h0
      refine (grow_none _ p b q top f x w h4 (by omega) h7 hm).mono ?_
      rintro e w' ⟨rfl, rfl⟩
      refine ⟨rfl, ⟨b, b2, h1, h2, h3, mem_congr h4 (fun i => by unfold gr; split <;> first | exact h4.2.2.2.1 i | decide) (fun i hi => by unfold gr; rw [if_pos (by simpa using hi)]), h5, h6, h7, h8, h9⟩, keep_refl _⟩
    · exact (grow_yes _ p b q m top f x w h4 (by omega) hm (by omega) (by omega)).mono fun e w' hh => ⟨hh.1, Duo.left h1 h2 h3 h4 h5 h6 h8 h9 (Or.inl rfl) hh.2.1 hh.2.2 (Or.inr rfl) (by omega), keep_turn hh.2.1 h4.2.1 ane.1⟩
theorem duo_rgrow {w0 w : World} {p p2 q q2 : Nat} {top : Int} {f g : Nat → Nat} (h : Duo w0 w p p2 q q2 top f g) (x : Int) :
    Calls Tryd.prog 18 #[.pointer (some ⟨p2, 0, none⟩), .int .i64 x] w fun e w' => e = .returned (.int .i64 (grA top q2 x)) ∧ Duo w0 w' p p2 q (grQ top q2 x) top f (grF top q2 g x) ∧ Hid (Keep w w') := by
  obtain ⟨b, b2, h1, h2, h3, h4, h5, h6, h7, h8, h9⟩ := id h
  unfold grA grQ grF
  by_cases hx : top - q2 < x % 4294967296
  · rw [if_pos hx, if_pos hx, if_pos hx]
    exact (rgrow_no _ p2 b2 q2 top g x w h5 (by omega) hx).mono fun e w' hh => ⟨hh.1, by rw [hh.2]; exact h, by rw [hh.2]; exact keep_refl w⟩
  · rw [if_neg hx, if_neg hx, if_neg hx]
    obtain ⟨m, hm⟩ : ∃ m : Nat, x % 4294967296 = (m : Int) := ⟨(x % 4294967296).toNat, by omega⟩
    rw [hm, Int.toNat_natCast]
    rw [hm] at hx
    exact (rgrow_yes _ p2 b2 q2 m top g x w h5 (by omega) hm (by omega)).mono fun e w' hh => ⟨hh.1, Duo.right h1 h2 h3 h4 h5 h6 h7 h9 (Or.inl rfl) hh.2.1 hh.2.2 (Or.inr rfl) (by omega), keep_turn hh.2.1 h5.2.1 ane.2.1⟩
def ptR (n : Nat) (f : Nat → Nat) (at_ : Int) (s : ByteArray) : Int × (Nat → Nat) := if 0 ≤ at_ ∧ at_ + s.size ≤ n then (0, lay f at_.toNat s) else (801, f)
theorem duo_mput {w0 w : World} {p p2 q q2 : Nat} {top : Int} {f g : Nat → Nat} (h : Duo w0 w p p2 q q2 top f g) (at_ : Int) (s : ByteArray) (ha : -9223372036854775808 ≤ at_ ∧ at_ ≤ 9223372036854775807) (hs : s.size ≤ 9223372036854775807) :
    Calls Tryd.prog 19 #[.pointer (some ⟨p, 0, none⟩), .int .i64 at_, .string s] w fun e w' => e = .returned (.int .i64 (ptR (q * 65536) f at_ s).1) ∧ Duo w0 w' p p2 q q2 top (ptR (q * 65536) f at_ s).2 g ∧ Hid (Keep w w') := by
  obtain ⟨b, b2, h1, h2, h3, h4, h5, h6, h7, h8, h9⟩ := id h
  unfold ptR
  by_cases hc : 0 ≤ at_ ∧ at_ + s.size ≤ (q * 65536 : Nat)
  · rw [if_pos hc]
    obtain ⟨a, rfl⟩ := Int.eq_ofNat_of_zero_le hc.1
    exact (put_ok _ p b _ a top f s w h4 (by omega)).mono fun e w' hh => ⟨hh.1, Duo.left h1 h2 h3 h4 h5 h6 h8 h9 (Or.inr rfl) hh.2.1 hh.2.2 (Or.inl rfl) h7, keep_turn hh.2.1 h4.2.2.1 ane.2.2⟩
  · rw [if_neg hc]
    exact (put_bad _ p b _ top f at_ s w h4 ha (by omega) hs).mono fun e w' hh => ⟨hh.1, by rw [hh.2]; exact h, by rw [hh.2]; exact keep_refl w⟩
theorem duo_rput {w0 w : World} {p p2 q q2 : Nat} {top : Int} {f g : Nat → Nat} (h : Duo w0 w p p2 q q2 top f g) (at_ : Int) (s : ByteArray) (ha : -9223372036854775808 ≤ at_ ∧ at_ ≤ 9223372036854775807) (hs : s.size ≤ 9223372036854775807) :
    Calls Tryd.prog 20 #[.pointer (some ⟨p2, 0, none⟩), .int .i64 at_, .string s] w fun e w' => e = .returned (.int .i64 (ptR (q2 * 65536) g at_ s).1) ∧ Duo w0 w' p p2 q q2 top f (ptR (q2 * 65536) g at_ s).2 ∧ Hid (Keep w w') := by
  obtain ⟨b, b2, h1, h2, h3, h4, h5, h6, h7, h8, h9⟩ := id h
  unfold ptR
  by_cases hc : 0 ≤ at_ ∧ at_ + s.size ≤ (q2 * 65536 : Nat)
  · rw [if_pos hc]
    obtain ⟨a, rfl⟩ := Int.eq_ofNat_of_zero_le hc.1
    exact (rput_ok _ p2 b2 _ a top g s w h5 (by omega)).mono fun e w' hh => ⟨hh.1, Duo.right h1 h2 h3 h4 h5 h6 h7 h9 (Or.inr rfl) hh.2.1 hh.2.2 (Or.inl rfl) h8, keep_turn hh.2.1 h5.2.2.1 ane.2.2⟩
  · rw [if_neg hc]
    exact (rput_bad _ p2 b2 _ top g at_ s w h5 ha (by omega) hs).mono fun e w' hh => ⟨hh.1, by rw [hh.2]; exact h, by rw [hh.2]; exact keep_refl w⟩
theorem duo_mpages {w0 w : World} {p p2 q q2 : Nat} {top : Int} {f g : Nat → Nat} (h : Duo w0 w p p2 q q2 top f g) :
    Calls Tryd.prog 21 #[.pointer (some ⟨p, 0, none⟩)] w fun e w' => e = .returned (.int .i64 (q : Int)) ∧ w' = w := by
  obtain ⟨b, b2, h1, h2, h3, h4, h5, h6, h7, h8, h9⟩ := h
  exact pages_any _ p b q top f w h4
theorem duo_rpages {w0 w : World} {p p2 q q2 : Nat} {top : Int} {f g : Nat → Nat} (h : Duo w0 w p p2 q q2 top f g) :
    Calls Tryd.prog 22 #[.pointer (some ⟨p2, 0, none⟩)] w fun e w' => e = .returned (.int .i64 (q2 : Int)) ∧ w' = w := by
  obtain ⟨b, b2, h1, h2, h3, h4, h5, h6, h7, h8, h9⟩ := h
  exact rpages_any _ p2 b2 q2 top g w h5
theorem duo_all {w0 w : World} {p p2 q q2 : Nat} {top : Int} {f g : Nat → Nat} (h : Duo w0 w p p2 q q2 top f g) :
    Calls Tryd.prog 23 #[.pointer (some ⟨p, 0, none⟩)] w fun e w' => e = .returned (.string (strOf f (q * 65536))) ∧ w' = w := by
  obtain ⟨b, b2, h1, h2, h3, h4, h5, h6, h7, h8, h9⟩ := h
  exact all_any _ p b _ top f w h4
end Go.Proofs.YtbbjbgbpjhhcoaaDoor
