/- XB: LA, LB, LC, LD, LE, LF, LG, LH, joined. -/
import Derived.Test.YtngciahmoenkiacRows
import Derived.WalkKit
import Derived.ProofKit
import Derived.Deep.QuietTactic
import Derived.BigQuiet
import Derived.LoopN
import Derived.LoopTactic
import Derived.Lib.SlBytesRow
import Derived.Test.YtngciahmoenkiacXA
/- Over this seat's translation: numbers in parts of 7 bits: the document's Leb. -/
set_option linter.unusedVariables false
set_option linter.unusedSimpArgs false
set_option maxRecDepth 100000
set_option maxHeartbeats 4000000
namespace Go.Proofs.Ytngciahmoenkiac
open Go.RowKit
/-- bytes as cells -/
def bys (l : List Int) : List Value := l.map fun b => Value.int .u8 b
theorem bys_len (l : List Int) : (bys l).length = l.length := by simp [bys]
/-- a number in parts, so many at most behind the first -/
def lebF : Nat → Int → List Int
  | 0, y => [y]
  | r + 1, y => if y < 128 then [y] else (y % 128 + 128) :: lebF r (y / 128)
def lebL (x : Int) : List Int := lebF 9 (x % 18446744073709551616)
theorem info_byte : (Try.prog.info? 5).map (fun i => (i.zero, i.size, i.bytes)) = some (some (.int .u8 0), 1, 1) := by kernel_rfl
theorem byte_parts : ∃ i, Try.prog.info? 5 = some i ∧ i.zero = some (.int .u8 0) ∧ i.size = 1 ∧ i.bytes = 1 := by
  have h := info_byte
  cases hh : Try.prog.info? 5 with
  | none => rw [hh] at h; cases h
  | some i =>
    rw [hh] at h
    simp only [Option.map_some, Option.some.injEq, Prod.mk.injEq] at h
    exact ⟨i, rfl, h⟩
theorem one_byte (x : Int) : ∀ u ∈ [Value.int .u8 x], u.oneCell' = true := by
  intro u hu
  simp only [List.mem_cons, List.not_mem_nil, or_false] at hu
  subst hu
  rfl
/-- bytes being appended -/
def Byt (w0 w : World) (v : Value) (d : List Int) : Prop := ∃ lab, Fld lab 0 w w0.heap.size 5 1 v d.length (bys d)
theorem byt_nil (w0 w : World) : Byt w0 w (.slice none 0 0) [] := ⟨fun _ => 0, World.ownsRow_nil _ _ _ _, fun g hg => by cases hg⟩
theorem Byt.form {w0 w : World} {v : Value} {d : List Int} (h : Byt w0 w v d) : ∃ A cap, v = .slice A d.length cap := by
  obtain ⟨lab, h1, _⟩ := h
  rcases h1.2 with ⟨e, h0⟩ | ⟨g, cap', cur, e, _⟩
  · rw [h0]; exact ⟨none, 0, e⟩
  · exact ⟨_, _, e⟩
theorem byt_more {w0 w : World} {v : Value} {d : List Int} (hL : Later w0 w) (h : Byt w0 w v d) (x : Int) (hd : d.length < 1000000) :
    ∃ g cap w', (Builtin.append_ #[50, 50] 50 #[v, .slice (some ⟨w.heap.size, 0, none⟩) 1 1]).run Try.prog (w.alloc (.cells #[.int .u8 x] 5)) = .ok (.slice (some ⟨g, 0, none⟩) (d.length + 1) cap) w' ∧ Later w0 w' ∧ Byt w0 w' (.slice (some ⟨g, 0, none⟩) (d.length + 1) cap) (d ++ [x]) := by
  obtain ⟨i, hi1, hi2, hi3, hi4⟩ := byte_parts
  obtain ⟨lab, h1⟩ := h
  obtain ⟨g, cap, w', lab', r, F, l, C⟩ := fld_more (P := Try.prog) hL 50 50 5 i (.int .u8 0) 1 1 Try.underlying50 hi1 hi2 hi3 hi4 rfl (by decide) h1 [.int .u8 x] rfl (one_byte x) (by unfold maxLen; omega) (by omega)
  refine ⟨g, cap, w', r, l, lab', ?_⟩
  rw [List.length_append, List.length_singleton, show bys (d ++ [x]) = bys d ++ [.int .u8 x] by simp [bys]]
  exact F
theorem byt_str {w0 w : World} {g cap n : Nat} {d : List Int} (h : Byt w0 w (.slice (some ⟨g, 0, none⟩) n cap) d) (hn : n = d.length) (hb : ∀ x ∈ d, 0 ≤ x ∧ x < 256) : (convert 50 9 (.slice (some ⟨g, 0, none⟩) n cap)).run Try.prog w = .ok (.string (strOfNums d)) w := by
  subst hn
  obtain ⟨lab, h1, _⟩ := h
  have hB : Lib.Bytes w g 0 (strOfNums d) := Lib.bytes_of_nums rfl hb (fun i hi => by
    rw [Nat.zero_add]
    refine owns_cell h1 ?_
    simp [bys, List.getD, hi])
  have := Lib.run_convert_whole (P := Try.prog) w 50 5 9 Try.underlying50 Try.underlying5 Try.underlying9 g 0 _ hB cap
  rwa [strOfNums_size] at this
theorem lebF_byte : ∀ (r : Nat) (y : Int), 0 ≤ y → y < 2 * 128 ^ r → ∀ b ∈ lebF r y, 0 ≤ b ∧ b < 256
  | 0, y, h0, h1, b, hb => by
    simp only [lebF, List.mem_cons, List.not_mem_nil, or_false] at hb
    subst hb
    simp at h1
    omega
  | r + 1, y, h0, h1, b, hb => by
    unfold lebF at hb
    by_cases hy : y < 128
    · rw [if_pos hy] at hb
      simp only [List.mem_cons, List.not_mem_nil, or_false] at hb
      omega
    · rw [if_neg hy] at hb
      rcases List.mem_cons.1 hb with rfl | hb
      · omega
      · exact lebF_byte r (y / 128) (by omega) (by rw [Int.pow_succ] at h1; omega) b hb
theorem lebL_byte (x : Int) : ∀ b ∈ lebL x, 0 ≤ b ∧ b < 256 := lebF_byte 9 _ (by omega) (by have := Int.emod_lt_of_pos x (show (0 : Int) < 18446744073709551616 by decide); omega)
theorem byte_wrap (y : Int) (h0 : 0 ≤ y) : IntKind.u8.wrap (y % 128 + 128) = y % 128 + 128 := by rw [IntKind.wrap_u8]; omega
end Go.Proofs.Ytngciahmoenkiac


/- Over this seat's translation: numbers in parts of 7 bits with their sign: the document's Sleb. -/
set_option linter.unusedVariables false
set_option linter.unusedSimpArgs false
set_option maxRecDepth 100000
set_option maxHeartbeats 4000000
namespace Go.Proofs.Ytngciahmoenkiac
open Go.RowKit
def slebF : Nat → Int → List Int
  | 0, x => [x % 128]
  | r + 1, x => if -64 ≤ x ∧ x ≤ 63 then [x % 128] else (x % 128 + 128) :: slebF r (x / 128)
def slebL (x : Int) : List Int := slebF 9 x
theorem slebF_byte : ∀ (r : Nat) (x : Int), ∀ b ∈ slebF r x, 0 ≤ b ∧ b < 256
  | 0, x, b, hb => by
    simp only [slebF, List.mem_cons, List.not_mem_nil, or_false] at hb
    omega
  | r + 1, x, b, hb => by
    unfold slebF at hb
    by_cases hx : -64 ≤ x ∧ x ≤ 63
    · rw [if_pos hx] at hb
      simp only [List.mem_cons, List.not_mem_nil, or_false] at hb
      omega
    · rw [if_neg hx] at hb
      rcases List.mem_cons.1 hb with rfl | hb
      · omega
      · exact slebF_byte r (x / 128) b hb
theorem or_128 (y : Int) : bits .or .i64 (y % 128) 128 = y % 128 + 128 := by
  have h : ∀ n : Nat, n < 128 → bits .or .i64 (n : Int) 128 = (n : Int) + 128 := by decide +kernel
  have := h (y % 128).toNat (by omega)
  rwa [Int.toNat_of_nonneg (by omega)] at this
end Go.Proofs.Ytngciahmoenkiac


/- Over this seat's translation: parts read: the document's parts. -/
set_option linter.unusedVariables false
set_option linter.unusedSimpArgs false
set_option maxRecDepth 100000
set_option maxHeartbeats 4000000
namespace Go.Proofs.Ytngciahmoenkiac
open Go.RowKit
/-- a text's byte -/
def bt (s : ByteArray) (i : Nat) : Int := if h : i < s.size then (s[i].toNat : Int) else 0
theorem bt_lt (s : ByteArray) (i : Nat) : 0 ≤ bt s i ∧ bt s i < 256 := by
  unfold bt
  split
  · have := s[i].toNat_lt; omega
  · omega
/-- the last part's place; an error -/
def pt (s : ByteArray) (at_ : Nat) : Nat → Nat → Int × Int
  | 0, i => (0, 1200)
  | r + 1, i => if s.size ≤ at_ + i then (0, 1201) else if bt s (at_ + i) < 128 then (((at_ + i : Nat) : Int), 0) else pt s at_ r (i + 1)
def ptR (s : ByteArray) (at_ bits_ : Int) : Int × Int := if (bits_ = 32 ∨ bits_ = 64) ∧ 0 ≤ at_ ∧ at_ ≤ (s.size : Int) then pt s at_.toNat ((bits_ + 6) / 7).toNat 0 else (0, 1200)
end Go.Proofs.Ytngciahmoenkiac


/- Over this seat's translation: parts read as a number: the document's Unleb. -/
set_option linter.unusedVariables false
set_option linter.unusedSimpArgs false
set_option maxRecDepth 100000
set_option maxHeartbeats 4000000
namespace Go.Proofs.Ytngciahmoenkiac
open Go.RowKit
/-- so many parts, the last first, put behind a number -/
def ac (s : ByteArray) (a : Nat) : Nat → Int → Int
  | 0, x => x
  | j + 1, x => ac s a j (wrap64 (x * 128 + bt s (a + j) % 128))
theorem or_part (x p : Int) (h0 : 0 ≤ p) (h1 : p < 128) : bits .or .i64 (wrap64 (x * 128)) p = wrap64 (x * 128 + p) := by
  rw [BM.or_i64]
  obtain ⟨V, hV⟩ : ∃ V : Nat, (wrap64 (x * 128) % 18446744073709551616).toNat = V * 128 := ⟨((x % 144115188075855872)).toNat, by unfold wrap64; omega⟩
  rw [hV, show (p % 18446744073709551616).toNat = p.toNat by omega]
  have hor : V * 128 ||| p.toNat = V * 128 + p.toNat := by
    rw [show V * 128 = V <<< 7 by rw [Nat.shiftLeft_eq]]
    exact (Nat.shiftLeft_add_eq_or_of_lt (by omega) V).symm
  rw [hor]
  unfold wrap64 at *
  omega
theorem and_127 (b : Int) (h : 0 ≤ b ∧ b < 256) : bits .and .u8 b 127 = b % 128 := by
  have hh : ∀ n : Nat, n < 256 → bits .and .u8 (n : Int) 127 = (n : Int) % 128 := by decide +kernel
  have := hh b.toNat (by omega)
  rwa [Int.toNat_of_nonneg h.1] at this
theorem wrap_part (b : Int) (h : 0 ≤ b ∧ b < 256) : wrap64 (b % 128) = b % 128 := by unfold wrap64; omega
/-- Unleb: the number, the place behind, an error -/
def ulR (s : ByteArray) (at_ bits_ : Int) : Int × Int × Int :=
  if (ptR s at_ bits_).2 = 0 then
    if (ptR s at_ bits_).1 - at_ = (bits_ + 6) / 7 - 1 ∧ ¬ bt s (ptR s at_ bits_).1.toNat / 2 ^ (bits_ % 7).toNat = 0 then (0, 0, 1200)
    else (ac s at_.toNat ((ptR s at_ bits_).1.toNat + 1 - at_.toNat) 0, (ptR s at_ bits_).1 + 1, 0)
  else (0, 0, (ptR s at_ bits_).2)
/-- where parts end: within the text, within so many -/
theorem pt_in (s : ByteArray) (a : Nat) : ∀ (r i : Nat), (pt s a r i).2 = 0 → ∃ k : Nat, (pt s a r i).1 = (k : Int) ∧ a + i ≤ k ∧ k < s.size ∧ k < a + i + r ∧ bt s k < 128
  | 0, i, h => by simp [pt] at h
  | r + 1, i, h => by
    unfold pt at h ⊢
    by_cases h3 : s.size ≤ a + i
    · rw [if_pos h3] at h; simp at h
    · rw [if_neg h3] at h ⊢
      by_cases h6 : bt s (a + i) < 128
      · rw [if_pos h6] at h ⊢
        exact ⟨a + i, rfl, by omega, by omega, by omega, h6⟩
      · rw [if_neg h6] at h ⊢
        obtain ⟨k, h7, h8, h9, h10, h11⟩ := pt_in s a r (i + 1) h
        exact ⟨k, h7, by omega, h9, by omega, h11⟩
theorem ptR_in {s : ByteArray} {at_ bits_ : Int} (h : (ptR s at_ bits_).2 = 0) : ∃ a k m : Nat, at_ = (a : Int) ∧ ((bits_ = 32 ∧ m = 5) ∨ (bits_ = 64 ∧ m = 10)) ∧ (ptR s at_ bits_).1 = (k : Int) ∧ a ≤ k ∧ k < s.size ∧ k < a + m ∧ bt s k < 128 := by
  unfold ptR at h ⊢
  by_cases hh : (bits_ = 32 ∨ bits_ = 64) ∧ 0 ≤ at_ ∧ at_ ≤ (s.size : Int)
  · rw [if_pos hh] at h ⊢
    obtain ⟨a, rfl⟩ := Int.eq_ofNat_of_zero_le hh.2.1
    rw [Int.toNat_natCast] at h ⊢
    rcases hh.1 with rfl | rfl
    · obtain ⟨k, h1, h2, h3, h4, h5⟩ := pt_in s a 5 0 h
      exact ⟨a, k, 5, rfl, Or.inl ⟨rfl, rfl⟩, h1, by omega, h3, by omega, h5⟩
    · obtain ⟨k, h1, h2, h3, h4, h5⟩ := pt_in s a 10 0 h
      exact ⟨a, k, 10, rfl, Or.inr ⟨rfl, rfl⟩, h1, by omega, h3, by omega, h5⟩
  · rw [if_neg hh] at h
    simp at h
end Go.Proofs.Ytngciahmoenkiac


/- Over this seat's translation: the document's Unleb of parts that end. -/
set_option linter.unusedVariables false
set_option linter.unusedSimpArgs false
set_option maxRecDepth 100000
set_option maxHeartbeats 4000000
namespace Go.Proofs.Ytngciahmoenkiac
open Go.RowKit
end Go.Proofs.Ytngciahmoenkiac


/- The document's Unleb, whole. -/
set_option linter.unusedVariables false
set_option linter.unusedSimpArgs false
set_option maxRecDepth 100000
set_option maxHeartbeats 4000000
namespace Go.Proofs.Ytngciahmoenkiac
open Go.RowKit
end Go.Proofs.Ytngciahmoenkiac


/- Over this seat's translation: the document's Unsleb. -/
set_option linter.unusedVariables false
set_option linter.unusedSimpArgs false
set_option maxRecDepth 100000
set_option maxHeartbeats 4000000
namespace Go.Proofs.Ytngciahmoenkiac
open Go.RowKit
/-- a number of 32 bits with its sign -/
def sg3 (x : Int) : Int := if x % 4294967296 < 2147483648 then x % 4294967296 else x % 4294967296 - 4294967296
theorem and_64 (b : Int) (h : 0 ≤ b ∧ b < 256) : bits .and .i64 b 64 = if b % 128 < 64 then 0 else 64 := by
  have hh : ∀ n : Nat, n < 256 → bits .and .i64 (n : Int) 64 = if (n : Int) % 128 < 64 then 0 else 64 := by decide +kernel
  have := hh b.toNat (by omega)
  rwa [Int.toNat_of_nonneg h.1] at this
end Go.Proofs.Ytngciahmoenkiac


/- The document's Unsleb, whole. -/
set_option linter.unusedVariables false
set_option linter.unusedSimpArgs false
set_option maxRecDepth 100000
set_option maxHeartbeats 4000000
namespace Go.Proofs.Ytngciahmoenkiac
open Go.RowKit
/-- Unsleb: the number with its sign, the place behind, an error -/
def usR (s : ByteArray) (at_ bits_ : Int) : Int × Int × Int :=
  if (ptR s at_ bits_).2 = 0 then
    if (ptR s at_ bits_).1 - at_ = (bits_ + 6) / 7 - 1 ∧ ¬ bt s (ptR s at_ bits_).1.toNat / 2 ^ (bits_ % 7 - 1).toNat = 0 ∧ ¬ bt s (ptR s at_ bits_).1.toNat / 2 ^ (bits_ % 7 - 1).toNat = 127 / 2 ^ (bits_ % 7 - 1).toNat then (0, 0, 1200)
    else (if bits_ = 32 then sg3 (ac s at_.toNat ((ptR s at_ bits_).1.toNat + 1 - at_.toNat) (if bt s (ptR s at_ bits_).1.toNat % 128 < 64 then 0 else -1)) else ac s at_.toNat ((ptR s at_ bits_).1.toNat + 1 - at_.toNat) (if bt s (ptR s at_ bits_).1.toNat % 128 < 64 then 0 else -1), (ptR s at_ bits_).1 + 1, 0)
  else (0, 0, (ptR s at_ bits_).2)
end Go.Proofs.Ytngciahmoenkiac

