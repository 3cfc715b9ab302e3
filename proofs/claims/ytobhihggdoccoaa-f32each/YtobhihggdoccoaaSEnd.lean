/- Over this seat's translation: the document's Un and Bin of floats make of every input what the package's make. -/
import Derived.Test.YtobhihggdoccoaaSMain2
import Derived.Test.YtobhihggdoccoaaSEndW
import Derived.Test.YtobhihggdoccoaaL32A
namespace Go.Proofs.Ytobhihggdoccoaa.S
open Go.RowKit
open Go.FM (isN fixn qn)
set_option linter.unusedVariables false

theorem qn_lt : qn ff < 4294967296 := by decide +kernel
theorem fixo_lt {o : Option Nat} (h : ∀ r, o = some r → r < 4294967296) : FM.fixo ff o < 4294967296 := by
  cases o with
  | none => exact qn_lt
  | some r => exact h r rfl
theorem whole_lt (way : Ieee.Toward) (x : Nat) : FM.wholeW ff way x < 4294967296 := by
  unfold FM.wholeW
  split
  · exact qn_lt
  · exact Ieee.Format.write_lt ff _
theorem unF_lt (k : Int) (x : Nat) (hx : x < 4294967296) : unF k x < 4294967296 := by
  unfold unF
  split
  · omega
  split
  · exact Nat.xor_lt_two_pow (n := 32) hx (by decide)
  split
  · exact whole_lt _ x
  split
  · exact whole_lt _ x
  split
  · exact whole_lt _ x
  split
  · exact whole_lt _ x
  · exact fixo_lt (fun r h => Ieee.Format.sqrt_lt ff h)
theorem min_lt (x y : Nat) (hx : x < 4294967296) (hy : y < 4294967296) : FM.minW ff x y < 4294967296 ∧ FM.maxW ff x y < 4294967296 := by
  unfold FM.minW FM.maxW
  constructor
  · split
    · exact hx
    split
    · exact hy
    split
    · exact Nat.or_lt_two_pow (n := 32) hx hy
    · exact qn_lt
  · split
    · exact hx
    split
    · exact hy
    split
    · exact Nat.lt_of_le_of_lt Nat.and_le_left hx
    · exact qn_lt
theorem binG_lt (k : Int) (x y : Nat) (hx : x < 4294967296) (hy : y < 4294967296) : binG k x y < 4294967296 := by
  unfold binG
  split
  · exact fixo_lt (fun r h => Ieee.Format.add_lt ff h)
  split
  · exact fixo_lt (fun r h => Ieee.Format.sub_lt ff h)
  split
  · exact fixo_lt (fun r h => Ieee.Format.mul_lt ff h)
  split
  · exact fixo_lt (fun r h => Ieee.Format.div_lt ff h)
  split
  · exact (min_lt x y hx hy).1
  split
  · exact (min_lt x y hx hy).2
  · exact Nat.or_lt_two_pow (n := 32) (by omega) (Nat.lt_of_le_of_lt Nat.and_le_right (by decide))
theorem wrap_nat (z : Nat) (h : z < 4294967296) : IntKind.i64.wrap (z : Int) = (z : Int) := by rw [IntKind.wrap_i64]; omega
theorem u_139 (x : Nat) : unW 139 x = unF 0 x := by rw [unW_139]; simp [unF]
theorem u_140 (x : Nat) : unW 140 x = unF 1 x := by rw [unW_140]; simp [unF]
theorem u_141 (x : Nat) : unW 141 x = unF 2 x := by rw [unW_141]; simp [unF]
theorem u_142 (x : Nat) : unW 142 x = unF 3 x := by rw [unW_142]; simp [unF]
theorem u_143 (x : Nat) : unW 143 x = unF 4 x := by rw [unW_143]; simp [unF]
theorem u_144 (x : Nat) : unW 144 x = unF 5 x := by rw [unW_144]; simp [unF]
theorem u_145 (x : Nat) : unW 145 x = unF 6 x := by rw [unW_145]; simp [unF]
theorem un_same (op : Int) (x : Nat) (h : 139 ≤ op ∧ op ≤ 145) : unW op x = unF (op - 139) x := by
  have hc : op = 139 ∨ op = 140 ∨ op = 141 ∨ op = 142 ∨ op = 143 ∨ op = 144 ∨ op = 145 := by omega
  rcases hc with rfl | rfl | rfl | rfl | rfl | rfl | rfl
  · exact u_139 x
  · exact u_140 x
  · exact u_141 x
  · exact u_142 x
  · exact u_143 x
  · exact u_144 x
  · exact u_145 x
theorem b_146 (x y : Nat) : binW 146 x y = binG 0 x y := by rw [f_add]; simp [binG]
theorem b_147 (x y : Nat) : binW 147 x y = binG 1 x y := by rw [f_sub]; simp [binG]
theorem b_148 (x y : Nat) : binW 148 x y = binG 2 x y := by rw [f_mul]; simp [binG]
theorem b_149 (x y : Nat) : binW 149 x y = binG 3 x y := by rw [f_div]; simp [binG]
theorem b_150 (x y : Nat) : binW 150 x y = binG 4 x y := by rw [f_min]; simp [binG]
theorem b_151 (x y : Nat) : binW 151 x y = binG 5 x y := by rw [f_max]; simp [binG]
theorem b_152 (x y : Nat) : binW 152 x y = binG 6 x y := by rw [f_sign]; simp [binG]
theorem bin_same (op : Int) (x y : Nat) (h : 146 ≤ op ∧ op ≤ 152) : binW op x y = binG (op - 146) x y := by
  have hc : op = 146 ∨ op = 147 ∨ op = 148 ∨ op = 149 ∨ op = 150 ∨ op = 151 ∨ op = 152 := by omega
  rcases hc with rfl | rfl | rfl | rfl | rfl | rfl | rfl
  · exact b_146 x y
  · exact b_147 x y
  · exact b_148 x y
  · exact b_149 x y
  · exact b_150 x y
  · exact b_151 x y
  · exact b_152 x y
theorem cmp_same (op : Int) (x y : Nat) (h : 91 ≤ op ∧ op ≤ 96) : cmpW op x y = cmpO (op - 91) (ff.order x y) := by
  have hc : op = 91 ∨ op = 92 ∨ op = 93 ∨ op = 94 ∨ op = 95 ∨ op = 96 := by omega
  unfold cmpW cmpO
  rcases hc with rfl | rfl | rfl | rfl | rfl | rfl
  · rw [if_pos (by decide), if_pos (by decide)]; rfl
  · rw [if_neg (by decide), if_pos (by decide), if_neg (by decide), if_pos (by decide)]; rfl
  · rw [if_neg (by decide), if_neg (by decide), if_pos (by decide), if_neg (by decide), if_neg (by decide), if_pos (by decide)]; rfl
  · rw [if_neg (by decide), if_neg (by decide), if_neg (by decide), if_pos (by decide), if_neg (by decide), if_neg (by decide), if_neg (by decide), if_pos (by decide)]; rfl
  · rw [if_neg (by decide), if_neg (by decide), if_neg (by decide), if_neg (by decide), if_pos (by decide), if_neg (by decide), if_neg (by decide), if_neg (by decide), if_neg (by decide), if_pos (by decide)]; rfl
  · rw [if_neg (by decide), if_neg (by decide), if_neg (by decide), if_neg (by decide), if_neg (by decide), if_neg (by decide), if_neg (by decide), if_neg (by decide), if_neg (by decide), if_neg (by decide)]; rfl
theorem tr_nat (c : Bool) : tr c = (((if c then 1 else 0) : Nat) : Int) := by
  cases c
  · rfl
  · rfl
theorem run_any (op a : Int) (w : World) :
    Calls Try.prog 10 #[.int .i64 op, .int .i64 a] w fun e w' => e = .returned (.tuple #[.int .i64 (unI op a).1, .int .i64 (unI op a).2]) ∧ Later w w' := by
  unfold unI
  by_cases h : 139 ≤ op ∧ op ≤ 145
  · obtain ⟨x, h1, h2, h3⟩ := low_nat a
    rw [if_pos h, h3, un_same op x h]
    exact un_w op a (op - 139) x _ _ (by omega) (by omega) (by rw [IntKind.wrap_i64]; omega) h1 (by rw [IntKind.wrap_u64]; omega) (un_ok (op - 139) x ⟨by omega, by omega⟩ h2) (wrap_nat _ (unF_lt _ x h2)) w
  · rw [if_neg h]
    exact un_bad op a (by omega) w
theorem rbin_any (op a b : Int) (w : World) :
    Calls Try.prog 12 #[.int .i64 op, .int .i64 a, .int .i64 b] w fun e w' => e = .returned (.tuple #[.int .i64 (binI op a b).1, .int .i64 (binI op a b).2]) ∧ Later w w' := by
  unfold binI
  by_cases h : (91 ≤ op ∧ op ≤ 96) ∨ (146 ≤ op ∧ op ≤ 152)
  · obtain ⟨x, h1, h2, h3⟩ := low_nat a
    obtain ⟨y, g1, g2, g3⟩ := low_nat b
    rw [if_pos h, h3, g3]
    by_cases hc : 91 ≤ op ∧ op ≤ 96
    · have e : binW op x y = if cmpW op x y then 1 else 0 := by unfold binW; rw [if_pos hc.2]
      rw [e, cmp_same op x y hc]
      have := cmp_w op a b (op - 91) x y _ (by omega) (by omega) (by rw [IntKind.wrap_i64]; omega) h1 (by rw [IntKind.wrap_u64]; omega) g1 (by rw [IntKind.wrap_u64]; omega) (cmp_ok (op - 91) x y ⟨by omega, by omega⟩ h2 g2) w
      rw [tr_nat] at this
      exact this
    · have hd : 146 ≤ op ∧ op ≤ 152 := by omega
      rw [bin_same op x y hd]
      exact bin_w op a b (op - 146) x y _ _ (by omega) (by omega) (by omega) (by omega) (by rw [IntKind.wrap_i64]; omega) h1 (by rw [IntKind.wrap_u64]; omega) g1 (by rw [IntKind.wrap_u64]; omega) (bin_ok (op - 146) x y ⟨by omega, by omega⟩ h2 g2) (wrap_nat _ (binG_lt _ x y h2 g2)) w
  · rw [if_neg h]
    exact bin_bad op a b h w
theorem run_eq {op a p E : Int} (h : Hid (unI op a = (p, E))) (w : World) :
    Calls Try.prog 10 #[.int .i64 op, .int .i64 a] w fun e w' => e = .returned (.tuple #[.int .i64 p, .int .i64 E]) ∧ Later w w' := by
  have := run_any op a w
  rw [h.out] at this
  exact this
theorem rbin_eq {op a b p E : Int} (h : Hid (binI op a b = (p, E))) (w : World) :
    Calls Try.prog 12 #[.int .i64 op, .int .i64 a, .int .i64 b] w fun e w' => e = .returned (.tuple #[.int .i64 p, .int .i64 E]) ∧ Later w w' := by
  have := rbin_any op a b w
  rw [h.out] at this
  exact this
end Go.Proofs.Ytobhihggdoccoaa.S
