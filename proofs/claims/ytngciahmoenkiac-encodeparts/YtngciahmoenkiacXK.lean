/- XK: IM, IN, joined. -/
import Derived.Test.YtngciahmoenkiacXI
import Derived.Test.YtngciahmoenkiacXJ
import Derived.Test.YtngciahmoenkiacIL
/- How long the bytes of a list of instructions are, if it may be; that they are bytes. No walk. -/
set_option linter.unusedVariables false
set_option linter.unusedSimpArgs false
set_option maxRecDepth 100000
set_option maxHeartbeats 4000000
namespace Go.Proofs.Ytngciahmoenkiac
open Go.RowKit
theorem lebF_lnM : ∀ (r : Nat) (y : Int), (lebF r y).length ≤ r + 1
  | 0, y => by simp [lebF]
  | r + 1, y => by
    unfold lebF
    split
    · simp
    · have := lebF_lnM r (y / 128)
      simp only [List.length_cons]
      omega
theorem slebF_lnM : ∀ (r : Nat) (y : Int), (slebF r y).length ≤ r + 1
  | 0, y => by simp [slebF]
  | r + 1, y => by
    unfold slebF
    split
    · simp
    · have := slebF_lnM r (y / 128)
      simp only [List.length_cons]
      omega
theorem lebL_len (x : Int) : (lebL x).length ≤ 10 := lebF_lnM 9 _
theorem lit_len (op bi : Int) : (lit op bi).length ≤ 10 := by
  unfold lit
  split
  · exact slebF_lnM 9 _
  · split
    · exact slebF_lnM 9 _
    · split <;> rw [lowB_len] <;> omega
theorem labB_len : ∀ ls : List Int, (labB ls).length ≤ 10 * ls.length
  | [] => by simp [labB]
  | x :: ls => by
    have := labB_len ls
    have := lebL_len x
    simp only [labB, List.length_append, List.length_cons]
    omega
theorem labB_byte : ∀ (ls : List Int), ∀ b ∈ labB ls, 0 ≤ b ∧ b < 256
  | [], b, h => by simp [labB] at h
  | x :: ls, b, h => by
    simp only [labB, List.mem_append] at h
    rcases h with h | h
    · exact lebL_byte x b h
    · exact labB_byte ls b h
theorem ltB_byte : ∀ (f : Fs), ∀ b ∈ ltB f, 0 ≤ b ∧ b < 256
  | ⟨none⟩, b, h => by simp [ltB] at h
  | ⟨some (op, a, b', bi, ty, ls, bo, el, r)⟩, b, h => by
    have ib := ltB_byte bo
    have ie := ltB_byte el
    have ir := ltB_byte r
    simp only [ltB, List.mem_cons, List.mem_append] at h
    rcases h with rfl | h | h
    · omega
    · revert h
      split
      · intro h
        simp only [List.mem_cons, List.mem_append] at h
        rcases h with rfl | h | h | h
        · omega
        · exact ib b h
        · revert h
          split
          · intro h; simp at h
          · intro h
            simp only [List.mem_cons] at h
            rcases h with rfl | h
            · omega
            · exact ie b h
        · simp at h; omega
      · split
        · exact lebL_byte a b
        · split
          · intro h
            rcases List.mem_append.1 h with h | h
            · exact lebL_byte _ b h
            · exact labB_byte ls b h
          · split
            · intro h
              rcases List.mem_append.1 h with h | h
              · exact lebL_byte a b h
              · simp at h; omega
            · split
              · intro h
                rcases List.mem_append.1 h with h | h
                · exact lebL_byte a b h
                · exact lebL_byte b' b h
              · split
                · intro h; simp at h; omega
                · split
                  · exact lit_byte op bi b
                  · intro h; simp at h
    · exact ir b h
/-- bytes behind an Op, of kinds without blocks -/
theorem kind_len (op a b bi ty : Int) (ls : List Int) (nb ne : Nat) (h : mayP op a b bi ty ls nb ne) (h1 : ¬ (fo op = 1 ∨ fo op = 2)) :
    (if fo op = 3 then lebL a else if fo op = 4 then lebL ((ls.length : Int) - 1) ++ labB ls else if fo op = 5 then lebL a ++ [0] else if fo op = 6 then lebL a ++ lebL b else if fo op = 7 then [0] else if fo op = 8 then lit op bi else []).length ≤ 10999 := by
  have ha := lebL_len a
  have hb := lebL_len b
  have hl := labB_len ls
  have hc := lebL_len ((ls.length : Int) - 1)
  have hi := lit_len op bi
  split
  · omega
  · split
    · rename_i h3 h4
      unfold mayP at h
      have hk : ls.length ≤ 1024 := by
        rw [if_neg (by omega), if_neg (by omega), if_neg (by omega), if_neg (by omega), if_pos h4] at h
        exact h.2.2.2.2.2.2.2.2
      simp only [List.length_append]
      omega
    · split
      · simp only [List.length_append, List.length_singleton]; omega
      · split
        · simp only [List.length_append]; omega
        · split
          · simp
          · split
            · omega
            · simp
theorem ltB_len : ∀ (f : Fs) (deep c : Int), 0 ≤ c → c ≤ 8192 → (ck f deep c).1 = 0 → ((ltB f).length : Int) ≤ 11000 * ((ck f deep c).2 - c)
  | ⟨none⟩, deep, c, h0, h1, h => by simp [ltB, ck]
  | ⟨some (op, a, b, bi, ty, ls, bo, el, r)⟩, deep, c, h0, h1, h => by
    have hb := ltB_len bo (deep + 1) (c + 1) (by omega)
    have rb := ck_rng bo (deep + 1) (c + 1) (by omega)
    conv at h => lhs; unfold ck
    conv => rhs; unfold ck
    split at h
    · simp at h
    · rename_i n1
      rw [if_neg n1]
      split at h
      · simp at h
      · rename_i n2
        rw [if_neg n2]
        split at h
        · simp at h
        · rename_i n3
          rw [if_neg n3]
          have hM : mayP op a b bi ty ls bo.len el.len := Classical.not_not.1 n3
          split at h
          · rename_i n4
            rw [if_pos n4]
            have rb' := rb (by omega)
            have he := ltB_len el (deep + 1) (ck bo (deep + 1) (c + 1)).2 (by omega) (rb'.2.2.1 n4)
            have re := ck_rng el (deep + 1) (ck bo (deep + 1) (c + 1)).2 (by omega) (rb'.2.2.1 n4)
            split at h
            · rename_i n5
              rw [if_pos n5]
              have hr := ltB_len r deep (ck el (deep + 1) (ck bo (deep + 1) (c + 1)).2).2 (by omega) (re.2.2.1 n5) h
              have hb' := hb (by omega) n4
              have he' := he n5
              simp only [ltB, List.length_cons, List.length_append]
              by_cases hk : fo op = 1 ∨ fo op = 2
              · rw [if_pos hk]
                simp only [List.length_cons, List.length_append, List.length_nil]
                by_cases h00 : el.len = 0
                · rw [if_pos h00]; simp only [List.length_nil]; omega
                · rw [if_neg h00]; simp only [List.length_cons]; omega
              · rw [if_neg hk]
                have := kind_len op a b bi ty ls bo.len el.len hM hk
                omega
            · rename_i n5
              exact absurd h n5
          · rename_i n4
            exact absurd h n4
end Go.Proofs.Ytngciahmoenkiac


/- Over this seat's translation: the document's Put of instructions: Instrs. -/
set_option linter.unusedVariables false
set_option linter.unusedSimpArgs false
set_option maxRecDepth 100000
set_option maxHeartbeats 4000000
namespace Go.Proofs.Ytngciahmoenkiac
open Go.RowKit
/-- Put: the bytes, an error -/
def puR (f : Fs) : List Int × Int := if (ck f 0 0).1 = 0 then (ltB f ++ [11], 0) else ([], (ck f 0 0).1)
theorem puR_byte (f : Fs) : ∀ b ∈ (puR f).1, 0 ≤ b ∧ b < 256 := by
  unfold puR
  split
  · intro b hb
    rcases List.mem_append.1 hb with hb | hb
    · exact ltB_byte f b hb
    · simp at hb; omega
  · intro b hb
    simp at hb
end Go.Proofs.Ytngciahmoenkiac

