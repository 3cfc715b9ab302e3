/- XK: IM, IN, joined. -/
import Derived.Test.YtkdfmgdadnlnlaaXI
import Derived.Test.YtkdfmgdadnlnlaaXJ
import Derived.Test.YtkdfmgdadnlnlaaIL
/- How long the bytes of a list of instructions are, if it may be; that they are bytes. No walk. -/
set_option linter.unusedVariables false
set_option linter.unusedSimpArgs false
set_option maxRecDepth 100000
set_option maxHeartbeats 4000000
namespace Go.Proofs.Ytkdfmgdadnlnlaa
open Go.RowKit
theorem lebF_lnM : ∀ (r : Nat) (y : Int), (lebF r y).length ≤ r + 1
  | 0, y => by simp [lebF]
  | r + 1, y => by
    unfold lebF
    split
    · simp
    · have := lebF_lnM r (y / 128)
      simp only [List.length_cons]
      omega
theorem slebF_lnM : ∀ (r : Nat) (y : Int), (slebF r y).length ≤ r + 1
  | 0, y => by simp [slebF]
  | r + 1, y => by
    unfold slebF
    split
    · simp
    · have := slebF_lnM r (y / 128)
      simp only [List.length_cons]
      omega
theorem lebL_len (x : Int) : (lebL x).length ≤ 10 := lebF_lnM 9 _
theorem lit_len (op bi : Int) : (lit op bi).length ≤ 10 := by
  unfold lit
  split
  · exact slebF_lnM 9 _
  · split
    · exact slebF_lnM 9 _
    · split <;> rw [lowB_len] <;> omega
theorem labB_len : ∀ ls : List Int, (labB ls).length ≤ 10 * ls.length
  | [] => by simp [labB]
  | x :: ls => by
    have := labB_len ls
    have := lebL_len x
    simp only [labB, List.length_append, List.length_cons]
    omega
theorem labB_byte : ∀ (ls : List Int), ∀ b ∈ labB ls, 0 ≤ b ∧ b < 256
  | [], b, h => by simp [labB] at h
  | x :: ls, b, h => by
    simp only [labB, List.mem_append] at h
    rcases h with h | h
    · exact lebL_byte x b h
    · exact labB_byte ls b h
theorem ltB_byte : ∀ (f : Fs), ∀ b ∈ ltB f, 0 ≤ b ∧ b < 256
  | ⟨none⟩, b, h => by simp [ltB] at h
  | ⟨some (op, a, b', bi, ty, ls, bo, el, r)⟩, b, h => by
    have ib := ltB_byte bo
    have ie := ltB_byte el
    have ir := ltB_byte r
    simp only [ltB, List.mem_cons, List.mem_append] at h
    rcases h with rfl | h | h
    · omega
    · revert h
      split
      · intro h
        simp only [List.mem_cons, List.mem_append] at h
        rcases h with rfl | h | h | h
        · omega
        · exact ib b h
        · revert h
          split
          · intro h; simp at h
          · intro h
            simp only [List.mem_cons] at h
            rcases h with rfl | h
            · omega
            · exact ie b h
        · simp at h; omega
      · split
        · exact lebL_byte a b
        · split
          · intro h
            rcases List.mem_append.1 h with h | h
            · exact lebL_byte _ b h
            · exact labB_byte ls b h
          · split
            · intro h
              rcases List.mem_append.1 h with h | h
              · exact lebL_byte a b h
              · simp at h; omega
            · split
              · intro h
                rcases List.mem_append.1 h with h | h
                · exact lebL_byte a b h
                · exact lebL_byte b' b h
              · split
                · intro h; simp at h; omega
                · split
                  · exact lit_byte op bi b
                  · intro h; simp at h
    · exact ir b h
/-- bytes behind an Op, of kinds without blocks -/
theorem kind_len (op a b bi ty : Int) (ls : List Int) (nb ne : Nat) (h : mayP op a b bi ty ls nb ne) (h1 : ¬ (fo op = 1 ∨ fo op = 2)) :
    (if fo op = 3 then lebL a else if fo op = 4 then lebL ((ls.length : Int) - 1) ++ labB ls else if fo op = 5 then lebL a ++ [0] else if fo op = 6 then lebL a ++ lebL b else if fo op = 7 then [0] else if fo op = 8 then lit op bi else []).length ≤ 10999 := by
  have ha := lebL_len a
  have hb := lebL_len b
  have hl := labB_len ls
  have hc := lebL_len ((ls.length : Int) - 1)
  have hi := lit_len op bi
  split
  · omega
  · split
    · rename_i h3 h4
      unfold mayP at h
      have hk : ls.length ≤ 1024 := by
        rw [if_neg (by omega), if_neg (by omega), if_neg (by omega), if_neg (by omega), if_pos h4] at h
        exact h.2.2.2.2.2.2.2.2
      simp only [List.length_append]
      omega
    · split
      · simp only [List.length_append, List.length_singleton]; omega
      · split
        · simp only [List.length_append]; omega
        · split
          · simp
          · split
            · omega
            · simp
theorem ltB_len : ∀ (f : Fs) (deep c : Int), 0 ≤ c → c ≤ 8192 → (ck f deep c).1 = 0 → ((ltB f).length : Int) ≤ 11000 * ((ck f deep c).2 - c)
  | ⟨none⟩, deep, c, h0, h1, h => by simp [ltB, ck]
  | ⟨some (op, a, b, bi, ty, ls, bo, el, r)⟩, deep, c, h0, h1, h => by
    have hb := ltB_len bo (deep + 1) (c + 1) (by omega)
    have rb := ck_rng bo (deep + 1) (c + 1) (by omega)
    conv at h => lhs; unfold ck
    conv => rhs; unfold ck
    split at h
    · simp at h
    · rename_i n1
      rw [if_neg n1]
      split at h
      · simp at h
      · rename_i n2
        rw [if_neg n2]
        split at h
        · simp at h
        · rename_i n3
          rw [if_neg n3]
          have hM : mayP op a b bi ty ls bo.len el.len := Classical.not_not.1 n3
          split at h
          · rename_i n4
            rw [if_pos n4]
            have rb' := rb (by omega)
            have he := ltB_len el (deep + 1) (ck bo (deep + 1) (c + 1)).2 (by omega) (rb'.2.2.1 n4)
            have re := ck_rng el (deep + 1) (ck bo (deep + 1) (c + 1)).2 (by omega) (rb'.2.2.1 n4)
            split at h
            · rename_i n5
              rw [if_pos n5]
              have hr := ltB_len r deep (ck el (deep + 1) (ck bo (deep + 1) (c + 1)).2).2 (by omega) (re.2.2.1 n5) h
              have hb' := hb (by omega) n4
              have he' := he n5
              simp only [ltB, List.length_cons, List.length_append]
              by_cases hk : fo op = 1 ∨ fo op = 2
              · rw [if_pos hk]
                simp only [List.length_cons, List.length_append, List.length_nil]
                by_cases h00 : el.len = 0
                · rw [if_pos h00]; simp only [List.length_nil]; omega
                · rw [if_neg h00]; simp only [List.length_cons]; omega
              · rw [if_neg hk]
                have := kind_len op a b bi ty ls bo.len el.len hM hk
                omega
            · rename_i n5
              exact absurd h n5
          · rename_i n4
            exact absurd h n4
end Go.Proofs.Ytkdfmgdadnlnlaa


/- Over this seat's translation: the document's Put of instructions: Instrs. -/
set_option linter.unusedVariables false
set_option linter.unusedSimpArgs false
set_option maxRecDepth 100000
set_option maxHeartbeats 4000000
namespace Go.Proofs.Ytkdfmgdadnlnlaa
open Go.RowKit
/-- Put: the bytes, an error -/
def puR (f : Fs) : List Int × Int := if (ck f 0 0).1 = 0 then (ltB f ++ [11], 0) else ([], (ck f 0 0).1)
theorem puR_byte (f : Fs) : ∀ b ∈ (puR f).1, 0 ≤ b ∧ b < 256 := by
  unfold puR
  split
  · intro b hb
    rcases List.mem_append.1 hb with hb | hb
    · exact ltB_byte f b hb
    · simp at hb; omega
  · intro b hb
    simp at hb
theorem instrs_any (f : Fs) (ho : f.Ok) (hn : f.len * 112 ≤ 140737488351232) (Z : Nat → Prop) (w : World) (A : Option Addr) (c : Nat) (hT : Tr Z w A f) :
    Calls Try.prog 11 #[.slice A f.len c] w fun e w' => e = .returned (.tuple #[.string (strOfNums (puR f).1), .int .i64 (puR f).2]) ∧ Hid (Later w w') := by
  have hck := checks_any f.sz f (Nat.le_refl _) ho hn
  have hli := list_any f.sz f (Nat.le_refl _) ho hn
  have hlen := ltB_len f 0 0 (by decide) (by decide)
  have hrng := ck_rng f 0 0 (by decide) (by decide)
  have hbs := puR_byte f
  have hT2 : Tr (fun k => Z k ∧ k < w.heap.size) w A f := hT.move fun k hk hl => ⟨⟨hk, hl⟩, rfl⟩
  obtain ⟨W, hW⟩ : ∃ W : World, W = w.alloc (.cells #[.int .i64 0] 3) := ⟨_, rfl⟩
  have LW : Later w W := by rw [hW]; exact La (Lz _)
  have hrow : W.rowIs w.heap.size 3 1 (fun _ => .int .i64 0) := by
    rw [hW]
    exact ⟨_, heap_alloc_new w _, rfl, fun i hi => by
      match i, hi with
      | 0, _ => rfl⟩
  have hc1 : Hid (Calls Try.prog 24 #[.slice A f.len c, .int .i64 0, .pointer (some ⟨w.heap.size, 0, none⟩)] W fun e w' => e = .returned (.int .i64 (ck f 0 0).1) ∧ Hid (Ct w.heap.size W w' (ck f 0 0).2)) := hck _ W A c w.heap.size 0 0 (hT2.later LW) (fun k hk => by have := hk.2; omega) hrow (by decide) (Or.inl (by decide)) (by decide) (by decide) (by decide)
  have hLt : Hid (∀ w', Ct w.heap.size W w' (ck f 0 0).2 → Later w w' ∧ Tr (fun k => Z k ∧ k < w.heap.size) w' A f) := fun w' C => ⟨LW.turned hrow (Nat.le_refl _) C.1, C.tr (fun k hk => by have := hk.2; omega) (hT2.later LW)⟩
  subst hW
  unfold puR at hbs ⊢
  by_cases h0 : (ck f 0 0).1 = 0
  · rw [if_pos h0] at hbs ⊢
    have hlen' : (ltB f).length < 100000000000 := by have := hlen h0; have := hrng.2.2.1 h0; omega
    rw [h0] at hc1
    have hl2 : Hid (∀ w2, Tr (fun k => Z k ∧ k < w.heap.size) w2 A f → Calls Try.prog 25 #[.slice A f.len c] w2 fun e w' => ∃ A' c', e = .returned (.slice A' (ltB f).length c') ∧ Hid (Byt w2 w' (.slice A' (ltB f).length c') (ltB f)) ∧ Hid (Later w2 w')) := fun w2 h2 => hli _ w2 A c h2 hlen'
    have hfin : Hid (∀ (w2 w3 : World) (A' : Option Addr) (c' : Nat), Byt w2 w3 (.slice A' (ltB f).length c') (ltB f) → Later w2 w3 → ∃ g cap w', Hid ((Builtin.append_ #[53, 53] 53 #[.slice A' (ltB f).length c', .slice (some ⟨w3.heap.size, 0, none⟩) 1 1]).run Try.prog (w3.alloc (.cells #[.int .u8 11] 5)) = .ok (.slice (some ⟨g, 0, none⟩) ((ltB f).length + 1) cap) w') ∧ Hid (Later w2 w') ∧ (convert 53 9 (.slice (some ⟨g, 0, none⟩) ((ltB f).length + 1) cap)).run Try.prog w' = .ok (.string (strOfNums (ltB f ++ [11]))) w') := fun w2 w3 A' c' hB hL => by
      obtain ⟨lab, hF⟩ := hB
      obtain ⟨i, hi1, hi2, hi3, hi4⟩ := byte_parts
      obtain ⟨g, cap, w', lab', r, G, l, C⟩ := fld_more (P := Try.prog) hL 53 53 5 i (.int .u8 0) 1 1 Try.underlying53 hi1 hi2 hi3 hi4 rfl (by decide) hF [.int .u8 11] rfl (one_byte 11) (by unfold maxLen; omega) (by omega)
      refine ⟨g, cap, w', r, l, ?_⟩
      refine byt_str (w0 := w2) (d := ltB f ++ [11]) ⟨lab', ?_⟩ (by simp) hbs
      rw [List.length_append, List.length_singleton, show bys (ltB f ++ [11]) = bys (ltB f) ++ [.int .u8 11] by simp [bys]]
      exact G
    clear hck hli hlen hrng hbs hT hT2 hrow LW h0
    generalize f.len = n at *
    go_enter Try.func11, Try.ntmps11
    go_wp2_with (first | (go_at_call 24; refine hc1.out.mono ?_; clear hc1; rintro e w2 ⟨rfl, C2⟩; obtain ⟨L2, T2⟩ := hLt.out w2 C2.out; replace L2 : Hid (Later w w2) := L2; replace T2 : Hid (Tr (fun k => Z k ∧ k < w.heap.size) w2 A f) := T2; clear C2) | (go_at_call 25; refine (hl2.out _ T2.out).mono ?_; clear hl2; rintro e w3 ⟨A', c', rfl, hB, L3⟩; obtain ⟨g, cap, w4, r4, L4, cv⟩ := hfin.out w2 w3 A' c' hB.out L3.out; clear hB hfin) | (at_builtin; refine wpList_app rfl _ _ 53 rfl _ _ _ rfl rfl r4.out ?_; clear r4))
    go_ret2
    exact ⟨rfl, L2.out.trans L4.out⟩
  · rw [if_neg h0]
    have h1 : ((ck f 0 0).1 != 0) = true := by simpa using h0
    clear hck hli hlen hrng hbs hT hT2 hrow LW h0
    generalize f.len = n at *
    generalize ck f 0 0 = K at *
    go_enter Try.func11, Try.ntmps11
    go_wp2_with (first | (go_at_call 24; refine hc1.out.mono ?_; clear hc1; rintro e w2 ⟨rfl, C2⟩; obtain ⟨L2, T2⟩ := hLt.out w2 C2.out; replace L2 : Hid (Later w w2) := L2; clear T2 C2))
    go_ret2
    exact ⟨rfl, L2.out⟩
end Go.Proofs.Ytkdfmgdadnlnlaa

