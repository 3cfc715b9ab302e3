/- package encode's writer: byte, number, flag, valueType, kind, name, instrs. -/
import Derived.Test.YtngciahmoenkiacBD
set_option linter.unusedVariables false
set_option linter.unusedSimpArgs false
set_option maxRecDepth 100000
set_option maxHeartbeats 4000000
namespace Go.Proofs.Ytngciahmoenkiac.en
open Go.RowKit Go.Lib
variable {B q : Nat} {P : Nat → Prop} {w w' w1 : World} {d b : List Int} {o o2 : Ob} {r : Value} {e : Ending}
theorem Pt.next (hb : o = some b) (V : Wr (Sq B P q) w w1) (h : Pt B P q w1 (d ++ b) o2 r e w') : Pt B P q w d (oB o o2) r e w' := by
  subst hb
  refine ⟨V.trans h.1, ?_⟩
  rcases h.2 with ⟨c, rfl, h1, h2⟩ | ⟨h1, h2⟩
  · exact Or.inl ⟨b ++ c, rfl, h1, by rw [← List.append_assoc]; exact h2⟩
  · exact Or.inr ⟨fit_snd h1, h2⟩
theorem Pt.stop (V : Wr (Sq B P q) w w') (n : ¬ Fit d o) : Pt B P q w d (oB o o2) r thn w' := Pt.bad V (fit_two n)
theorem Pt.ahead (V : Wr (Sq B P q) w w1) (h : Pt B P q w1 d o r e w') : Pt B P q w d o r e w' := ⟨V.trans h.1, h.2⟩
theorem conv_b (d : List Int) (hd : ∀ b ∈ d, 0 ≤ b ∧ b < 256) (n : Nat) (hn : d.length = n) {W W' : World} (hl : Later (W.alloc (.cells (bys d).toArray 5)) W') : (convert 50 9 (.slice (some ⟨W.heap.size, 0, none⟩) n n)).run Try.prog W' = .ok (.string (strOfNums d)) W' := by
  subst hn
  have hB : Lib.Bytes W' W.heap.size 0 (strOfNums d) := Lib.bytes_of_nums rfl hd (fun i hi => by
    rw [Nat.zero_add, hl.cell (by simp), cell_of_row _ _ _ _ _ _ (heap_alloc_new W _)]
    simp [bys, List.getD, hi])
  have := Lib.run_convert_whole (P := Try.prog) _ 50 5 9 Try.underlying50 Try.underlying5 Try.underlying9 W.heap.size 0 _ hB d.length
  rwa [strOfNums_size] at this
theorem strl_nums (d : List Int) (h : ∀ b ∈ d, 0 ≤ b ∧ b < 256) : strL (strOfNums d) = d := by
  unfold strL
  rw [strOfNums_data, List.map_map]
  conv => rhs; rw [← List.map_id d]
  refine List.map_congr_left fun x hx => ?_
  have := h x hx
  show (((UInt8.ofNat x.toNat).toNat : Nat) : Int) = x
  rw [UInt8.toNat_ofNat']
  omega
/-- bytes written, behind what went ahead -/
theorem put_later (l : List Int) (hl : ∀ b ∈ l, 0 ≤ b ∧ b < 256) (hn : l.length ≤ 140737488351232) (h : Ew B P q w d) (hw : Later w w1) : Calls Try.prog 11 #[.pointer (some ⟨q, 0, none⟩), .string (strOfNums l)] w1 (Pt B P q w d (some l) (.tuple #[])) := by
  have := put_any (strOfNums l) (by rw [strOfNums_size]; exact hn) (h.later hw)
  rw [strl_nums l hl] at this
  exact this.mono fun e w' h => h.ahead (sq_later hw)
theorem byte_any (x : Int) (hx : 0 ≤ x ∧ x < 256) (h : Ew B P q w d) :
    Calls Try.prog 25 #[.pointer (some ⟨q, 0, none⟩), .int .i64 x] w (Pt B P q w d (eC x) (.tuple #[])) := by
  have hp : Hid (∀ w1, Later w w1 → Calls Try.prog 11 #[.pointer (some ⟨q, 0, none⟩), .string (strOfNums [x])] w1 (Pt B P q w d (eC x) (.tuple #[]))) := fun w1 hl => put_later [x] (fun b hb => by rw [List.mem_singleton.1 hb]; exact hx) (by show 1 ≤ _; decide) h hl
  have cv : (convert 50 9 (.slice (some ⟨w.heap.size, 0, none⟩) 1 1)).run Try.prog (w.alloc (.cells #[.int .u8 x] 5)) = .ok (.string (strOfNums [x])) (w.alloc (.cells #[.int .u8 x] 5)) := conv_b [x] (fun b hb => by rw [List.mem_singleton.1 hb]; exact hx) 1 rfl (Lz _)
  have hw8 : IntKind.u8.wrap x = x := by rw [IntKind.wrap_u8]; omega
  clear h
  generalize strOfNums [x] = S at *
  go_enter Try.func25, Try.ntmps25
  go_wp2_with (go_at_call 11; refine (hp.out _ (La (Lz _))).mono ?_; rintro e w' ⟨V, (⟨b, hb, rfl, E⟩ | ⟨n, rfl⟩)⟩)
  · go_end0
    exact ⟨V, Or.inl ⟨b, hb, rfl, E⟩⟩
  · exact ⟨rfl, V, Or.inr ⟨n, rfl⟩⟩
theorem number_any (x : Int) (h : Ew B P q w d) :
    Calls Try.prog 32 #[.pointer (some ⟨q, 0, none⟩), .int .i64 x] w (Pt B P q w d (eN x) (.tuple #[])) := by
  by_cases hx : 0 ≤ x ∧ x ≤ 4294967295
  · have hL : Hid (∀ w : World, Calls Try.prog 50 #[.int .i64 x] w fun e w' => e = .returned (.int .i64 x) ∧ w' = w) := fun w => by have := gi.low_any x w; rwa [Int.emod_eq_of_lt hx.1 (by omega)] at this
    have hn : Hid (∀ w : World, Calls Try.prog 10 #[.bool true] w fun e w' => e = .returned (.tuple #[]) ∧ w' = w) := need_ok
    have hB : Hid (∀ w : World, Calls Try.prog 51 #[.int .i64 x] w fun e w' => e = .returned (.string (strOfNums (lebL x))) ∧ Later w w') := fun w => Go.Proofs.Ytngciahmoenkiac.put_any x (by omega) w
    have hp : Hid (∀ w1, Later w w1 → Calls Try.prog 11 #[.pointer (some ⟨q, 0, none⟩), .string (strOfNums (lebL x))] w1 (Pt B P q w d (eN x) (.tuple #[]))) := fun w1 hl => by
      have := put_later (lebL x) (lebF_byte 9 _ (by omega) (by omega)) (Nat.le_trans (lebF_len 9 _) (by decide)) h hl
      unfold eN
      rwa [if_pos hx]
    clear h hx
    generalize strOfNums (lebL x) = S at *
    go_enter Try.func32, Try.ntmps32
    go_wp2_with (first | (go_at_call 50; refine (hL.out _).mono ?_; rintro e w1 ⟨rfl, rfl⟩) | (go_at_call 10; refine (hn.out _).mono ?_; rintro e w1 ⟨rfl, rfl⟩) | (go_at_call 51; refine (hB.out _).mono ?_; rintro e w2 ⟨rfl, l2⟩) | (go_at_call 11; refine (hp.out _ l2).mono ?_; rintro e w' ⟨V, (⟨b, hb, rfl, E⟩ | ⟨n, rfl⟩)⟩))
    · go_end0
      exact ⟨V, Or.inl ⟨b, hb, rfl, E⟩⟩
    · exact ⟨rfl, V, Or.inr ⟨n, rfl⟩⟩
  · have hL : Hid (∀ w : World, Calls Try.prog 50 #[.int .i64 x] w fun e w' => e = .returned (.int .i64 (x % 4294967296)) ∧ w' = w) := fun w => gi.low_any x w
    have hn : Hid (∀ w : World, Calls Try.prog 10 #[.bool false] w fun e w' => e = thn ∧ w' = w) := need_bad
    have hfin : Hid (Pt B P q w d (eN x) (.tuple #[]) thn w) := by
      unfold eN
      rw [if_neg hx]
      exact Pt.bad (Wr.refl _ _) (fit_none d)
    have g : (x % 4294967296 == x) = false := by
      rw [beq_eq_false_iff_ne]
      omega
    clear h hx
    generalize x % 4294967296 = y at *
    go_enter Try.func32, Try.ntmps32
    go_wp2_with (first | (go_at_call 50; refine (hL.out _).mono ?_; rintro e w1 ⟨rfl, rfl⟩) | (go_at_call 10; refine (hn.out _).mono ?_; rintro e w1 ⟨rfl, rfl⟩))
    exact ⟨rfl, hfin.out⟩
theorem flag_any (x : Bool) (h : Ew B P q w d) :
    Calls Try.prog 49 #[.pointer (some ⟨q, 0, none⟩), .bool x] w (Pt B P q w d (eB x) (.tuple #[])) := by
  have hp : Hid (Calls Try.prog 25 #[.pointer (some ⟨q, 0, none⟩), .int .i64 (if x = true then 1 else 0)] w (Pt B P q w d (eB x) (.tuple #[]))) := byte_any (if x = true then 1 else 0) (by cases x <;> decide) h
  clear h
  cases x
  all_goals
    simp only [if_true, Bool.false_eq_true, if_false] at hp
    go_enter Try.func49, Try.ntmps49
    go_wp2_with (go_at_call 25; refine hp.out.mono ?_; rintro e w' ⟨V, (⟨b, hb, rfl, E⟩ | ⟨n, rfl⟩)⟩)
    · go_end0
      exact ⟨V, Or.inl ⟨b, hb, rfl, E⟩⟩
    · exact ⟨rfl, V, Or.inr ⟨n, rfl⟩⟩
theorem vtype_any (x : Int) (h : Ew B P q w d) :
    Calls Try.prog 46 #[.pointer (some ⟨q, 0, none⟩), .int .i64 x] w (Pt B P q w d (eK x) (.tuple #[])) := by
  by_cases hx : 124 ≤ x ∧ x ≤ 127
  · have hL : Hid (∀ w : World, Calls Try.prog 54 #[.int .i64 x] w fun e w' => e = .returned (.bool true) ∧ w' = w) := fun w => by have := gi.istype_any x w; rwa [decide_eq_true hx] at this
    have hn : Hid (∀ w : World, Calls Try.prog 10 #[.bool true] w fun e w' => e = .returned (.tuple #[]) ∧ w' = w) := need_ok
    have hp : Hid (Calls Try.prog 25 #[.pointer (some ⟨q, 0, none⟩), .int .i64 x] w (Pt B P q w d (eK x) (.tuple #[]))) := by
      have := byte_any x (by omega) h
      unfold eK
      rwa [if_pos hx]
    clear h hx
    go_enter Try.func46, Try.ntmps46
    go_wp2_with (first | (go_at_call 54; refine (hL.out _).mono ?_; rintro e w1 ⟨rfl, rfl⟩) | (go_at_call 10; refine (hn.out _).mono ?_; rintro e w1 ⟨rfl, rfl⟩) | (go_at_call 25; refine hp.out.mono ?_; rintro e w' ⟨V, (⟨b, hb, rfl, E⟩ | ⟨n, rfl⟩)⟩))
    · go_end0
      exact ⟨V, Or.inl ⟨b, hb, rfl, E⟩⟩
    · exact ⟨rfl, V, Or.inr ⟨n, rfl⟩⟩
  · have hL : Hid (∀ w : World, Calls Try.prog 54 #[.int .i64 x] w fun e w' => e = .returned (.bool false) ∧ w' = w) := fun w => by have := gi.istype_any x w; rwa [decide_eq_false hx] at this
    have hn : Hid (∀ w : World, Calls Try.prog 10 #[.bool false] w fun e w' => e = thn ∧ w' = w) := need_bad
    have hfin : Hid (Pt B P q w d (eK x) (.tuple #[]) thn w) := by
      unfold eK
      rw [if_neg hx]
      exact Pt.bad (Wr.refl _ _) (fit_none d)
    clear h hx
    go_enter Try.func46, Try.ntmps46
    go_wp2_with (first | (go_at_call 54; refine (hL.out _).mono ?_; rintro e w1 ⟨rfl, rfl⟩) | (go_at_call 10; refine (hn.out _).mono ?_; rintro e w1 ⟨rfl, rfl⟩))
    exact ⟨rfl, hfin.out⟩
theorem kind_any (x : Int) (h : Ew B P q w d) :
    Calls Try.prog 48 #[.pointer (some ⟨q, 0, none⟩), .int .i64 x] w (Pt B P q w d (eKi x) (.tuple #[])) := by
  by_cases hx : 0 ≤ x ∧ x ≤ 3
  · have hn : Hid (∀ w : World, Calls Try.prog 10 #[.bool true] w fun e w' => e = .returned (.tuple #[]) ∧ w' = w) := need_ok
    have hp : Hid (Calls Try.prog 25 #[.pointer (some ⟨q, 0, none⟩), .int .i64 x] w (Pt B P q w d (eKi x) (.tuple #[]))) := by
      have := byte_any x (by omega) h
      unfold eKi
      rwa [if_pos hx]
    have g1 : 0 ≤ x := hx.1
    have g2 : x ≤ 3 := hx.2
    clear h hx
    go_enter Try.func48, Try.ntmps48
    go_wp2_with (first | (go_at_call 10; refine (hn.out _).mono ?_; rintro e w1 ⟨rfl, rfl⟩) | (go_at_call 25; refine hp.out.mono ?_; rintro e w' ⟨V, (⟨b, hb, rfl, E⟩ | ⟨n, rfl⟩)⟩))
    · go_end0
      exact ⟨V, Or.inl ⟨b, hb, rfl, E⟩⟩
    · exact ⟨rfl, V, Or.inr ⟨n, rfl⟩⟩
  · have hn : Hid (∀ w : World, Calls Try.prog 10 #[.bool false] w fun e w' => e = thn ∧ w' = w) := need_bad
    have hfin : Hid (Pt B P q w d (eKi x) (.tuple #[]) thn w) := by
      unfold eKi
      rw [if_neg hx]
      exact Pt.bad (Wr.refl _ _) (fit_none d)
    have hx2 : ¬ 0 ≤ x ∨ (0 ≤ x ∧ ¬ x ≤ 3) := by omega
    clear h hx
    rcases hx2 with g1 | ⟨g1, g2⟩
    all_goals
      go_enter Try.func48, Try.ntmps48
      go_wp2_with (go_at_call 10; refine (hn.out _).mono ?_; rintro e w1 ⟨rfl, rfl⟩)
      exact ⟨rfl, hfin.out⟩
theorem name_any (s : ByteArray) (hs : s.size < 9223372036854775000) (h : Ew B P q w d) :
    Calls Try.prog 47 #[.pointer (some ⟨q, 0, none⟩), .string s] w (Pt B P q w d (eT s) (.tuple #[])) := by
  have hN : Hid (∀ w : World, Calls Try.prog 55 #[.string s] w fun e w' => e = .returned (.tuple #[.string (nmR s).1, .int .i64 (nmR s).2]) ∧ Later w w') := fun w => nput_any s hs w
  by_cases hx : (nmR s).2 = 0
  · have hz : (nmR s).1.size ≤ 140737488351232 := by
      unfold nmR
      split
      · decide
      · rename_i h1
        split
        · show (strOfNums (lebL (s.size : Int)) ++ s).size ≤ _
          rw [ByteArray.size_append, strOfNums_size]
          have : (lebL (s.size : Int)).length ≤ 10 := lebF_len 9 _
          omega
        · decide
    have hn : Hid (∀ w : World, Calls Try.prog 10 #[.bool true] w fun e w' => e = .returned (.tuple #[]) ∧ w' = w) := need_ok
    have hp : Hid (∀ w1, Later w w1 → Calls Try.prog 11 #[.pointer (some ⟨q, 0, none⟩), .string (nmR s).1] w1 (Pt B P q w d (eT s) (.tuple #[]))) := fun w1 hl => by
      have := put_any (nmR s).1 hz (h.later hl)
      unfold eT
      rw [if_pos hx]
      exact this.mono fun e w' h => h.ahead (sq_later hl)
    rw [hx] at hN
    clear h hx hz
    generalize (nmR s).1 = S at *
    go_enter Try.func47, Try.ntmps47
    go_wp2_with (first | (go_at_call 55; refine (hN.out _).mono ?_; rintro e w2 ⟨rfl, l2⟩) | (go_at_call 10; refine (hn.out _).mono ?_; rintro e w1 ⟨rfl, rfl⟩) | (go_at_call 11; refine (hp.out _ l2).mono ?_; rintro e w' ⟨V, (⟨b, hb, rfl, E⟩ | ⟨n, rfl⟩)⟩))
    · go_end0
      exact ⟨V, Or.inl ⟨b, hb, rfl, E⟩⟩
    · exact ⟨rfl, V, Or.inr ⟨n, rfl⟩⟩
  · have hn : Hid (∀ w : World, Calls Try.prog 10 #[.bool false] w fun e w' => e = thn ∧ w' = w) := need_bad
    have hfin : Hid (∀ w1, Later w w1 → Pt B P q w d (eT s) (.tuple #[]) thn w1) := fun w1 hl => by
      unfold eT
      rw [if_neg hx]
      exact Pt.bad (sq_later hl) (fit_none d)
    have g : ((nmR s).2 == 0) = false := by rwa [beq_eq_false_iff_ne]
    clear h hx
    generalize (nmR s).1 = S at *
    generalize (nmR s).2 = y at *
    go_enter Try.func47, Try.ntmps47
    go_wp2_with (first | (go_at_call 55; refine (hN.out _).mono ?_; rintro e w2 ⟨rfl, l2⟩) | (go_at_call 10; refine (hn.out _).mono ?_; rintro e w1 ⟨rfl, rfl⟩))
    exact ⟨rfl, hfin.out _ l2⟩
theorem instrs_any (f : Fs) (ho : f.Ok) (hfl : f.len * 112 ≤ 140737488351232) (Z : Nat → Prop) (A : Option Addr) (c : Nat) (hT : Tr Z w A f) (h : Ew B P q w d) :
    Calls Try.prog 52 #[.pointer (some ⟨q, 0, none⟩), .slice A f.len c] w (Pt B P q w d (eI f) (.tuple #[])) := by
  have hN : Hid (Calls Try.prog 56 #[.slice A f.len c] w fun e w' => e = .returned (.tuple #[.string (strOfNums (puR f).1), .int .i64 (puR f).2]) ∧ Hid (Later w w')) := gi.iput_any f ho hfl Z w A c hT
  have hby := puR_byte f
  by_cases hx : (puR f).2 = 0
  · have hz : (puR f).1.length ≤ 140737488351232 := by
      unfold puR at hx ⊢
      by_cases h0 : (ck f 0 0).1 = 0
      · rw [if_pos h0]
        have h1 := ltB_len f 0 0 (by decide) (by decide) h0
        have h2 := (ck_rng f 0 0 (by decide) (by decide)).2.2.1 h0
        show (ltB f ++ [11]).length ≤ _
        rw [List.length_append, List.length_singleton]
        omega
      · rw [if_neg h0]
        show 0 ≤ _
        omega
    have hn : Hid (∀ w : World, Calls Try.prog 10 #[.bool true] w fun e w' => e = .returned (.tuple #[]) ∧ w' = w) := need_ok
    have hp : Hid (∀ w1, Later w w1 → Calls Try.prog 11 #[.pointer (some ⟨q, 0, none⟩), .string (strOfNums (puR f).1)] w1 (Pt B P q w d (eI f) (.tuple #[]))) := fun w1 hl => by
      have := put_later (puR f).1 hby hz h hl
      unfold eI
      rwa [if_pos hx]
    rw [hx] at hN
    clear h hx hz hT ho hby hfl
    generalize strOfNums (puR f).1 = S at *
    generalize f.len = n at *
    go_enter Try.func52, Try.ntmps52
    go_wp2_with (first | (go_at_call 56; refine hN.out.mono ?_; rintro e w2 ⟨rfl, l2⟩) | (go_at_call 10; refine (hn.out _).mono ?_; rintro e w1 ⟨rfl, rfl⟩) | (go_at_call 11; refine (hp.out _ l2.out).mono ?_; rintro e w' ⟨V, (⟨b, hb, rfl, E⟩ | ⟨n, rfl⟩)⟩))
    · go_end0
      exact ⟨V, Or.inl ⟨b, hb, rfl, E⟩⟩
    · exact ⟨rfl, V, Or.inr ⟨n, rfl⟩⟩
  · have hn : Hid (∀ w : World, Calls Try.prog 10 #[.bool false] w fun e w' => e = thn ∧ w' = w) := need_bad
    have hfin : Hid (∀ w1, Later w w1 → Pt B P q w d (eI f) (.tuple #[]) thn w1) := fun w1 hl => by
      unfold eI
      rw [if_neg hx]
      exact Pt.bad (sq_later hl) (fit_none d)
    have g : ((puR f).2 == 0) = false := by rwa [beq_eq_false_iff_ne]
    clear h hx hT ho hby hfl
    generalize strOfNums (puR f).1 = S at *
    generalize (puR f).2 = y at *
    generalize f.len = n at *
    go_enter Try.func52, Try.ntmps52
    go_wp2_with (first | (go_at_call 56; refine hN.out.mono ?_; rintro e w2 ⟨rfl, l2⟩) | (go_at_call 10; refine (hn.out _).mono ?_; rintro e w1 ⟨rfl, rfl⟩))
    exact ⟨rfl, hfin.out _ l2.out⟩
end Go.Proofs.Ytngciahmoenkiac.en
