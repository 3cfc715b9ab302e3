/- package instr's reader of bytes: its small functions. -/
import Derived.Test.YtkdfmgdadnlnlaaGB
import Derived.Test.YtkdfmgdadnlnlaaXN
import Derived.Test.YtkdfmgdadnlnlaaLVG
set_option linter.unusedVariables false
set_option linter.unusedSimpArgs false
set_option maxRecDepth 100000
set_option maxHeartbeats 8000000
namespace Go.Proofs.Ytkdfmgdadnlnlaa.gi
open Go.RowKit
/-- a reader's fields -/
def pF (s : ByteArray) (st : Rst) (j : Nat) : Value := [Value.string s, .int .i64 st.at_, .int .i64 (8192 - st.count), .int .i64 st.code].getD j undef
/-- a reader in a block of its own, and else nothing turned -/
def Ps (q : Nat) (w wr : World) (s : ByteArray) (st : Rst) : Prop := Turned q w wr ∧ wr.rowIs q 67 4 (pF s st) ∧ ∃ F0, w.rowIs q 67 4 F0
variable {q : Nat} {w wr wr' : World} {s : ByteArray} {st st' : Rst}
theorem Ps.start (h : w.rowIs q 67 4 (pF s st)) : Ps q w w s st := ⟨Turned.refl h, h, _, h⟩
theorem Ps.later (h : Ps q w wr s st) (hl : Later wr wr') : Ps q w wr' s st := ⟨h.1.later hl, rowIs_later hl h.2.1, h.2.2⟩
theorem Ps.trans (h : Ps q w wr s st) (h2 : Ps q wr wr' s st') : Ps q w wr' s st' := by
  obtain ⟨h1, _, F0, h3⟩ := h
  exact ⟨h1.trans h3 h2.1, h2.2.1, F0, h3⟩
theorem Ps.set (h : Ps q w wr s st) (i : Nat) (v : Value) (h2 : ∀ j, j < 4 → (if j = i then v else pF s st j) = pF s st' j) : Ps q w (wr.setCell ⟨q, i, none⟩ v) s st' := by
  obtain ⟨h1, h3, F0, h4⟩ := h
  refine ⟨h1.set h4 i v, ?_, F0, h4⟩
  obtain ⟨cs, e1, e2, e3⟩ := h3.set i v
  exact ⟨cs, e1, e2, fun j hj => by rw [e3 j hj]; exact congrArg some (h2 j hj)⟩
theorem Ps.cell (h : Ps q w wr s st) (i : Nat) (hi : i < 4) : wr.cell? ⟨q, i, none⟩ = some (pF s st i) := h.2.1.cell hi
theorem Ps.frozen (h : Ps q w wr s st) (i : Nat) : wr.frozen? ⟨q, i, none⟩ = false := h.2.1.frozen i
theorem Ps.block (h : Ps q w wr s st) {k : Nat} (hk : k ≠ q) (hl : k < w.heap.size) : wr.heap[k]? = w.heap[k]? := h.1.block hk hl
theorem Ps.size (h : Ps q w wr s st) : w.heap.size ≤ wr.heap.size := h.1.size
theorem Ps.row (h : Ps q w wr s st) : wr.rowIs q 67 4 (pF s st) := h.2.1
theorem Ps.code (h : Ps q w wr s st) : wr.cell? ⟨q, 3, none⟩ = some (.int .i64 st.code) ∧ q < wr.heap.size := ⟨h.cell 3 (by decide), h.2.1.lt⟩
theorem pset1 {a b c a' : Int} : ∀ j, j < 4 → (if j = 1 then Value.int .i64 a' else pF s ⟨a, b, c⟩ j) = pF s ⟨a', b, c⟩ j := fun j hj => by
  match j, hj with
  | 0, _ => rfl
  | 1, _ => rfl
  | 2, _ => rfl
  | 3, _ => rfl
theorem pset3 {a b c b' : Int} : ∀ j, j < 4 → (if j = 3 then Value.int .i64 b' else pF s ⟨a, b, c⟩ j) = pF s ⟨a, b', c⟩ j := fun j hj => by
  match j, hj with
  | 0, _ => rfl
  | 1, _ => rfl
  | 2, _ => rfl
  | 3, _ => rfl
theorem pfail_any (e : Int) (w : World) (h : w.rowIs q 67 4 (pF s st)) :
    Calls Try.prog 63 #[.pointer (some ⟨q, 0, none⟩), .int .i64 e] w fun e' w' => e' = .returned (.tuple #[]) ∧ Hid (Ps q w w' s (rfail st e)) := by
  have R := Ps.start h
  obtain ⟨a0, cd, ct⟩ := st
  have c2 : w.cell? ⟨q, 3, none⟩ = some (.int .i64 cd) := R.cell 3 (by decide)
  have f2 := R.frozen 3
  have hl := cell_lt c2
  unfold rfail
  by_cases h0 : cd = 0
  · rw [if_pos h0]
    have R2 : Hid (Ps q w (w.setCell ⟨q, 3, none⟩ (.int .i64 e)) s ⟨a0, e, ct⟩) := R.set 3 _ pset3
    clear R h
    go_enter Try.func63, Try.ntmps63
    go_wp2_with fail
    go_end0
    exact ⟨rfl, R2⟩
  · rw [if_neg h0]
    have h1 : (cd == 0) = false := beq_false h0
    replace R : Hid (Ps q w w s ⟨a0, cd, ct⟩) := R
    clear h
    go_enter Try.func63, Try.ntmps63
    go_wp2_with fail
    go_end0
    exact ⟨rfl, R⟩
theorem pnext_any (hs : s.size < 9223372036854775000) (hin : Rin s st) (w : World) (h : w.rowIs q 67 4 (pF s st)) :
    Calls Try.prog 44 #[.pointer (some ⟨q, 0, none⟩)] w fun e' w' => e' = .returned (.int .i64 (rbyte s st).1) ∧ Hid (Ps q w w' s (rbyte s st).2) := by
  have R := Ps.start h
  obtain ⟨a0, cd, ct⟩ := st
  have c0 : w.cell? ⟨q, 0, none⟩ = some (.string s) := R.cell 0 (by decide)
  have c1 : w.cell? ⟨q, 1, none⟩ = some (.int .i64 a0) := R.cell 1 (by decide)
  have c2 : w.cell? ⟨q, 3, none⟩ = some (.int .i64 cd) := R.cell 3 (by decide)
  have f1 := R.frozen 1
  have hl := cell_lt c2
  obtain ⟨a, ha⟩ := Int.eq_ofNat_of_zero_le hin.1
  have ha' : a0 = (a : Int) := ha
  subst ha'
  have ha2 : a ≤ s.size := by have := hin.2; simp only [] at this; omega
  unfold rbyte
  simp only []
  by_cases h0 : cd = 0
  · subst h0
    by_cases h1 : (a : Int) < s.size
    · rw [if_pos ⟨rfl, h1⟩]
      have hasz : a < s.size := by omega
      have hb : bt s (a : Int).toNat = (s[a].toNat : Int) := by rw [Int.toNat_natCast]; exact dif_pos hasz
      rw [hb]
      have h3 : ((a : Int) == (s.size : Int)) = false := beq_false (by omega)
      have hwr : wrap64 (s[a].toNat : Int) = (s[a].toNat : Int) := by have := s[a].toNat_lt; unfold wrap64; omega
      replace R : Hid (Ps q w w s ⟨(a : Int), 0, ct⟩) := R
      clear h hb hin ha
      go_enter Try.func44, Try.ntmps44
      go_wp2_with fail
      go_quiet (fail)
      go_wp2_with fail
      go_quiet (fail)
      go_wp2_with fail
      go_ret
      exact ⟨by show Ending.returned (.int .i64 (wrap64 _)) = _; rw [hwr], ((R.out.later (Ln (Lz _))).set (st' := ⟨(a : Int) + 1, 0, ct⟩) 1 _ pset1).later (Ln (Lz _))⟩
    · rw [if_neg (fun x => h1 x.2)]
      have h3 : (a : Int) = (s.size : Int) := by omega
      obtain rfl : a = s.size := by omega
      replace R : Hid (Ps q w w s ⟨(s.size : Int), 0, ct⟩) := R
      have hfail : Hid (∀ W, Later w W → Calls Try.prog 63 #[.pointer (some ⟨q, 0, none⟩), .int .i64 1401] W fun e' w' => e' = .returned (.tuple #[]) ∧ Hid (Ps q W w' s (rfail ⟨(s.size : Int), 0, ct⟩ 1401))) := fun W hW => pfail_any 1401 W (R.out.later hW).2.1
      clear h hin ha h3 h1 ha2
      go_enter Try.func44, Try.ntmps44
      go_wp2_with fail
      go_quiet (fail)
      go_wp2_with (go_at_call 63; refine (hfail.out _ (Ln (Lz _))).mono ?_; rintro e w2 ⟨rfl, R2⟩)
      go_ret
      exact ⟨rfl, (R.out.later (Ln (Lz _))).trans R2.out⟩
  · rw [if_neg (fun x => h0 x.1)]
    have h3 : (cd != 0) = true := by simpa using h0
    have h4 : Hid (rfail ⟨(a : Int), cd, ct⟩ 1401 = ⟨(a : Int), cd, ct⟩) := if_neg h0
    replace R : Hid (Ps q w w s ⟨(a : Int), cd, ct⟩) := R
    clear h hin ha
    go_enter Try.func44, Try.ntmps44
    go_wp2_with fail
    go_ret
    exact ⟨rfl, by rw [h4.out]; exact R⟩
theorem pread_any (x to e : Int) (hx : ¬ e = 0 → x = 0) (w : World) (hc : st.code = 0) (h : w.rowIs q 67 4 (pF s st)) :
    Calls Try.prog 95 #[.pointer (some ⟨q, 0, none⟩), .int .i64 x, .int .i64 to, .int .i64 e] w fun e' w' => e' = .returned (.int .i64 (rmoved st (x, to, e)).1) ∧ Hid (Ps q w w' s (rmoved st (x, to, e)).2) := by
  have R := Ps.start h
  obtain ⟨a0, cd, ct⟩ := st
  obtain rfl : cd = 0 := hc
  have c1 : w.cell? ⟨q, 1, none⟩ = some (.int .i64 a0) := R.cell 1 (by decide)
  have f1 := R.frozen 1
  have hl := cell_lt c1
  have hfail : Hid (∀ (er : Int) W, Later w W → Calls Try.prog 63 #[.pointer (some ⟨q, 0, none⟩), .int .i64 er] W fun e' w' => e' = .returned (.tuple #[]) ∧ Hid (Ps q W w' s (rfail ⟨a0, 0, ct⟩ er))) := fun er W hW => pfail_any er W (R.later hW).2.1
  replace R : Hid (Ps q w w s ⟨a0, 0, ct⟩) := R
  clear h
  unfold rmoved
  simp only []
  rw [if_neg (by simp)]
  by_cases h1 : e = 0
  · subst h1
    rw [if_pos rfl]
    clear hx
    go_enter Try.func95, Try.ntmps95
    go_wp2_with fail
    go_ret
    exact ⟨rfl, R.out.set (st' := ⟨to, 0, ct⟩) 1 _ pset1⟩
  · rw [if_neg h1]
    obtain rfl := hx h1
    clear hx
    have n1 := beq_false h1
    by_cases h2 : e = 1201
    · subst h2
      rw [if_pos rfl]
      go_enter Try.func95, Try.ntmps95
      go_wp2_with (go_at_call 63; refine (hfail.out 1401 _ (Lz _)).mono ?_; rintro e w2 ⟨rfl, R2⟩)
      go_ret
      exact ⟨rfl, R2⟩
    · rw [if_neg h2]
      have n2 := beq_false h2
      go_enter Try.func95, Try.ntmps95
      go_wp2_with (go_at_call 63; refine (hfail.out 1400 _ (Lz _)).mono ?_; rintro e w2 ⟨rfl, R2⟩)
      go_ret
      exact ⟨rfl, R2⟩
theorem ul_zero (s : ByteArray) (a b : Int) (h : ¬ (ulR s a b).2.2 = 0) : (ulR s a b).1 = 0 := by
  unfold ulR at *
  split
  · rename_i h1
    rw [if_pos h1] at h
    split
    · rfl
    · rename_i h2; rw [if_neg h2] at h; exact absurd rfl h
  · rfl
theorem us_zero (s : ByteArray) (a b : Int) (h : ¬ (usR s a b).2.2 = 0) : (usR s a b).1 = 0 := by
  unfold usR at *
  split
  · rename_i h1
    rw [if_pos h1] at h
    split
    · rfl
    · rename_i h2; rw [if_neg h2] at h; exact absurd rfl h
  · rfl
theorem pnum_any (hs : s.size < 9223372036854775000) (hin : Rin s st) (w : World) (h : w.rowIs q 67 4 (pF s st)) :
    Calls Try.prog 82 #[.pointer (some ⟨q, 0, none⟩)] w fun e' w' => e' = .returned (.int .i64 (rnum s st).1) ∧ Hid (Ps q w w' s (rnum s st).2) := by
  have R := Ps.start h
  have ha : -9223372036854775808 ≤ st.at_ ∧ st.at_ ≤ 9223372036854775807 := by have := hin.1; have := hin.2; constructor <;> omega
  obtain ⟨a0, cd, ct⟩ := st
  have c0 : w.cell? ⟨q, 0, none⟩ = some (.string s) := R.cell 0 (by decide)
  have c1 : w.cell? ⟨q, 1, none⟩ = some (.int .i64 a0) := R.cell 1 (by decide)
  have c3 : w.cell? ⟨q, 3, none⟩ = some (.int .i64 cd) := R.cell 3 (by decide)
  have hl := cell_lt c1
  unfold rnum
  by_cases h0 : cd = 0
  · subst h0
    have hu : Hid (∀ W, Calls Try.prog 94 #[.string s, .int .i64 a0, .int .i64 32] W fun e w' => e = .returned (.tuple #[.int .i64 (ulR s a0 32).1, .int .i64 (ulR s a0 32).2.1, .int .i64 (ulR s a0 32).2.2]) ∧ Later W w') := fun W => get_any s hs a0 32 ha (by decide) W
    have hz := ul_zero s a0 32
    simp only []
    generalize ulR s a0 32 = X at *
    obtain ⟨x, to, e⟩ := X
    have hm : Hid (∀ W, Later w W → Calls Try.prog 95 #[.pointer (some ⟨q, 0, none⟩), .int .i64 x, .int .i64 to, .int .i64 e] W fun e' w' => e' = .returned (.int .i64 (rmoved ⟨a0, 0, ct⟩ (x, to, e)).1) ∧ Hid (Ps q W w' s (rmoved ⟨a0, 0, ct⟩ (x, to, e)).2)) := fun W hW => pread_any x to e hz W rfl (R.later hW).2.1
    replace R : Hid (Ps q w w s ⟨a0, 0, ct⟩) := R
    clear h hz hin ha
    go_enter Try.func82, Try.ntmps82
    go_wp2_with fail
    go_region_law (go_simp; go_at_call 94; refine (hu.out _).mono ?_; rintro e1 w2 ⟨rfl, l2⟩; replace l2 : Hid (Later w w2) := (Ld (Lz _)).trans l2)
    all_goals
      go_wp2_with (go_at_call 95; refine (hm.out _ l2.out).mono ?_; rintro e3 w3 ⟨rfl, R2⟩)
      go_ret
      exact ⟨rfl, (R.out.later l2.out).trans R2.out⟩
  · have h3 : (cd != 0) = true := by simpa using h0
    have h4 : Hid (∀ X, rmoved ⟨a0, cd, ct⟩ X = (0, ⟨a0, cd, ct⟩)) := fun X => if_pos h0
    rw [h4.out]
    replace R : Hid (Ps q w w s ⟨a0, cd, ct⟩) := R
    clear h hin ha
    go_enter Try.func82, Try.ntmps82
    go_wp2_with fail
    go_ret
    exact ⟨rfl, R⟩
theorem psgn_any (hs : s.size < 9223372036854775000) (hin : Rin s st) (b : Int) (hb : -9223372036854775808 ≤ b ∧ b ≤ 9223372036854775807) (w : World) (h : w.rowIs q 67 4 (pF s st)) :
    Calls Try.prog 85 #[.pointer (some ⟨q, 0, none⟩), .int .i64 b] w fun e' w' => e' = .returned (.int .i64 (rsgn s st b).1) ∧ Hid (Ps q w w' s (rsgn s st b).2) := by
  have R := Ps.start h
  have ha : -9223372036854775808 ≤ st.at_ ∧ st.at_ ≤ 9223372036854775807 := by have := hin.1; have := hin.2; constructor <;> omega
  obtain ⟨a0, cd, ct⟩ := st
  have c0 : w.cell? ⟨q, 0, none⟩ = some (.string s) := R.cell 0 (by decide)
  have c1 : w.cell? ⟨q, 1, none⟩ = some (.int .i64 a0) := R.cell 1 (by decide)
  have c3 : w.cell? ⟨q, 3, none⟩ = some (.int .i64 cd) := R.cell 3 (by decide)
  have hl := cell_lt c1
  unfold rsgn
  by_cases h0 : cd = 0
  · subst h0
    have hu : Hid (∀ W, Calls Try.prog 96 #[.string s, .int .i64 a0, .int .i64 b] W fun e w' => e = .returned (.tuple #[.int .i64 (usR s a0 b).1, .int .i64 (usR s a0 b).2.1, .int .i64 (usR s a0 b).2.2]) ∧ Later W w') := fun W => gets_any s hs a0 b ha hb W
    have hz := us_zero s a0 b
    simp only []
    generalize usR s a0 b = X at *
    obtain ⟨x, to, e⟩ := X
    have hm : Hid (∀ W, Later w W → Calls Try.prog 95 #[.pointer (some ⟨q, 0, none⟩), .int .i64 x, .int .i64 to, .int .i64 e] W fun e' w' => e' = .returned (.int .i64 (rmoved ⟨a0, 0, ct⟩ (x, to, e)).1) ∧ Hid (Ps q W w' s (rmoved ⟨a0, 0, ct⟩ (x, to, e)).2)) := fun W hW => pread_any x to e hz W rfl (R.later hW).2.1
    replace R : Hid (Ps q w w s ⟨a0, 0, ct⟩) := R
    clear h hz hin ha hb
    go_enter Try.func85, Try.ntmps85
    go_wp2_with fail
    go_region_law (go_simp; go_at_call 96; refine (hu.out _).mono ?_; rintro e1 w2 ⟨rfl, l2⟩; replace l2 : Hid (Later w w2) := (Ld (Lz _)).trans l2)
    all_goals
      go_wp2_with (go_at_call 95; refine (hm.out _ l2.out).mono ?_; rintro e3 w3 ⟨rfl, R2⟩)
      go_ret
      exact ⟨rfl, (R.out.later l2.out).trans R2.out⟩
  · have h3 : (cd != 0) = true := by simpa using h0
    have h4 : Hid (∀ X, rmoved ⟨a0, cd, ct⟩ X = (0, ⟨a0, cd, ct⟩)) := fun X => if_pos h0
    rw [h4.out]
    replace R : Hid (Ps q w w s ⟨a0, cd, ct⟩) := R
    clear h hin ha hb
    go_enter Try.func85, Try.ntmps85
    go_wp2_with fail
    go_ret
    exact ⟨rfl, R⟩
end Go.Proofs.Ytkdfmgdadnlnlaa.gi
