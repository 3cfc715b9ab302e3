/- XU: KC, KD, KE, joined. -/
import Derived.Test.YtngciahmoenkiabXT
import Derived.Test.YtngciahmoenkiabXN
import Derived.Test.YtngciahmoenkiabXP
/- package instr's reader: what stands behind an Op that is none of blocks (plain). -/
set_option linter.unusedVariables false
set_option linter.unusedSimpArgs false
set_option maxRecDepth 100000
set_option maxHeartbeats 8000000
namespace Go.Proofs.Ytngciahmoenkiab.gi
open Go.RowKit
/-- an instruction's fields -/
def fF (op a b bi ty : Int) (L B E : Value) (j : Nat) : Value := [.int .i64 op, .int .i64 a, .int .i64 b, .int .i64 bi, .int .i64 ty, L, B, E].getD j undef
/-- a reader, and an instruction in a block of its own -/
def Po (q p : Nat) (w W : World) (s : ByteArray) (st : Rst) (F : Nat → Value) : Prop := Ps q w W s st ∧ W.rowIs p 69 8 F ∧ w.heap.size ≤ p
variable {q p : Nat} {w W W' : World} {s : ByteArray} {st st' : Rst} {F G : Nat → Value}
theorem Ps.other (h : Ps q w W s st) {p : Nat} (hp : w.heap.size ≤ p) (i : Nat) (u : Value) (hb : ∃ T F, W.rowIs p T 8 F) : Ps q w (W.setCell ⟨p, i, none⟩ u) s st := by
  obtain ⟨h1, h2, F0, h3⟩ := h
  have hq : q < w.heap.size := h3.lt
  obtain ⟨T, F, hr⟩ := hb
  have ht : Turned p W (W.setCell ⟨p, i, none⟩ u) := (Turned.refl hr).set hr i u
  refine ⟨?_, h2.of_block (ht.block (by omega) h2.lt), F0, h3⟩
  obtain ⟨cs, bs, n, e⟩ := h1
  have hL : Later (w.setRow q cs) W := ⟨bs, n, e⟩
  have hs : (w.setRow q cs).heap.size = w.heap.size := by simp
  obtain ⟨bs', n', e'⟩ := hL.turned hr (by omega) ht
  exact ⟨cs, bs', n', e'⟩
theorem Po.ps (h : Po q p w W s st F) (hr : Ps q W W' s st') : Po q p w W' s st' F := by
  have hq := h.1.qlt
  have hp := h.2.2
  exact ⟨h.1.trans hr, h.2.1.of_block (hr.block (by omega) h.2.1.lt), h.2.2⟩
theorem Po.set (h : Po q p w W s st F) (i : Nat) (u : Value) (hG : ∀ j, j < 8 → (if j = i then u else F j) = G j) : Po q p w (W.setCell ⟨p, i, none⟩ u) s st G := by
  refine ⟨h.1.other h.2.2 i u ⟨_, _, h.2.1⟩, ?_, h.2.2⟩
  obtain ⟨cs, e1, e2, e3⟩ := h.2.1.set i u
  exact ⟨cs, e1, e2, fun j hj => by rw [e3 j hj]; exact congrArg some (hG j hj)⟩
theorem Po.cell (h : Po q p w W s st F) (i : Nat) (hi : i < 8) : W.cell? ⟨p, i, none⟩ = some (F i) ∧ W.frozen? ⟨p, i, none⟩ = false ∧ p < W.heap.size := ⟨h.2.1.cell hi, h.2.1.frozen i, h.2.1.lt⟩
theorem Po.num (hs : s.size < 9223372036854775000) (hin : Rin s st) (h : Po q p w W s st F) : Calls Try.prog 80 #[.pointer (some ⟨q, 0, none⟩)] W fun e w' => e = .returned (.int .i64 (rnum s st).1) ∧ Hid (Po q p w w' s (rnum s st).2 F) :=
  (pnum_any hs hin W h.1.row).mono fun e w' hh => ⟨hh.1, h.ps hh.2.out⟩
theorem Po.zero (hs : s.size < 9223372036854775000) (hin : Rin s st) (h : Po q p w W s st F) : Calls Try.prog 81 #[.pointer (some ⟨q, 0, none⟩)] W fun e w' => e = .returned (.tuple #[]) ∧ Hid (Po q p w w' s (rnought s st) F) :=
  (pzero_any hs hin W h.1.row).mono fun e w' hh => ⟨hh.1, h.ps hh.2.out⟩
theorem Po.sgn (hs : s.size < 9223372036854775000) (hin : Rin s st) (b : Int) (hb : -9223372036854775808 ≤ b ∧ b ≤ 9223372036854775807) (h : Po q p w W s st F) : Calls Try.prog 84 #[.pointer (some ⟨q, 0, none⟩), .int .i64 b] W fun e w' => e = .returned (.int .i64 (rsgn s st b).1) ∧ Hid (Po q p w w' s (rsgn s st b).2 F) :=
  (psgn_any hs hin b hb W h.1.row).mono fun e w' hh => ⟨hh.1, h.ps hh.2.out⟩
theorem Po.bits (hs : s.size < 9223372036854775000) (hin : Rin s st) (k : Nat) (hk : k ≤ 8) (h : Po q p w W s st F) : Calls Try.prog 85 #[.pointer (some ⟨q, 0, none⟩), .int .i64 (k : Int)] W fun e w' => e = .returned (.int .i64 (rbits s k st).1) ∧ Hid (Po q p w w' s (rbits s k st).2 F) :=
  (pbits_any hs hin k hk W h.1.row).mono fun e w' hh => ⟨hh.1, h.ps hh.2.out⟩
theorem Po.labs (hs : s.size < 9223372036854775000) (hin : Rin s st) (h : Po q p w W s st F) : Calls Try.prog 82 #[.pointer (some ⟨q, 0, none⟩)] W fun e w' => ∃ A c, e = .returned (.slice A (rlab s ((rnum s st).1.toNat + 1) (rcap (rnum s st).1 (rnum s st).2)).1.length c) ∧ Hid (Lq (Zn W.heap.size w') w' A (rlab s ((rnum s st).1.toNat + 1) (rcap (rnum s st).1 (rnum s st).2)).1) ∧ Hid (Po q p w w' s (rlab s ((rnum s st).1.toNat + 1) (rcap (rnum s st).1 (rnum s st).2)).2 F) :=
  (plab_any hs hin W h.1.row).mono fun e w' hh => by
    obtain ⟨A, c, h1, h2, h3⟩ := hh
    exact ⟨A, c, h1, h2, h.ps h3.out⟩
/-- what reading behind an Op makes -/
def Pm (q p : Nat) (w : World) (s : ByteArray) (op : Int) (r : On × Rst) (e : Ending) (W' : World) : Prop := e = .returned (.tuple #[]) ∧ ∃ LA lc A c E ec, Hid (Po q p w W' s r.2 (fF op r.1.a r.1.b r.1.bi r.1.ty (.slice LA r.1.ls.length lc) (.slice A r.1.bo.len c) (.slice E r.1.el.len ec))) ∧ Hid (Lq (Zn w.heap.size W') W' LA r.1.ls ∧ Tr (Zn w.heap.size W') W' A r.1.bo ∧ Tr (Zn w.heap.size W') W' E r.1.el)
theorem Pm.mk0 {op : Int} {a b bi ty : Int} (h : Po q p w W s st' (fF op a b bi ty (.slice none 0 0) (.slice none 0 0) (.slice none 0 0))) : Pm q p w s op ({ a := a, b := b, bi := bi, ty := ty }, st') (.returned (.tuple #[])) W :=
  ⟨rfl, none, 0, none, 0, none, 0, h, lq_nil _ _ _, tr_nil _ _ _, tr_nil _ _ _⟩
theorem fset {op a b bi ty : Int} {L B E : Value} (i : Nat) (u : Value) (G : Nat → Value) (h0 : (if 0 = i then u else .int .i64 op) = G 0) (h1 : (if 1 = i then u else .int .i64 a) = G 1) (h2 : (if 2 = i then u else .int .i64 b) = G 2) (h3 : (if 3 = i then u else .int .i64 bi) = G 3) (h4 : (if 4 = i then u else .int .i64 ty) = G 4) (h5 : (if 5 = i then u else L) = G 5) (h6 : (if 6 = i then u else B) = G 6) (h7 : (if 7 = i then u else E) = G 7) :
    ∀ j, j < 8 → (if j = i then u else fF op a b bi ty L B E j) = G j := fun j hj => by
  match j, hj with
  | 0, _ => exact h0
  | 1, _ => exact h1
  | 2, _ => exact h2
  | 3, _ => exact h3
  | 4, _ => exact h4
  | 5, _ => exact h5
  | 6, _ => exact h6
  | 7, _ => exact h7
theorem Po.set1 {op a b bi ty x : Int} {L B E : Value} (h : Po q p w W s st (fF op a b bi ty L B E)) : Po q p w (W.setCell ⟨p, 1, none⟩ (.int .i64 x)) s st (fF op x b bi ty L B E) := h.set 1 _ (fset 1 _ _ rfl rfl rfl rfl rfl rfl rfl rfl)
theorem Po.set2 {op a b bi ty x : Int} {L B E : Value} (h : Po q p w W s st (fF op a b bi ty L B E)) : Po q p w (W.setCell ⟨p, 2, none⟩ (.int .i64 x)) s st (fF op a x bi ty L B E) := h.set 2 _ (fset 2 _ _ rfl rfl rfl rfl rfl rfl rfl rfl)
theorem Po.set3 {op a b bi ty x : Int} {L B E : Value} (h : Po q p w W s st (fF op a b bi ty L B E)) : Po q p w (W.setCell ⟨p, 3, none⟩ (.int .i64 x)) s st (fF op a b x ty L B E) := h.set 3 _ (fset 3 _ _ rfl rfl rfl rfl rfl rfl rfl rfl)
theorem Po.set4 {op a b bi ty x : Int} {L B E : Value} (h : Po q p w W s st (fF op a b bi ty L B E)) : Po q p w (W.setCell ⟨p, 4, none⟩ (.int .i64 x)) s st (fF op a b bi x L B E) := h.set 4 _ (fset 4 _ _ rfl rfl rfl rfl rfl rfl rfl rfl)
theorem Po.set5 {op a b bi ty : Int} {L B E x : Value} (h : Po q p w W s st (fF op a b bi ty L B E)) : Po q p w (W.setCell ⟨p, 5, none⟩ x) s st (fF op a b bi ty x B E) := h.set 5 _ (fset 5 _ _ rfl rfl rfl rfl rfl rfl rfl rfl)
theorem Po.set6 {op a b bi ty : Int} {L B E x : Value} (h : Po q p w W s st (fF op a b bi ty L B E)) : Po q p w (W.setCell ⟨p, 6, none⟩ x) s st (fF op a b bi ty L x E) := h.set 6 _ (fset 6 _ _ rfl rfl rfl rfl rfl rfl rfl rfl)
theorem Po.set7 {op a b bi ty : Int} {L B E x : Value} (h : Po q p w W s st (fF op a b bi ty L B E)) : Po q p w (W.setCell ⟨p, 7, none⟩ x) s st (fF op a b bi ty L B x) := h.set 7 _ (fset 7 _ _ rfl rfl rfl rfl rfl rfl rfl rfl)
abbrev f0 (op : Int) : Nat → Value := fF op 0 0 0 0 (.slice none 0 0) (.slice none 0 0) (.slice none 0 0)
theorem pl_1 (op : Int) (h : Po q p w W s st (f0 op)) : Calls Try.prog 77 #[.pointer (some ⟨q, 0, none⟩), .pointer (some ⟨p, 0, none⟩), .int .i64 1] W (Pm q p w s op ({}, st)) := by
  have hfin : Hid (Pm q p w s op ({}, st) (.returned (.tuple #[])) W) := Pm.mk0 h
  clear h
  go_enter Try.func77, Try.ntmps77
  go_wp2_with fail
  go_end0
  exact hfin.out
theorem pl_4 (hs : s.size < 9223372036854775000) (hin : Rin s st) (op : Int) (h : Po q p w W s st (f0 op)) : Calls Try.prog 77 #[.pointer (some ⟨q, 0, none⟩), .pointer (some ⟨p, 0, none⟩), .int .i64 4] W (Pm q p w s op ({ a := (rnum s st).1 }, (rnum s st).2)) := by
  have hn : Hid (Calls Try.prog 80 #[.pointer (some ⟨q, 0, none⟩)] W fun e w' => e = .returned (.int .i64 (rnum s st).1) ∧ Hid (Po q p w w' s (rnum s st).2 (f0 op))) := h.num hs hin
  clear h
  generalize rnum s st = K at *
  obtain ⟨x, st1⟩ := K
  simp only [] at hn ⊢
  go_enter Try.func77, Try.ntmps77
  go_wp2_with (go_at_call 80; refine hn.out.mono ?_; rintro e w1 ⟨rfl, P1⟩; obtain ⟨z1, z2, z3⟩ := P1.out.cell 1 (by decide))
  go_end0
  exact Pm.mk0 P1.out.set1
theorem pl_8 (hs : s.size < 9223372036854775000) (hin : Rin s st) (op : Int) (h : Po q p w W s st (f0 op)) : Calls Try.prog 77 #[.pointer (some ⟨q, 0, none⟩), .pointer (some ⟨p, 0, none⟩), .int .i64 8] W (Pm q p w s op ({}, rnought s st)) := by
  have hn : Hid (Calls Try.prog 81 #[.pointer (some ⟨q, 0, none⟩)] W fun e w' => e = .returned (.tuple #[]) ∧ Hid (Po q p w w' s (rnought s st) (f0 op))) := h.zero hs hin
  clear h
  generalize rnought s st = st1 at *
  go_enter Try.func77, Try.ntmps77
  go_wp2_with (go_at_call 81; refine hn.out.mono ?_; rintro e w1 ⟨rfl, P1⟩)
  go_end0
  exact Pm.mk0 P1.out
theorem pl_6 (hs : s.size < 9223372036854775000) (hin : Rin s st) (op : Int) (h : Po q p w W s st (f0 op)) : Calls Try.prog 77 #[.pointer (some ⟨q, 0, none⟩), .pointer (some ⟨p, 0, none⟩), .int .i64 6] W (Pm q p w s op ({ a := (rnum s st).1 }, rnought s (rnum s st).2)) := by
  have hn : Hid (Calls Try.prog 80 #[.pointer (some ⟨q, 0, none⟩)] W fun e w' => e = .returned (.int .i64 (rnum s st).1) ∧ Hid (Po q p w w' s (rnum s st).2 (f0 op))) := h.num hs hin
  have hin1 := rnum_in (s := s) (st := st) hin
  have hz : Hid (∀ W1, Po q p w W1 s (rnum s st).2 (fF op (rnum s st).1 0 0 0 (.slice none 0 0) (.slice none 0 0) (.slice none 0 0)) → Calls Try.prog 81 #[.pointer (some ⟨q, 0, none⟩)] W1 fun e w' => e = .returned (.tuple #[]) ∧ Hid (Po q p w w' s (rnought s (rnum s st).2) (fF op (rnum s st).1 0 0 0 (.slice none 0 0) (.slice none 0 0) (.slice none 0 0)))) := fun W1 P1 => P1.zero hs hin1
  clear h hin1
  generalize rnought s (rnum s st).2 = st2 at *
  generalize rnum s st = K at *
  obtain ⟨x, st1⟩ := K
  simp only [] at hn hz ⊢
  go_enter Try.func77, Try.ntmps77
  go_wp2_with (first | (go_at_call 80; refine hn.out.mono ?_; rintro e w1 ⟨rfl, P1⟩; obtain ⟨z1, z2, z3⟩ := P1.out.cell 1 (by decide)) | (go_at_call 81; refine (hz.out _ P1.out.set1).mono ?_; rintro e w2 ⟨rfl, P2⟩))
  go_end0
  exact Pm.mk0 P2.out
theorem pl_7 (hs : s.size < 9223372036854775000) (hin : Rin s st) (op : Int) (h : Po q p w W s st (f0 op)) : Calls Try.prog 77 #[.pointer (some ⟨q, 0, none⟩), .pointer (some ⟨p, 0, none⟩), .int .i64 7] W (Pm q p w s op ({ a := (rnum s st).1, b := (rnum s (rnum s st).2).1 }, (rnum s (rnum s st).2).2)) := by
  have hn : Hid (Calls Try.prog 80 #[.pointer (some ⟨q, 0, none⟩)] W fun e w' => e = .returned (.int .i64 (rnum s st).1) ∧ Hid (Po q p w w' s (rnum s st).2 (f0 op))) := h.num hs hin
  have hin1 := rnum_in (s := s) (st := st) hin
  have hz : Hid (∀ W1, Po q p w W1 s (rnum s st).2 (fF op (rnum s st).1 0 0 0 (.slice none 0 0) (.slice none 0 0) (.slice none 0 0)) → Calls Try.prog 80 #[.pointer (some ⟨q, 0, none⟩)] W1 fun e w' => e = .returned (.int .i64 (rnum s (rnum s st).2).1) ∧ Hid (Po q p w w' s (rnum s (rnum s st).2).2 (fF op (rnum s st).1 0 0 0 (.slice none 0 0) (.slice none 0 0) (.slice none 0 0)))) := fun W1 P1 => P1.num hs hin1
  clear h hin1
  generalize rnum s (rnum s st).2 = K2 at *
  generalize rnum s st = K at *
  obtain ⟨x, st1⟩ := K
  obtain ⟨y, st2⟩ := K2
  simp only [] at hn hz ⊢
  go_enter Try.func77, Try.ntmps77
  go_wp2_with (first | (go_at_call 80; refine hn.out.mono ?_; clear hn; rintro e w1 ⟨rfl, P1⟩; obtain ⟨z1, z2, z3⟩ := P1.out.cell 1 (by decide)) | (go_at_call 80; refine (hz.out _ P1.out.set1).mono ?_; clear hz; rintro e w2 ⟨rfl, P2⟩; obtain ⟨y1, y2, y3⟩ := P2.out.cell 2 (by decide)))
  go_end0
  exact Pm.mk0 P2.out.set2
theorem pl_5 (hs : s.size < 9223372036854775000) (hin : Rin s st) (op : Int) (h : Po q p w W s st (f0 op)) : Calls Try.prog 77 #[.pointer (some ⟨q, 0, none⟩), .pointer (some ⟨p, 0, none⟩), .int .i64 5] W (Pm q p w s op ({ ls := (rlab s ((rnum s st).1.toNat + 1) (rcap (rnum s st).1 (rnum s st).2)).1 }, (rlab s ((rnum s st).1.toNat + 1) (rcap (rnum s st).1 (rnum s st).2)).2)) := by
  have hws := h.1.size
  have hpl := h.2.1.lt
  have hn : Hid (Calls Try.prog 82 #[.pointer (some ⟨q, 0, none⟩)] W fun e w' => ∃ A c, e = .returned (.slice A (rlab s ((rnum s st).1.toNat + 1) (rcap (rnum s st).1 (rnum s st).2)).1.length c) ∧ Hid (Lq (Zn W.heap.size w') w' A (rlab s ((rnum s st).1.toNat + 1) (rcap (rnum s st).1 (rnum s st).2)).1) ∧ Hid (Po q p w w' s (rlab s ((rnum s st).1.toNat + 1) (rcap (rnum s st).1 (rnum s st).2)).2 (f0 op))) := h.labs hs hin
  clear h
  generalize rlab s ((rnum s st).1.toNat + 1) (rcap (rnum s st).1 (rnum s st).2) = K at *
  obtain ⟨x, st1⟩ := K
  simp only [] at hn ⊢
  go_enter Try.func77, Try.ntmps77
  go_wp2_with (go_at_call 82; refine hn.out.mono ?_; rintro e w1 ⟨A, c, rfl, hL, P1⟩; obtain ⟨z1, z2, z3⟩ := P1.out.cell 5 (by decide))
  go_end0
  refine ⟨rfl, A, c, none, 0, none, 0, P1.out.set5, ?_, tr_nil _ _ _, tr_nil _ _ _⟩
  have ht : Turned p w1 (w1.setCell ⟨p, 5, none⟩ (.slice A x.length c)) := (Turned.refl P1.out.2.1).set P1.out.2.1 5 _
  exact hL.out.move (zn_mv hws fun k hk hl => ht.block (by omega) hl)
theorem pl_9 (hs : s.size < 9223372036854775000) (hin : Rin s st) (op : Int) (h : Po q p w W s st (f0 op)) : Calls Try.prog 77 #[.pointer (some ⟨q, 0, none⟩), .pointer (some ⟨p, 0, none⟩), .int .i64 9] W (Pm q p w s op ({ bi := (rsgn s st 32).1 % 4294967296 }, (rsgn s st 32).2)) := by
  have hn : Hid (Calls Try.prog 84 #[.pointer (some ⟨q, 0, none⟩), .int .i64 32] W fun e w' => e = .returned (.int .i64 (rsgn s st 32).1) ∧ Hid (Po q p w w' s (rsgn s st 32).2 (f0 op))) := h.sgn hs hin 32 (by decide)
  have hl : Hid (∀ W : World, Calls Try.prog 83 #[.int .i64 (rsgn s st 32).1] W fun e w' => e = .returned (.int .i64 ((rsgn s st 32).1 % 4294967296)) ∧ w' = W) := fun W => low_any _ W
  clear h
  generalize rsgn s st 32 = K at *
  obtain ⟨x, st1⟩ := K
  simp only [] at hn hl ⊢
  go_enter Try.func77, Try.ntmps77
  go_wp2_with (first | (go_at_call 84; refine hn.out.mono ?_; rintro e w1 ⟨rfl, P1⟩; obtain ⟨z1, z2, z3⟩ := P1.out.cell 3 (by decide)) | (go_at_call 83; refine (hl.out _).mono ?_; rintro e w2 ⟨rfl, rfl⟩))
  go_end0
  exact Pm.mk0 P1.out.set3
theorem pl_10 (hs : s.size < 9223372036854775000) (hin : Rin s st) (op : Int) (h : Po q p w W s st (f0 op)) : Calls Try.prog 77 #[.pointer (some ⟨q, 0, none⟩), .pointer (some ⟨p, 0, none⟩), .int .i64 10] W (Pm q p w s op ({ bi := (rsgn s st 64).1 }, (rsgn s st 64).2)) := by
  have hn : Hid (Calls Try.prog 84 #[.pointer (some ⟨q, 0, none⟩), .int .i64 64] W fun e w' => e = .returned (.int .i64 (rsgn s st 64).1) ∧ Hid (Po q p w w' s (rsgn s st 64).2 (f0 op))) := h.sgn hs hin 64 (by decide)
  clear h
  generalize rsgn s st 64 = K at *
  obtain ⟨x, st1⟩ := K
  simp only [] at hn ⊢
  go_enter Try.func77, Try.ntmps77
  go_wp2_with (first | (go_at_call 84; refine hn.out.mono ?_; rintro e w1 ⟨rfl, P1⟩; obtain ⟨z1, z2, z3⟩ := P1.out.cell 3 (by decide)))
  go_end0
  exact Pm.mk0 P1.out.set3
theorem pl_11 (hs : s.size < 9223372036854775000) (hin : Rin s st) (op : Int) (h : Po q p w W s st (f0 op)) : Calls Try.prog 77 #[.pointer (some ⟨q, 0, none⟩), .pointer (some ⟨p, 0, none⟩), .int .i64 11] W (Pm q p w s op ({ bi := (rbits s 4 st).1 }, (rbits s 4 st).2)) := by
  have hn : Hid (Calls Try.prog 85 #[.pointer (some ⟨q, 0, none⟩), .int .i64 4] W fun e w' => e = .returned (.int .i64 (rbits s 4 st).1) ∧ Hid (Po q p w w' s (rbits s 4 st).2 (f0 op))) := h.bits hs hin 4 (by decide)
  clear h
  generalize rbits s 4 st = K at *
  obtain ⟨x, st1⟩ := K
  simp only [] at hn ⊢
  go_enter Try.func77, Try.ntmps77
  go_wp2_with (first | (go_at_call 85; refine hn.out.mono ?_; rintro e w1 ⟨rfl, P1⟩; obtain ⟨z1, z2, z3⟩ := P1.out.cell 3 (by decide)))
  go_end0
  exact Pm.mk0 P1.out.set3
theorem pl_12 (hs : s.size < 9223372036854775000) (hin : Rin s st) (op : Int) (h : Po q p w W s st (f0 op)) : Calls Try.prog 77 #[.pointer (some ⟨q, 0, none⟩), .pointer (some ⟨p, 0, none⟩), .int .i64 12] W (Pm q p w s op ({ bi := (rbits s 8 st).1 }, (rbits s 8 st).2)) := by
  have hn : Hid (Calls Try.prog 85 #[.pointer (some ⟨q, 0, none⟩), .int .i64 8] W fun e w' => e = .returned (.int .i64 (rbits s 8 st).1) ∧ Hid (Po q p w w' s (rbits s 8 st).2 (f0 op))) := h.bits hs hin 8 (by decide)
  clear h
  generalize rbits s 8 st = K at *
  obtain ⟨x, st1⟩ := K
  simp only [] at hn ⊢
  go_enter Try.func77, Try.ntmps77
  go_wp2_with (first | (go_at_call 85; refine hn.out.mono ?_; rintro e w1 ⟨rfl, P1⟩; obtain ⟨z1, z2, z3⟩ := P1.out.cell 3 (by decide)))
  go_end0
  exact Pm.mk0 P1.out.set3
/-- plain: any Op that is none of blocks -/
theorem pplain (hs : s.size < 9223372036854775000) (hin : Rin s st) (L : Int → Bool → Rst → Fs × Bool × Rst) (op deep : Int) (h1 : ¬ lay op = 0) (h2 : ¬ lay op = 2) (h3 : ¬ lay op = 3) (h : Po q p w W s st (f0 op)) : Calls Try.prog 77 #[.pointer (some ⟨q, 0, none⟩), .pointer (some ⟨p, 0, none⟩), .int .i64 (lay op)] W (Pm q p w s op (ro L s op deep st)) := by
  rcases lay_inv op with ⟨hl, hf⟩ | ⟨hl, hf⟩ | ⟨hl, hf⟩ | ⟨hl, hf⟩ | ⟨hl, hf⟩ | ⟨hl, hf⟩ | ⟨hl, hf⟩ | ⟨hl, hf⟩ | ⟨hl, hf⟩ | ⟨hl, hf, ho⟩ | ⟨hl, hf, ho⟩ | ⟨hl, hf, ho⟩ | ⟨hl, hf, ho⟩
  · exact absurd hl h1
  · rw [hl, show ro L s op deep st = ({}, st) by simp [ro, hf]]; exact pl_1 op h
  · exact absurd hl h2
  · exact absurd hl h3
  · rw [hl, show ro L s op deep st = ({ a := (rnum s st).1 }, (rnum s st).2) by simp [ro, hf]]; exact pl_4 hs hin op h
  · rw [hl, show ro L s op deep st = ({ ls := (rlab s ((rnum s st).1.toNat + 1) (rcap (rnum s st).1 (rnum s st).2)).1 }, (rlab s ((rnum s st).1.toNat + 1) (rcap (rnum s st).1 (rnum s st).2)).2) by simp [ro, hf]]; exact pl_5 hs hin op h
  · rw [hl, show ro L s op deep st = ({ a := (rnum s st).1 }, rnought s (rnum s st).2) by simp [ro, hf]]; exact pl_6 hs hin op h
  · rw [hl, show ro L s op deep st = ({ a := (rnum s st).1, b := (rnum s (rnum s st).2).1 }, (rnum s (rnum s st).2).2) by simp [ro, hf]]; exact pl_7 hs hin op h
  · rw [hl, show ro L s op deep st = ({}, rnought s st) by simp [ro, hf]]; exact pl_8 hs hin op h
  · have hr : rlit s op st = ((rsgn s st 32).1 % 4294967296, (rsgn s st 32).2) := by simp [rlit, ho]
    rw [hl, show ro L s op deep st = ({ bi := (rsgn s st 32).1 % 4294967296 }, (rsgn s st 32).2) by simp [ro, hf, hr]]; exact pl_9 hs hin op h
  · have hr : rlit s op st = rsgn s st 64 := by simp [rlit, ho]
    rw [hl, show ro L s op deep st = ({ bi := (rsgn s st 64).1 }, (rsgn s st 64).2) by simp [ro, hf, hr]]; exact pl_10 hs hin op h
  · have hr : rlit s op st = rbits s 4 st := by simp [rlit, ho]
    rw [hl, show ro L s op deep st = ({ bi := (rbits s 4 st).1 }, (rbits s 4 st).2) by simp [ro, hf, hr]]; exact pl_11 hs hin op h
  · have hr : rlit s op st = rbits s 8 st := by simp [rlit, ho]
    rw [hl, show ro L s op deep st = ({ bi := (rbits s 8 st).1 }, (rbits s 8 st).2) by simp [ro, hf, hr]]; exact pl_12 hs hin op h
end Go.Proofs.Ytngciahmoenkiab.gi


/- package instr's reader: blocks (block), one instruction (instr). -/
set_option linter.unusedVariables false
set_option linter.unusedSimpArgs false
set_option maxRecDepth 100000
set_option maxHeartbeats 8000000
namespace Go.Proofs.Ytngciahmoenkiab.gi
open Go.RowKit
variable {q p : Nat} {w W W' : World} {s : ByteArray} {st st' : Rst} {F G : Nat → Value}
/-- how a list that was read ends -/
def PLp (q : Nat) (w : World) (s : ByteArray) (R : Fs × Bool × Rst) (e : Ending) (w' : World) : Prop :=
  (R.2.2.code = 0 ∧ ∃ A c, e = .returned (.tuple #[.slice A R.1.len c, .int .i64 (if R.2.1 = true then 5 else 11)]) ∧ Hid (Tr (Zn w.heap.size w') w' A R.1) ∧ Hid (Ps q w w' s R.2.2)) ∨
  (¬ R.2.2.code = 0 ∧ e = .returned (.tuple #[.slice none 0 0, .int .i64 0]) ∧ ∃ st' : Rst, Hid (st'.code = R.2.2.code) ∧ Hid (Ps q w w' s st'))
/-- what reading a list makes, if there are bytes enough -/
def PLR (s : ByteArray) (k : Nat) (deep : Int) : Prop := ∀ (other : Bool) (st : Rst), Rok s st → st.code = 0 → (s.size : Int) - st.at_ < k → ∀ (w : World) (q : Nat), w.rowIs q 118 4 (pF s st) →
  Calls Try.prog 67 #[.pointer (some ⟨q, 0, none⟩), .int .i64 deep, .bool other] w (PLp q w s (rl s k deep other st))
theorem rl_tc : ∀ (n : Nat) (d : Int) (o : Bool) (st : Rst), (rl s n d o st).2.1 = true → (rl s n d o st).2.2.code = 0
  | 0, d, o, st, h => by simp [rl] at h
  | n + 1, d, o, st, h => by
    unfold rl at h ⊢
    split
    · rename_i h0
      rw [if_pos h0] at h
      split
      · rename_i h1; rw [if_pos h1] at h; cases h
      · rename_i h1
        rw [if_neg h1] at h
        split
        · show (rbyte s st).2.code = 0
          exact Classical.not_not.1 (fun hc => h1 (Or.inl hc))
        · rename_i h2
          rw [if_neg h2] at h
          split
          · rename_i h3; rw [if_pos h3] at h; cases h
          · rename_i h3
            rw [if_neg h3] at h
            split
            · rename_i h4; rw [if_pos h4] at h; cases h
            · rename_i h4
              rw [if_neg h4] at h
              exact rl_tc n d o _ h
    · rename_i h0; rw [if_neg h0] at h; cases h
/-- how a block that was read ends -/
def Pb (q p : Nat) (w : World) (s : ByteArray) (op : Int) (r : On × Rst) (e : Ending) (W' : World) : Prop :=
  (r.2.code = 0 ∧ Pm q p w s op r e W') ∨ (¬ r.2.code = 0 ∧ e = .returned (.tuple #[]) ∧ ∃ (st' : Rst) (a b bi ty : Int) (LA : Option Addr) (nl lc : Nat) (B : Option Addr) (nb bc : Nat) (E : Option Addr) (ne ec : Nat), st'.code = r.2.code ∧ Hid (Po q p w W' s st' (fF op a b bi ty (.slice LA nl lc) (.slice B nb bc) (.slice E ne ec))))
theorem Po.bad {op a b bi ty : Int} {LA B E : Option Addr} {nl lc nb bc ne ec : Nat} {r : On × Rst} (h : Po q p w W s st' (fF op a b bi ty (.slice LA nl lc) (.slice B nb bc) (.slice E ne ec))) (hc : st'.code = r.2.code) (hn : ¬ r.2.code = 0) : Pb q p w s op r (.returned (.tuple #[])) W := Or.inr ⟨hn, rfl, st', _, _, _, _, _, _, _, _, _, _, _, _, _, hc, h⟩
theorem Po.lists (hp : w.heap.size ≤ W.heap.size) {R : Fs × Bool × Rst} {e : Ending} (h : Po q p w W s st F) (hh : PLp q W s R e W') :
    (R.2.2.code = 0 ∧ ∃ A c, e = .returned (.tuple #[.slice A R.1.len c, .int .i64 (if R.2.1 = true then 5 else 11)]) ∧ Hid (Tr (Zn W.heap.size W') W' A R.1) ∧ Hid (Po q p w W' s R.2.2 F)) ∨ (¬ R.2.2.code = 0 ∧ e = .returned (.tuple #[.slice none 0 0, .int .i64 0]) ∧ ∃ st' : Rst, Hid (st'.code = R.2.2.code) ∧ Hid (Po q p w W' s st' F)) := by
  rcases hh with ⟨h1, A, c, h2, h3, h4⟩ | ⟨h1, h2, st', h3, h4⟩
  · exact Or.inl ⟨h1, A, c, h2, h3, h.ps h4.out⟩
  · exact Or.inr ⟨h1, h2, st', h3, h.ps h4.out⟩
theorem Po.typ (hs : s.size < 9223372036854775000) (hin : Rin s st) (h : Po q p w W s st F) : Calls Try.prog 79 #[.pointer (some ⟨q, 0, none⟩)] W fun e w' => e = .returned (.int .i64 (rbyte s st).1) ∧ Hid (Po q p w w' s (rtyp s st) F) :=
  (ptyp_any hs hin W h.1.row).mono fun e w' hh => ⟨hh.1, h.ps hh.2.out⟩
theorem tr_set8 {B B' : Nat} {A : Option Addr} {f : Fs} {T : TypeId} {n : Nat} (h : Tr (Zn B W) W A f) (hr : W.rowIs p T n F) (i : Nat) (u : Value) (hB : B' ≤ B) (hp : p < B) : Tr (Zn B' (W.setCell ⟨p, i, none⟩ u)) (W.setCell ⟨p, i, none⟩ u) A f := by
  have ht : Turned p W (W.setCell ⟨p, i, none⟩ u) := (Turned.refl hr).set hr i u
  exact h.move (zn_mv hB fun k hk hl => ht.block (by omega) hl)
theorem pblock (hs : s.size < 9223372036854775000) (k : Nat) (op deep : Int) (hd0 : 0 ≤ deep) (hd1 : ¬ 32 ≤ deep) (hL : PLR s k (deep + 1)) (hok : Rok s st) (hc : st.code = 0) (hn : (s.size : Int) - st.at_ < k) (b3 : Bool) (hl : (lay op = 2 ∧ b3 = false) ∨ (lay op = 3 ∧ b3 = true)) (h : Po q p w W s st (f0 op)) :
    Calls Try.prog 76 #[.pointer (some ⟨q, 0, none⟩), .pointer (some ⟨p, 0, none⟩), .int .i64 (lay op), .int .i64 deep] W (Pb q p w s op (ro (rl s k) s op deep st)) := by
  have hin := hok.1
  have hop4 : decide (op = 4) = b3 := by
    rcases hl with ⟨h1, rfl⟩ | ⟨h1, rfl⟩
    · exact decide_eq_false (fun e => by rw [e] at h1; exact absurd h1 (by decide))
    · rcases lay_inv op with ⟨hl, hf⟩ | ⟨hl, hf⟩ | ⟨hl, hf⟩ | ⟨hl, hf⟩ | ⟨hl, hf⟩ | ⟨hl, hf⟩ | ⟨hl, hf⟩ | ⟨hl, hf⟩ | ⟨hl, hf⟩ | ⟨hl, hf, ho⟩ | ⟨hl, hf, ho⟩ | ⟨hl, hf, ho⟩ | ⟨hl, hf, ho⟩
      all_goals first | (rw [h1] at hl; exact absurd hl (by decide)) | exact decide_eq_true (fo_2 op hf)
  have hfo : fo op = 1 ∨ fo op = 2 := by
    rcases lay_inv op with ⟨hl', hf⟩ | ⟨hl', hf⟩ | ⟨hl', hf⟩ | ⟨hl', hf⟩ | ⟨hl', hf⟩ | ⟨hl', hf⟩ | ⟨hl', hf⟩ | ⟨hl', hf⟩ | ⟨hl', hf⟩ | ⟨hl', hf, ho⟩ | ⟨hl', hf, ho⟩ | ⟨hl', hf, ho⟩ | ⟨hl', hf, ho⟩
    all_goals first | exact Or.inl hf | exact Or.inr hf | (exfalso; rcases hl with ⟨x, _⟩ | ⟨x, _⟩ <;> omega)
  have hro : ro (rl s k) s op deep st = if (rl s k (deep + 1) b3 (rtyp s st)).2.1 = true then
      ({ ty := (rbyte s st).1, bo := (rl s k (deep + 1) b3 (rtyp s st)).1, el := (rl s k (deep + 1) false (rl s k (deep + 1) b3 (rtyp s st)).2.2).1 }, (rl s k (deep + 1) false (rl s k (deep + 1) b3 (rtyp s st)).2.2).2.2)
    else ({ ty := (rbyte s st).1, bo := (rl s k (deep + 1) b3 (rtyp s st)).1 }, (rl s k (deep + 1) b3 (rtyp s st)).2.2) := by
    unfold ro
    rw [if_pos hfo, if_neg (by omega), hop4]
  rw [hro]
  clear hro hfo hop4
  have htyp : Hid (Calls Try.prog 79 #[.pointer (some ⟨q, 0, none⟩)] W fun e w' => e = .returned (.int .i64 (rbyte s st).1) ∧ Hid (Po q p w w' s (rtyp s st) (f0 op))) := h.typ hs hin
  have hge := rtyp_ge (s := s) (st := st) hin
  have hct := rtyp_ct (s := s) st
  have hok1 : Rok s (rtyp s st) := ⟨hge.1, by rw [hct]; exact hok.2.1, fun _ => by rw [hct]; exact hok.2.2 hc⟩
  have hn1 : (s.size : Int) - (rtyp s st).at_ < k := by have := hge.2; omega
  have hws := h.1.size
  have hpl := h.2.1.lt
  have hwp := h.2.2
  generalize (rbyte s st).1 = t at *
  generalize rtyp s st = st1 at *
  clear hge hct
  obtain ⟨a1, cd1, ct1⟩ := st1
  have hlv : lay op = 2 ∨ lay op = 3 := hl.imp And.left And.left
  have hb3 : (lay op == 3) = b3 := by rcases hl with ⟨h1, rfl⟩ | ⟨h1, rfl⟩ <;> rw [h1] <;> rfl
  by_cases h1 : cd1 = 0
  case neg =>
    rw [rl_stop k (deep + 1) b3 h1]
    simp only [Bool.false_eq_true, if_false]
    have h11 : (cd1 != 0) = true := by simpa using h1
    clear hL hok hok1 hn hn1 hl
    generalize lay op = ly at *
    go_enter Try.func76, Try.ntmps76
    go_wp2_with (go_at_call 79; refine htyp.out.mono ?_; rintro e w1 ⟨rfl, P1⟩; obtain ⟨z1, z2, z3⟩ := P1.out.cell 4 (by decide); have P2 : Hid (Po q p w (w1.setCell ⟨p, 4, none⟩ (.int .i64 t)) s ⟨a1, cd1, ct1⟩ (fF op 0 0 0 t (.slice none 0 0) (.slice none 0 0) (.slice none 0 0))) := P1.out.set4; obtain ⟨y1, y2⟩ := P2.out.1.code)
    refine bodyPost_ret (results_none rfl _ _ _) rfl ?_
    exact P2.out.bad rfl h1
  subst h1
  have hcl : Hid (∀ W1, Po q p w W1 s ⟨a1, 0, ct1⟩ (fF op 0 0 0 t (.slice none 0 0) (.slice none 0 0) (.slice none 0 0)) → Calls Try.prog 67 #[.pointer (some ⟨q, 0, none⟩), .int .i64 (deep + 1), .bool b3] W1 (PLp q W1 s (rl s k (deep + 1) b3 ⟨a1, 0, ct1⟩))) := fun W1 P1 => hL b3 _ hok1 rfl hn1 W1 q P1.1.row
  have hg2 := (rl_ge (s := s) k (deep + 1) b3 ⟨a1, 0, ct1⟩ hok1.1).1
  have hc2 := rl_ct (s := s) k (deep + 1) b3 ⟨a1, 0, ct1⟩
  have htc := rl_tc (s := s) k (deep + 1) b3 ⟨a1, 0, ct1⟩
  generalize rl s k (deep + 1) b3 ⟨a1, 0, ct1⟩ = R1 at *
  obtain ⟨bo, more, st2⟩ := R1
  simp only at hcl hg2 hc2 htc ⊢
  have hcl2 : Hid (st2.code = 0 → ∀ W1 F1, Po q p w W1 s st2 F1 → Calls Try.prog 67 #[.pointer (some ⟨q, 0, none⟩), .int .i64 (deep + 1), .bool false] W1 (PLp q W1 s (rl s k (deep + 1) false st2))) := fun hz W1 F1 P1 => hL false _ ⟨hg2.1, by have := hc2.1; have := hok1.2.1; simp only at *; omega, fun _ => hc2.2 hz (hok1.2.2 rfl)⟩ hz (by have := hg2.2; simp only at *; omega) W1 q P1.1.row
  clear hL hok hn hn1 hg2 hc2 hok1
  by_cases h2 : st2.code = 0
  case neg =>
    have hm : more = false := by
      cases more with
      | false => rfl
      | true => exact absurd (htc rfl) h2
    subst hm
    simp only [Bool.false_eq_true, if_false]
    clear hcl2 htc hl
    generalize lay op = ly at *
    go_enter Try.func76, Try.ntmps76
    go_wp2_with (first | (go_at_call 79; refine htyp.out.mono ?_; rintro e w1 ⟨rfl, P1⟩; obtain ⟨z1, z2, z3⟩ := P1.out.cell 4 (by decide); have P2 : Hid (Po q p w (w1.setCell ⟨p, 4, none⟩ (.int .i64 t)) s ⟨a1, 0, ct1⟩ (fF op 0 0 0 t (.slice none 0 0) (.slice none 0 0) (.slice none 0 0))) := P1.out.set4; obtain ⟨y1, y2⟩ := P2.out.1.code) | (go_at_call 67; refine (hcl.out _ P2.out).mono ?_; intro e w2 hh; rcases P2.out.lists P2.out.1.size hh with ⟨hx, _⟩ | ⟨_, rfl, st3, hc3, P3⟩; exact absurd hx h2; obtain ⟨x1, x2, x3⟩ := P3.out.cell 6 (by decide); clear hh))
    go_end0
    exact P3.out.set6.bad hc3.out h2
  replace hcl2 : Hid (∀ W1 F1, Po q p w W1 s st2 F1 → Calls Try.prog 67 #[.pointer (some ⟨q, 0, none⟩), .int .i64 (deep + 1), .bool false] W1 (PLp q W1 s (rl s k (deep + 1) false st2))) := hcl2.out h2
  clear htc hl
  generalize lay op = ly at *
  cases more with
  | false =>
    simp only [Bool.false_eq_true, if_false]
    go_enter Try.func76, Try.ntmps76
    go_wp2_with (first | (go_at_call 79; refine htyp.out.mono ?_; rintro e w1 ⟨rfl, P1⟩; obtain ⟨z1, z2, z3⟩ := P1.out.cell 4 (by decide); have P2 : Hid (Po q p w (w1.setCell ⟨p, 4, none⟩ (.int .i64 t)) s ⟨a1, 0, ct1⟩ (fF op 0 0 0 t (.slice none 0 0) (.slice none 0 0) (.slice none 0 0))) := P1.out.set4; obtain ⟨y1, y2⟩ := P2.out.1.code) | (go_at_call 67; refine (hcl.out _ P2.out).mono ?_; intro e w2 hh; rcases P2.out.lists P2.out.1.size hh with ⟨_, A, c, rfl, hT, P3⟩ | ⟨hx, _⟩; rotate_left; exact absurd h2 hx; obtain ⟨x1, x2, x3⟩ := P3.out.cell 6 (by decide); clear hh))
    go_end0
    refine Or.inl ⟨h2, rfl, none, 0, A, c, none, 0, P3.out.set6, lq_nil _ _ _, ?_, tr_nil _ _ _⟩
    have hz := P2.out.1.size
    have hy := P2.out.2.1.lt
    exact tr_set8 hT.out P3.out.2.1 6 _ hz (by omega)
  | true =>
    simp only [if_true]
    generalize rl s k (deep + 1) false st2 = R2 at *
    obtain ⟨el, more2, st4⟩ := R2
    simp only at hcl2 ⊢
    by_cases h4 : st4.code = 0
    · go_enter Try.func76, Try.ntmps76
      go_wp2_with (first | (go_at_call 79; refine htyp.out.mono ?_; rintro e w1 ⟨rfl, P1⟩; obtain ⟨z1, z2, z3⟩ := P1.out.cell 4 (by decide); have P2 : Hid (Po q p w (w1.setCell ⟨p, 4, none⟩ (.int .i64 t)) s ⟨a1, 0, ct1⟩ (fF op 0 0 0 t (.slice none 0 0) (.slice none 0 0) (.slice none 0 0))) := P1.out.set4; obtain ⟨y1, y2⟩ := P2.out.1.code) | (go_at_call 67; refine (hcl.out _ P2.out).mono ?_; intro e w2 hh; clear hcl; rcases P2.out.lists P2.out.1.size hh with ⟨_, A, c, rfl, hT, P3⟩ | ⟨hx, _⟩; rotate_left; exact absurd h2 hx; obtain ⟨x1, x2, x3⟩ := P3.out.cell 6 (by decide); clear hh; have P4 : Hid (Po q p w (w2.setCell ⟨p, 6, none⟩ (.slice A bo.len c)) s st2 (fF op 0 0 0 t (.slice none 0 0) (.slice A bo.len c) (.slice none 0 0))) := P3.out.set6) | (go_at_call 67; refine (hcl2.out _ _ P4.out).mono ?_; intro e w3 hh; clear hcl2; rcases hh with ⟨_, A2, c2, rfl, hT2, Q5⟩ | ⟨hx, _⟩; rotate_left; exact absurd h4 hx; have P5 : Hid (Po q p w w3 s st4 (fF op 0 0 0 t (.slice none 0 0) (.slice A bo.len c) (.slice none 0 0))) := P4.out.ps Q5.out; obtain ⟨v1, v2, v3⟩ := P5.out.cell 7 (by decide)))
      all_goals
        go_end0
        have hz := P2.out.1.size
        have hy := P2.out.2.1.lt
        have hz4 := P4.out.1.size
        have hy4 := P4.out.2.1.lt
        have hq := P4.out.1.qlt
        have hb : Tr (Zn (w1.setCell ⟨p, 4, none⟩ (.int .i64 t)).heap.size w3) w3 A bo := (tr_set8 hT.out P3.out.2.1 6 _ (Nat.le_refl _) (by omega)).move (zn_mv (Nat.le_refl _) fun k hk hl => Q5.out.block (by omega) hl)
        exact Or.inl ⟨h4, rfl, none, 0, A, c, A2, c2, P5.out.set7, lq_nil _ _ _, tr_set8 hb P5.out.2.1 7 _ hz (by omega), tr_set8 hT2.out P5.out.2.1 7 _ hz4 (by omega)⟩
    · go_enter Try.func76, Try.ntmps76
      go_wp2_with (first | (go_at_call 79; refine htyp.out.mono ?_; rintro e w1 ⟨rfl, P1⟩; obtain ⟨z1, z2, z3⟩ := P1.out.cell 4 (by decide); have P2 : Hid (Po q p w (w1.setCell ⟨p, 4, none⟩ (.int .i64 t)) s ⟨a1, 0, ct1⟩ (fF op 0 0 0 t (.slice none 0 0) (.slice none 0 0) (.slice none 0 0))) := P1.out.set4; obtain ⟨y1, y2⟩ := P2.out.1.code) | (go_at_call 67; refine (hcl.out _ P2.out).mono ?_; intro e w2 hh; clear hcl; rcases P2.out.lists P2.out.1.size hh with ⟨_, A, c, rfl, hT, P3⟩ | ⟨hx, _⟩; rotate_left; exact absurd h2 hx; obtain ⟨x1, x2, x3⟩ := P3.out.cell 6 (by decide); clear hh; have P4 : Hid (Po q p w (w2.setCell ⟨p, 6, none⟩ (.slice A bo.len c)) s st2 (fF op 0 0 0 t (.slice none 0 0) (.slice A bo.len c) (.slice none 0 0))) := P3.out.set6) | (go_at_call 67; refine (hcl2.out _ _ P4.out).mono ?_; intro e w3 hh; clear hcl2; rcases P4.out.lists P4.out.1.size hh with ⟨hx, _⟩ | ⟨_, rfl, st5, hc5, P5⟩; exact absurd hx h4; obtain ⟨v1, v2, v3⟩ := P5.out.cell 7 (by decide); clear hh))
      go_end0
      exact P5.out.set7.bad hc5.out h4
/-- what reading one instruction makes -/
def Pi (q : Nat) (w : World) (s : ByteArray) (op : Int) (bad : Int) (r : On × Rst) (e : Ending) (w' : World) : Prop :=
  (bad = 0 ∧ r.2.code = 0 ∧ ∃ LA lc A c E ec, e = .returned (.agg #[.int .i64 op, .int .i64 r.1.a, .int .i64 r.1.b, .int .i64 r.1.bi, .int .i64 r.1.ty, .slice LA r.1.ls.length lc, .slice A r.1.bo.len c, .slice E r.1.el.len ec]) ∧ Hid (Lq (Zn w.heap.size w') w' LA r.1.ls ∧ Tr (Zn w.heap.size w') w' A r.1.bo ∧ Tr (Zn w.heap.size w') w' E r.1.el) ∧ Hid (Ps q w w' s r.2)) ∨
  (∃ (st' : Rst) (o a b bi ty : Int) (LA : Option Addr) (nl lc : Nat) (B : Option Addr) (nb bc : Nat) (E : Option Addr) (ne ec : Nat), e = .returned (.agg #[.int .i64 o, .int .i64 a, .int .i64 b, .int .i64 bi, .int .i64 ty, .slice LA nl lc, .slice B nb bc, .slice E ne ec]) ∧ ¬ st'.code = 0 ∧ st'.code = (if bad = 0 then r.2.code else bad) ∧ Hid (Ps q w w' s st'))
/-- why an Op may not begin here -/
def badOf (op deep : Int) (st : Rst) : Int := if fo op = 9 then 1403 else if st.count + 1 > 8192 then 1400 else if (fo op = 1 ∨ fo op = 2) ∧ deep ≥ 32 then 1402 else 0
theorem Ps.turned {T : TypeId} {n r : Nat} (h : Ps q w W s st) (hp : w.heap.size ≤ r) (hr : W.rowIs r T n F) (ht : Turned r W W') : Ps q w W' s st := by
  obtain ⟨h1, h2, F0, h3⟩ := h
  have hq : q < w.heap.size := h3.lt
  refine ⟨?_, h2.of_block (ht.block (by omega) h2.lt), F0, h3⟩
  obtain ⟨cs, bs, n, e⟩ := h1
  have hL : Later (w.setRow q cs) W := ⟨bs, n, e⟩
  have hs : (w.setRow q cs).heap.size = w.heap.size := by simp
  obtain ⟨bs', n', e'⟩ := hL.turned hr (by omega) ht
  exact ⟨cs, bs', n', e'⟩
theorem turned8 {T : TypeId} {r : Nat} (hr : W.rowIs r T 8 F) (x0 x1 x2 x3 x4 x5 x6 x7 : Value) : Turned r W ((((((((W.setCell ⟨r, 0, none⟩ x0).setCell ⟨r, 1, none⟩ x1).setCell ⟨r, 2, none⟩ x2).setCell ⟨r, 3, none⟩ x3).setCell ⟨r, 4, none⟩ x4).setCell ⟨r, 5, none⟩ x5).setCell ⟨r, 6, none⟩ x6).setCell ⟨r, 7, none⟩ x7) :=
  ((((((((Turned.refl hr).set hr 0 x0).set hr 1 x1).set hr 2 x2).set hr 3 x3).set hr 4 x4).set hr 5 x5).set hr 6 x6).set hr 7 x7
theorem deep_iff' (op d : Int) : ((lay op = 2 ∨ lay op = 3) ∧ 32 ≤ d) ↔ ((fo op = 1 ∨ fo op = 2) ∧ d ≥ 32) := by
  rcases lay_inv op with ⟨hl, hf⟩ | ⟨hl, hf⟩ | ⟨hl, hf⟩ | ⟨hl, hf⟩ | ⟨hl, hf⟩ | ⟨hl, hf⟩ | ⟨hl, hf⟩ | ⟨hl, hf⟩ | ⟨hl, hf⟩ | ⟨hl, hf, ho⟩ | ⟨hl, hf, ho⟩ | ⟨hl, hf, ho⟩ | ⟨hl, hf, ho⟩
  all_goals
    rw [hl, hf]
    omega
theorem pset2 {a b c c' x : Int} (hx : x = 8192 - c') : ∀ j, j < 4 → (if j = 2 then Value.int .i64 x else pF s ⟨a, b, c⟩ j) = pF s ⟨a, b, c'⟩ j := fun j hj => by
  subst hx
  match j, hj with
  | 0, _ => rfl
  | 1, _ => rfl
  | 2, _ => rfl
  | 3, _ => rfl
theorem pinstr_bad (op deep : Int) (hok : Rok s st) (hc : st.code = 0) (r : On × Rst) (hb : ¬ badOf op deep st = 0) (w : World) (q : Nat) (h : w.rowIs q 118 4 (pF s st)) :
    Calls Try.prog 71 #[.pointer (some ⟨q, 0, none⟩), .int .i64 op, .int .i64 deep] w (Pi q w s op (badOf op deep st) r) := by
  obtain ⟨w1, hw1⟩ : ∃ w1, w.alloc (.cells #[.int .i64 0, .int .i64 0, .int .i64 0, .int .i64 0, .int .i64 0, .slice none 0 0, .slice none 0 0, .slice none 0 0] 69) = w1 := ⟨_, rfl⟩
  have hr : w1.rowIs w.heap.size 69 8 (f0 0) := by rw [← hw1]; exact row8 w _ _ _ _ _ _ _ _
  have hqw := h.lt
  have P1 : Ps q w w1 s st := (Ps.start h).later (by rw [← hw1]; exact La (Lz _))
  have hly : Hid (∀ W : World, Calls Try.prog 74 #[.int .i64 op] W fun e w' => e = .returned (.int .i64 (lay op)) ∧ w' = W) := fun W => lay_any op W
  have hdp : Hid (∀ W : World, Calls Try.prog 75 #[.int .i64 (lay op), .int .i64 deep] W fun e w' => e = .returned (.bool (decide ((lay op = 2 ∨ lay op = 3) ∧ 32 ≤ deep))) ∧ w' = W) := fun W => deep_any _ _ W
  have hfail : Hid (∀ er : Int, Calls Try.prog 73 #[.pointer (some ⟨q, 0, none⟩), .int .i64 er] w1 fun e' w' => e' = .returned (.tuple #[]) ∧ Hid (Ps q w1 w' s ⟨st.at_, er, st.count⟩)) := fun er => by
    have := pfail_any er w1 P1.row
    rwa [show rfail st er = ⟨st.at_, er, st.count⟩ by unfold rfail; rw [if_pos hc]] at this
  have c2 : w1.cell? ⟨q, 2, none⟩ = some (.int .i64 (8192 - st.count)) := P1.cell 2 (by decide)
  have c3 : w1.cell? ⟨q, 3, none⟩ = some (.int .i64 st.code) := P1.cell 3 (by decide)
  have cl := cell_lt c2
  rw [hc] at c3
  have hct : st.count ≤ 8192 := hok.2.2 hc
  replace P1 : Hid (Ps q w w1 s st) := P1
  have hlf : (lay op = 0 ∧ fo op = 9) ∨ (¬ lay op = 0 ∧ ¬ fo op = 9) := by
    rcases lay_inv op with ⟨hl, hf⟩ | ⟨hl, hf⟩ | ⟨hl, hf⟩ | ⟨hl, hf⟩ | ⟨hl, hf⟩ | ⟨hl, hf⟩ | ⟨hl, hf⟩ | ⟨hl, hf⟩ | ⟨hl, hf⟩ | ⟨hl, hf, ho⟩ | ⟨hl, hf, ho⟩ | ⟨hl, hf, ho⟩ | ⟨hl, hf, ho⟩
    all_goals omega
  have hdi := deep_iff' op deep
  have hbo : Hid (badOf op deep st = badOf op deep st) := rfl
  unfold badOf at hb
  rcases hlf with ⟨hl, hf⟩ | ⟨hl, hf⟩
  · replace hbo : Hid (badOf op deep st = 1403) := if_pos hf
    rw [hl] at hly
    clear hb hdi hl hf h hok hdp
    go_enter Try.func71, Try.ntmps71
    go_wp2_with (first | (go_at_call 74; refine (hly.out _).mono ?_; rintro e w9 ⟨rfl, rfl⟩) | (go_at_call 73; refine (hfail.out 1403).mono ?_; rintro e w2 ⟨rfl, R2⟩; have hr2 : w2.rowIs w.heap.size 69 8 (f0 0) := hr.of_block (R2.out.block (by omega) hr.lt); have hq0 := hr2.lt; have y0 : w2.cell? ⟨w.heap.size, 0, none⟩ = some (f0 0 0) := hr2.cell (i := 0) (by decide); have g0 := hr2.frozen 0; have y1 : w2.cell? ⟨w.heap.size, 1, none⟩ = some (f0 0 1) := hr2.cell (i := 1) (by decide); have g1 := hr2.frozen 1; have y2 : w2.cell? ⟨w.heap.size, 2, none⟩ = some (f0 0 2) := hr2.cell (i := 2) (by decide); have g2 := hr2.frozen 2; have y3 : w2.cell? ⟨w.heap.size, 3, none⟩ = some (f0 0 3) := hr2.cell (i := 3) (by decide); have g3 := hr2.frozen 3; have y4 : w2.cell? ⟨w.heap.size, 4, none⟩ = some (f0 0 4) := hr2.cell (i := 4) (by decide); have g4 := hr2.frozen 4; have y5 : w2.cell? ⟨w.heap.size, 5, none⟩ = some (f0 0 5) := hr2.cell (i := 5) (by decide); have g5 := hr2.frozen 5; have y6 : w2.cell? ⟨w.heap.size, 6, none⟩ = some (f0 0 6) := hr2.cell (i := 6) (by decide); have g6 := hr2.frozen 6; have y7 : w2.cell? ⟨w.heap.size, 7, none⟩ = some (f0 0 7) := hr2.cell (i := 7) (by decide); have g7 := hr2.frozen 7; obtain ⟨k1, k2⟩ := R2.out.code; have k1 : w2.cell? ⟨q, 3, none⟩ = some (.int .i64 1403) := k1))
    refine bodyPost_ret (v := .agg #[.int .i64 0, .int .i64 0, .int .i64 0, .int .i64 0, .int .i64 0, .slice none 0 0, .slice none 0 0, .slice none 0 0]) (by simp [results, Try.results71, go_sem, y0, y1, y2, y3, y4, y5, y6, y7, hq0, f0, fF]) rfl ?_
    refine Or.inr ⟨⟨st.at_, 1403, st.count⟩, _, _, _, _, _, _, _, _, _, _, _, _, _, _, rfl, by show ¬ (1403 : Int) = 0; decide, ?_, ?_⟩
    · rw [hbo.out]; rfl
    · exact (P1.out.trans (R2.out)).turned (Nat.le_refl _) hr2 (turned8 hr2 _ _ _ _ _ _ _ _)
  rw [if_neg hf] at hb
  by_cases h8 : st.count + 1 > 8192
  · replace hbo : Hid (badOf op deep st = 1400) := by show badOf op deep st = 1400; unfold badOf; rw [if_neg hf, if_pos h8]
    rw [show 8192 - st.count = 0 by omega] at c2
    have hl0 := beq_false hl
    clear hb hdi hf h hok hdp h8 hl
    generalize lay op = ly at *
    go_enter Try.func71, Try.ntmps71
    go_wp2_with (first | (go_at_call 74; refine (hly.out _).mono ?_; rintro e w9 ⟨rfl, rfl⟩) | (go_at_call 73; refine (hfail.out 1400).mono ?_; rintro e w2 ⟨rfl, R2⟩; have hr2 : w2.rowIs w.heap.size 69 8 (f0 0) := hr.of_block (R2.out.block (by omega) hr.lt); have hq0 := hr2.lt; have y0 : w2.cell? ⟨w.heap.size, 0, none⟩ = some (f0 0 0) := hr2.cell (i := 0) (by decide); have g0 := hr2.frozen 0; have y1 : w2.cell? ⟨w.heap.size, 1, none⟩ = some (f0 0 1) := hr2.cell (i := 1) (by decide); have g1 := hr2.frozen 1; have y2 : w2.cell? ⟨w.heap.size, 2, none⟩ = some (f0 0 2) := hr2.cell (i := 2) (by decide); have g2 := hr2.frozen 2; have y3 : w2.cell? ⟨w.heap.size, 3, none⟩ = some (f0 0 3) := hr2.cell (i := 3) (by decide); have g3 := hr2.frozen 3; have y4 : w2.cell? ⟨w.heap.size, 4, none⟩ = some (f0 0 4) := hr2.cell (i := 4) (by decide); have g4 := hr2.frozen 4; have y5 : w2.cell? ⟨w.heap.size, 5, none⟩ = some (f0 0 5) := hr2.cell (i := 5) (by decide); have g5 := hr2.frozen 5; have y6 : w2.cell? ⟨w.heap.size, 6, none⟩ = some (f0 0 6) := hr2.cell (i := 6) (by decide); have g6 := hr2.frozen 6; have y7 : w2.cell? ⟨w.heap.size, 7, none⟩ = some (f0 0 7) := hr2.cell (i := 7) (by decide); have g7 := hr2.frozen 7; obtain ⟨k1, k2⟩ := R2.out.code; have k1 : w2.cell? ⟨q, 3, none⟩ = some (.int .i64 1400) := k1))
    refine bodyPost_ret (v := .agg #[.int .i64 0, .int .i64 0, .int .i64 0, .int .i64 0, .int .i64 0, .slice none 0 0, .slice none 0 0, .slice none 0 0]) (by simp [results, Try.results71, go_sem, y0, y1, y2, y3, y4, y5, y6, y7, hq0, f0, fF]) rfl ?_
    refine Or.inr ⟨⟨st.at_, 1400, st.count⟩, _, _, _, _, _, _, _, _, _, _, _, _, _, _, rfl, by show ¬ (1400 : Int) = 0; decide, ?_, ?_⟩
    · rw [hbo.out]; rfl
    · exact (P1.out.trans (R2.out)).turned (Nat.le_refl _) hr2 (turned8 hr2 _ _ _ _ _ _ _ _)
  rw [if_neg h8] at hb
  by_cases hd : (fo op = 1 ∨ fo op = 2) ∧ deep ≥ 32
  · replace hbo : Hid (badOf op deep st = 1402) := by show badOf op deep st = 1402; unfold badOf; rw [if_neg hf, if_neg h8, if_pos hd]
    rw [decide_eq_true (hdi.2 hd)] at hdp
    have hl0 := beq_false hl
    have hm0 : (8192 - st.count == 0) = false := beq_false (by omega)
    have hm1 : ¬ 8192 - st.count = 0 := by omega
    clear hb hdi hf h hok hd hl h8
    generalize lay op = ly at *
    generalize 8192 - st.count = m at *
    go_enter Try.func71, Try.ntmps71
    go_wp2_with (first | (go_at_call 74; refine (hly.out _).mono ?_; rintro e w9 ⟨rfl, rfl⟩) | (go_at_call 75; refine (hdp.out _).mono ?_; rintro e w8 ⟨rfl, rfl⟩) | (go_at_call 73; refine (hfail.out 1402).mono ?_; rintro e w2 ⟨rfl, R2⟩; have hr2 : w2.rowIs w.heap.size 69 8 (f0 0) := hr.of_block (R2.out.block (by omega) hr.lt); have hq0 := hr2.lt; have y0 : w2.cell? ⟨w.heap.size, 0, none⟩ = some (f0 0 0) := hr2.cell (i := 0) (by decide); have g0 := hr2.frozen 0; have y1 : w2.cell? ⟨w.heap.size, 1, none⟩ = some (f0 0 1) := hr2.cell (i := 1) (by decide); have g1 := hr2.frozen 1; have y2 : w2.cell? ⟨w.heap.size, 2, none⟩ = some (f0 0 2) := hr2.cell (i := 2) (by decide); have g2 := hr2.frozen 2; have y3 : w2.cell? ⟨w.heap.size, 3, none⟩ = some (f0 0 3) := hr2.cell (i := 3) (by decide); have g3 := hr2.frozen 3; have y4 : w2.cell? ⟨w.heap.size, 4, none⟩ = some (f0 0 4) := hr2.cell (i := 4) (by decide); have g4 := hr2.frozen 4; have y5 : w2.cell? ⟨w.heap.size, 5, none⟩ = some (f0 0 5) := hr2.cell (i := 5) (by decide); have g5 := hr2.frozen 5; have y6 : w2.cell? ⟨w.heap.size, 6, none⟩ = some (f0 0 6) := hr2.cell (i := 6) (by decide); have g6 := hr2.frozen 6; have y7 : w2.cell? ⟨w.heap.size, 7, none⟩ = some (f0 0 7) := hr2.cell (i := 7) (by decide); have g7 := hr2.frozen 7; obtain ⟨k1, k2⟩ := R2.out.code; have k1 : w2.cell? ⟨q, 3, none⟩ = some (.int .i64 1402) := k1))
    refine bodyPost_ret (v := .agg #[.int .i64 0, .int .i64 0, .int .i64 0, .int .i64 0, .int .i64 0, .slice none 0 0, .slice none 0 0, .slice none 0 0]) (by simp [results, Try.results71, go_sem, y0, y1, y2, y3, y4, y5, y6, y7, hq0, f0, fF]) rfl ?_
    refine Or.inr ⟨⟨st.at_, 1402, st.count⟩, _, _, _, _, _, _, _, _, _, _, _, _, _, _, rfl, by show ¬ (1402 : Int) = 0; decide, ?_, ?_⟩
    · rw [hbo.out]; rfl
    · exact (P1.out.trans (R2.out)).turned (Nat.le_refl _) hr2 (turned8 hr2 _ _ _ _ _ _ _ _)
  rw [if_neg hd] at hb
  exact absurd rfl hb
theorem Pb.of_Pm {op : Int} {r : On × Rst} {e : Ending} {w1 : World} (h : Pm q p w1 s op r e W') : Pb q p w1 s op r e W' := by
  by_cases hc : r.2.code = 0
  · exact Or.inl ⟨hc, h⟩
  · obtain ⟨he, LA, lc, A, c, E, ec, P, _⟩ := h
    exact Or.inr ⟨hc, he, r.2, _, _, _, _, _, _, _, _, _, _, _, _, _, rfl, P⟩
theorem Pb.fin {op : Int} {r : On × Rst} {e : Ending} {w1 : World} (h : Pb q p w1 s op r e W') (hw : w.heap.size ≤ w1.heap.size) : e = .returned (.tuple #[]) ∧ ∃ (st' : Rst) (a b bi ty : Int) (LA : Option Addr) (nl lc : Nat) (B : Option Addr) (nb bc : Nat) (E : Option Addr) (ne ec : Nat), Hid (Po q p w1 W' s st' (fF op a b bi ty (.slice LA nl lc) (.slice B nb bc) (.slice E ne ec))) ∧
    Hid (∀ w', Ps q w w' s st' → (∀ k, w1.heap.size ≤ k → k < W'.heap.size → w'.heap[k]? = W'.heap[k]?) → Pi q w s op 0 r (.returned (.agg #[.int .i64 op, .int .i64 a, .int .i64 b, .int .i64 bi, .int .i64 ty, .slice LA nl lc, .slice B nb bc, .slice E ne ec])) w') := by
  rcases h with ⟨hc, he, LA, lc, A, c, E, ec, P, hL⟩ | ⟨hc, he, st', a, b, bi, ty, LA, nl, lc, B, nb, bc, E, ne, ec, h1, P⟩
  · refine ⟨he, r.2, _, _, _, _, _, _, _, _, _, _, _, _, _, P, fun w' hp hk => Or.inl ⟨rfl, hc, LA, lc, A, c, E, ec, rfl, ?_, hp⟩⟩
    have hkk := zn_mv (W := W') (W' := w') hw hk
    exact ⟨hL.out.1.move hkk, hL.out.2.1.move hkk, hL.out.2.2.move hkk⟩
  · exact ⟨he, st', a, b, bi, ty, LA, nl, lc, B, nb, bc, E, ne, ec, P, fun w' hp hk => Or.inr ⟨st', _, _, _, _, _, _, _, _, _, _, _, _, _, _, rfl, by rw [h1]; exact hc, by rw [h1, if_pos rfl], hp⟩⟩
theorem pinstr_ok (hs : s.size < 9223372036854775000) (k : Nat) (op deep : Int) (hd0 : 0 ≤ deep) (hL : PLR s k (deep + 1)) (hok : Rok s st) (hc : st.code = 0) (hn : (s.size : Int) - st.at_ < k) (hb : badOf op deep st = 0) (w : World) (q : Nat) (h : w.rowIs q 118 4 (pF s st)) :
    Calls Try.prog 71 #[.pointer (some ⟨q, 0, none⟩), .int .i64 op, .int .i64 deep] w (Pi q w s op 0 (ro (rl s k) s op deep (met st))) := by
  obtain ⟨w1, hw1⟩ : ∃ w1, w.alloc (.cells #[.int .i64 0, .int .i64 0, .int .i64 0, .int .i64 0, .int .i64 0, .slice none 0 0, .slice none 0 0, .slice none 0 0] 69) = w1 := ⟨_, rfl⟩
  have hr : w1.rowIs w.heap.size 69 8 (f0 0) := by rw [← hw1]; exact row8 w _ _ _ _ _ _ _ _
  have hs1 : w1.heap.size = w.heap.size + 1 := by rw [← hw1]; simp
  have hqw := h.lt
  have P1 : Ps q w w1 s st := (Ps.start h).later (by rw [← hw1]; exact La (Lz _))
  have hfo : ¬ fo op = 9 ∧ ¬ st.count + 1 > 8192 ∧ ¬ ((fo op = 1 ∨ fo op = 2) ∧ deep ≥ 32) := by
    unfold badOf at hb
    split at hb
    · exact absurd hb (by decide)
    · split at hb
      · exact absurd hb (by decide)
      · split at hb
        · exact absurd hb (by decide)
        · exact ⟨by assumption, by assumption, by assumption⟩
  obtain ⟨hf, h8, hd⟩ := hfo
  have hl0 : ¬ lay op = 0 := by
    intro hl
    rcases lay_inv op with ⟨hl', hf'⟩ | ⟨hl', hf'⟩ | ⟨hl', hf'⟩ | ⟨hl', hf'⟩ | ⟨hl', hf'⟩ | ⟨hl', hf'⟩ | ⟨hl', hf'⟩ | ⟨hl', hf'⟩ | ⟨hl', hf'⟩ | ⟨hl', hf', ho⟩ | ⟨hl', hf', ho⟩ | ⟨hl', hf', ho⟩ | ⟨hl', hf', ho⟩
    all_goals omega
  have hly : Hid (∀ W : World, Calls Try.prog 74 #[.int .i64 op] W fun e w' => e = .returned (.int .i64 (lay op)) ∧ w' = W) := fun W => lay_any op W
  have hdp : Hid (∀ W : World, Calls Try.prog 75 #[.int .i64 (lay op), .int .i64 deep] W fun e w' => e = .returned (.bool false) ∧ w' = W) := fun W => by
    have := deep_any (lay op) deep W
    rwa [decide_eq_false (fun x => hd ((deep_iff' op deep).1 x))] at this
  have hct0 := hok.2.1
  have hct1 := hok.2.2 hc
  obtain ⟨a0, cd, ct⟩ := st
  obtain rfl : cd = 0 := hc
  simp only at hct0 hct1 hn h8
  have c2 : w1.cell? ⟨q, 2, none⟩ = some (.int .i64 (8192 - ct)) := P1.cell 2 (by decide)
  have c3 : w1.cell? ⟨q, 3, none⟩ = some (.int .i64 0) := P1.cell 3 (by decide)
  have f2 := P1.frozen 2
  have cl := cell_lt c2
  obtain ⟨m, hm⟩ : ∃ m : Int, m = 8192 - ct := ⟨_, rfl⟩
  rw [← hm] at c2
  have hm0 : ¬ m = 0 := by omega
  have hm1 : 1 ≤ m := by omega
  have hm2 : m ≤ 8192 := by omega
  obtain ⟨w3, hw3⟩ : ∃ w3, w1.setCell ⟨q, 2, none⟩ (.int .i64 (m - 1)) = w3 := ⟨_, rfl⟩
  have P3 : Ps q w1 w3 s ⟨a0, 0, ct + 1⟩ := by rw [← hw3]; exact (Ps.start P1.row).set 2 _ (pset2 (by omega))
  have hs3 : w3.heap.size = w1.heap.size := by rw [← hw3]; simp
  obtain ⟨W0, hW0⟩ : ∃ W0, w3.alloc (.cells #[.int .i64 op, .int .i64 0, .int .i64 0, .int .i64 0, .int .i64 0, .slice none 0 0, .slice none 0 0, .slice none 0 0] 69) = W0 := ⟨_, rfl⟩
  obtain ⟨p, hp⟩ : ∃ p, p = w3.heap.size := ⟨_, rfl⟩
  have P0 : Po q p w1 W0 s ⟨a0, 0, ct + 1⟩ (f0 op) := ⟨P3.later (by rw [← hW0]; exact La (Lz _)), by rw [hp, ← hW0]; exact row8 w3 _ _ _ _ _ _ _ _, by omega⟩
  have hok0 : Rok s ⟨a0, 0, ct + 1⟩ := ⟨hok.1, by show 0 ≤ ct + 1; omega, fun _ => by show ct + 1 ≤ 8192; omega⟩
  have i3 : W0.cell? ⟨q, 3, none⟩ = some (.int .i64 0) := P0.1.code.1
  rw [show met ⟨a0, 0, ct⟩ = ⟨a0, 0, ct + 1⟩ from rfl]
  clear i3
  by_cases hbl : lay op = 2 ∨ lay op = 3
  · have hbp : Hid (Calls Try.prog 76 #[.pointer (some ⟨q, 0, none⟩), .pointer (some ⟨p, 0, none⟩), .int .i64 (lay op), .int .i64 deep] W0 (Pb q p w1 s op (ro (rl s k) s op deep ⟨a0, 0, ct + 1⟩))) := by
      rcases hbl with hl | hl
      · exact pblock hs k op deep hd0 (fun x => hd ((deep_iff' op deep).1 ⟨Or.inl hl, x⟩)) hL hok0 rfl hn false (Or.inl ⟨hl, rfl⟩) P0
      · exact pblock hs k op deep hd0 (fun x => hd ((deep_iff' op deep).1 ⟨Or.inr hl, x⟩)) hL hok0 rfl hn true (Or.inr ⟨hl, rfl⟩) P0
    replace P1 : Hid (Ps q w w1 s ⟨a0, 0, ct⟩) := P1
    rw [← hW0] at hbp
    clear P0 hW0
    replace hs1 : Hid (w1.heap.size = w.heap.size + 1) := hs1
    replace hs3 : Hid (w3.heap.size = w1.heap.size) := hs3
    clear h hb hok hok0 hL hd hf P3 hn h8 hct0 hct1 hm
    generalize ro (rl s k) s op deep ⟨a0, 0, ct + 1⟩ = r at *
    rcases hbl with hl | hl
    all_goals
      rw [hl] at hly hdp hbp
      subst hp
      clear hl hl0
      go_enter Try.func71, Try.ntmps71
      go_wp2_with (first | (go_at_call 74; refine (hly.out _).mono ?_; rintro e w9 ⟨rfl, rfl⟩) | (go_at_call 75; refine (hdp.out _).mono ?_; rintro e w8 ⟨rfl, rfl⟩) | (go_at_call 76; refine hbp.out.mono ?_; intro e w2 hh; obtain ⟨rfl, st2, a, b, bi, ty, LA, nl, lc, B, nb, bc, E, ne, ec, P2, hfin⟩ := hh.fin (w := w) (by have := hs1.out; omega); have hr2 : w2.rowIs w.heap.size 69 8 (f0 0) := hr.of_block (P2.out.1.block (by omega) hr.lt); have hq0 := hr2.lt; have hq1 := P2.out.2.1.lt; have y0 : w2.cell? ⟨w.heap.size, 0, none⟩ = some (f0 0 0) := hr2.cell (i := 0) (by decide); have g0 := hr2.frozen 0; have v0 : w2.cell? ⟨w3.heap.size, 0, none⟩ = some (.int .i64 op) := P2.out.2.1.cell (i := 0) (by decide); have y1 : w2.cell? ⟨w.heap.size, 1, none⟩ = some (f0 0 1) := hr2.cell (i := 1) (by decide); have g1 := hr2.frozen 1; have v1 : w2.cell? ⟨w3.heap.size, 1, none⟩ = some (.int .i64 a) := P2.out.2.1.cell (i := 1) (by decide); have y2 : w2.cell? ⟨w.heap.size, 2, none⟩ = some (f0 0 2) := hr2.cell (i := 2) (by decide); have g2 := hr2.frozen 2; have v2 : w2.cell? ⟨w3.heap.size, 2, none⟩ = some (.int .i64 b) := P2.out.2.1.cell (i := 2) (by decide); have y3 : w2.cell? ⟨w.heap.size, 3, none⟩ = some (f0 0 3) := hr2.cell (i := 3) (by decide); have g3 := hr2.frozen 3; have v3 : w2.cell? ⟨w3.heap.size, 3, none⟩ = some (.int .i64 bi) := P2.out.2.1.cell (i := 3) (by decide); have y4 : w2.cell? ⟨w.heap.size, 4, none⟩ = some (f0 0 4) := hr2.cell (i := 4) (by decide); have g4 := hr2.frozen 4; have v4 : w2.cell? ⟨w3.heap.size, 4, none⟩ = some (.int .i64 ty) := P2.out.2.1.cell (i := 4) (by decide); have y5 : w2.cell? ⟨w.heap.size, 5, none⟩ = some (f0 0 5) := hr2.cell (i := 5) (by decide); have g5 := hr2.frozen 5; have v5 : w2.cell? ⟨w3.heap.size, 5, none⟩ = some (.slice LA nl lc) := P2.out.2.1.cell (i := 5) (by decide); have y6 : w2.cell? ⟨w.heap.size, 6, none⟩ = some (f0 0 6) := hr2.cell (i := 6) (by decide); have g6 := hr2.frozen 6; have v6 : w2.cell? ⟨w3.heap.size, 6, none⟩ = some (.slice B nb bc) := P2.out.2.1.cell (i := 6) (by decide); have y7 : w2.cell? ⟨w.heap.size, 7, none⟩ = some (f0 0 7) := hr2.cell (i := 7) (by decide); have g7 := hr2.frozen 7; have v7 : w2.cell? ⟨w3.heap.size, 7, none⟩ = some (.slice E ne ec) := P2.out.2.1.cell (i := 7) (by decide)))
      refine bodyPost_ret (v := .agg #[.int .i64 op, .int .i64 a, .int .i64 b, .int .i64 bi, .int .i64 ty, .slice LA nl lc, .slice B nb bc, .slice E ne ec]) (by simp [results, Try.results71, go_sem, y0, y1, y2, y3, y4, y5, y6, y7, hq0]) rfl ?_
      have ht := turned8 hr2 (.int .i64 op) (.int .i64 a) (.int .i64 b) (.int .i64 bi) (.int .i64 ty) (.slice LA nl lc) (.slice B nb bc) (.slice E ne ec)
      exact hfin.out _ ((P1.out.trans P2.out.1).turned (Nat.le_refl _) hr2 ht) (fun k hk hl => ht.block (by have := hs1.out; omega) hl)
  · have hbp : Hid (Calls Try.prog 77 #[.pointer (some ⟨q, 0, none⟩), .pointer (some ⟨p, 0, none⟩), .int .i64 (lay op)] W0 (Pb q p w1 s op (ro (rl s k) s op deep ⟨a0, 0, ct + 1⟩))) := (pplain hs hok0.1 (rl s k) op deep hl0 (fun x => hbl (Or.inl x)) (fun x => hbl (Or.inr x)) P0).mono fun e w' hh => Pb.of_Pm hh
    replace P1 : Hid (Ps q w w1 s ⟨a0, 0, ct⟩) := P1
    rw [← hW0] at hbp
    clear P0 hW0
    have n2 : (lay op == 2) = false := beq_false (fun x => hbl (Or.inl x))
    have n3 : (lay op == 3) = false := beq_false (fun x => hbl (Or.inr x))
    have n0 : (lay op == 0) = false := beq_false hl0
    replace hs1 : Hid (w1.heap.size = w.heap.size + 1) := hs1
    replace hs3 : Hid (w3.heap.size = w1.heap.size) := hs3
    clear h hb hok hok0 hL hd hf P3 hn h8 hct0 hct1 hm hbl hl0
    generalize ro (rl s k) s op deep ⟨a0, 0, ct + 1⟩ = r at *
    generalize lay op = ly at *
    subst hp
    go_enter Try.func71, Try.ntmps71
    go_wp2_with (first | (go_at_call 74; refine (hly.out _).mono ?_; rintro e w9 ⟨rfl, rfl⟩) | (go_at_call 75; refine (hdp.out _).mono ?_; rintro e w8 ⟨rfl, rfl⟩) | (go_at_call 77; refine hbp.out.mono ?_; intro e w2 hh; obtain ⟨rfl, st2, a, b, bi, ty, LA, nl, lc, B, nb, bc, E, ne, ec, P2, hfin⟩ := hh.fin (w := w) (by have := hs1.out; omega); have hr2 : w2.rowIs w.heap.size 69 8 (f0 0) := hr.of_block (P2.out.1.block (by omega) hr.lt); have hq0 := hr2.lt; have hq1 := P2.out.2.1.lt; have y0 : w2.cell? ⟨w.heap.size, 0, none⟩ = some (f0 0 0) := hr2.cell (i := 0) (by decide); have g0 := hr2.frozen 0; have v0 : w2.cell? ⟨w3.heap.size, 0, none⟩ = some (.int .i64 op) := P2.out.2.1.cell (i := 0) (by decide); have y1 : w2.cell? ⟨w.heap.size, 1, none⟩ = some (f0 0 1) := hr2.cell (i := 1) (by decide); have g1 := hr2.frozen 1; have v1 : w2.cell? ⟨w3.heap.size, 1, none⟩ = some (.int .i64 a) := P2.out.2.1.cell (i := 1) (by decide); have y2 : w2.cell? ⟨w.heap.size, 2, none⟩ = some (f0 0 2) := hr2.cell (i := 2) (by decide); have g2 := hr2.frozen 2; have v2 : w2.cell? ⟨w3.heap.size, 2, none⟩ = some (.int .i64 b) := P2.out.2.1.cell (i := 2) (by decide); have y3 : w2.cell? ⟨w.heap.size, 3, none⟩ = some (f0 0 3) := hr2.cell (i := 3) (by decide); have g3 := hr2.frozen 3; have v3 : w2.cell? ⟨w3.heap.size, 3, none⟩ = some (.int .i64 bi) := P2.out.2.1.cell (i := 3) (by decide); have y4 : w2.cell? ⟨w.heap.size, 4, none⟩ = some (f0 0 4) := hr2.cell (i := 4) (by decide); have g4 := hr2.frozen 4; have v4 : w2.cell? ⟨w3.heap.size, 4, none⟩ = some (.int .i64 ty) := P2.out.2.1.cell (i := 4) (by decide); have y5 : w2.cell? ⟨w.heap.size, 5, none⟩ = some (f0 0 5) := hr2.cell (i := 5) (by decide); have g5 := hr2.frozen 5; have v5 : w2.cell? ⟨w3.heap.size, 5, none⟩ = some (.slice LA nl lc) := P2.out.2.1.cell (i := 5) (by decide); have y6 : w2.cell? ⟨w.heap.size, 6, none⟩ = some (f0 0 6) := hr2.cell (i := 6) (by decide); have g6 := hr2.frozen 6; have v6 : w2.cell? ⟨w3.heap.size, 6, none⟩ = some (.slice B nb bc) := P2.out.2.1.cell (i := 6) (by decide); have y7 : w2.cell? ⟨w.heap.size, 7, none⟩ = some (f0 0 7) := hr2.cell (i := 7) (by decide); have g7 := hr2.frozen 7; have v7 : w2.cell? ⟨w3.heap.size, 7, none⟩ = some (.slice E ne ec) := P2.out.2.1.cell (i := 7) (by decide)))
    refine bodyPost_ret (v := .agg #[.int .i64 op, .int .i64 a, .int .i64 b, .int .i64 bi, .int .i64 ty, .slice LA nl lc, .slice B nb bc, .slice E ne ec]) (by simp [results, Try.results71, go_sem, y0, y1, y2, y3, y4, y5, y6, y7, hq0]) rfl ?_
    have ht := turned8 hr2 (.int .i64 op) (.int .i64 a) (.int .i64 b) (.int .i64 bi) (.int .i64 ty) (.slice LA nl lc) (.slice B nb bc) (.slice E ne ec)
    exact hfin.out _ ((P1.out.trans P2.out.1).turned (Nat.le_refl _) hr2 ht) (fun k hk hl => ht.block (by have := hs1.out; omega) hl)
end Go.Proofs.Ytngciahmoenkiab.gi


/- package instr's reader: a list (list), Get. -/
set_option linter.unusedVariables false
set_option linter.unusedSimpArgs false
set_option maxRecDepth 100000
set_option maxHeartbeats 8000000
namespace Go.Proofs.Ytngciahmoenkiab.gi
open Go.RowKit
variable {q : Nat} {s : ByteArray} {st st' : Rst} {w wr wr' : World} {lab lab' : Nat → Nat} {v : Value} {d : Fs}
/-- what is done: new blocks of a label, without a mark -/
def Zm (B0 : Nat) (lab : Nat → Nat) (W : World) (k : Nat) : Prop := Z5 B0 lab k ∧ Nf W k
theorem zm_chg {B0 : Nat} {S : Nat → Prop} (hc : Chg lab S wr wr' lab') (hs : ¬ S 5) : ∀ k, Zm B0 lab wr k → k < wr.heap.size → Zm B0 lab' wr' k ∧ wr'.heap[k]? = wr.heap[k]? := fun k hk hl => by
  obtain ⟨h1, h2⟩ := z5_chg hc hs k hk.1 hl
  exact ⟨⟨h1, nf_of h2 hk.2⟩, h2⟩
/-- a list being made, in a row of its own -/
def Cn (w : World) (lab : Nat → Nat) (wr : World) (v : Value) (d : Fs) : Prop := ∃ L, Later w wr ∧ Fld lab 0 wr w.heap.size 69 8 v d.len L ∧ Rp (Zm w.heap.size lab wr) wr d L
theorem Cn.form (h : Cn w lab wr v d) : ∃ A cap, v = .slice A d.len cap := by
  obtain ⟨L, _, h2, _⟩ := h
  rcases h2.1.2 with ⟨e, h0⟩ | ⟨g, cap', cur, e, _⟩
  · rw [h0]; exact ⟨none, 0, e⟩
  · exact ⟨_, _, e⟩
theorem Cn.tr {A : Option Addr} {cap : Nat} (h : Cn w lab wr (.slice A d.len cap) d) : Tr (Zn w.heap.size wr) wr A d := by
  obtain ⟨L, h1, h2, h3⟩ := h
  refine tr_owns h2.1 (h3.mono fun k hk => ⟨hk.1.1, hk.2⟩) (fun g hg ho => ⟨hg, ?_⟩)
  rcases h2.1.2 with ⟨e, h0⟩ | ⟨g', cap', cur, e, _, hcur, _⟩
  · rw [e] at ho; cases ho
  · rw [e] at ho
    cases ho
    exact nf_row hcur
theorem Cn.more (h : Cn w lab wr v d) (op a b bi ty : Int) (ls : List Int) (bo el : Fs) (LA B E : Option Addr) (lc bc ec : Nat) (h1 : Lq (Zm w.heap.size lab wr) wr LA ls) (h2 : Tr (Zm w.heap.size lab wr) wr B bo) (h3 : Tr (Zm w.heap.size lab wr) wr E el) (hn : (d.len + 1) * 112 ≤ 140737488355328) :
    ∃ g cap w' lab', (Builtin.append_ #[44, 44] 44 #[v, .slice (some ⟨wr.heap.size, 0, none⟩) 1 1]).run Try.prog (wr.alloc (.cells #[.int .i64 op, .int .i64 a, .int .i64 b, .int .i64 bi, .int .i64 ty, .slice LA ls.length lc, .slice B bo.len bc, .slice E el.len ec] 69)) = .ok (.slice (some ⟨g, 0, none⟩) (d.len + 1) cap) w' ∧ Cn w lab' w' (.slice (some ⟨g, 0, none⟩) (d.len + 1) cap) (d.app (.cons op a b bi ty ls bo el .nil)) ∧ Chg lab (· = 0) wr w' lab' := by
  obtain ⟨i, hi1, hi2, hi3, hi4⟩ := instr_parts
  obtain ⟨L, hL, hF, hR⟩ := h
  have hone : ∀ u ∈ [Value.int .i64 op, .int .i64 a, .int .i64 b, .int .i64 bi, .int .i64 ty, .slice LA ls.length lc, .slice B bo.len bc, .slice E el.len ec], u.oneCell' = true := (Rp.mk (ty := ty) (lc := lc) (bc := bc) (ec := ec) h1 h2 h3).one
  obtain ⟨g, cap, w', lab', r, F, l, C⟩ := fld_more (P := Try.prog) hL 44 44 69 i _ 8 112 Try.underlying44 hi1 hi2 hi3 hi4 rfl (by decide) hF [.int .i64 op, .int .i64 a, .int .i64 b, .int .i64 bi, .int .i64 ty, .slice LA ls.length lc, .slice B bo.len bc, .slice E el.len ec] rfl hone (by unfold maxLen; omega) hn
  refine ⟨g, cap, w', lab', r, ⟨_, l, ?_, (hR.app (Rp.mk (lc := lc) (bc := bc) (ec := ec) h1 h2 h3)).move (zm_chg C (by decide))⟩, C⟩
  rw [Fs.len_app]
  exact F
/-- a list being read: the reader, the list's row, what is done -/
def Lp (q : Nat) (w : World) (lab : Nat → Nat) (wr : World) (s : ByteArray) (st : Rst) (v : Value) (d : Fs) : Prop := (∃ cs, Cn (w.setRow q cs) lab wr v d) ∧ Ps q w wr s st ∧ ∀ k, k < w.heap.size → lab k = 99
theorem Lp.start (h : w.rowIs q 118 4 (pF s st)) : Lp q w (fun _ => 99) w s st (.slice none 0 0) .nil := by
  have R := Ps.start h
  obtain ⟨⟨cs, bs, n, e⟩, h2, h3⟩ := R
  refine ⟨⟨cs, [], ⟨bs, n, e⟩, ⟨World.ownsRow_nil _ _ _ _, fun g hg => by cases hg⟩, rfl⟩, Ps.start h, fun _ _ => rfl⟩
theorem Lp.form (h : Lp q w lab wr s st v d) : ∃ A cap, v = .slice A d.len cap := by
  obtain ⟨⟨cs, h1⟩, _⟩ := h
  exact h1.form
theorem Lp.tr {A : Option Addr} {cap : Nat} (h : Lp q w lab wr s st (.slice A d.len cap) d) : Tr (Zn w.heap.size wr) wr A d := by
  obtain ⟨⟨cs, h1⟩, _⟩ := h
  have := h1.tr
  rwa [setRow_sz] at this
theorem Lp.ps (h : Lp q w lab wr s st v d) (hr : Ps q wr wr' s st') : ∃ lab', Lp q w lab' wr' s st' v d ∧ (∀ k, k < wr.heap.size → lab' k = lab k) ∧ ∀ k, wr.heap.size ≤ k → Z5 w.heap.size lab' k := by
  obtain ⟨⟨cs, L, c1, c2, c3⟩, R, hl⟩ := h
  have R2 := R.trans hr
  have hq : q < w.heap.size := R.qlt
  have hsz := R.size
  have C : Chg lab (· = 99) wr wr' (fun k => if k < wr.heap.size then lab k else 5) := ⟨hr.size, fun k hk hs => ⟨if_pos hk, hr.block (fun e => hs (by rw [e]; exact hl q hq)) hk⟩⟩
  rw [setRow_sz] at c2 c3
  obtain ⟨⟨cs', bs, n, e⟩, _, _⟩ := id R2
  refine ⟨fun k => if k < wr.heap.size then lab k else 5, ⟨⟨cs', L, ⟨bs, n, e⟩, ?_, ?_⟩, R2, fun k hk => ?_⟩, fun k hk => if_pos hk, fun k hk => ⟨by omega, if_neg (by omega)⟩⟩
  · rw [setRow_sz]; exact c2.chg C (by decide)
  · rw [setRow_sz]; exact c3.move (zm_chg C (by decide))
  · show (if k < wr.heap.size then lab k else 5) = 99
    rw [if_pos (by omega)]; exact hl k hk
theorem Lp.row (h : Lp q w lab wr s st v d) : wr.rowIs q 118 4 (pF s st) := h.2.1.2.1
theorem Lp.more (h : Lp q w lab wr s st v d) (op a b bi ty : Int) (ls : List Int) (bo el : Fs) (LA B E : Option Addr) (lc bc ec : Nat) (h1 : Lq (Zm w.heap.size lab wr) wr LA ls) (h2 : Tr (Zm w.heap.size lab wr) wr B bo) (h3 : Tr (Zm w.heap.size lab wr) wr E el) (hn : (d.len + 1) * 112 ≤ 140737488355328) :
    ∃ g cap w' lab', (Builtin.append_ #[44, 44] 44 #[v, .slice (some ⟨wr.heap.size, 0, none⟩) 1 1]).run Try.prog (wr.alloc (.cells #[.int .i64 op, .int .i64 a, .int .i64 b, .int .i64 bi, .int .i64 ty, .slice LA ls.length lc, .slice B bo.len bc, .slice E el.len ec] 69)) = .ok (.slice (some ⟨g, 0, none⟩) (d.len + 1) cap) w' ∧ Lp q w lab' w' s st (.slice (some ⟨g, 0, none⟩) (d.len + 1) cap) (d.app (.cons op a b bi ty ls bo el .nil)) := by
  obtain ⟨⟨cs, c⟩, R, hl⟩ := h
  have hq : q < w.heap.size := R.qlt
  have hsz := R.size
  obtain ⟨g, cap, w', lab', r, c2, C⟩ := c.more op a b bi ty ls bo el LA B E lc bc ec (by rw [setRow_sz]; exact h1) (by rw [setRow_sz]; exact h2) (by rw [setRow_sz]; exact h3) hn
  have hkq := C.2 q (by omega) (by rw [hl q hq]; decide)
  refine ⟨g, cap, w', lab', r, ⟨cs, c2⟩, ?_, fun k hk => (C.2 k (by omega) (by rw [hl k hk]; decide)).1.trans (hl k hk)⟩
  obtain ⟨L, ⟨bs, n, e⟩, _, _⟩ := c2
  obtain ⟨h1', h2', F0, h3'⟩ := R
  exact ⟨⟨cs, bs, n, e⟩, h2'.of_block hkq.2, F0, h3'⟩
/-- how far a reader may go yet -/
def pmz (s : ByteArray) (q : Nat) (W : World) : Nat :=
  match W.cell? ⟨q, 1, none⟩ with
  | some (.int _ a) => ((s.size : Int) - a + 1).toNat
  | _ => 0
theorem pmz_of {W : World} (h : W.rowIs q 118 4 (pF s st)) : pmz s q W = ((s.size : Int) - st.at_ + 1).toNat := by
  have c1 : W.cell? ⟨q, 1, none⟩ = some (.int .i64 st.at_) := h.cell (i := 1) (by decide)
  unfold pmz
  rw [c1]
theorem rl_err (k : Nat) (deep : Int) (other : Bool) (op : Int) (st1 : Rst) (hc : st.code = 0) (hb : rbyte s st = (op, st1)) (hc1 : st1.code = 0) (h11 : ¬ op = 11) (h5 : ¬ (op = 5 ∧ other = true)) (hx : ¬ (if badOf op deep st1 = 0 then (ro (rl s k) s op deep (met st1)).2.code else badOf op deep st1) = 0) :
    (rl s (k + 1) deep other st).2.2.code = if badOf op deep st1 = 0 then (ro (rl s k) s op deep (met st1)).2.code else badOf op deep st1 := by
  unfold rl
  rw [if_pos hc, hb]
  simp only []
  rw [if_neg (by rintro (x | x); exact x hc1; exact h11 x), if_neg h5]
  unfold badOf at hx ⊢
  by_cases h9 : fo op = 9
  · rw [if_pos h9]
    simp only [if_pos h9]
    unfold rfail
    rw [if_pos hc1]
    rfl
  · rw [if_neg h9]
    simp only [if_neg h9] at hx ⊢
    by_cases h8 : st1.count + 1 > 8192
    · rw [if_pos h8]
      simp only [if_pos h8]
      unfold rfail met
      rw [if_pos hc1]
      rfl
    · rw [if_neg h8]
      simp only [if_neg h8] at hx ⊢
      by_cases hd : (fo op = 1 ∨ fo op = 2) ∧ deep ≥ 32
      · simp only [if_pos hd]
        have hro : ro (rl s k) s op deep (met st1) = ({}, rfail (met st1) 1402) := by
          unfold ro
          rw [if_pos hd.1, if_pos hd.2]
        have hcd : (rfail (met st1) 1402).code = 1402 := by
          unfold rfail met
          rw [if_pos hc1]
        rw [hro]
        simp only []
        rw [rl_stop k deep other (by rw [hcd]; decide), hcd]
        rfl
      · simp only [if_neg hd] at hx ⊢
        rw [rl_stop k deep other hx]
        rfl
theorem pinstr_any (hs : s.size < 9223372036854775000) (k : Nat) (op deep : Int) (hd0 : 0 ≤ deep) (hL : PLR s k (deep + 1)) (hok : Rok s st) (hc : st.code = 0) (hn : (s.size : Int) - st.at_ < k) (w : World) (q : Nat) (h : w.rowIs q 118 4 (pF s st)) :
    Calls Try.prog 71 #[.pointer (some ⟨q, 0, none⟩), .int .i64 op, .int .i64 deep] w (Pi q w s op (badOf op deep st) (ro (rl s k) s op deep (met st))) := by
  by_cases hb : badOf op deep st = 0
  · rw [hb]
    exact pinstr_ok hs k op deep hd0 hL hok hc hn hb w q h
  · exact pinstr_bad op deep hok hc _ hb w q h
/-- an instruction read, and laid behind the others -/
theorem pone_more (hs : s.size < 9223372036854775000) (k : Nat) (op deep : Int) (hL : PLR s k (deep + 1)) (hok : Rok s st) (hc : st.code = 0) (hd0 : 0 ≤ deep) (hn : (s.size : Int) - st.at_ < k) (hlen : (d.len : Int) ≤ 8192) {W : World} (h : Lp q w lab W s st v d) :
    Calls Try.prog 71 #[.pointer (some ⟨q, 0, none⟩), .int .i64 op, .int .i64 deep] W fun e w2 =>
      (∃ (O : On) (LA A E : Option Addr) (lc c ec : Nat) (g cap : Nat) (w3 : World) (lab3 : Nat → Nat), Hid (badOf op deep st = 0 ∧ (ro (rl s k) s op deep (met st)).2.code = 0 ∧ O = (ro (rl s k) s op deep (met st)).1) ∧ e = .returned (.agg #[.int .i64 op, .int .i64 O.a, .int .i64 O.b, .int .i64 O.bi, .int .i64 O.ty, .slice LA O.ls.length lc, .slice A O.bo.len c, .slice E O.el.len ec]) ∧ w2.cell? ⟨q, 3, none⟩ = some (.int .i64 0) ∧ q < w2.heap.size ∧
        Hid ((Builtin.append_ #[44, 44] 44 #[v, .slice (some ⟨w2.heap.size + 1, 0, none⟩) 1 1]).run Try.prog ((w2.alloc (.cells #[.int .i64 op, .int .i64 O.a, .int .i64 O.b, .int .i64 O.bi, .int .i64 O.ty, .slice LA O.ls.length lc, .slice A O.bo.len c, .slice E O.el.len ec] 69)).alloc (.cells #[.int .i64 op, .int .i64 O.a, .int .i64 O.b, .int .i64 O.bi, .int .i64 O.ty, .slice LA O.ls.length lc, .slice A O.bo.len c, .slice E O.el.len ec] 69)) = .ok (.slice (some ⟨g, 0, none⟩) (d.len + 1) cap) w3) ∧ Hid (Lp q w lab3 w3 s (ro (rl s k) s op deep (met st)).2 (.slice (some ⟨g, 0, none⟩) (d.len + 1) cap) (d.app (.cons op O.a O.b O.bi O.ty O.ls O.bo O.el .nil)))) ∨
      (∃ (st' : Rst) (o a b bi ty : Int) (LA : Option Addr) (nl lc : Nat) (B : Option Addr) (nb bc : Nat) (E : Option Addr) (ne ec : Nat), e = .returned (.agg #[.int .i64 o, .int .i64 a, .int .i64 b, .int .i64 bi, .int .i64 ty, .slice LA nl lc, .slice B nb bc, .slice E ne ec]) ∧ Hid (¬ st'.code = 0 ∧ st'.code = (if badOf op deep st = 0 then (ro (rl s k) s op deep (met st)).2.code else badOf op deep st)) ∧ (∃ cd, (cd != 0) = true ∧ w2.cell? ⟨q, 3, none⟩ = some (.int .i64 cd)) ∧ q < w2.heap.size ∧ Hid (Ps q w w2 s st')) := by
  refine (pinstr_any hs k op deep hd0 hL hok hc hn W q h.row).mono ?_
  rintro e w2 (⟨hb, hrc, LA, lc, A, c, E, ec, he, hLT, hP⟩ | ⟨st', o, a, b, bi, ty, LA, nl, lc, B, nb, bc, E, ne, ec, he, hn0, hx, hP⟩)
  · obtain ⟨lab2, L2, _, hz⟩ := h.ps hP.out
    obtain ⟨lab3, L3, hlk, hz3⟩ := L2.ps ((Ps.start L2.row).later (La (c := #[.int .i64 op, .int .i64 (ro (rl s k) s op deep (met st)).1.a, .int .i64 (ro (rl s k) s op deep (met st)).1.b, .int .i64 (ro (rl s k) s op deep (met st)).1.bi, .int .i64 (ro (rl s k) s op deep (met st)).1.ty, .slice LA (ro (rl s k) s op deep (met st)).1.ls.length lc, .slice A (ro (rl s k) s op deep (met st)).1.bo.len c, .slice E (ro (rl s k) s op deep (met st)).1.el.len ec]) (t := 69) (Lz w2)))
    have hmv : ∀ k', Zn W.heap.size w2 k' → k' < w2.heap.size → Zm w.heap.size lab3 (w2.alloc (.cells #[.int .i64 op, .int .i64 (ro (rl s k) s op deep (met st)).1.a, .int .i64 (ro (rl s k) s op deep (met st)).1.b, .int .i64 (ro (rl s k) s op deep (met st)).1.bi, .int .i64 (ro (rl s k) s op deep (met st)).1.ty, .slice LA (ro (rl s k) s op deep (met st)).1.ls.length lc, .slice A (ro (rl s k) s op deep (met st)).1.bo.len c, .slice E (ro (rl s k) s op deep (met st)).1.el.len ec] 69)) k' ∧ (w2.alloc (.cells #[.int .i64 op, .int .i64 (ro (rl s k) s op deep (met st)).1.a, .int .i64 (ro (rl s k) s op deep (met st)).1.b, .int .i64 (ro (rl s k) s op deep (met st)).1.bi, .int .i64 (ro (rl s k) s op deep (met st)).1.ty, .slice LA (ro (rl s k) s op deep (met st)).1.ls.length lc, .slice A (ro (rl s k) s op deep (met st)).1.bo.len c, .slice E (ro (rl s k) s op deep (met st)).1.el.len ec] 69)).heap[k']? = w2.heap[k']? := fun k' h1 h2 => ⟨⟨⟨(hz k' h1.1).1, by rw [hlk k' h2]; exact (hz k' h1.1).2⟩, nf_of ((La (Lz w2)).block h2) h1.2⟩, (La (Lz w2)).block h2⟩
    obtain ⟨g, cap, w3, lab4, r4, L4⟩ := L3.more op (ro (rl s k) s op deep (met st)).1.a (ro (rl s k) s op deep (met st)).1.b (ro (rl s k) s op deep (met st)).1.bi (ro (rl s k) s op deep (met st)).1.ty (ro (rl s k) s op deep (met st)).1.ls (ro (rl s k) s op deep (met st)).1.bo (ro (rl s k) s op deep (met st)).1.el LA A E lc c ec (hLT.out.1.move hmv) (hLT.out.2.1.move hmv) (hLT.out.2.2.move hmv) (by omega)
    rw [World.size_alloc] at r4
    exact Or.inl ⟨_, LA, A, E, lc, c, ec, g, cap, w3, lab4, ⟨hb, hrc, rfl⟩, he, by have := hP.out.code.1; rwa [hrc] at this, hP.out.code.2, r4, L4⟩
  · exact Or.inr ⟨st', o, a, b, bi, ty, LA, nl, lc, B, nb, bc, E, ne, ec, he, ⟨hn0, hx⟩, ⟨st'.code, by simpa using hn0, hP.out.code.1⟩, hP.out.code.2, h.2.1.trans hP.out⟩
theorem plist_step (hs : s.size < 9223372036854775000) (n : Nat) (deep : Int) (hd0 : 0 ≤ deep) (IH : ∀ k, 0 < k → k ≤ n → PLR s k (deep + 1)) : PLR s (n + 1) deep := by
  intro other st hok hc hn w q h
  have L0 := Lp.start h
  replace IH : Hid (∀ k, 0 < k → k ≤ n → PLR s k (deep + 1)) := IH
  obtain ⟨R, hR⟩ : ∃ R, R = rl s (n + 1) deep other st := ⟨_, rfl⟩
  rw [← hR]
  replace hR : Hid (R = rl s (n + 1) deep other st) := hR
  replace L0 : Hid (Lp q w (fun _ => 99) w s st (.slice none 0 0) .nil) := L0
  replace hok : Hid (Rok s st) := hok
  replace hn : Hid ((s.size : Int) - st.at_ < ((n + 1 : Nat) : Int)) := hn
  replace hc : Hid (st.code = 0) := hc
  clear h
  go_enter Try.func67, Try.ntmps67
  go_wp2_with fail
  go_loopw [8] (fun v wr => ∃ (lab : Nat → Nat) (d : Fs) (st' : Rst) (k : Nat), Lp q w lab wr s st' v d ∧ Rok s st' ∧ st'.code = 0 ∧ k ≤ n + 1 ∧ (s.size : Int) - st'.at_ < (k : Int) ∧ (d.len : Int) ≤ st'.count ∧ R = (d.app (rl s k deep other st').1, (rl s k deep other st').2.1, (rl s k deep other st').2.2)) (fun v wr => pmz s q wr)
  case atStart => exact ⟨fun _ => 99, .nil, st, n + 1, L0.out, hok.out, hc.out, Nat.le_refl _, hn.out, hok.out.2.1, hR.out⟩
  case round =>
    clear hR hok hn L0 hc
    obtain ⟨lab, d, st', k, hL, hok, hc, hkn, hnk, hlen, hR⟩ := hrel
    obtain ⟨A, cap, rfl⟩ := hL.form
    have hrow := hL.row
    obtain ⟨a0, cd, ct⟩ := st'
    obtain rfl : cd = 0 := hc
    have hin := hok.1
    have hk0 : 0 < k := by have h2 := hin.2; simp only at hnk h2; omega
    obtain ⟨k', rfl⟩ : ∃ k', k = k' + 1 := ⟨k - 1, by omega⟩
    have hcn : ct ≤ 8192 := hok.2.2 rfl
    have hc0 : 0 ≤ ct := hok.2.1
    have hnext : Hid (Calls Try.prog 70 #[.pointer (some ⟨q, 0, none⟩)] wr fun e' w1 => e' = .returned (.int .i64 (rbyte s ⟨a0, 0, ct⟩).1) ∧ ∃ lab1, Hid (Lp q w lab1 w1 s (rbyte s ⟨a0, 0, ct⟩).2 (.slice A d.len cap) d)) := by
      refine (pnext_any hs hin wr hrow).mono ?_
      rintro e w1 ⟨rfl, R1⟩
      obtain ⟨lab1, L1, _⟩ := hL.ps R1.out
      exact ⟨rfl, lab1, L1⟩
    have hct1 := rbyte_ct s ⟨a0, 0, ct⟩
    have hin1 := rbyte_in (s := s) (st := ⟨a0, 0, ct⟩) hin
    have hlt1 := fun hc => rbyte_lt (s := s) (st := ⟨a0, 0, ct⟩) hc
    have hmz := pmz_of hrow
    have herr := fun op st1 hb => rl_err (s := s) k' deep other (st := ⟨a0, 0, ct⟩) op st1 rfl hb
    have hR0 := hR
    unfold rl at hR
    rw [if_pos rfl] at hR
    generalize hB : rbyte s ⟨a0, 0, ct⟩ = B at *
    obtain ⟨op, a1, cd1, ct1⟩ := B
    replace herr := herr op ⟨a1, cd1, ct1⟩ rfl
    simp only at hnext hct1 hin1 hlt1 hR herr
    obtain rfl : ct1 = ct := hct1
    by_cases h1 : cd1 = 0
    case neg =>
      rw [if_pos (Or.inl h1)] at hR
      have h11 : (cd1 != 0) = true := by simpa using h1
      have hR1 : Hid (R = (d, false, ⟨a1, cd1, ct1⟩)) := by show R = _; rw [hR, Fs.app_nil]
      clear hL hok hnk hlen hrow hR hR0 IH hin hin1 hlt1 hmz herr hB
      go_wp2_with (go_at_call 70; refine hnext.out.mono ?_; clear hnext; rintro e w1 ⟨rfl, lab1, L1⟩; obtain ⟨e3, hl1⟩ := L1.out.2.1.code)
      go_ret2
      rw [hR1.out]
      exact Or.inr ⟨h1, rfl, ⟨a1, cd1, ct1⟩, rfl, L1.out.2.1⟩
    subst h1
    by_cases h2 : op = 11
    · subst h2
      rw [if_pos (Or.inr rfl)] at hR
      have hR1 : Hid (R = (d, false, ⟨a1, 0, ct1⟩)) := by show R = _; rw [hR, Fs.app_nil]
      clear hL hok hnk hlen hrow hR hR0 IH hin hin1 hlt1 hmz herr hB
      go_wp2_with (go_at_call 70; refine hnext.out.mono ?_; clear hnext; rintro e w1 ⟨rfl, lab1, L1⟩; obtain ⟨e3, hl1⟩ := L1.out.2.1.code)
      go_ret2
      rw [hR1.out]
      exact Or.inl ⟨rfl, A, cap, rfl, L1.out.tr, L1.out.2.1⟩
    have h22 : (op == 11) = false := beq_false h2
    rw [if_neg (by rintro (x | x); exact x rfl; exact h2 x)] at hR
    by_cases h5 : op = 5 ∧ other = true
    · obtain ⟨rfl, rfl⟩ := h5
      rw [if_pos ⟨rfl, rfl⟩] at hR
      have hR1 : Hid (R = (d, true, ⟨a1, 0, ct1⟩)) := by show R = _; rw [hR, Fs.app_nil]
      clear hL hok hnk hlen hrow hR hR0 IH hin hin1 hlt1 hmz herr hB h2
      go_wp2_with (go_at_call 70; refine hnext.out.mono ?_; clear hnext; rintro e w1 ⟨rfl, lab1, L1⟩; obtain ⟨e3, hl1⟩ := L1.out.2.1.code)
      go_ret2
      rw [hR1.out]
      exact Or.inl ⟨rfl, A, cap, rfl, L1.out.tr, L1.out.2.1⟩
    rw [if_neg h5] at hR
    have hok1 : Rok s ⟨a1, 0, ct1⟩ := ⟨hin1, hc0, fun _ => hcn⟩
    have hl1' := hlt1 rfl
    have hn1 : (s.size : Int) - a1 < (k' : Int) := by simp only at hnk; omega
    have hlen2 : (d.len : Int) ≤ ct1 := hlen
    have hk1 : 0 < k' := by have := hin1.2; simp only at this; omega
    have hone : Hid (∀ W lab, Lp q w lab W s ⟨a1, 0, ct1⟩ (.slice A d.len cap) d → Calls Try.prog 71 #[.pointer (some ⟨q, 0, none⟩), .int .i64 op, .int .i64 deep] W fun e w2 =>
      (∃ (O : On) (LA A' E : Option Addr) (lc c ec : Nat) (g cap' : Nat) (w3 : World) (lab3 : Nat → Nat), Hid (badOf op deep ⟨a1, 0, ct1⟩ = 0 ∧ (ro (rl s k') s op deep (met ⟨a1, 0, ct1⟩)).2.code = 0 ∧ O = (ro (rl s k') s op deep (met ⟨a1, 0, ct1⟩)).1) ∧ e = .returned (.agg #[.int .i64 op, .int .i64 O.a, .int .i64 O.b, .int .i64 O.bi, .int .i64 O.ty, .slice LA O.ls.length lc, .slice A' O.bo.len c, .slice E O.el.len ec]) ∧ w2.cell? ⟨q, 3, none⟩ = some (.int .i64 0) ∧ q < w2.heap.size ∧
        Hid ((Builtin.append_ #[44, 44] 44 #[.slice A d.len cap, .slice (some ⟨w2.heap.size + 1, 0, none⟩) 1 1]).run Try.prog ((w2.alloc (.cells #[.int .i64 op, .int .i64 O.a, .int .i64 O.b, .int .i64 O.bi, .int .i64 O.ty, .slice LA O.ls.length lc, .slice A' O.bo.len c, .slice E O.el.len ec] 69)).alloc (.cells #[.int .i64 op, .int .i64 O.a, .int .i64 O.b, .int .i64 O.bi, .int .i64 O.ty, .slice LA O.ls.length lc, .slice A' O.bo.len c, .slice E O.el.len ec] 69)) = .ok (.slice (some ⟨g, 0, none⟩) (d.len + 1) cap') w3) ∧ Hid (Lp q w lab3 w3 s (ro (rl s k') s op deep (met ⟨a1, 0, ct1⟩)).2 (.slice (some ⟨g, 0, none⟩) (d.len + 1) cap') (d.app (.cons op O.a O.b O.bi O.ty O.ls O.bo O.el .nil)))) ∨
      (∃ (st' : Rst) (o a b bi ty : Int) (LA : Option Addr) (nl lc : Nat) (B : Option Addr) (nb bc : Nat) (E : Option Addr) (ne ec : Nat), e = .returned (.agg #[.int .i64 o, .int .i64 a, .int .i64 b, .int .i64 bi, .int .i64 ty, .slice LA nl lc, .slice B nb bc, .slice E ne ec]) ∧ Hid (¬ st'.code = 0 ∧ st'.code = (if badOf op deep ⟨a1, 0, ct1⟩ = 0 then (ro (rl s k') s op deep (met ⟨a1, 0, ct1⟩)).2.code else badOf op deep ⟨a1, 0, ct1⟩)) ∧ (∃ cd, (cd != 0) = true ∧ w2.cell? ⟨q, 3, none⟩ = some (.int .i64 cd)) ∧ q < w2.heap.size ∧ Hid (Ps q w w2 s st'))) := fun W lab0 L => pone_more hs k' op deep (IH.out k' hk1 (by omega)) hok1 rfl hd0 hn1 (by omega) L
    have hbad : Hid (∀ st' : Rst, ¬ st'.code = 0 → st'.code = (if badOf op deep ⟨a1, 0, ct1⟩ = 0 then (ro (rl s k') s op deep (met ⟨a1, 0, ct1⟩)).2.code else badOf op deep ⟨a1, 0, ct1⟩) → ¬ R.2.2.code = 0 ∧ st'.code = R.2.2.code) := by
      intro st' h1 h3
      have h4 := herr rfl h2 h5 (by rw [← h3]; exact h1)
      have h5' : R.2.2.code = st'.code := by rw [hR0, h3]; exact h4
      exact ⟨by rw [h5']; exact h1, h5'.symm⟩
    have hgood : Hid (∀ (g cap' : Nat) (w3 : World) (lab3 : Nat → Nat) (O : On), badOf op deep ⟨a1, 0, ct1⟩ = 0 → (ro (rl s k') s op deep (met ⟨a1, 0, ct1⟩)).2.code = 0 → O = (ro (rl s k') s op deep (met ⟨a1, 0, ct1⟩)).1 → Lp q w lab3 w3 s (ro (rl s k') s op deep (met ⟨a1, 0, ct1⟩)).2 (.slice (some ⟨g, 0, none⟩) (d.len + 1) cap') (d.app (.cons op O.a O.b O.bi O.ty O.ls O.bo O.el .nil)) → (∃ (lab : Nat → Nat) (d' : Fs) (st' : Rst) (k : Nat), Lp q w lab w3 s st' (.slice (some ⟨g, 0, none⟩) (d.len + 1) cap') d' ∧ Rok s st' ∧ st'.code = 0 ∧ k ≤ n + 1 ∧ (s.size : Int) - st'.at_ < (k : Int) ∧ (d'.len : Int) ≤ st'.count ∧ R = (d'.app (rl s k deep other st').1, (rl s k deep other st').2.1, (rl s k deep other st').2.2)) ∧ pmz s q w3 < pmz s q wr) := by
      intro g cap' w3 lab3 O hb hrc hO L3
      have hfo : ¬ fo op = 9 ∧ ¬ ct1 + 1 > 8192 := by
        unfold badOf at hb
        split at hb
        · exact absurd hb (by decide)
        · split at hb
          · exact absurd hb (by decide)
          · exact ⟨by assumption, by assumption⟩
      rw [if_neg hfo.1, if_neg hfo.2] at hR
      have hok2 : Rok s (met ⟨a1, 0, ct1⟩) := ⟨hin1, by show 0 ≤ ct1 + 1; omega, fun _ => by show ct1 + 1 ≤ 8192; omega⟩
      have hro1 := ro_ge (s := s) (rl_ge k') op deep (st := met ⟨a1, 0, ct1⟩) hok2.1
      have hro2 := ro_ct (s := s) (rl_ct (s := s) k') (rl_c0 (s := s) k') op deep (met ⟨a1, 0, ct1⟩)
      generalize ro (rl s k') s op deep (met ⟨a1, 0, ct1⟩) = OS at *
      obtain ⟨O', st2⟩ := OS
      simp only at hO hrc hro1 hro2 L3 hR
      subst hO
      have h1 : a1 ≤ st2.at_ := hro1.2
      have h2' : ct1 + 1 ≤ st2.count := hro2.1
      refine ⟨⟨lab3, _, st2, k', L3, ⟨hro1.1, by omega, fun hc => hro2.2 hc (by show ct1 + 1 ≤ 8192; omega)⟩, hrc, by omega, by omega, ?_, ?_⟩, ?_⟩
      · rw [Fs.len_app]
        show ((d.len + 1 : Nat) : Int) ≤ st2.count
        omega
      · rw [hR, Fs.app_app]
        rfl
      · rw [hmz, pmz_of L3.row]
        have hi := hro1.1.2
        show ((s.size : Int) - st2.at_ + 1).toNat < ((s.size : Int) - a0 + 1).toNat
        have hq1 : a0 < a1 := hl1'.1
        omega
    have h5c : (op == 5) = false ∨ ((op == 5) = true ∧ other = false) := by
      by_cases h : op = 5
      · exact Or.inr ⟨by simpa using h, by
          cases other with
          | false => rfl
          | true => exact absurd ⟨h, rfl⟩ h5⟩
      · exact Or.inl (beq_false h)
    clear hL hok hnk hlen hrow hR hR0 IH hin hin1 hlt1 hmz herr hB hok1 hl1' hn1 hlen2 hk1 h2 h5
    have h5d : ((op == 5) = false) ∨ (op = 5 ∧ other = false) := h5c.imp id (fun x => ⟨by simpa using x.1, x.2⟩)
    clear h5c
    rcases h5d with h5e | ⟨rfl, rfl⟩
    all_goals
      go_wp2_with (first | (go_at_call 70; refine hnext.out.mono ?_; clear hnext; rintro e w1 ⟨rfl, lab1, L1⟩; obtain ⟨e3, hl1⟩ := L1.out.2.1.code) | (go_at_call 71; refine (hone.out _ _ L1.out).mono ?_; clear hone; rintro e w2 (⟨O, LA, A', E, lc, c, ec, g, cap', w3, lab3, hg, rfl, z0, zl, r4, L3⟩ | ⟨st5, o, a, b, bi, ty, LA, nl, lc, B, nb, bc, E, ne, ec, rfl, hx, ⟨cd5, hcd5, z0⟩, zl, P5⟩)) | (at_builtin; refine wpList_app rfl _ _ 44 rfl _ _ _ rfl rfl r4.out ?_))
      · exact hgood.out _ _ _ _ _ hg.out.1 hg.out.2.1 hg.out.2.2 L3.out
      · go_ret2
        obtain ⟨q1, q2⟩ := hbad.out st5 hx.out.1 hx.out.2
        exact Or.inr ⟨q1, rfl, st5, q2, P5.out.later (La (Lz _))⟩
theorem plist_all (hs : s.size < 9223372036854775000) : ∀ (n m : Nat) (deep : Int), m ≤ n → 0 ≤ deep → PLR s (m + 1) deep
  | 0, m, deep, hm, hd => plist_step hs m deep hd (fun k h1 h2 => by omega)
  | n + 1, m, deep, hm, hd => plist_step hs m deep hd (fun k h1 h2 => by
      obtain ⟨k', rfl⟩ : ∃ k', k = k' + 1 := ⟨k - 1, by omega⟩
      exact plist_all hs n k' (deep + 1) (by omega) (by omega))
theorem plist_any (hs : s.size < 9223372036854775000) (n : Nat) (deep : Int) (hd : 0 ≤ deep) : PLR s (n + 1) deep := plist_all hs n n deep (Nat.le_refl _) hd
theorem prd_new (w : World) (s : ByteArray) (a : Int) : (w.alloc (.cells #[.string s, .int .i64 a, .int .i64 8192, .int .i64 0] 118)).rowIs w.heap.size 118 4 (pF s ⟨a, 0, 0⟩) := ⟨_, heap_alloc_new w _, rfl, fun i hi => by
    match i, hi with
    | 0, _ => rfl
    | 1, _ => rfl
    | 2, _ => rfl
    | 3, _ => rfl⟩
theorem Ps.fresh {w W w' : World} {q : Nat} {s : ByteArray} {st : Rst} (hl : Later w W) (hq : w.heap.size ≤ q) (h : Ps q W w' s st) : Later w w' := by
  obtain ⟨h1, h2, F0, h3⟩ := h
  exact hl.turned h3 hq h1
theorem iget_any (s : ByteArray) (hs : s.size < 9223372036854775000) (at_ : Int) (ha : -9223372036854775808 ≤ at_ ∧ at_ ≤ 9223372036854775807) (w : World) :
    Calls Try.prog 64 #[.string s, .int .i64 at_] w fun e w' => ∃ A c, e = .returned (.tuple #[.slice A (unI s at_).1.len c, .int .i64 (unI s at_).2.1, .int .i64 (unI s at_).2.2]) ∧ Hid (Tr (fun k => w.heap.size ≤ k ∧ Nf w' k) w' A (unI s at_).1) ∧ Hid (Later w w') := by
  clear ha
  unfold unI
  by_cases h : 0 ≤ at_ ∧ at_ ≤ s.size
  · rw [if_pos h]
    have hlist : Hid (Calls Try.prog 67 #[.pointer (some ⟨w.heap.size, 0, none⟩), .int .i64 0, .bool false] (w.alloc (.cells #[.string s, .int .i64 at_, .int .i64 8192, .int .i64 0] 118)) (PLp w.heap.size (w.alloc (.cells #[.string s, .int .i64 at_, .int .i64 8192, .int .i64 0] 118)) s (rl s (s.size + 1) 0 false ⟨at_, 0, 0⟩))) :=
      plist_any hs s.size 0 (by decide) false ⟨at_, 0, 0⟩ ⟨h, by show (0 : Int) ≤ 0; decide, fun _ => by show (0 : Int) ≤ 8192; decide⟩ rfl (by show (s.size : Int) - at_ < ((s.size + 1 : Nat) : Int); omega) _ _ (prd_new w s at_)
    have h1 : ¬ at_ < 0 := by omega
    have h2 : ¬ (s.size : Int) < at_ := by omega
    generalize rl s (s.size + 1) 0 false ⟨at_, 0, 0⟩ = r at *
    obtain ⟨f, b, a1, cd, ct⟩ := r
    by_cases hc : cd = 0
    · subst hc
      rw [if_pos rfl]
      clear h
      have hl2 : Hid (Calls Try.prog 67 #[.pointer (some ⟨w.heap.size, 0, none⟩), .int .i64 0, .bool false] (w.alloc (.cells #[.string s, .int .i64 at_, .int .i64 8192, .int .i64 0] 118)) fun e w2 => ∃ A c l, e = .returned (.tuple #[.slice A f.len c, .int .i64 l]) ∧ Hid (Tr (fun k => w.heap.size ≤ k ∧ Nf w2 k) w2 A f) ∧ Hid (Later w w2) ∧ w2.cell? ⟨w.heap.size, 3, none⟩ = some (.int .i64 0) ∧ w2.cell? ⟨w.heap.size, 1, none⟩ = some (.int .i64 a1) ∧ w.heap.size < w2.heap.size) := by
        refine hlist.out.mono ?_
        rintro e w2 (⟨_, A, c, he, hT, hP⟩ | ⟨hx, _⟩)
        · exact ⟨A, c, _, he, hT.out.mono (fun k hk => ⟨by have := hk.1; rw [World.size_alloc] at this; omega, hk.2⟩), Ps.fresh (La (Lz _)) (Nat.le_refl _) hP.out, hP.out.code.1, hP.out.cell 1 (by decide), hP.out.code.2⟩
        · exact absurd rfl hx
      clear hlist
      go_enter Try.func64, Try.ntmps64
      go_wp2_with (go_at_call 67; refine hl2.out.mono ?_; clear hl2; rintro e w2 ⟨A, c, l, rfl, hT, hL, e3, e1, hl⟩)
      go_quiet (fail)
      go_wp2_with fail
      go_ret3
      exact ⟨A, c, rfl, hT.out.move (fun k hk hl => ⟨⟨hk.1, nf_of ((show Later w2 _ by repeat first | exact Lz _ | apply Ld | apply Ln | apply Lv).block hl) hk.2⟩, (show Later w2 _ by repeat first | exact Lz _ | apply Ld | apply Ln | apply Lv).block hl⟩), hL.out.trans (by repeat first | exact Lz _ | apply Ld | apply Ln | apply Lv)⟩
    · rw [if_neg hc]
      have hc2 : (cd != 0) = true := by simpa using hc
      have hl2 : Hid (Calls Try.prog 67 #[.pointer (some ⟨w.heap.size, 0, none⟩), .int .i64 0, .bool false] (w.alloc (.cells #[.string s, .int .i64 at_, .int .i64 8192, .int .i64 0] 118)) fun e w2 => e = .returned (.tuple #[.slice none 0 0, .int .i64 0]) ∧ Hid (Later w w2) ∧ w2.cell? ⟨w.heap.size, 3, none⟩ = some (.int .i64 cd) ∧ w.heap.size < w2.heap.size) := by
        refine hlist.out.mono ?_
        rintro e w2 (⟨hx, _⟩ | ⟨_, he, st5, hc5, hP⟩)
        · exact absurd hx hc
        · exact ⟨he, Ps.fresh (La (Lz _)) (Nat.le_refl _) hP.out, by have := hP.out.code.1; rwa [hc5.out] at this, hP.out.code.2⟩
      clear h hc hlist
      go_enter Try.func64, Try.ntmps64
      go_wp2_with (go_at_call 67; refine hl2.out.mono ?_; clear hl2; rintro e w2 ⟨rfl, hL, e3, hl⟩)
      first | go_quiet (fail) | skip
      go_wp2_with fail
      go_ret3
      first | exact ⟨none, 0, rfl, Or.inl rfl, hL.out.trans (by repeat first | exact Lz _ | apply Ld | apply Ln | apply Lv)⟩ | exact ⟨none, ⟨0, rfl⟩, Or.inl rfl, hL.out.trans (by repeat first | exact Lz _ | apply Ld | apply Ln | apply Lv)⟩
  · rw [if_neg h]
    by_cases h1 : at_ < 0
    · clear h
      go_enter Try.func64, Try.ntmps64
      go_wp2_with fail
      go_ret3
      first | exact ⟨none, 0, rfl, Or.inl rfl, Lz _⟩ | exact ⟨none, ⟨0, rfl⟩, Or.inl rfl, Lz _⟩
    · have h2 : (s.size : Int) < at_ := by omega
      clear h
      go_enter Try.func64, Try.ntmps64
      go_wp2_with fail
      go_ret3
      first | exact ⟨none, 0, rfl, Or.inl rfl, Lz _⟩ | exact ⟨none, ⟨0, rfl⟩, Or.inl rfl, Lz _⟩
end Go.Proofs.Ytngciahmoenkiab.gi

