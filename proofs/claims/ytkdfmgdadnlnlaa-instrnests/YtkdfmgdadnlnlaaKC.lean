/- package instr's reader: what stands behind an Op that is none of blocks (plain). -/
import Derived.Test.YtkdfmgdadnlnlaaKB
import Derived.Test.YtkdfmgdadnlnlaaGE
set_option linter.unusedVariables false
set_option linter.unusedSimpArgs false
set_option maxRecDepth 100000
set_option maxHeartbeats 8000000
namespace Go.Proofs.Ytkdfmgdadnlnlaa.gi
open Go.RowKit
/-- an instruction's fields -/
def fF (op a b bi ty : Int) (L B E : Value) (j : Nat) : Value := [.int .i64 op, .int .i64 a, .int .i64 b, .int .i64 bi, .int .i64 ty, L, B, E].getD j undef
/-- a reader, and an instruction in a block of its own -/
def Po (q p : Nat) (w W : World) (s : ByteArray) (st : Rst) (F : Nat → Value) : Prop := Ps q w W s st ∧ W.rowIs p 47 8 F ∧ w.heap.size ≤ p
variable {q p : Nat} {w W W' : World} {s : ByteArray} {st st' : Rst} {F G : Nat → Value}
theorem Ps.other (h : Ps q w W s st) {p : Nat} (hp : w.heap.size ≤ p) (i : Nat) (u : Value) (hb : ∃ T F, W.rowIs p T 8 F) : Ps q w (W.setCell ⟨p, i, none⟩ u) s st := by
  obtain ⟨h1, h2, F0, h3⟩ := h
  have hq : q < w.heap.size := h3.lt
  obtain ⟨T, F, hr⟩ := hb
  have ht : Turned p W (W.setCell ⟨p, i, none⟩ u) := (Turned.refl hr).set hr i u
  refine ⟨?_, h2.of_block (ht.block (by omega) h2.lt), F0, h3⟩
  obtain ⟨cs, bs, n, e⟩ := h1
  have hL : Later (w.setRow q cs) W := ⟨bs, n, e⟩
  have hs : (w.setRow q cs).heap.size = w.heap.size := by simp
  obtain ⟨bs', n', e'⟩ := hL.turned hr (by omega) ht
  exact ⟨cs, bs', n', e'⟩
theorem Po.ps (h : Po q p w W s st F) (hr : Ps q W W' s st') : Po q p w W' s st' F := by
  have hq := h.1.qlt
  have hp := h.2.2
  exact ⟨h.1.trans hr, h.2.1.of_block (hr.block (by omega) h.2.1.lt), h.2.2⟩
theorem Po.set (h : Po q p w W s st F) (i : Nat) (u : Value) (hG : ∀ j, j < 8 → (if j = i then u else F j) = G j) : Po q p w (W.setCell ⟨p, i, none⟩ u) s st G := by
  refine ⟨h.1.other h.2.2 i u ⟨_, _, h.2.1⟩, ?_, h.2.2⟩
  obtain ⟨cs, e1, e2, e3⟩ := h.2.1.set i u
  exact ⟨cs, e1, e2, fun j hj => by rw [e3 j hj]; exact congrArg some (hG j hj)⟩
theorem Po.cell (h : Po q p w W s st F) (i : Nat) (hi : i < 8) : W.cell? ⟨p, i, none⟩ = some (F i) ∧ W.frozen? ⟨p, i, none⟩ = false ∧ p < W.heap.size := ⟨h.2.1.cell hi, h.2.1.frozen i, h.2.1.lt⟩
theorem Po.num (hs : s.size < 9223372036854775000) (hin : Rin s st) (h : Po q p w W s st F) : Calls Try.prog 82 #[.pointer (some ⟨q, 0, none⟩)] W fun e w' => e = .returned (.int .i64 (rnum s st).1) ∧ Hid (Po q p w w' s (rnum s st).2 F) :=
  (pnum_any hs hin W h.1.row).mono fun e w' hh => ⟨hh.1, h.ps hh.2.out⟩
theorem Po.zero (hs : s.size < 9223372036854775000) (hin : Rin s st) (h : Po q p w W s st F) : Calls Try.prog 83 #[.pointer (some ⟨q, 0, none⟩)] W fun e w' => e = .returned (.tuple #[]) ∧ Hid (Po q p w w' s (rnought s st) F) :=
  (pzero_any hs hin W h.1.row).mono fun e w' hh => ⟨hh.1, h.ps hh.2.out⟩
theorem Po.sgn (hs : s.size < 9223372036854775000) (hin : Rin s st) (b : Int) (hb : -9223372036854775808 ≤ b ∧ b ≤ 9223372036854775807) (h : Po q p w W s st F) : Calls Try.prog 85 #[.pointer (some ⟨q, 0, none⟩), .int .i64 b] W fun e w' => e = .returned (.int .i64 (rsgn s st b).1) ∧ Hid (Po q p w w' s (rsgn s st b).2 F) :=
  (psgn_any hs hin b hb W h.1.row).mono fun e w' hh => ⟨hh.1, h.ps hh.2.out⟩
theorem Po.bits (hs : s.size < 9223372036854775000) (hin : Rin s st) (k : Nat) (hk : k ≤ 8) (h : Po q p w W s st F) : Calls Try.prog 86 #[.pointer (some ⟨q, 0, none⟩), .int .i64 (k : Int)] W fun e w' => e = .returned (.int .i64 (rbits s k st).1) ∧ Hid (Po q p w w' s (rbits s k st).2 F) :=
  (pbits_any hs hin k hk W h.1.row).mono fun e w' hh => ⟨hh.1, h.ps hh.2.out⟩
theorem Po.labs (hs : s.size < 9223372036854775000) (hin : Rin s st) (h : Po q p w W s st F) : Calls Try.prog 84 #[.pointer (some ⟨q, 0, none⟩)] W fun e w' => ∃ A c, e = .returned (.slice A (rlab s ((rnum s st).1.toNat + 1) (rcap (rnum s st).1 (rnum s st).2)).1.length c) ∧ Hid (Lq (Zn W.heap.size w') w' A (rlab s ((rnum s st).1.toNat + 1) (rcap (rnum s st).1 (rnum s st).2)).1) ∧ Hid (Po q p w w' s (rlab s ((rnum s st).1.toNat + 1) (rcap (rnum s st).1 (rnum s st).2)).2 F) :=
  (plab_any hs hin W h.1.row).mono fun e w' hh => by
    obtain ⟨A, c, h1, h2, h3⟩ := hh
    exact ⟨A, c, h1, h2, h.ps h3.out⟩
/-- what reading behind an Op makes -/
def Pm (q p : Nat) (w : World) (s : ByteArray) (op : Int) (r : On × Rst) (e : Ending) (W' : World) : Prop := e = .returned (.tuple #[]) ∧ ∃ LA lc A c E ec, Hid (Po q p w W' s r.2 (fF op r.1.a r.1.b r.1.bi r.1.ty (.slice LA r.1.ls.length lc) (.slice A r.1.bo.len c) (.slice E r.1.el.len ec))) ∧ Hid (Lq (Zn w.heap.size W') W' LA r.1.ls ∧ Tr (Zn w.heap.size W') W' A r.1.bo ∧ Tr (Zn w.heap.size W') W' E r.1.el)
theorem Pm.mk0 {op : Int} {a b bi ty : Int} (h : Po q p w W s st' (fF op a b bi ty (.slice none 0 0) (.slice none 0 0) (.slice none 0 0))) : Pm q p w s op ({ a := a, b := b, bi := bi, ty := ty }, st') (.returned (.tuple #[])) W :=
  ⟨rfl, none, 0, none, 0, none, 0, h, lq_nil _ _ _, tr_nil _ _ _, tr_nil _ _ _⟩
theorem fset {op a b bi ty : Int} {L B E : Value} (i : Nat) (u : Value) (G : Nat → Value) (h0 : (if 0 = i then u else .int .i64 op) = G 0) (h1 : (if 1 = i then u else .int .i64 a) = G 1) (h2 : (if 2 = i then u else .int .i64 b) = G 2) (h3 : (if 3 = i then u else .int .i64 bi) = G 3) (h4 : (if 4 = i then u else .int .i64 ty) = G 4) (h5 : (if 5 = i then u else L) = G 5) (h6 : (if 6 = i then u else B) = G 6) (h7 : (if 7 = i then u else E) = G 7) :
    ∀ j, j < 8 → (if j = i then u else fF op a b bi ty L B E j) = G j := fun j hj => by
  match j, hj with
  | 0, _ => exact h0
  | 1, _ => exact h1
  | 2, _ => exact h2
  | 3, _ => exact h3
  | 4, _ => exact h4
  | 5, _ => exact h5
  | 6, _ => exact h6
  | 7, _ => exact h7
theorem Po.set1 {op a b bi ty x : Int} {L B E : Value} (h : Po q p w W s st (fF op a b bi ty L B E)) : Po q p w (W.setCell ⟨p, 1, none⟩ (.int .i64 x)) s st (fF op x b bi ty L B E) := h.set 1 _ (fset 1 _ _ rfl rfl rfl rfl rfl rfl rfl rfl)
theorem Po.set2 {op a b bi ty x : Int} {L B E : Value} (h : Po q p w W s st (fF op a b bi ty L B E)) : Po q p w (W.setCell ⟨p, 2, none⟩ (.int .i64 x)) s st (fF op a x bi ty L B E) := h.set 2 _ (fset 2 _ _ rfl rfl rfl rfl rfl rfl rfl rfl)
theorem Po.set3 {op a b bi ty x : Int} {L B E : Value} (h : Po q p w W s st (fF op a b bi ty L B E)) : Po q p w (W.setCell ⟨p, 3, none⟩ (.int .i64 x)) s st (fF op a b x ty L B E) := h.set 3 _ (fset 3 _ _ rfl rfl rfl rfl rfl rfl rfl rfl)
theorem Po.set4 {op a b bi ty x : Int} {L B E : Value} (h : Po q p w W s st (fF op a b bi ty L B E)) : Po q p w (W.setCell ⟨p, 4, none⟩ (.int .i64 x)) s st (fF op a b bi x L B E) := h.set 4 _ (fset 4 _ _ rfl rfl rfl rfl rfl rfl rfl rfl)
theorem Po.set5 {op a b bi ty : Int} {L B E x : Value} (h : Po q p w W s st (fF op a b bi ty L B E)) : Po q p w (W.setCell ⟨p, 5, none⟩ x) s st (fF op a b bi ty x B E) := h.set 5 _ (fset 5 _ _ rfl rfl rfl rfl rfl rfl rfl rfl)
theorem Po.set6 {op a b bi ty : Int} {L B E x : Value} (h : Po q p w W s st (fF op a b bi ty L B E)) : Po q p w (W.setCell ⟨p, 6, none⟩ x) s st (fF op a b bi ty L x E) := h.set 6 _ (fset 6 _ _ rfl rfl rfl rfl rfl rfl rfl rfl)
theorem Po.set7 {op a b bi ty : Int} {L B E x : Value} (h : Po q p w W s st (fF op a b bi ty L B E)) : Po q p w (W.setCell ⟨p, 7, none⟩ x) s st (fF op a b bi ty L B x) := h.set 7 _ (fset 7 _ _ rfl rfl rfl rfl rfl rfl rfl rfl)
abbrev f0 (op : Int) : Nat → Value := fF op 0 0 0 0 (.slice none 0 0) (.slice none 0 0) (.slice none 0 0)
theorem pl_1 (op : Int) (h : Po q p w W s st (f0 op)) : Calls Try.prog 65 #[.pointer (some ⟨q, 0, none⟩), .pointer (some ⟨p, 0, none⟩), .int .i64 1] W (Pm q p w s op ({}, st)) := by
  have hfin : Hid (Pm q p w s op ({}, st) (.returned (.tuple #[])) W) := Pm.mk0 h
  clear h
  go_enter Try.func65, Try.ntmps65
  go_wp2_with fail
  go_end0
  exact hfin.out
theorem pl_4 (hs : s.size < 9223372036854775000) (hin : Rin s st) (op : Int) (h : Po q p w W s st (f0 op)) : Calls Try.prog 65 #[.pointer (some ⟨q, 0, none⟩), .pointer (some ⟨p, 0, none⟩), .int .i64 4] W (Pm q p w s op ({ a := (rnum s st).1 }, (rnum s st).2)) := by
  have hn : Hid (Calls Try.prog 82 #[.pointer (some ⟨q, 0, none⟩)] W fun e w' => e = .returned (.int .i64 (rnum s st).1) ∧ Hid (Po q p w w' s (rnum s st).2 (f0 op))) := h.num hs hin
  clear h
  generalize rnum s st = K at *
  obtain ⟨x, st1⟩ := K
  simp only [] at hn ⊢
  go_enter Try.func65, Try.ntmps65
  go_wp2_with (go_at_call 82; refine hn.out.mono ?_; rintro e w1 ⟨rfl, P1⟩; obtain ⟨z1, z2, z3⟩ := P1.out.cell 1 (by decide))
  go_end0
  exact Pm.mk0 P1.out.set1
theorem pl_8 (hs : s.size < 9223372036854775000) (hin : Rin s st) (op : Int) (h : Po q p w W s st (f0 op)) : Calls Try.prog 65 #[.pointer (some ⟨q, 0, none⟩), .pointer (some ⟨p, 0, none⟩), .int .i64 8] W (Pm q p w s op ({}, rnought s st)) := by
  have hn : Hid (Calls Try.prog 83 #[.pointer (some ⟨q, 0, none⟩)] W fun e w' => e = .returned (.tuple #[]) ∧ Hid (Po q p w w' s (rnought s st) (f0 op))) := h.zero hs hin
  clear h
  generalize rnought s st = st1 at *
  go_enter Try.func65, Try.ntmps65
  go_wp2_with (go_at_call 83; refine hn.out.mono ?_; rintro e w1 ⟨rfl, P1⟩)
  go_end0
  exact Pm.mk0 P1.out
theorem pl_6 (hs : s.size < 9223372036854775000) (hin : Rin s st) (op : Int) (h : Po q p w W s st (f0 op)) : Calls Try.prog 65 #[.pointer (some ⟨q, 0, none⟩), .pointer (some ⟨p, 0, none⟩), .int .i64 6] W (Pm q p w s op ({ a := (rnum s st).1 }, rnought s (rnum s st).2)) := by
  have hn : Hid (Calls Try.prog 82 #[.pointer (some ⟨q, 0, none⟩)] W fun e w' => e = .returned (.int .i64 (rnum s st).1) ∧ Hid (Po q p w w' s (rnum s st).2 (f0 op))) := h.num hs hin
  have hin1 := rnum_in (s := s) (st := st) hin
  have hz : Hid (∀ W1, Po q p w W1 s (rnum s st).2 (fF op (rnum s st).1 0 0 0 (.slice none 0 0) (.slice none 0 0) (.slice none 0 0)) → Calls Try.prog 83 #[.pointer (some ⟨q, 0, none⟩)] W1 fun e w' => e = .returned (.tuple #[]) ∧ Hid (Po q p w w' s (rnought s (rnum s st).2) (fF op (rnum s st).1 0 0 0 (.slice none 0 0) (.slice none 0 0) (.slice none 0 0)))) := fun W1 P1 => P1.zero hs hin1
  clear h hin1
  generalize rnought s (rnum s st).2 = st2 at *
  generalize rnum s st = K at *
  obtain ⟨x, st1⟩ := K
  simp only [] at hn hz ⊢
  go_enter Try.func65, Try.ntmps65
  go_wp2_with (first | (go_at_call 82; refine hn.out.mono ?_; rintro e w1 ⟨rfl, P1⟩; obtain ⟨z1, z2, z3⟩ := P1.out.cell 1 (by decide)) | (go_at_call 83; refine (hz.out _ P1.out.set1).mono ?_; rintro e w2 ⟨rfl, P2⟩))
  go_end0
  exact Pm.mk0 P2.out
theorem pl_7 (hs : s.size < 9223372036854775000) (hin : Rin s st) (op : Int) (h : Po q p w W s st (f0 op)) : Calls Try.prog 65 #[.pointer (some ⟨q, 0, none⟩), .pointer (some ⟨p, 0, none⟩), .int .i64 7] W (Pm q p w s op ({ a := (rnum s st).1, b := (rnum s (rnum s st).2).1 }, (rnum s (rnum s st).2).2)) := by
  have hn : Hid (Calls Try.prog 82 #[.pointer (some ⟨q, 0, none⟩)] W fun e w' => e = .returned (.int .i64 (rnum s st).1) ∧ Hid (Po q p w w' s (rnum s st).2 (f0 op))) := h.num hs hin
  have hin1 := rnum_in (s := s) (st := st) hin
  have hz : Hid (∀ W1, Po q p w W1 s (rnum s st).2 (fF op (rnum s st).1 0 0 0 (.slice none 0 0) (.slice none 0 0) (.slice none 0 0)) → Calls Try.prog 82 #[.pointer (some ⟨q, 0, none⟩)] W1 fun e w' => e = .returned (.int .i64 (rnum s (rnum s st).2).1) ∧ Hid (Po q p w w' s (rnum s (rnum s st).2).2 (fF op (rnum s st).1 0 0 0 (.slice none 0 0) (.slice none 0 0) (.slice none 0 0)))) := fun W1 P1 => P1.num hs hin1
  clear h hin1
  generalize rnum s (rnum s st).2 = K2 at *
  generalize rnum s st = K at *
  obtain ⟨x, st1⟩ := K
  obtain ⟨y, st2⟩ := K2
  simp only [] at hn hz ⊢
  go_enter Try.func65, Try.ntmps65
  go_wp2_with (first | (go_at_call 82; refine hn.out.mono ?_; clear hn; rintro e w1 ⟨rfl, P1⟩; obtain ⟨z1, z2, z3⟩ := P1.out.cell 1 (by decide)) | (go_at_call 82; refine (hz.out _ P1.out.set1).mono ?_; clear hz; rintro e w2 ⟨rfl, P2⟩; obtain ⟨y1, y2, y3⟩ := P2.out.cell 2 (by decide)))
  go_end0
  exact Pm.mk0 P2.out.set2
theorem pl_5 (hs : s.size < 9223372036854775000) (hin : Rin s st) (op : Int) (h : Po q p w W s st (f0 op)) : Calls Try.prog 65 #[.pointer (some ⟨q, 0, none⟩), .pointer (some ⟨p, 0, none⟩), .int .i64 5] W (Pm q p w s op ({ ls := (rlab s ((rnum s st).1.toNat + 1) (rcap (rnum s st).1 (rnum s st).2)).1 }, (rlab s ((rnum s st).1.toNat + 1) (rcap (rnum s st).1 (rnum s st).2)).2)) := by
  have hws := h.1.size
  have hpl := h.2.1.lt
  have hn : Hid (Calls Try.prog 84 #[.pointer (some ⟨q, 0, none⟩)] W fun e w' => ∃ A c, e = .returned (.slice A (rlab s ((rnum s st).1.toNat + 1) (rcap (rnum s st).1 (rnum s st).2)).1.length c) ∧ Hid (Lq (Zn W.heap.size w') w' A (rlab s ((rnum s st).1.toNat + 1) (rcap (rnum s st).1 (rnum s st).2)).1) ∧ Hid (Po q p w w' s (rlab s ((rnum s st).1.toNat + 1) (rcap (rnum s st).1 (rnum s st).2)).2 (f0 op))) := h.labs hs hin
  clear h
  generalize rlab s ((rnum s st).1.toNat + 1) (rcap (rnum s st).1 (rnum s st).2) = K at *
  obtain ⟨x, st1⟩ := K
  simp only [] at hn ⊢
  go_enter Try.func65, Try.ntmps65
  go_wp2_with (go_at_call 84; refine hn.out.mono ?_; rintro e w1 ⟨A, c, rfl, hL, P1⟩; obtain ⟨z1, z2, z3⟩ := P1.out.cell 5 (by decide))
  go_end0
  refine ⟨rfl, A, c, none, 0, none, 0, P1.out.set5, ?_, tr_nil _ _ _, tr_nil _ _ _⟩
  have ht : Turned p w1 (w1.setCell ⟨p, 5, none⟩ (.slice A x.length c)) := (Turned.refl P1.out.2.1).set P1.out.2.1 5 _
  exact hL.out.move (zn_mv hws fun k hk hl => ht.block (by omega) hl)
theorem pl_9 (hs : s.size < 9223372036854775000) (hin : Rin s st) (op : Int) (h : Po q p w W s st (f0 op)) : Calls Try.prog 65 #[.pointer (some ⟨q, 0, none⟩), .pointer (some ⟨p, 0, none⟩), .int .i64 9] W (Pm q p w s op ({ bi := (rsgn s st 32).1 % 4294967296 }, (rsgn s st 32).2)) := by
  have hn : Hid (Calls Try.prog 85 #[.pointer (some ⟨q, 0, none⟩), .int .i64 32] W fun e w' => e = .returned (.int .i64 (rsgn s st 32).1) ∧ Hid (Po q p w w' s (rsgn s st 32).2 (f0 op))) := h.sgn hs hin 32 (by decide)
  have hl : Hid (∀ W : World, Calls Try.prog 72 #[.int .i64 (rsgn s st 32).1] W fun e w' => e = .returned (.int .i64 ((rsgn s st 32).1 % 4294967296)) ∧ w' = W) := fun W => low_any _ W
  clear h
  generalize rsgn s st 32 = K at *
  obtain ⟨x, st1⟩ := K
  simp only [] at hn hl ⊢
  go_enter Try.func65, Try.ntmps65
  go_wp2_with (first | (go_at_call 85; refine hn.out.mono ?_; rintro e w1 ⟨rfl, P1⟩; obtain ⟨z1, z2, z3⟩ := P1.out.cell 3 (by decide)) | (go_at_call 72; refine (hl.out _).mono ?_; rintro e w2 ⟨rfl, rfl⟩))
  go_end0
  exact Pm.mk0 P1.out.set3
theorem pl_10 (hs : s.size < 9223372036854775000) (hin : Rin s st) (op : Int) (h : Po q p w W s st (f0 op)) : Calls Try.prog 65 #[.pointer (some ⟨q, 0, none⟩), .pointer (some ⟨p, 0, none⟩), .int .i64 10] W (Pm q p w s op ({ bi := (rsgn s st 64).1 }, (rsgn s st 64).2)) := by
  have hn : Hid (Calls Try.prog 85 #[.pointer (some ⟨q, 0, none⟩), .int .i64 64] W fun e w' => e = .returned (.int .i64 (rsgn s st 64).1) ∧ Hid (Po q p w w' s (rsgn s st 64).2 (f0 op))) := h.sgn hs hin 64 (by decide)
  clear h
  generalize rsgn s st 64 = K at *
  obtain ⟨x, st1⟩ := K
  simp only [] at hn ⊢
  go_enter Try.func65, Try.ntmps65
  go_wp2_with (first | (go_at_call 85; refine hn.out.mono ?_; rintro e w1 ⟨rfl, P1⟩; obtain ⟨z1, z2, z3⟩ := P1.out.cell 3 (by decide)))
  go_end0
  exact Pm.mk0 P1.out.set3
theorem pl_11 (hs : s.size < 9223372036854775000) (hin : Rin s st) (op : Int) (h : Po q p w W s st (f0 op)) : Calls Try.prog 65 #[.pointer (some ⟨q, 0, none⟩), .pointer (some ⟨p, 0, none⟩), .int .i64 11] W (Pm q p w s op ({ bi := (rbits s 4 st).1 }, (rbits s 4 st).2)) := by
  have hn : Hid (Calls Try.prog 86 #[.pointer (some ⟨q, 0, none⟩), .int .i64 4] W fun e w' => e = .returned (.int .i64 (rbits s 4 st).1) ∧ Hid (Po q p w w' s (rbits s 4 st).2 (f0 op))) := h.bits hs hin 4 (by decide)
  clear h
  generalize rbits s 4 st = K at *
  obtain ⟨x, st1⟩ := K
  simp only [] at hn ⊢
  go_enter Try.func65, Try.ntmps65
  go_wp2_with (first | (go_at_call 86; refine hn.out.mono ?_; rintro e w1 ⟨rfl, P1⟩; obtain ⟨z1, z2, z3⟩ := P1.out.cell 3 (by decide)))
  go_end0
  exact Pm.mk0 P1.out.set3
theorem pl_12 (hs : s.size < 9223372036854775000) (hin : Rin s st) (op : Int) (h : Po q p w W s st (f0 op)) : Calls Try.prog 65 #[.pointer (some ⟨q, 0, none⟩), .pointer (some ⟨p, 0, none⟩), .int .i64 12] W (Pm q p w s op ({ bi := (rbits s 8 st).1 }, (rbits s 8 st).2)) := by
  have hn : Hid (Calls Try.prog 86 #[.pointer (some ⟨q, 0, none⟩), .int .i64 8] W fun e w' => e = .returned (.int .i64 (rbits s 8 st).1) ∧ Hid (Po q p w w' s (rbits s 8 st).2 (f0 op))) := h.bits hs hin 8 (by decide)
  clear h
  generalize rbits s 8 st = K at *
  obtain ⟨x, st1⟩ := K
  simp only [] at hn ⊢
  go_enter Try.func65, Try.ntmps65
  go_wp2_with (first | (go_at_call 86; refine hn.out.mono ?_; rintro e w1 ⟨rfl, P1⟩; obtain ⟨z1, z2, z3⟩ := P1.out.cell 3 (by decide)))
  go_end0
  exact Pm.mk0 P1.out.set3
/-- plain: any Op that is none of blocks -/
theorem pplain (hs : s.size < 9223372036854775000) (hin : Rin s st) (L : Int → Bool → Rst → Fs × Bool × Rst) (op deep : Int) (h1 : ¬ lay op = 0) (h2 : ¬ lay op = 2) (h3 : ¬ lay op = 3) (h : Po q p w W s st (f0 op)) : Calls Try.prog 65 #[.pointer (some ⟨q, 0, none⟩), .pointer (some ⟨p, 0, none⟩), .int .i64 (lay op)] W (Pm q p w s op (ro L s op deep st)) := by
  rcases lay_inv op with ⟨hl, hf⟩ | ⟨hl, hf⟩ | ⟨hl, hf⟩ | ⟨hl, hf⟩ | ⟨hl, hf⟩ | ⟨hl, hf⟩ | ⟨hl, hf⟩ | ⟨hl, hf⟩ | ⟨hl, hf⟩ | ⟨hl, hf, ho⟩ | ⟨hl, hf, ho⟩ | ⟨hl, hf, ho⟩ | ⟨hl, hf, ho⟩
  · exact absurd hl h1
  · rw [hl, show ro L s op deep st = ({}, st) by simp [ro, hf]]; exact pl_1 op h
  · exact absurd hl h2
  · exact absurd hl h3
  · rw [hl, show ro L s op deep st = ({ a := (rnum s st).1 }, (rnum s st).2) by simp [ro, hf]]; exact pl_4 hs hin op h
  · rw [hl, show ro L s op deep st = ({ ls := (rlab s ((rnum s st).1.toNat + 1) (rcap (rnum s st).1 (rnum s st).2)).1 }, (rlab s ((rnum s st).1.toNat + 1) (rcap (rnum s st).1 (rnum s st).2)).2) by simp [ro, hf]]; exact pl_5 hs hin op h
  · rw [hl, show ro L s op deep st = ({ a := (rnum s st).1 }, rnought s (rnum s st).2) by simp [ro, hf]]; exact pl_6 hs hin op h
  · rw [hl, show ro L s op deep st = ({ a := (rnum s st).1, b := (rnum s (rnum s st).2).1 }, (rnum s (rnum s st).2).2) by simp [ro, hf]]; exact pl_7 hs hin op h
  · rw [hl, show ro L s op deep st = ({}, rnought s st) by simp [ro, hf]]; exact pl_8 hs hin op h
  · have hr : rlit s op st = ((rsgn s st 32).1 % 4294967296, (rsgn s st 32).2) := by simp [rlit, ho]
    rw [hl, show ro L s op deep st = ({ bi := (rsgn s st 32).1 % 4294967296 }, (rsgn s st 32).2) by simp [ro, hf, hr]]; exact pl_9 hs hin op h
  · have hr : rlit s op st = rsgn s st 64 := by simp [rlit, ho]
    rw [hl, show ro L s op deep st = ({ bi := (rsgn s st 64).1 }, (rsgn s st 64).2) by simp [ro, hf, hr]]; exact pl_10 hs hin op h
  · have hr : rlit s op st = rbits s 4 st := by simp [rlit, ho]
    rw [hl, show ro L s op deep st = ({ bi := (rbits s 4 st).1 }, (rbits s 4 st).2) by simp [ro, hf, hr]]; exact pl_11 hs hin op h
  · have hr : rlit s op st = rbits s 8 st := by simp [rlit, ho]
    rw [hl, show ro L s op deep st = ({ bi := (rbits s 8 st).1 }, (rbits s 8 st).2) by simp [ro, hf, hr]]; exact pl_12 hs hin op h
end Go.Proofs.Ytkdfmgdadnlnlaa.gi
