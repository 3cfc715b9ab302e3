/- package instr's reader: a list (list), Get. -/
import Derived.Test.YtkdfmgdadnlnlaaKD
import Derived.Test.YtkdfmgdadnlnlaaXN
import Derived.Test.YtkdfmgdadnlnlaaXP
set_option linter.unusedVariables false
set_option linter.unusedSimpArgs false
set_option maxRecDepth 100000
set_option maxHeartbeats 8000000
namespace Go.Proofs.Ytkdfmgdadnlnlaa.gi
open Go.RowKit
variable {q : Nat} {s : ByteArray} {st st' : Rst} {w wr wr' : World} {lab lab' : Nat → Nat} {v : Value} {d : Fs}
/-- what is done: new blocks of a label, without a mark -/
def Zm (B0 : Nat) (lab : Nat → Nat) (W : World) (k : Nat) : Prop := Z5 B0 lab k ∧ Nf W k
theorem zm_chg {B0 : Nat} {S : Nat → Prop} (hc : Chg lab S wr wr' lab') (hs : ¬ S 5) : ∀ k, Zm B0 lab wr k → k < wr.heap.size → Zm B0 lab' wr' k ∧ wr'.heap[k]? = wr.heap[k]? := fun k hk hl => by
  obtain ⟨h1, h2⟩ := z5_chg hc hs k hk.1 hl
  exact ⟨⟨h1, nf_of h2 hk.2⟩, h2⟩
/-- a list being made, in a row of its own -/
def Cn (w : World) (lab : Nat → Nat) (wr : World) (v : Value) (d : Fs) : Prop := ∃ L, Later w wr ∧ Fld lab 0 wr w.heap.size 47 8 v d.len L ∧ Rp (Zm w.heap.size lab wr) wr d L
theorem Cn.form (h : Cn w lab wr v d) : ∃ A cap, v = .slice A d.len cap := by
  obtain ⟨L, _, h2, _⟩ := h
  rcases h2.1.2 with ⟨e, h0⟩ | ⟨g, cap', cur, e, _⟩
  · rw [h0]; exact ⟨none, 0, e⟩
  · exact ⟨_, _, e⟩
theorem Cn.tr {A : Option Addr} {cap : Nat} (h : Cn w lab wr (.slice A d.len cap) d) : Tr (Zn w.heap.size wr) wr A d := by
  obtain ⟨L, h1, h2, h3⟩ := h
  refine tr_owns h2.1 (h3.mono fun k hk => ⟨hk.1.1, hk.2⟩) (fun g hg ho => ⟨hg, ?_⟩)
  rcases h2.1.2 with ⟨e, h0⟩ | ⟨g', cap', cur, e, _, hcur, _⟩
  · rw [e] at ho; cases ho
  · rw [e] at ho
    cases ho
    exact nf_row hcur
theorem Cn.more (h : Cn w lab wr v d) (op a b bi ty : Int) (ls : List Int) (bo el : Fs) (LA B E : Option Addr) (lc bc ec : Nat) (h1 : Lq (Zm w.heap.size lab wr) wr LA ls) (h2 : Tr (Zm w.heap.size lab wr) wr B bo) (h3 : Tr (Zm w.heap.size lab wr) wr E el) (hn : (d.len + 1) * 112 ≤ 140737488355328) :
    ∃ g cap w' lab', (Builtin.append_ #[22, 22] 22 #[v, .slice (some ⟨wr.heap.size, 0, none⟩) 1 1]).run Try.prog (wr.alloc (.cells #[.int .i64 op, .int .i64 a, .int .i64 b, .int .i64 bi, .int .i64 ty, .slice LA ls.length lc, .slice B bo.len bc, .slice E el.len ec] 47)) = .ok (.slice (some ⟨g, 0, none⟩) (d.len + 1) cap) w' ∧ Cn w lab' w' (.slice (some ⟨g, 0, none⟩) (d.len + 1) cap) (d.app (.cons op a b bi ty ls bo el .nil)) ∧ Chg lab (· = 0) wr w' lab' := by
  obtain ⟨i, hi1, hi2, hi3, hi4⟩ := instr_parts
  obtain ⟨L, hL, hF, hR⟩ := h
  have hone : ∀ u ∈ [Value.int .i64 op, .int .i64 a, .int .i64 b, .int .i64 bi, .int .i64 ty, .slice LA ls.length lc, .slice B bo.len bc, .slice E el.len ec], u.oneCell' = true := (Rp.mk (ty := ty) (lc := lc) (bc := bc) (ec := ec) h1 h2 h3).one
  obtain ⟨g, cap, w', lab', r, F, l, C⟩ := fld_more (P := Try.prog) hL 22 22 47 i _ 8 112 Try.underlying22 hi1 hi2 hi3 hi4 rfl (by decide) hF [.int .i64 op, .int .i64 a, .int .i64 b, .int .i64 bi, .int .i64 ty, .slice LA ls.length lc, .slice B bo.len bc, .slice E el.len ec] rfl hone (by unfold maxLen; omega) hn
  refine ⟨g, cap, w', lab', r, ⟨_, l, ?_, (hR.app (Rp.mk (lc := lc) (bc := bc) (ec := ec) h1 h2 h3)).move (zm_chg C (by decide))⟩, C⟩
  rw [Fs.len_app]
  exact F
/-- a list being read: the reader, the list's row, what is done -/
def Lp (q : Nat) (w : World) (lab : Nat → Nat) (wr : World) (s : ByteArray) (st : Rst) (v : Value) (d : Fs) : Prop := (∃ cs, Cn (w.setRow q cs) lab wr v d) ∧ Ps q w wr s st ∧ ∀ k, k < w.heap.size → lab k = 99
theorem Lp.start (h : w.rowIs q 67 4 (pF s st)) : Lp q w (fun _ => 99) w s st (.slice none 0 0) .nil := by
  have R := Ps.start h
  obtain ⟨⟨cs, bs, n, e⟩, h2, h3⟩ := R
  refine ⟨⟨cs, [], ⟨bs, n, e⟩, ⟨World.ownsRow_nil _ _ _ _, fun g hg => by cases hg⟩, rfl⟩, Ps.start h, fun _ _ => rfl⟩
theorem Lp.form (h : Lp q w lab wr s st v d) : ∃ A cap, v = .slice A d.len cap := by
  obtain ⟨⟨cs, h1⟩, _⟩ := h
  exact h1.form
theorem Lp.tr {A : Option Addr} {cap : Nat} (h : Lp q w lab wr s st (.slice A d.len cap) d) : Tr (Zn w.heap.size wr) wr A d := by
  obtain ⟨⟨cs, h1⟩, _⟩ := h
  have := h1.tr
  rwa [setRow_sz] at this
theorem Lp.ps (h : Lp q w lab wr s st v d) (hr : Ps q wr wr' s st') : ∃ lab', Lp q w lab' wr' s st' v d ∧ (∀ k, k < wr.heap.size → lab' k = lab k) ∧ ∀ k, wr.heap.size ≤ k → Z5 w.heap.size lab' k := by
  obtain ⟨⟨cs, L, c1, c2, c3⟩, R, hl⟩ := h
  have R2 := R.trans hr
  have hq : q < w.heap.size := R.qlt
  have hsz := R.size
  have C : Chg lab (· = 99) wr wr' (fun k => if k < wr.heap.size then lab k else 5) := ⟨hr.size, fun k hk hs => ⟨if_pos hk, hr.block (fun e => hs (by rw [e]; exact hl q hq)) hk⟩⟩
  rw [setRow_sz] at c2 c3
  obtain ⟨⟨cs', bs, n, e⟩, _, _⟩ := id R2
  refine ⟨fun k => if k < wr.heap.size then lab k else 5, ⟨⟨cs', L, ⟨bs, n, e⟩, ?_, ?_⟩, R2, fun k hk => ?_⟩, fun k hk => if_pos hk, fun k hk => ⟨by omega, if_neg (by omega)⟩⟩
  · rw [setRow_sz]; exact c2.chg C (by decide)
  · rw [setRow_sz]; exact c3.move (zm_chg C (by decide))
  · show (if k < wr.heap.size then lab k else 5) = 99
    rw [if_pos (by omega)]; exact hl k hk
theorem Lp.row (h : Lp q w lab wr s st v d) : wr.rowIs q 67 4 (pF s st) := h.2.1.2.1
theorem Lp.more (h : Lp q w lab wr s st v d) (op a b bi ty : Int) (ls : List Int) (bo el : Fs) (LA B E : Option Addr) (lc bc ec : Nat) (h1 : Lq (Zm w.heap.size lab wr) wr LA ls) (h2 : Tr (Zm w.heap.size lab wr) wr B bo) (h3 : Tr (Zm w.heap.size lab wr) wr E el) (hn : (d.len + 1) * 112 ≤ 140737488355328) :
    ∃ g cap w' lab', (Builtin.append_ #[22, 22] 22 #[v, .slice (some ⟨wr.heap.size, 0, none⟩) 1 1]).run Try.prog (wr.alloc (.cells #[.int .i64 op, .int .i64 a, .int .i64 b, .int .i64 bi, .int .i64 ty, .slice LA ls.length lc, .slice B bo.len bc, .slice E el.len ec] 47)) = .ok (.slice (some ⟨g, 0, none⟩) (d.len + 1) cap) w' ∧ Lp q w lab' w' s st (.slice (some ⟨g, 0, none⟩) (d.len + 1) cap) (d.app (.cons op a b bi ty ls bo el .nil)) := by
  obtain ⟨⟨cs, c⟩, R, hl⟩ := h
  have hq : q < w.heap.size := R.qlt
  have hsz := R.size
  obtain ⟨g, cap, w', lab', r, c2, C⟩ := c.more op a b bi ty ls bo el LA B E lc bc ec (by rw [setRow_sz]; exact h1) (by rw [setRow_sz]; exact h2) (by rw [setRow_sz]; exact h3) hn
  have hkq := C.2 q (by omega) (by rw [hl q hq]; decide)
  refine ⟨g, cap, w', lab', r, ⟨cs, c2⟩, ?_, fun k hk => (C.2 k (by omega) (by rw [hl k hk]; decide)).1.trans (hl k hk)⟩
  obtain ⟨L, ⟨bs, n, e⟩, _, _⟩ := c2
  obtain ⟨h1', h2', F0, h3'⟩ := R
  exact ⟨⟨cs, bs, n, e⟩, h2'.of_block hkq.2, F0, h3'⟩
/-- how far a reader may go yet -/
def pmz (s : ByteArray) (q : Nat) (W : World) : Nat :=
  match W.cell? ⟨q, 1, none⟩ with
  | some (.int _ a) => ((s.size : Int) - a + 1).toNat
  | _ => 0
theorem pmz_of {W : World} (h : W.rowIs q 67 4 (pF s st)) : pmz s q W = ((s.size : Int) - st.at_ + 1).toNat := by
  have c1 : W.cell? ⟨q, 1, none⟩ = some (.int .i64 st.at_) := h.cell (i := 1) (by decide)
  unfold pmz
  rw [c1]
theorem rl_err (k : Nat) (deep : Int) (other : Bool) (op : Int) (st1 : Rst) (hc : st.code = 0) (hb : rbyte s st = (op, st1)) (hc1 : st1.code = 0) (h11 : ¬ op = 11) (h5 : ¬ (op = 5 ∧ other = true)) (hx : ¬ (if badOf op deep st1 = 0 then (ro (rl s k) s op deep (met st1)).2.code else badOf op deep st1) = 0) :
    (rl s (k + 1) deep other st).2.2.code = if badOf op deep st1 = 0 then (ro (rl s k) s op deep (met st1)).2.code else badOf op deep st1 := by
  unfold rl
  rw [if_pos hc, hb]
  simp only []
  rw [if_neg (by rintro (x | x); exact x hc1; exact h11 x), if_neg h5]
  unfold badOf at hx ⊢
  by_cases h9 : fo op = 9
  · rw [if_pos h9]
    simp only [if_pos h9]
    unfold rfail
    rw [if_pos hc1]
    rfl
  · rw [if_neg h9]
    simp only [if_neg h9] at hx ⊢
    by_cases h8 : st1.count + 1 > 8192
    · rw [if_pos h8]
      simp only [if_pos h8]
      unfold rfail met
      rw [if_pos hc1]
      rfl
    · rw [if_neg h8]
      simp only [if_neg h8] at hx ⊢
      by_cases hd : (fo op = 1 ∨ fo op = 2) ∧ deep ≥ 32
      · simp only [if_pos hd]
        have hro : ro (rl s k) s op deep (met st1) = ({}, rfail (met st1) 1402) := by
          unfold ro
          rw [if_pos hd.1, if_pos hd.2]
        have hcd : (rfail (met st1) 1402).code = 1402 := by
          unfold rfail met
          rw [if_pos hc1]
        rw [hro]
        simp only []
        rw [rl_stop k deep other (by rw [hcd]; decide), hcd]
        rfl
      · simp only [if_neg hd] at hx ⊢
        rw [rl_stop k deep other hx]
        rfl
theorem pinstr_any (hs : s.size < 9223372036854775000) (k : Nat) (op deep : Int) (hd0 : 0 ≤ deep) (hL : PLR s k (deep + 1)) (hok : Rok s st) (hc : st.code = 0) (hn : (s.size : Int) - st.at_ < k) (w : World) (q : Nat) (h : w.rowIs q 67 4 (pF s st)) :
    Calls Try.prog 45 #[.pointer (some ⟨q, 0, none⟩), .int .i64 op, .int .i64 deep] w (Pi q w s op (badOf op deep st) (ro (rl s k) s op deep (met st))) := by
  by_cases hb : badOf op deep st = 0
  · rw [hb]
    exact pinstr_ok hs k op deep hd0 hL hok hc hn hb w q h
  · exact pinstr_bad op deep hok hc _ hb w q h
/-- an instruction read, and laid behind the others -/
theorem pone_more (hs : s.size < 9223372036854775000) (k : Nat) (op deep : Int) (hL : PLR s k (deep + 1)) (hok : Rok s st) (hc : st.code = 0) (hd0 : 0 ≤ deep) (hn : (s.size : Int) - st.at_ < k) (hlen : (d.len : Int) ≤ 8192) {W : World} (h : Lp q w lab W s st v d) :
    Calls Try.prog 45 #[.pointer (some ⟨q, 0, none⟩), .int .i64 op, .int .i64 deep] W fun e w2 =>
      (∃ (O : On) (LA A E : Option Addr) (lc c ec : Nat) (g cap : Nat) (w3 : World) (lab3 : Nat → Nat), Hid (badOf op deep st = 0 ∧ (ro (rl s k) s op deep (met st)).2.code = 0 ∧ O = (ro (rl s k) s op deep (met st)).1) ∧ e = .returned (.agg #[.int .i64 op, .int .i64 O.a, .int .i64 O.b, .int .i64 O.bi, .int .i64 O.ty, .slice LA O.ls.length lc, .slice A O.bo.len c, .slice E O.el.len ec]) ∧ w2.cell? ⟨q, 3, none⟩ = some (.int .i64 0) ∧ q < w2.heap.size ∧
        Hid ((Builtin.append_ #[22, 22] 22 #[v, .slice (some ⟨w2.heap.size + 1, 0, none⟩) 1 1]).run Try.prog ((w2.alloc (.cells #[.int .i64 op, .int .i64 O.a, .int .i64 O.b, .int .i64 O.bi, .int .i64 O.ty, .slice LA O.ls.length lc, .slice A O.bo.len c, .slice E O.el.len ec] 47)).alloc (.cells #[.int .i64 op, .int .i64 O.a, .int .i64 O.b, .int .i64 O.bi, .int .i64 O.ty, .slice LA O.ls.length lc, .slice A O.bo.len c, .slice E O.el.len ec] 47)) = .ok (.slice (some ⟨g, 0, none⟩) (d.len + 1) cap) w3) ∧ Hid (Lp q w lab3 w3 s (ro (rl s k) s op deep (met st)).2 (.slice (some ⟨g, 0, none⟩) (d.len + 1) cap) (d.app (.cons op O.a O.b O.bi O.ty O.ls O.bo O.el .nil)))) ∨
      (∃ (st' : Rst) (o a b bi ty : Int) (LA : Option Addr) (nl lc : Nat) (B : Option Addr) (nb bc : Nat) (E : Option Addr) (ne ec : Nat), e = .returned (.agg #[.int .i64 o, .int .i64 a, .int .i64 b, .int .i64 bi, .int .i64 ty, .slice LA nl lc, .slice B nb bc, .slice E ne ec]) ∧ Hid (¬ st'.code = 0 ∧ st'.code = (if badOf op deep st = 0 then (ro (rl s k) s op deep (met st)).2.code else badOf op deep st)) ∧ (∃ cd, (cd != 0) = true ∧ w2.cell? ⟨q, 3, none⟩ = some (.int .i64 cd)) ∧ q < w2.heap.size ∧ Hid (Ps q w w2 s st')) := by
  refine (pinstr_any hs k op deep hd0 hL hok hc hn W q h.row).mono ?_
  rintro e w2 (⟨hb, hrc, LA, lc, A, c, E, ec, he, hLT, hP⟩ | ⟨st', o, a, b, bi, ty, LA, nl, lc, B, nb, bc, E, ne, ec, he, hn0, hx, hP⟩)
  · obtain ⟨lab2, L2, _, hz⟩ := h.ps hP.out
    obtain ⟨lab3, L3, hlk, hz3⟩ := L2.ps ((Ps.start L2.row).later (La (c := #[.int .i64 op, .int .i64 (ro (rl s k) s op deep (met st)).1.a, .int .i64 (ro (rl s k) s op deep (met st)).1.b, .int .i64 (ro (rl s k) s op deep (met st)).1.bi, .int .i64 (ro (rl s k) s op deep (met st)).1.ty, .slice LA (ro (rl s k) s op deep (met st)).1.ls.length lc, .slice A (ro (rl s k) s op deep (met st)).1.bo.len c, .slice E (ro (rl s k) s op deep (met st)).1.el.len ec]) (t := 47) (Lz w2)))
    have hmv : ∀ k', Zn W.heap.size w2 k' → k' < w2.heap.size → Zm w.heap.size lab3 (w2.alloc (.cells #[.int .i64 op, .int .i64 (ro (rl s k) s op deep (met st)).1.a, .int .i64 (ro (rl s k) s op deep (met st)).1.b, .int .i64 (ro (rl s k) s op deep (met st)).1.bi, .int .i64 (ro (rl s k) s op deep (met st)).1.ty, .slice LA (ro (rl s k) s op deep (met st)).1.ls.length lc, .slice A (ro (rl s k) s op deep (met st)).1.bo.len c, .slice E (ro (rl s k) s op deep (met st)).1.el.len ec] 47)) k' ∧ (w2.alloc (.cells #[.int .i64 op, .int .i64 (ro (rl s k) s op deep (met st)).1.a, .int .i64 (ro (rl s k) s op deep (met st)).1.b, .int .i64 (ro (rl s k) s op deep (met st)).1.bi, .int .i64 (ro (rl s k) s op deep (met st)).1.ty, .slice LA (ro (rl s k) s op deep (met st)).1.ls.length lc, .slice A (ro (rl s k) s op deep (met st)).1.bo.len c, .slice E (ro (rl s k) s op deep (met st)).1.el.len ec] 47)).heap[k']? = w2.heap[k']? := fun k' h1 h2 => ⟨⟨⟨(hz k' h1.1).1, by rw [hlk k' h2]; exact (hz k' h1.1).2⟩, nf_of ((La (Lz w2)).block h2) h1.2⟩, (La (Lz w2)).block h2⟩
    obtain ⟨g, cap, w3, lab4, r4, L4⟩ := L3.more op (ro (rl s k) s op deep (met st)).1.a (ro (rl s k) s op deep (met st)).1.b (ro (rl s k) s op deep (met st)).1.bi (ro (rl s k) s op deep (met st)).1.ty (ro (rl s k) s op deep (met st)).1.ls (ro (rl s k) s op deep (met st)).1.bo (ro (rl s k) s op deep (met st)).1.el LA A E lc c ec (hLT.out.1.move hmv) (hLT.out.2.1.move hmv) (hLT.out.2.2.move hmv) (by omega)
    rw [World.size_alloc] at r4
    exact Or.inl ⟨_, LA, A, E, lc, c, ec, g, cap, w3, lab4, ⟨hb, hrc, rfl⟩, he, by have := hP.out.code.1; rwa [hrc] at this, hP.out.code.2, r4, L4⟩
  · exact Or.inr ⟨st', o, a, b, bi, ty, LA, nl, lc, B, nb, bc, E, ne, ec, he, ⟨hn0, hx⟩, ⟨st'.code, by simpa using hn0, hP.out.code.1⟩, hP.out.code.2, h.2.1.trans hP.out⟩
theorem plist_step (hs : s.size < 9223372036854775000) (n : Nat) (deep : Int) (hd0 : 0 ≤ deep) (IH : ∀ k, 0 < k → k ≤ n → PLR s k (deep + 1)) : PLR s (n + 1) deep := by
  intro other st hok hc hn w q h
  have L0 := Lp.start h
  replace IH : Hid (∀ k, 0 < k → k ≤ n → PLR s k (deep + 1)) := IH
  obtain ⟨R, hR⟩ : ∃ R, R = rl s (n + 1) deep other st := ⟨_, rfl⟩
  rw [← hR]
  replace hR : Hid (R = rl s (n + 1) deep other st) := hR
  replace L0 : Hid (Lp q w (fun _ => 99) w s st (.slice none 0 0) .nil) := L0
  replace hok : Hid (Rok s st) := hok
  replace hn : Hid ((s.size : Int) - st.at_ < ((n + 1 : Nat) : Int)) := hn
  replace hc : Hid (st.code = 0) := hc
  clear h
  go_enter Try.func28, Try.ntmps28
  go_wp2_with fail
  go_loopw [8] (fun v wr => ∃ (lab : Nat → Nat) (d : Fs) (st' : Rst) (k : Nat), Lp q w lab wr s st' v d ∧ Rok s st' ∧ st'.code = 0 ∧ k ≤ n + 1 ∧ (s.size : Int) - st'.at_ < (k : Int) ∧ (d.len : Int) ≤ st'.count ∧ R = (d.app (rl s k deep other st').1, (rl s k deep other st').2.1, (rl s k deep other st').2.2)) (fun v wr => pmz s q wr)
  case atStart => exact ⟨fun _ => 99, .nil, st, n + 1, L0.out, hok.out, hc.out, Nat.le_refl _, hn.out, hok.out.2.1, hR.out⟩
  case round =>
    clear hR hok hn L0 hc
    obtain ⟨lab, d, st', k, hL, hok, hc, hkn, hnk, hlen, hR⟩ := hrel
    obtain ⟨A, cap, rfl⟩ := hL.form
    have hrow := hL.row
    obtain ⟨a0, cd, ct⟩ := st'
    obtain rfl : cd = 0 := hc
    have hin := hok.1
    have hk0 : 0 < k := by have h2 := hin.2; simp only at hnk h2; omega
    obtain ⟨k', rfl⟩ : ∃ k', k = k' + 1 := ⟨k - 1, by omega⟩
    have hcn : ct ≤ 8192 := hok.2.2 rfl
    have hc0 : 0 ≤ ct := hok.2.1
    have hnext : Hid (Calls Try.prog 44 #[.pointer (some ⟨q, 0, none⟩)] wr fun e' w1 => e' = .returned (.int .i64 (rbyte s ⟨a0, 0, ct⟩).1) ∧ ∃ lab1, Hid (Lp q w lab1 w1 s (rbyte s ⟨a0, 0, ct⟩).2 (.slice A d.len cap) d)) := by
      refine (pnext_any hs hin wr hrow).mono ?_
      rintro e w1 ⟨rfl, R1⟩
      obtain ⟨lab1, L1, _⟩ := hL.ps R1.out
      exact ⟨rfl, lab1, L1⟩
    have hct1 := rbyte_ct s ⟨a0, 0, ct⟩
    have hin1 := rbyte_in (s := s) (st := ⟨a0, 0, ct⟩) hin
    have hlt1 := fun hc => rbyte_lt (s := s) (st := ⟨a0, 0, ct⟩) hc
    have hmz := pmz_of hrow
    have herr := fun op st1 hb => rl_err (s := s) k' deep other (st := ⟨a0, 0, ct⟩) op st1 rfl hb
    have hR0 := hR
    unfold rl at hR
    rw [if_pos rfl] at hR
    generalize hB : rbyte s ⟨a0, 0, ct⟩ = B at *
    obtain ⟨op, a1, cd1, ct1⟩ := B
    replace herr := herr op ⟨a1, cd1, ct1⟩ rfl
    simp only at hnext hct1 hin1 hlt1 hR herr
    obtain rfl : ct1 = ct := hct1
    by_cases h1 : cd1 = 0
    case neg =>
      rw [if_pos (Or.inl h1)] at hR
      have h11 : (cd1 != 0) = true := by simpa using h1
      have hR1 : Hid (R = (d, false, ⟨a1, cd1, ct1⟩)) := by show R = _; rw [hR, Fs.app_nil]
      clear hL hok hnk hlen hrow hR hR0 IH hin hin1 hlt1 hmz herr hB
      go_wp2_with (go_at_call 44; refine hnext.out.mono ?_; clear hnext; rintro e w1 ⟨rfl, lab1, L1⟩; obtain ⟨e3, hl1⟩ := L1.out.2.1.code)
      go_ret2
      rw [hR1.out]
      exact Or.inr ⟨h1, rfl, ⟨a1, cd1, ct1⟩, rfl, L1.out.2.1⟩
    subst h1
    by_cases h2 : op = 11
    · subst h2
      rw [if_pos (Or.inr rfl)] at hR
      have hR1 : Hid (R = (d, false, ⟨a1, 0, ct1⟩)) := by show R = _; rw [hR, Fs.app_nil]
      clear hL hok hnk hlen hrow hR hR0 IH hin hin1 hlt1 hmz herr hB
      go_wp2_with (go_at_call 44; refine hnext.out.mono ?_; clear hnext; rintro e w1 ⟨rfl, lab1, L1⟩; obtain ⟨e3, hl1⟩ := L1.out.2.1.code)
      go_ret2
      rw [hR1.out]
      exact Or.inl ⟨rfl, A, cap, rfl, L1.out.tr, L1.out.2.1⟩
    have h22 : (op == 11) = false := beq_false h2
    rw [if_neg (by rintro (x | x); exact x rfl; exact h2 x)] at hR
    by_cases h5 : op = 5 ∧ other = true
    · obtain ⟨rfl, rfl⟩ := h5
      rw [if_pos ⟨rfl, rfl⟩] at hR
      have hR1 : Hid (R = (d, true, ⟨a1, 0, ct1⟩)) := by show R = _; rw [hR, Fs.app_nil]
      clear hL hok hnk hlen hrow hR hR0 IH hin hin1 hlt1 hmz herr hB h2
      go_wp2_with (go_at_call 44; refine hnext.out.mono ?_; clear hnext; rintro e w1 ⟨rfl, lab1, L1⟩; obtain ⟨e3, hl1⟩ := L1.out.2.1.code)
      go_ret2
      rw [hR1.out]
      exact Or.inl ⟨rfl, A, cap, rfl, L1.out.tr, L1.out.2.1⟩
    rw [if_neg h5] at hR
    have hok1 : Rok s ⟨a1, 0, ct1⟩ := ⟨hin1, hc0, fun _ => hcn⟩
    have hl1' := hlt1 rfl
    have hn1 : (s.size : Int) - a1 < (k' : Int) := by simp only at hnk; omega
    have hlen2 : (d.len : Int) ≤ ct1 := hlen
    have hk1 : 0 < k' := by have := hin1.2; simp only at this; omega
    have hone : Hid (∀ W lab, Lp q w lab W s ⟨a1, 0, ct1⟩ (.slice A d.len cap) d → Calls Try.prog 45 #[.pointer (some ⟨q, 0, none⟩), .int .i64 op, .int .i64 deep] W fun e w2 =>
      (∃ (O : On) (LA A' E : Option Addr) (lc c ec : Nat) (g cap' : Nat) (w3 : World) (lab3 : Nat → Nat), Hid (badOf op deep ⟨a1, 0, ct1⟩ = 0 ∧ (ro (rl s k') s op deep (met ⟨a1, 0, ct1⟩)).2.code = 0 ∧ O = (ro (rl s k') s op deep (met ⟨a1, 0, ct1⟩)).1) ∧ e = .returned (.agg #[.int .i64 op, .int .i64 O.a, .int .i64 O.b, .int .i64 O.bi, .int .i64 O.ty, .slice LA O.ls.length lc, .slice A' O.bo.len c, .slice E O.el.len ec]) ∧ w2.cell? ⟨q, 3, none⟩ = some (.int .i64 0) ∧ q < w2.heap.size ∧
        Hid ((Builtin.append_ #[22, 22] 22 #[.slice A d.len cap, .slice (some ⟨w2.heap.size + 1, 0, none⟩) 1 1]).run Try.prog ((w2.alloc (.cells #[.int .i64 op, .int .i64 O.a, .int .i64 O.b, .int .i64 O.bi, .int .i64 O.ty, .slice LA O.ls.length lc, .slice A' O.bo.len c, .slice E O.el.len ec] 47)).alloc (.cells #[.int .i64 op, .int .i64 O.a, .int .i64 O.b, .int .i64 O.bi, .int .i64 O.ty, .slice LA O.ls.length lc, .slice A' O.bo.len c, .slice E O.el.len ec] 47)) = .ok (.slice (some ⟨g, 0, none⟩) (d.len + 1) cap') w3) ∧ Hid (Lp q w lab3 w3 s (ro (rl s k') s op deep (met ⟨a1, 0, ct1⟩)).2 (.slice (some ⟨g, 0, none⟩) (d.len + 1) cap') (d.app (.cons op O.a O.b O.bi O.ty O.ls O.bo O.el .nil)))) ∨
      (∃ (st' : Rst) (o a b bi ty : Int) (LA : Option Addr) (nl lc : Nat) (B : Option Addr) (nb bc : Nat) (E : Option Addr) (ne ec : Nat), e = .returned (.agg #[.int .i64 o, .int .i64 a, .int .i64 b, .int .i64 bi, .int .i64 ty, .slice LA nl lc, .slice B nb bc, .slice E ne ec]) ∧ Hid (¬ st'.code = 0 ∧ st'.code = (if badOf op deep ⟨a1, 0, ct1⟩ = 0 then (ro (rl s k') s op deep (met ⟨a1, 0, ct1⟩)).2.code else badOf op deep ⟨a1, 0, ct1⟩)) ∧ (∃ cd, (cd != 0) = true ∧ w2.cell? ⟨q, 3, none⟩ = some (.int .i64 cd)) ∧ q < w2.heap.size ∧ Hid (Ps q w w2 s st'))) := fun W lab0 L => pone_more hs k' op deep (IH.out k' hk1 (by omega)) hok1 rfl hd0 hn1 (by omega) L
    have hbad : Hid (∀ st' : Rst, ¬ st'.code = 0 → st'.code = (if badOf op deep ⟨a1, 0, ct1⟩ = 0 then (ro (rl s k') s op deep (met ⟨a1, 0, ct1⟩)).2.code else badOf op deep ⟨a1, 0, ct1⟩) → ¬ R.2.2.code = 0 ∧ st'.code = R.2.2.code) := by
      intro st' h1 h3
      have h4 := herr rfl h2 h5 (by rw [← h3]; exact h1)
      have h5' : R.2.2.code = st'.code := by rw [hR0, h3]; exact h4
      exact ⟨by rw [h5']; exact h1, h5'.symm⟩
    have hgood : Hid (∀ (g cap' : Nat) (w3 : World) (lab3 : Nat → Nat) (O : On), badOf op deep ⟨a1, 0, ct1⟩ = 0 → (ro (rl s k') s op deep (met ⟨a1, 0, ct1⟩)).2.code = 0 → O = (ro (rl s k') s op deep (met ⟨a1, 0, ct1⟩)).1 → Lp q w lab3 w3 s (ro (rl s k') s op deep (met ⟨a1, 0, ct1⟩)).2 (.slice (some ⟨g, 0, none⟩) (d.len + 1) cap') (d.app (.cons op O.a O.b O.bi O.ty O.ls O.bo O.el .nil)) → (∃ (lab : Nat → Nat) (d' : Fs) (st' : Rst) (k : Nat), Lp q w lab w3 s st' (.slice (some ⟨g, 0, none⟩) (d.len + 1) cap') d' ∧ Rok s st' ∧ st'.code = 0 ∧ k ≤ n + 1 ∧ (s.size : Int) - st'.at_ < (k : Int) ∧ (d'.len : Int) ≤ st'.count ∧ R = (d'.app (rl s k deep other st').1, (rl s k deep other st').2.1, (rl s k deep other st').2.2)) ∧ pmz s q w3 < pmz s q wr) := by
      intro g cap' w3 lab3 O hb hrc hO L3
      have hfo : ¬ fo op = 9 ∧ ¬ ct1 + 1 > 8192 := by
        unfold badOf at hb
        split at hb
        · exact absurd hb (by decide)
        · split at hb
          · exact absurd hb (by decide)
          · exact ⟨by assumption, by assumption⟩
      rw [if_neg hfo.1, if_neg hfo.2] at hR
      have hok2 : Rok s (met ⟨a1, 0, ct1⟩) := ⟨hin1, by show 0 ≤ ct1 + 1; omega, fun _ => by show ct1 + 1 ≤ 8192; omega⟩
      have hro1 := ro_ge (s := s) (rl_ge k') op deep (st := met ⟨a1, 0, ct1⟩) hok2.1
      have hro2 := ro_ct (s := s) (rl_ct (s := s) k') (rl_c0 (s := s) k') op deep (met ⟨a1, 0, ct1⟩)
      generalize ro (rl s k') s op deep (met ⟨a1, 0, ct1⟩) = OS at *
      obtain ⟨O', st2⟩ := OS
      simp only at hO hrc hro1 hro2 L3 hR
      subst hO
      have h1 : a1 ≤ st2.at_ := hro1.2
      have h2' : ct1 + 1 ≤ st2.count := hro2.1
      refine ⟨⟨lab3, _, st2, k', L3, ⟨hro1.1, by omega, fun hc => hro2.2 hc (by show ct1 + 1 ≤ 8192; omega)⟩, hrc, by omega, by omega, ?_, ?_⟩, ?_⟩
      · rw [Fs.len_app]
        show ((d.len + 1 : Nat) : Int) ≤ st2.count
        omega
      · rw [hR, Fs.app_app]
        rfl
      · rw [hmz, pmz_of L3.row]
        have hi := hro1.1.2
        show ((s.size : Int) - st2.at_ + 1).toNat < ((s.size : Int) - a0 + 1).toNat
        have hq1 : a0 < a1 := hl1'.1
        omega
    have h5c : (op == 5) = false ∨ ((op == 5) = true ∧ other = false) := by
      by_cases h : op = 5
      · exact Or.inr ⟨by simpa using h, by
          cases other with
          | false => rfl
          | true => exact absurd ⟨h, rfl⟩ h5⟩
      · exact Or.inl (beq_false h)
    clear hL hok hnk hlen hrow hR hR0 IH hin hin1 hlt1 hmz herr hB hok1 hl1' hn1 hlen2 hk1 h2 h5
    have h5d : ((op == 5) = false) ∨ (op = 5 ∧ other = false) := h5c.imp id (fun x => ⟨by simpa using x.1, x.2⟩)
    clear h5c
    rcases h5d with h5e | ⟨rfl, rfl⟩
    all_goals
      go_wp2_with (first | (go_at_call 44; refine hnext.out.mono ?_; clear hnext; rintro e w1 ⟨rfl, lab1, L1⟩; obtain ⟨e3, hl1⟩ := L1.out.2.1.code) | (go_at_call 45; refine (hone.out _ _ L1.out).mono ?_; clear hone; rintro e w2 (⟨O, LA, A', E, lc, c, ec, g, cap', w3, lab3, hg, rfl, z0, zl, r4, L3⟩ | ⟨st5, o, a, b, bi, ty, LA, nl, lc, B, nb, bc, E, ne, ec, rfl, hx, ⟨cd5, hcd5, z0⟩, zl, P5⟩)) | (at_builtin; refine wpList_app rfl _ _ 22 rfl _ _ _ rfl rfl r4.out ?_))
      · exact hgood.out _ _ _ _ _ hg.out.1 hg.out.2.1 hg.out.2.2 L3.out
      · go_ret2
        obtain ⟨q1, q2⟩ := hbad.out st5 hx.out.1 hx.out.2
        exact Or.inr ⟨q1, rfl, st5, q2, P5.out.later (La (Lz _))⟩
theorem plist_all (hs : s.size < 9223372036854775000) : ∀ (n m : Nat) (deep : Int), m ≤ n → 0 ≤ deep → PLR s (m + 1) deep
  | 0, m, deep, hm, hd => plist_step hs m deep hd (fun k h1 h2 => by omega)
  | n + 1, m, deep, hm, hd => plist_step hs m deep hd (fun k h1 h2 => by
      obtain ⟨k', rfl⟩ : ∃ k', k = k' + 1 := ⟨k - 1, by omega⟩
      exact plist_all hs n k' (deep + 1) (by omega) (by omega))
theorem plist_any (hs : s.size < 9223372036854775000) (n : Nat) (deep : Int) (hd : 0 ≤ deep) : PLR s (n + 1) deep := plist_all hs n n deep (Nat.le_refl _) hd
theorem prd_new (w : World) (s : ByteArray) (a : Int) : (w.alloc (.cells #[.string s, .int .i64 a, .int .i64 8192, .int .i64 0] 67)).rowIs w.heap.size 67 4 (pF s ⟨a, 0, 0⟩) := ⟨_, heap_alloc_new w _, rfl, fun i hi => by
    match i, hi with
    | 0, _ => rfl
    | 1, _ => rfl
    | 2, _ => rfl
    | 3, _ => rfl⟩
theorem Ps.fresh {w W w' : World} {q : Nat} {s : ByteArray} {st : Rst} (hl : Later w W) (hq : w.heap.size ≤ q) (h : Ps q W w' s st) : Later w w' := by
  obtain ⟨h1, h2, F0, h3⟩ := h
  exact hl.turned h3 hq h1
theorem iget_any (s : ByteArray) (hs : s.size < 9223372036854775000) (at_ : Int) (ha : -9223372036854775808 ≤ at_ ∧ at_ ≤ 9223372036854775807) (w : World) :
    Calls Try.prog 17 #[.string s, .int .i64 at_] w fun e w' => ∃ A c, e = .returned (.tuple #[.slice A (unI s at_).1.len c, .int .i64 (unI s at_).2.1, .int .i64 (unI s at_).2.2]) ∧ Hid (Tr (fun k => w.heap.size ≤ k ∧ Nf w' k) w' A (unI s at_).1) ∧ Hid (Later w w') := by
  clear ha
  unfold unI
  by_cases h : 0 ≤ at_ ∧ at_ ≤ s.size
  · rw [if_pos h]
    have hlist : Hid (Calls Try.prog 28 #[.pointer (some ⟨w.heap.size, 0, none⟩), .int .i64 0, .bool false] (w.alloc (.cells #[.string s, .int .i64 at_, .int .i64 8192, .int .i64 0] 67)) (PLp w.heap.size (w.alloc (.cells #[.string s, .int .i64 at_, .int .i64 8192, .int .i64 0] 67)) s (rl s (s.size + 1) 0 false ⟨at_, 0, 0⟩))) :=
      plist_any hs s.size 0 (by decide) false ⟨at_, 0, 0⟩ ⟨h, by show (0 : Int) ≤ 0; decide, fun _ => by show (0 : Int) ≤ 8192; decide⟩ rfl (by show (s.size : Int) - at_ < ((s.size + 1 : Nat) : Int); omega) _ _ (prd_new w s at_)
    have h1 : ¬ at_ < 0 := by omega
    have h2 : ¬ (s.size : Int) < at_ := by omega
    generalize rl s (s.size + 1) 0 false ⟨at_, 0, 0⟩ = r at *
    obtain ⟨f, b, a1, cd, ct⟩ := r
    by_cases hc : cd = 0
    · subst hc
      rw [if_pos rfl]
      clear h
      have hl2 : Hid (Calls Try.prog 28 #[.pointer (some ⟨w.heap.size, 0, none⟩), .int .i64 0, .bool false] (w.alloc (.cells #[.string s, .int .i64 at_, .int .i64 8192, .int .i64 0] 67)) fun e w2 => ∃ A c l, e = .returned (.tuple #[.slice A f.len c, .int .i64 l]) ∧ Hid (Tr (fun k => w.heap.size ≤ k ∧ Nf w2 k) w2 A f) ∧ Hid (Later w w2) ∧ w2.cell? ⟨w.heap.size, 3, none⟩ = some (.int .i64 0) ∧ w2.cell? ⟨w.heap.size, 1, none⟩ = some (.int .i64 a1) ∧ w.heap.size < w2.heap.size) := by
        refine hlist.out.mono ?_
        rintro e w2 (⟨_, A, c, he, hT, hP⟩ | ⟨hx, _⟩)
        · exact ⟨A, c, _, he, hT.out.mono (fun k hk => ⟨by have := hk.1; rw [World.size_alloc] at this; omega, hk.2⟩), Ps.fresh (La (Lz _)) (Nat.le_refl _) hP.out, hP.out.code.1, hP.out.cell 1 (by decide), hP.out.code.2⟩
        · exact absurd rfl hx
      clear hlist
      go_enter Try.func17, Try.ntmps17
      go_wp2_with (go_at_call 28; refine hl2.out.mono ?_; clear hl2; rintro e w2 ⟨A, c, l, rfl, hT, hL, e3, e1, hl⟩)
      go_quiet (fail)
      go_wp2_with fail
      go_ret3
      exact ⟨A, c, rfl, hT.out.move (fun k hk hl => ⟨⟨hk.1, nf_of ((show Later w2 _ by repeat first | exact Lz _ | apply Ld | apply Ln | apply Lv).block hl) hk.2⟩, (show Later w2 _ by repeat first | exact Lz _ | apply Ld | apply Ln | apply Lv).block hl⟩), hL.out.trans (by repeat first | exact Lz _ | apply Ld | apply Ln | apply Lv)⟩
    · rw [if_neg hc]
      have hc2 : (cd != 0) = true := by simpa using hc
      have hl2 : Hid (Calls Try.prog 28 #[.pointer (some ⟨w.heap.size, 0, none⟩), .int .i64 0, .bool false] (w.alloc (.cells #[.string s, .int .i64 at_, .int .i64 8192, .int .i64 0] 67)) fun e w2 => e = .returned (.tuple #[.slice none 0 0, .int .i64 0]) ∧ Hid (Later w w2) ∧ w2.cell? ⟨w.heap.size, 3, none⟩ = some (.int .i64 cd) ∧ w.heap.size < w2.heap.size) := by
        refine hlist.out.mono ?_
        rintro e w2 (⟨hx, _⟩ | ⟨_, he, st5, hc5, hP⟩)
        · exact absurd hx hc
        · exact ⟨he, Ps.fresh (La (Lz _)) (Nat.le_refl _) hP.out, by have := hP.out.code.1; rwa [hc5.out] at this, hP.out.code.2⟩
      clear h hc hlist
      go_enter Try.func17, Try.ntmps17
      go_wp2_with (go_at_call 28; refine hl2.out.mono ?_; clear hl2; rintro e w2 ⟨rfl, hL, e3, hl⟩)
      first | go_quiet (fail) | skip
      go_wp2_with fail
      go_ret3
      first | exact ⟨none, 0, rfl, Or.inl rfl, hL.out.trans (by repeat first | exact Lz _ | apply Ld | apply Ln | apply Lv)⟩ | exact ⟨none, ⟨0, rfl⟩, Or.inl rfl, hL.out.trans (by repeat first | exact Lz _ | apply Ld | apply Ln | apply Lv)⟩
  · rw [if_neg h]
    by_cases h1 : at_ < 0
    · clear h
      go_enter Try.func17, Try.ntmps17
      go_wp2_with fail
      go_ret3
      first | exact ⟨none, 0, rfl, Or.inl rfl, Lz _⟩ | exact ⟨none, ⟨0, rfl⟩, Or.inl rfl, Lz _⟩
    · have h2 : (s.size : Int) < at_ := by omega
      clear h
      go_enter Try.func17, Try.ntmps17
      go_wp2_with fail
      go_ret3
      first | exact ⟨none, 0, rfl, Or.inl rfl, Lz _⟩ | exact ⟨none, ⟨0, rfl⟩, Or.inl rfl, Lz _⟩
end Go.Proofs.Ytkdfmgdadnlnlaa.gi
