/- package instr's reader: blocks (block), one instruction (instr). -/
import Derived.Test.YtkdfmgdadnlnlaaKC
set_option linter.unusedVariables false
set_option linter.unusedSimpArgs false
set_option maxRecDepth 100000
set_option maxHeartbeats 8000000
namespace Go.Proofs.Ytkdfmgdadnlnlaa.gi
open Go.RowKit
variable {q p : Nat} {w W W' : World} {s : ByteArray} {st st' : Rst} {F G : Nat → Value}
/-- how a list that was read ends -/
def PLp (q : Nat) (w : World) (s : ByteArray) (R : Fs × Bool × Rst) (e : Ending) (w' : World) : Prop :=
  (R.2.2.code = 0 ∧ ∃ A c, e = .returned (.tuple #[.slice A R.1.len c, .int .i64 (if R.2.1 = true then 5 else 11)]) ∧ Hid (Tr (Zn w.heap.size w') w' A R.1) ∧ Hid (Ps q w w' s R.2.2)) ∨
  (¬ R.2.2.code = 0 ∧ e = .returned (.tuple #[.slice none 0 0, .int .i64 0]) ∧ ∃ st' : Rst, Hid (st'.code = R.2.2.code) ∧ Hid (Ps q w w' s st'))
/-- what reading a list makes, if there are bytes enough -/
def PLR (s : ByteArray) (k : Nat) (deep : Int) : Prop := ∀ (other : Bool) (st : Rst), Rok s st → st.code = 0 → (s.size : Int) - st.at_ < k → ∀ (w : World) (q : Nat), w.rowIs q 67 4 (pF s st) →
  Calls Try.prog 28 #[.pointer (some ⟨q, 0, none⟩), .int .i64 deep, .bool other] w (PLp q w s (rl s k deep other st))
theorem rl_tc : ∀ (n : Nat) (d : Int) (o : Bool) (st : Rst), (rl s n d o st).2.1 = true → (rl s n d o st).2.2.code = 0
  | 0, d, o, st, h => by simp [rl] at h
  | n + 1, d, o, st, h => by
    unfold rl at h ⊢
    split
    · rename_i h0
      rw [if_pos h0] at h
      split
      · rename_i h1; rw [if_pos h1] at h; cases h
      · rename_i h1
        rw [if_neg h1] at h
        split
        · show (rbyte s st).2.code = 0
          exact Classical.not_not.1 (fun hc => h1 (Or.inl hc))
        · rename_i h2
          rw [if_neg h2] at h
          split
          · rename_i h3; rw [if_pos h3] at h; cases h
          · rename_i h3
            rw [if_neg h3] at h
            split
            · rename_i h4; rw [if_pos h4] at h; cases h
            · rename_i h4
              rw [if_neg h4] at h
              exact rl_tc n d o _ h
    · rename_i h0; rw [if_neg h0] at h; cases h
/-- how a block that was read ends -/
def Pb (q p : Nat) (w : World) (s : ByteArray) (op : Int) (r : On × Rst) (e : Ending) (W' : World) : Prop :=
  (r.2.code = 0 ∧ Pm q p w s op r e W') ∨ (¬ r.2.code = 0 ∧ e = .returned (.tuple #[]) ∧ ∃ (st' : Rst) (a b bi ty : Int) (LA : Option Addr) (nl lc : Nat) (B : Option Addr) (nb bc : Nat) (E : Option Addr) (ne ec : Nat), st'.code = r.2.code ∧ Hid (Po q p w W' s st' (fF op a b bi ty (.slice LA nl lc) (.slice B nb bc) (.slice E ne ec))))
theorem Po.bad {op a b bi ty : Int} {LA B E : Option Addr} {nl lc nb bc ne ec : Nat} {r : On × Rst} (h : Po q p w W s st' (fF op a b bi ty (.slice LA nl lc) (.slice B nb bc) (.slice E ne ec))) (hc : st'.code = r.2.code) (hn : ¬ r.2.code = 0) : Pb q p w s op r (.returned (.tuple #[])) W := Or.inr ⟨hn, rfl, st', _, _, _, _, _, _, _, _, _, _, _, _, _, hc, h⟩
theorem Po.lists (hp : w.heap.size ≤ W.heap.size) {R : Fs × Bool × Rst} {e : Ending} (h : Po q p w W s st F) (hh : PLp q W s R e W') :
    (R.2.2.code = 0 ∧ ∃ A c, e = .returned (.tuple #[.slice A R.1.len c, .int .i64 (if R.2.1 = true then 5 else 11)]) ∧ Hid (Tr (Zn W.heap.size W') W' A R.1) ∧ Hid (Po q p w W' s R.2.2 F)) ∨ (¬ R.2.2.code = 0 ∧ e = .returned (.tuple #[.slice none 0 0, .int .i64 0]) ∧ ∃ st' : Rst, Hid (st'.code = R.2.2.code) ∧ Hid (Po q p w W' s st' F)) := by
  rcases hh with ⟨h1, A, c, h2, h3, h4⟩ | ⟨h1, h2, st', h3, h4⟩
  · exact Or.inl ⟨h1, A, c, h2, h3, h.ps h4.out⟩
  · exact Or.inr ⟨h1, h2, st', h3, h.ps h4.out⟩
theorem Po.typ (hs : s.size < 9223372036854775000) (hin : Rin s st) (h : Po q p w W s st F) : Calls Try.prog 81 #[.pointer (some ⟨q, 0, none⟩)] W fun e w' => e = .returned (.int .i64 (rbyte s st).1) ∧ Hid (Po q p w w' s (rtyp s st) F) :=
  (ptyp_any hs hin W h.1.row).mono fun e w' hh => ⟨hh.1, h.ps hh.2.out⟩
theorem tr_set8 {B B' : Nat} {A : Option Addr} {f : Fs} {T : TypeId} {n : Nat} (h : Tr (Zn B W) W A f) (hr : W.rowIs p T n F) (i : Nat) (u : Value) (hB : B' ≤ B) (hp : p < B) : Tr (Zn B' (W.setCell ⟨p, i, none⟩ u)) (W.setCell ⟨p, i, none⟩ u) A f := by
  have ht : Turned p W (W.setCell ⟨p, i, none⟩ u) := (Turned.refl hr).set hr i u
  exact h.move (zn_mv hB fun k hk hl => ht.block (by omega) hl)
theorem pblock (hs : s.size < 9223372036854775000) (k : Nat) (op deep : Int) (hd0 : 0 ≤ deep) (hd1 : ¬ 32 ≤ deep) (hL : PLR s k (deep + 1)) (hok : Rok s st) (hc : st.code = 0) (hn : (s.size : Int) - st.at_ < k) (b3 : Bool) (hl : (lay op = 2 ∧ b3 = false) ∨ (lay op = 3 ∧ b3 = true)) (h : Po q p w W s st (f0 op)) :
    Calls Try.prog 64 #[.pointer (some ⟨q, 0, none⟩), .pointer (some ⟨p, 0, none⟩), .int .i64 (lay op), .int .i64 deep] W (Pb q p w s op (ro (rl s k) s op deep st)) := by
  have hin := hok.1
  have hop4 : decide (op = 4) = b3 := by
    rcases hl with ⟨h1, rfl⟩ | ⟨h1, rfl⟩
    · exact decide_eq_false (fun e => by rw [e] at h1; exact absurd h1 (by decide))
    · rcases lay_inv op with ⟨hl, hf⟩ | ⟨hl, hf⟩ | ⟨hl, hf⟩ | ⟨hl, hf⟩ | ⟨hl, hf⟩ | ⟨hl, hf⟩ | ⟨hl, hf⟩ | ⟨hl, hf⟩ | ⟨hl, hf⟩ | ⟨hl, hf, ho⟩ | ⟨hl, hf, ho⟩ | ⟨hl, hf, ho⟩ | ⟨hl, hf, ho⟩
      all_goals first | (rw [h1] at hl; exact absurd hl (by decide)) | exact decide_eq_true (fo_2 op hf)
  have hfo : fo op = 1 ∨ fo op = 2 := by
    rcases lay_inv op with ⟨hl', hf⟩ | ⟨hl', hf⟩ | ⟨hl', hf⟩ | ⟨hl', hf⟩ | ⟨hl', hf⟩ | ⟨hl', hf⟩ | ⟨hl', hf⟩ | ⟨hl', hf⟩ | ⟨hl', hf⟩ | ⟨hl', hf, ho⟩ | ⟨hl', hf, ho⟩ | ⟨hl', hf, ho⟩ | ⟨hl', hf, ho⟩
    all_goals first | exact Or.inl hf | exact Or.inr hf | (exfalso; rcases hl with ⟨x, _⟩ | ⟨x, _⟩ <;> omega)
  have hro : ro (rl s k) s op deep st = if (rl s k (deep + 1) b3 (rtyp s st)).2.1 = true then
      ({ ty := (rbyte s st).1, bo := (rl s k (deep + 1) b3 (rtyp s st)).1, el := (rl s k (deep + 1) false (rl s k (deep + 1) b3 (rtyp s st)).2.2).1 }, (rl s k (deep + 1) false (rl s k (deep + 1) b3 (rtyp s st)).2.2).2.2)
    else ({ ty := (rbyte s st).1, bo := (rl s k (deep + 1) b3 (rtyp s st)).1 }, (rl s k (deep + 1) b3 (rtyp s st)).2.2) := by
    unfold ro
    rw [if_pos hfo, if_neg (by omega), hop4]
  rw [hro]
  clear hro hfo hop4
  have htyp : Hid (Calls Try.prog 81 #[.pointer (some ⟨q, 0, none⟩)] W fun e w' => e = .returned (.int .i64 (rbyte s st).1) ∧ Hid (Po q p w w' s (rtyp s st) (f0 op))) := h.typ hs hin
  have hge := rtyp_ge (s := s) (st := st) hin
  have hct := rtyp_ct (s := s) st
  have hok1 : Rok s (rtyp s st) := ⟨hge.1, by rw [hct]; exact hok.2.1, fun _ => by rw [hct]; exact hok.2.2 hc⟩
  have hn1 : (s.size : Int) - (rtyp s st).at_ < k := by have := hge.2; omega
  have hws := h.1.size
  have hpl := h.2.1.lt
  have hwp := h.2.2
  generalize (rbyte s st).1 = t at *
  generalize rtyp s st = st1 at *
  clear hge hct
  obtain ⟨a1, cd1, ct1⟩ := st1
  have hlv : lay op = 2 ∨ lay op = 3 := hl.imp And.left And.left
  have hb3 : (lay op == 3) = b3 := by rcases hl with ⟨h1, rfl⟩ | ⟨h1, rfl⟩ <;> rw [h1] <;> rfl
  by_cases h1 : cd1 = 0
  case neg =>
    rw [rl_stop k (deep + 1) b3 h1]
    simp only [Bool.false_eq_true, if_false]
    have h11 : (cd1 != 0) = true := by simpa using h1
    clear hL hok hok1 hn hn1 hl
    generalize lay op = ly at *
    go_enter Try.func64, Try.ntmps64
    go_wp2_with (go_at_call 81; refine htyp.out.mono ?_; rintro e w1 ⟨rfl, P1⟩; obtain ⟨z1, z2, z3⟩ := P1.out.cell 4 (by decide); have P2 : Hid (Po q p w (w1.setCell ⟨p, 4, none⟩ (.int .i64 t)) s ⟨a1, cd1, ct1⟩ (fF op 0 0 0 t (.slice none 0 0) (.slice none 0 0) (.slice none 0 0))) := P1.out.set4; obtain ⟨y1, y2⟩ := P2.out.1.code)
    refine bodyPost_ret (results_none rfl _ _ _) rfl ?_
    exact P2.out.bad rfl h1
  subst h1
  have hcl : Hid (∀ W1, Po q p w W1 s ⟨a1, 0, ct1⟩ (fF op 0 0 0 t (.slice none 0 0) (.slice none 0 0) (.slice none 0 0)) → Calls Try.prog 28 #[.pointer (some ⟨q, 0, none⟩), .int .i64 (deep + 1), .bool b3] W1 (PLp q W1 s (rl s k (deep + 1) b3 ⟨a1, 0, ct1⟩))) := fun W1 P1 => hL b3 _ hok1 rfl hn1 W1 q P1.1.row
  have hg2 := (rl_ge (s := s) k (deep + 1) b3 ⟨a1, 0, ct1⟩ hok1.1).1
  have hc2 := rl_ct (s := s) k (deep + 1) b3 ⟨a1, 0, ct1⟩
  have htc := rl_tc (s := s) k (deep + 1) b3 ⟨a1, 0, ct1⟩
  generalize rl s k (deep + 1) b3 ⟨a1, 0, ct1⟩ = R1 at *
  obtain ⟨bo, more, st2⟩ := R1
  simp only at hcl hg2 hc2 htc ⊢
  have hcl2 : Hid (st2.code = 0 → ∀ W1 F1, Po q p w W1 s st2 F1 → Calls Try.prog 28 #[.pointer (some ⟨q, 0, none⟩), .int .i64 (deep + 1), .bool false] W1 (PLp q W1 s (rl s k (deep + 1) false st2))) := fun hz W1 F1 P1 => hL false _ ⟨hg2.1, by have := hc2.1; have := hok1.2.1; simp only at *; omega, fun _ => hc2.2 hz (hok1.2.2 rfl)⟩ hz (by have := hg2.2; simp only at *; omega) W1 q P1.1.row
  clear hL hok hn hn1 hg2 hc2 hok1
  by_cases h2 : st2.code = 0
  case neg =>
    have hm : more = false := by
      cases more with
      | false => rfl
      | true => exact absurd (htc rfl) h2
    subst hm
    simp only [Bool.false_eq_true, if_false]
    clear hcl2 htc hl
    generalize lay op = ly at *
    go_enter Try.func64, Try.ntmps64
    go_wp2_with (first | (go_at_call 81; refine htyp.out.mono ?_; rintro e w1 ⟨rfl, P1⟩; obtain ⟨z1, z2, z3⟩ := P1.out.cell 4 (by decide); have P2 : Hid (Po q p w (w1.setCell ⟨p, 4, none⟩ (.int .i64 t)) s ⟨a1, 0, ct1⟩ (fF op 0 0 0 t (.slice none 0 0) (.slice none 0 0) (.slice none 0 0))) := P1.out.set4; obtain ⟨y1, y2⟩ := P2.out.1.code) | (go_at_call 28; refine (hcl.out _ P2.out).mono ?_; intro e w2 hh; rcases P2.out.lists P2.out.1.size hh with ⟨hx, _⟩ | ⟨_, rfl, st3, hc3, P3⟩; exact absurd hx h2; obtain ⟨x1, x2, x3⟩ := P3.out.cell 6 (by decide); clear hh))
    go_end0
    exact P3.out.set6.bad hc3.out h2
  replace hcl2 : Hid (∀ W1 F1, Po q p w W1 s st2 F1 → Calls Try.prog 28 #[.pointer (some ⟨q, 0, none⟩), .int .i64 (deep + 1), .bool false] W1 (PLp q W1 s (rl s k (deep + 1) false st2))) := hcl2.out h2
  clear htc hl
  generalize lay op = ly at *
  cases more with
  | false =>
    simp only [Bool.false_eq_true, if_false]
    go_enter Try.func64, Try.ntmps64
    go_wp2_with (first | (go_at_call 81; refine htyp.out.mono ?_; rintro e w1 ⟨rfl, P1⟩; obtain ⟨z1, z2, z3⟩ := P1.out.cell 4 (by decide); have P2 : Hid (Po q p w (w1.setCell ⟨p, 4, none⟩ (.int .i64 t)) s ⟨a1, 0, ct1⟩ (fF op 0 0 0 t (.slice none 0 0) (.slice none 0 0) (.slice none 0 0))) := P1.out.set4; obtain ⟨y1, y2⟩ := P2.out.1.code) | (go_at_call 28; refine (hcl.out _ P2.out).mono ?_; intro e w2 hh; rcases P2.out.lists P2.out.1.size hh with ⟨_, A, c, rfl, hT, P3⟩ | ⟨hx, _⟩; rotate_left; exact absurd h2 hx; obtain ⟨x1, x2, x3⟩ := P3.out.cell 6 (by decide); clear hh))
    go_end0
    refine Or.inl ⟨h2, rfl, none, 0, A, c, none, 0, P3.out.set6, lq_nil _ _ _, ?_, tr_nil _ _ _⟩
    have hz := P2.out.1.size
    have hy := P2.out.2.1.lt
    exact tr_set8 hT.out P3.out.2.1 6 _ hz (by omega)
  | true =>
    simp only [if_true]
    generalize rl s k (deep + 1) false st2 = R2 at *
    obtain ⟨el, more2, st4⟩ := R2
    simp only at hcl2 ⊢
    by_cases h4 : st4.code = 0
    · go_enter Try.func64, Try.ntmps64
      go_wp2_with (first | (go_at_call 81; refine htyp.out.mono ?_; rintro e w1 ⟨rfl, P1⟩; obtain ⟨z1, z2, z3⟩ := P1.out.cell 4 (by decide); have P2 : Hid (Po q p w (w1.setCell ⟨p, 4, none⟩ (.int .i64 t)) s ⟨a1, 0, ct1⟩ (fF op 0 0 0 t (.slice none 0 0) (.slice none 0 0) (.slice none 0 0))) := P1.out.set4; obtain ⟨y1, y2⟩ := P2.out.1.code) | (go_at_call 28; refine (hcl.out _ P2.out).mono ?_; intro e w2 hh; clear hcl; rcases P2.out.lists P2.out.1.size hh with ⟨_, A, c, rfl, hT, P3⟩ | ⟨hx, _⟩; rotate_left; exact absurd h2 hx; obtain ⟨x1, x2, x3⟩ := P3.out.cell 6 (by decide); clear hh; have P4 : Hid (Po q p w (w2.setCell ⟨p, 6, none⟩ (.slice A bo.len c)) s st2 (fF op 0 0 0 t (.slice none 0 0) (.slice A bo.len c) (.slice none 0 0))) := P3.out.set6) | (go_at_call 28; refine (hcl2.out _ _ P4.out).mono ?_; intro e w3 hh; clear hcl2; rcases hh with ⟨_, A2, c2, rfl, hT2, Q5⟩ | ⟨hx, _⟩; rotate_left; exact absurd h4 hx; have P5 : Hid (Po q p w w3 s st4 (fF op 0 0 0 t (.slice none 0 0) (.slice A bo.len c) (.slice none 0 0))) := P4.out.ps Q5.out; obtain ⟨v1, v2, v3⟩ := P5.out.cell 7 (by decide)))
      all_goals
        go_end0
        have hz := P2.out.1.size
        have hy := P2.out.2.1.lt
        have hz4 := P4.out.1.size
        have hy4 := P4.out.2.1.lt
        have hq := P4.out.1.qlt
        have hb : Tr (Zn (w1.setCell ⟨p, 4, none⟩ (.int .i64 t)).heap.size w3) w3 A bo := (tr_set8 hT.out P3.out.2.1 6 _ (Nat.le_refl _) (by omega)).move (zn_mv (Nat.le_refl _) fun k hk hl => Q5.out.block (by omega) hl)
        exact Or.inl ⟨h4, rfl, none, 0, A, c, A2, c2, P5.out.set7, lq_nil _ _ _, tr_set8 hb P5.out.2.1 7 _ hz (by omega), tr_set8 hT2.out P5.out.2.1 7 _ hz4 (by omega)⟩
    · go_enter Try.func64, Try.ntmps64
      go_wp2_with (first | (go_at_call 81; refine htyp.out.mono ?_; rintro e w1 ⟨rfl, P1⟩; obtain ⟨z1, z2, z3⟩ := P1.out.cell 4 (by decide); have P2 : Hid (Po q p w (w1.setCell ⟨p, 4, none⟩ (.int .i64 t)) s ⟨a1, 0, ct1⟩ (fF op 0 0 0 t (.slice none 0 0) (.slice none 0 0) (.slice none 0 0))) := P1.out.set4; obtain ⟨y1, y2⟩ := P2.out.1.code) | (go_at_call 28; refine (hcl.out _ P2.out).mono ?_; intro e w2 hh; clear hcl; rcases P2.out.lists P2.out.1.size hh with ⟨_, A, c, rfl, hT, P3⟩ | ⟨hx, _⟩; rotate_left; exact absurd h2 hx; obtain ⟨x1, x2, x3⟩ := P3.out.cell 6 (by decide); clear hh; have P4 : Hid (Po q p w (w2.setCell ⟨p, 6, none⟩ (.slice A bo.len c)) s st2 (fF op 0 0 0 t (.slice none 0 0) (.slice A bo.len c) (.slice none 0 0))) := P3.out.set6) | (go_at_call 28; refine (hcl2.out _ _ P4.out).mono ?_; intro e w3 hh; clear hcl2; rcases P4.out.lists P4.out.1.size hh with ⟨hx, _⟩ | ⟨_, rfl, st5, hc5, P5⟩; exact absurd hx h4; obtain ⟨v1, v2, v3⟩ := P5.out.cell 7 (by decide); clear hh))
      go_end0
      exact P5.out.set7.bad hc5.out h4
/-- what reading one instruction makes -/
def Pi (q : Nat) (w : World) (s : ByteArray) (op : Int) (bad : Int) (r : On × Rst) (e : Ending) (w' : World) : Prop :=
  (bad = 0 ∧ r.2.code = 0 ∧ ∃ LA lc A c E ec, e = .returned (.agg #[.int .i64 op, .int .i64 r.1.a, .int .i64 r.1.b, .int .i64 r.1.bi, .int .i64 r.1.ty, .slice LA r.1.ls.length lc, .slice A r.1.bo.len c, .slice E r.1.el.len ec]) ∧ Hid (Lq (Zn w.heap.size w') w' LA r.1.ls ∧ Tr (Zn w.heap.size w') w' A r.1.bo ∧ Tr (Zn w.heap.size w') w' E r.1.el) ∧ Hid (Ps q w w' s r.2)) ∨
  (∃ (st' : Rst) (o a b bi ty : Int) (LA : Option Addr) (nl lc : Nat) (B : Option Addr) (nb bc : Nat) (E : Option Addr) (ne ec : Nat), e = .returned (.agg #[.int .i64 o, .int .i64 a, .int .i64 b, .int .i64 bi, .int .i64 ty, .slice LA nl lc, .slice B nb bc, .slice E ne ec]) ∧ ¬ st'.code = 0 ∧ st'.code = (if bad = 0 then r.2.code else bad) ∧ Hid (Ps q w w' s st'))
/-- why an Op may not begin here -/
def badOf (op deep : Int) (st : Rst) : Int := if fo op = 9 then 1403 else if st.count + 1 > 8192 then 1400 else if (fo op = 1 ∨ fo op = 2) ∧ deep ≥ 32 then 1402 else 0
theorem Ps.turned {T : TypeId} {n r : Nat} (h : Ps q w W s st) (hp : w.heap.size ≤ r) (hr : W.rowIs r T n F) (ht : Turned r W W') : Ps q w W' s st := by
  obtain ⟨h1, h2, F0, h3⟩ := h
  have hq : q < w.heap.size := h3.lt
  refine ⟨?_, h2.of_block (ht.block (by omega) h2.lt), F0, h3⟩
  obtain ⟨cs, bs, n, e⟩ := h1
  have hL : Later (w.setRow q cs) W := ⟨bs, n, e⟩
  have hs : (w.setRow q cs).heap.size = w.heap.size := by simp
  obtain ⟨bs', n', e'⟩ := hL.turned hr (by omega) ht
  exact ⟨cs, bs', n', e'⟩
theorem turned8 {T : TypeId} {r : Nat} (hr : W.rowIs r T 8 F) (x0 x1 x2 x3 x4 x5 x6 x7 : Value) : Turned r W ((((((((W.setCell ⟨r, 0, none⟩ x0).setCell ⟨r, 1, none⟩ x1).setCell ⟨r, 2, none⟩ x2).setCell ⟨r, 3, none⟩ x3).setCell ⟨r, 4, none⟩ x4).setCell ⟨r, 5, none⟩ x5).setCell ⟨r, 6, none⟩ x6).setCell ⟨r, 7, none⟩ x7) :=
  ((((((((Turned.refl hr).set hr 0 x0).set hr 1 x1).set hr 2 x2).set hr 3 x3).set hr 4 x4).set hr 5 x5).set hr 6 x6).set hr 7 x7
theorem deep_iff' (op d : Int) : ((lay op = 2 ∨ lay op = 3) ∧ 32 ≤ d) ↔ ((fo op = 1 ∨ fo op = 2) ∧ d ≥ 32) := by
  rcases lay_inv op with ⟨hl, hf⟩ | ⟨hl, hf⟩ | ⟨hl, hf⟩ | ⟨hl, hf⟩ | ⟨hl, hf⟩ | ⟨hl, hf⟩ | ⟨hl, hf⟩ | ⟨hl, hf⟩ | ⟨hl, hf⟩ | ⟨hl, hf, ho⟩ | ⟨hl, hf, ho⟩ | ⟨hl, hf, ho⟩ | ⟨hl, hf, ho⟩
  all_goals
    rw [hl, hf]
    omega
theorem pset2 {a b c c' x : Int} (hx : x = 8192 - c') : ∀ j, j < 4 → (if j = 2 then Value.int .i64 x else pF s ⟨a, b, c⟩ j) = pF s ⟨a, b, c'⟩ j := fun j hj => by
  subst hx
  match j, hj with
  | 0, _ => rfl
  | 1, _ => rfl
  | 2, _ => rfl
  | 3, _ => rfl
theorem pinstr_bad (op deep : Int) (hok : Rok s st) (hc : st.code = 0) (r : On × Rst) (hb : ¬ badOf op deep st = 0) (w : World) (q : Nat) (h : w.rowIs q 67 4 (pF s st)) :
    Calls Try.prog 45 #[.pointer (some ⟨q, 0, none⟩), .int .i64 op, .int .i64 deep] w (Pi q w s op (badOf op deep st) r) := by
  obtain ⟨w1, hw1⟩ : ∃ w1, w.alloc (.cells #[.int .i64 0, .int .i64 0, .int .i64 0, .int .i64 0, .int .i64 0, .slice none 0 0, .slice none 0 0, .slice none 0 0] 47) = w1 := ⟨_, rfl⟩
  have hr : w1.rowIs w.heap.size 47 8 (f0 0) := by rw [← hw1]; exact row8 w _ _ _ _ _ _ _ _
  have hqw := h.lt
  have P1 : Ps q w w1 s st := (Ps.start h).later (by rw [← hw1]; exact La (Lz _))
  have hly : Hid (∀ W : World, Calls Try.prog 35 #[.int .i64 op] W fun e w' => e = .returned (.int .i64 (lay op)) ∧ w' = W) := fun W => lay_any op W
  have hdp : Hid (∀ W : World, Calls Try.prog 34 #[.int .i64 (lay op), .int .i64 deep] W fun e w' => e = .returned (.bool (decide ((lay op = 2 ∨ lay op = 3) ∧ 32 ≤ deep))) ∧ w' = W) := fun W => deep_any _ _ W
  have hfail : Hid (∀ er : Int, Calls Try.prog 63 #[.pointer (some ⟨q, 0, none⟩), .int .i64 er] w1 fun e' w' => e' = .returned (.tuple #[]) ∧ Hid (Ps q w1 w' s ⟨st.at_, er, st.count⟩)) := fun er => by
    have := pfail_any er w1 P1.row
    rwa [show rfail st er = ⟨st.at_, er, st.count⟩ by unfold rfail; rw [if_pos hc]] at this
  have c2 : w1.cell? ⟨q, 2, none⟩ = some (.int .i64 (8192 - st.count)) := P1.cell 2 (by decide)
  have c3 : w1.cell? ⟨q, 3, none⟩ = some (.int .i64 st.code) := P1.cell 3 (by decide)
  have cl := cell_lt c2
  rw [hc] at c3
  have hct : st.count ≤ 8192 := hok.2.2 hc
  replace P1 : Hid (Ps q w w1 s st) := P1
  have hlf : (lay op = 0 ∧ fo op = 9) ∨ (¬ lay op = 0 ∧ ¬ fo op = 9) := by
    rcases lay_inv op with ⟨hl, hf⟩ | ⟨hl, hf⟩ | ⟨hl, hf⟩ | ⟨hl, hf⟩ | ⟨hl, hf⟩ | ⟨hl, hf⟩ | ⟨hl, hf⟩ | ⟨hl, hf⟩ | ⟨hl, hf⟩ | ⟨hl, hf, ho⟩ | ⟨hl, hf, ho⟩ | ⟨hl, hf, ho⟩ | ⟨hl, hf, ho⟩
    all_goals omega
  have hdi := deep_iff' op deep
  have hbo : Hid (badOf op deep st = badOf op deep st) := rfl
  unfold badOf at hb
  rcases hlf with ⟨hl, hf⟩ | ⟨hl, hf⟩
  · replace hbo : Hid (badOf op deep st = 1403) := if_pos hf
    rw [hl] at hly
    clear hb hdi hl hf h hok hdp
    go_enter Try.func45, Try.ntmps45
    go_wp2_with (first | (go_at_call 35; refine (hly.out _).mono ?_; rintro e w9 ⟨rfl, rfl⟩) | (go_at_call 63; refine (hfail.out 1403).mono ?_; rintro e w2 ⟨rfl, R2⟩; have hr2 : w2.rowIs w.heap.size 47 8 (f0 0) := hr.of_block (R2.out.block (by omega) hr.lt); have hq0 := hr2.lt; have y0 : w2.cell? ⟨w.heap.size, 0, none⟩ = some (f0 0 0) := hr2.cell (i := 0) (by decide); have g0 := hr2.frozen 0; have y1 : w2.cell? ⟨w.heap.size, 1, none⟩ = some (f0 0 1) := hr2.cell (i := 1) (by decide); have g1 := hr2.frozen 1; have y2 : w2.cell? ⟨w.heap.size, 2, none⟩ = some (f0 0 2) := hr2.cell (i := 2) (by decide); have g2 := hr2.frozen 2; have y3 : w2.cell? ⟨w.heap.size, 3, none⟩ = some (f0 0 3) := hr2.cell (i := 3) (by decide); have g3 := hr2.frozen 3; have y4 : w2.cell? ⟨w.heap.size, 4, none⟩ = some (f0 0 4) := hr2.cell (i := 4) (by decide); have g4 := hr2.frozen 4; have y5 : w2.cell? ⟨w.heap.size, 5, none⟩ = some (f0 0 5) := hr2.cell (i := 5) (by decide); have g5 := hr2.frozen 5; have y6 : w2.cell? ⟨w.heap.size, 6, none⟩ = some (f0 0 6) := hr2.cell (i := 6) (by decide); have g6 := hr2.frozen 6; have y7 : w2.cell? ⟨w.heap.size, 7, none⟩ = some (f0 0 7) := hr2.cell (i := 7) (by decide); have g7 := hr2.frozen 7; obtain ⟨k1, k2⟩ := R2.out.code; have k1 : w2.cell? ⟨q, 3, none⟩ = some (.int .i64 1403) := k1))
    refine bodyPost_ret (v := .agg #[.int .i64 0, .int .i64 0, .int .i64 0, .int .i64 0, .int .i64 0, .slice none 0 0, .slice none 0 0, .slice none 0 0]) (by simp [results, Try.results45, go_sem, y0, y1, y2, y3, y4, y5, y6, y7, hq0, f0, fF]) rfl ?_
    refine Or.inr ⟨⟨st.at_, 1403, st.count⟩, _, _, _, _, _, _, _, _, _, _, _, _, _, _, rfl, by show ¬ (1403 : Int) = 0; decide, ?_, ?_⟩
    · rw [hbo.out]; rfl
    · exact (P1.out.trans (R2.out)).turned (Nat.le_refl _) hr2 (turned8 hr2 _ _ _ _ _ _ _ _)
  rw [if_neg hf] at hb
  by_cases h8 : st.count + 1 > 8192
  · replace hbo : Hid (badOf op deep st = 1400) := by show badOf op deep st = 1400; unfold badOf; rw [if_neg hf, if_pos h8]
    rw [show 8192 - st.count = 0 by omega] at c2
    have hl0 := beq_false hl
    clear hb hdi hf h hok hdp h8 hl
    generalize lay op = ly at *
    go_enter Try.func45, Try.ntmps45
    go_wp2_with (first | (go_at_call 35; refine (hly.out _).mono ?_; rintro e w9 ⟨rfl, rfl⟩) | (go_at_call 63; refine (hfail.out 1400).mono ?_; rintro e w2 ⟨rfl, R2⟩; have hr2 : w2.rowIs w.heap.size 47 8 (f0 0) := hr.of_block (R2.out.block (by omega) hr.lt); have hq0 := hr2.lt; have y0 : w2.cell? ⟨w.heap.size, 0, none⟩ = some (f0 0 0) := hr2.cell (i := 0) (by decide); have g0 := hr2.frozen 0; have y1 : w2.cell? ⟨w.heap.size, 1, none⟩ = some (f0 0 1) := hr2.cell (i := 1) (by decide); have g1 := hr2.frozen 1; have y2 : w2.cell? ⟨w.heap.size, 2, none⟩ = some (f0 0 2) := hr2.cell (i := 2) (by decide); have g2 := hr2.frozen 2; have y3 : w2.cell? ⟨w.heap.size, 3, none⟩ = some (f0 0 3) := hr2.cell (i := 3) (by decide); have g3 := hr2.frozen 3; have y4 : w2.cell? ⟨w.heap.size, 4, none⟩ = some (f0 0 4) := hr2.cell (i := 4) (by decide); have g4 := hr2.frozen 4; have y5 : w2.cell? ⟨w.heap.size, 5, none⟩ = some (f0 0 5) := hr2.cell (i := 5) (by decide); have g5 := hr2.frozen 5; have y6 : w2.cell? ⟨w.heap.size, 6, none⟩ = some (f0 0 6) := hr2.cell (i := 6) (by decide); have g6 := hr2.frozen 6; have y7 : w2.cell? ⟨w.heap.size, 7, none⟩ = some (f0 0 7) := hr2.cell (i := 7) (by decide); have g7 := hr2.frozen 7; obtain ⟨k1, k2⟩ := R2.out.code; have k1 : w2.cell? ⟨q, 3, none⟩ = some (.int .i64 1400) := k1))
    refine bodyPost_ret (v := .agg #[.int .i64 0, .int .i64 0, .int .i64 0, .int .i64 0, .int .i64 0, .slice none 0 0, .slice none 0 0, .slice none 0 0]) (by simp [results, Try.results45, go_sem, y0, y1, y2, y3, y4, y5, y6, y7, hq0, f0, fF]) rfl ?_
    refine Or.inr ⟨⟨st.at_, 1400, st.count⟩, _, _, _, _, _, _, _, _, _, _, _, _, _, _, rfl, by show ¬ (1400 : Int) = 0; decide, ?_, ?_⟩
    · rw [hbo.out]; rfl
    · exact (P1.out.trans (R2.out)).turned (Nat.le_refl _) hr2 (turned8 hr2 _ _ _ _ _ _ _ _)
  rw [if_neg h8] at hb
  by_cases hd : (fo op = 1 ∨ fo op = 2) ∧ deep ≥ 32
  · replace hbo : Hid (badOf op deep st = 1402) := by show badOf op deep st = 1402; unfold badOf; rw [if_neg hf, if_neg h8, if_pos hd]
    rw [decide_eq_true (hdi.2 hd)] at hdp
    have hl0 := beq_false hl
    have hm0 : (8192 - st.count == 0) = false := beq_false (by omega)
    have hm1 : ¬ 8192 - st.count = 0 := by omega
    clear hb hdi hf h hok hd hl h8
    generalize lay op = ly at *
    generalize 8192 - st.count = m at *
    go_enter Try.func45, Try.ntmps45
    go_wp2_with (first | (go_at_call 35; refine (hly.out _).mono ?_; rintro e w9 ⟨rfl, rfl⟩) | (go_at_call 34; refine (hdp.out _).mono ?_; rintro e w8 ⟨rfl, rfl⟩) | (go_at_call 63; refine (hfail.out 1402).mono ?_; rintro e w2 ⟨rfl, R2⟩; have hr2 : w2.rowIs w.heap.size 47 8 (f0 0) := hr.of_block (R2.out.block (by omega) hr.lt); have hq0 := hr2.lt; have y0 : w2.cell? ⟨w.heap.size, 0, none⟩ = some (f0 0 0) := hr2.cell (i := 0) (by decide); have g0 := hr2.frozen 0; have y1 : w2.cell? ⟨w.heap.size, 1, none⟩ = some (f0 0 1) := hr2.cell (i := 1) (by decide); have g1 := hr2.frozen 1; have y2 : w2.cell? ⟨w.heap.size, 2, none⟩ = some (f0 0 2) := hr2.cell (i := 2) (by decide); have g2 := hr2.frozen 2; have y3 : w2.cell? ⟨w.heap.size, 3, none⟩ = some (f0 0 3) := hr2.cell (i := 3) (by decide); have g3 := hr2.frozen 3; have y4 : w2.cell? ⟨w.heap.size, 4, none⟩ = some (f0 0 4) := hr2.cell (i := 4) (by decide); have g4 := hr2.frozen 4; have y5 : w2.cell? ⟨w.heap.size, 5, none⟩ = some (f0 0 5) := hr2.cell (i := 5) (by decide); have g5 := hr2.frozen 5; have y6 : w2.cell? ⟨w.heap.size, 6, none⟩ = some (f0 0 6) := hr2.cell (i := 6) (by decide); have g6 := hr2.frozen 6; have y7 : w2.cell? ⟨w.heap.size, 7, none⟩ = some (f0 0 7) := hr2.cell (i := 7) (by decide); have g7 := hr2.frozen 7; obtain ⟨k1, k2⟩ := R2.out.code; have k1 : w2.cell? ⟨q, 3, none⟩ = some (.int .i64 1402) := k1))
    refine bodyPost_ret (v := .agg #[.int .i64 0, .int .i64 0, .int .i64 0, .int .i64 0, .int .i64 0, .slice none 0 0, .slice none 0 0, .slice none 0 0]) (by simp [results, Try.results45, go_sem, y0, y1, y2, y3, y4, y5, y6, y7, hq0, f0, fF]) rfl ?_
    refine Or.inr ⟨⟨st.at_, 1402, st.count⟩, _, _, _, _, _, _, _, _, _, _, _, _, _, _, rfl, by show ¬ (1402 : Int) = 0; decide, ?_, ?_⟩
    · rw [hbo.out]; rfl
    · exact (P1.out.trans (R2.out)).turned (Nat.le_refl _) hr2 (turned8 hr2 _ _ _ _ _ _ _ _)
  rw [if_neg hd] at hb
  exact absurd rfl hb
theorem Pb.of_Pm {op : Int} {r : On × Rst} {e : Ending} {w1 : World} (h : Pm q p w1 s op r e W') : Pb q p w1 s op r e W' := by
  by_cases hc : r.2.code = 0
  · exact Or.inl ⟨hc, h⟩
  · obtain ⟨he, LA, lc, A, c, E, ec, P, _⟩ := h
    exact Or.inr ⟨hc, he, r.2, _, _, _, _, _, _, _, _, _, _, _, _, _, rfl, P⟩
theorem Pb.fin {op : Int} {r : On × Rst} {e : Ending} {w1 : World} (h : Pb q p w1 s op r e W') (hw : w.heap.size ≤ w1.heap.size) : e = .returned (.tuple #[]) ∧ ∃ (st' : Rst) (a b bi ty : Int) (LA : Option Addr) (nl lc : Nat) (B : Option Addr) (nb bc : Nat) (E : Option Addr) (ne ec : Nat), Hid (Po q p w1 W' s st' (fF op a b bi ty (.slice LA nl lc) (.slice B nb bc) (.slice E ne ec))) ∧
    Hid (∀ w', Ps q w w' s st' → (∀ k, w1.heap.size ≤ k → k < W'.heap.size → w'.heap[k]? = W'.heap[k]?) → Pi q w s op 0 r (.returned (.agg #[.int .i64 op, .int .i64 a, .int .i64 b, .int .i64 bi, .int .i64 ty, .slice LA nl lc, .slice B nb bc, .slice E ne ec])) w') := by
  rcases h with ⟨hc, he, LA, lc, A, c, E, ec, P, hL⟩ | ⟨hc, he, st', a, b, bi, ty, LA, nl, lc, B, nb, bc, E, ne, ec, h1, P⟩
  · refine ⟨he, r.2, _, _, _, _, _, _, _, _, _, _, _, _, _, P, fun w' hp hk => Or.inl ⟨rfl, hc, LA, lc, A, c, E, ec, rfl, ?_, hp⟩⟩
    have hkk := zn_mv (W := W') (W' := w') hw hk
    exact ⟨hL.out.1.move hkk, hL.out.2.1.move hkk, hL.out.2.2.move hkk⟩
  · exact ⟨he, st', a, b, bi, ty, LA, nl, lc, B, nb, bc, E, ne, ec, P, fun w' hp hk => Or.inr ⟨st', _, _, _, _, _, _, _, _, _, _, _, _, _, _, rfl, by rw [h1]; exact hc, by rw [h1, if_pos rfl], hp⟩⟩
theorem pinstr_ok (hs : s.size < 9223372036854775000) (k : Nat) (op deep : Int) (hd0 : 0 ≤ deep) (hL : PLR s k (deep + 1)) (hok : Rok s st) (hc : st.code = 0) (hn : (s.size : Int) - st.at_ < k) (hb : badOf op deep st = 0) (w : World) (q : Nat) (h : w.rowIs q 67 4 (pF s st)) :
    Calls Try.prog 45 #[.pointer (some ⟨q, 0, none⟩), .int .i64 op, .int .i64 deep] w (Pi q w s op 0 (ro (rl s k) s op deep (met st))) := by
  obtain ⟨w1, hw1⟩ : ∃ w1, w.alloc (.cells #[.int .i64 0, .int .i64 0, .int .i64 0, .int .i64 0, .int .i64 0, .slice none 0 0, .slice none 0 0, .slice none 0 0] 47) = w1 := ⟨_, rfl⟩
  have hr : w1.rowIs w.heap.size 47 8 (f0 0) := by rw [← hw1]; exact row8 w _ _ _ _ _ _ _ _
  have hs1 : w1.heap.size = w.heap.size + 1 := by rw [← hw1]; simp
  have hqw := h.lt
  have P1 : Ps q w w1 s st := (Ps.start h).later (by rw [← hw1]; exact La (Lz _))
  have hfo : ¬ fo op = 9 ∧ ¬ st.count + 1 > 8192 ∧ ¬ ((fo op = 1 ∨ fo op = 2) ∧ deep ≥ 32) := by
    unfold badOf at hb
    split at hb
    · exact absurd hb (by decide)
    · split at hb
      · exact absurd hb (by decide)
      · split at hb
        · exact absurd hb (by decide)
        · exact ⟨by assumption, by assumption, by assumption⟩
  obtain ⟨hf, h8, hd⟩ := hfo
  have hl0 : ¬ lay op = 0 := by
    intro hl
    rcases lay_inv op with ⟨hl', hf'⟩ | ⟨hl', hf'⟩ | ⟨hl', hf'⟩ | ⟨hl', hf'⟩ | ⟨hl', hf'⟩ | ⟨hl', hf'⟩ | ⟨hl', hf'⟩ | ⟨hl', hf'⟩ | ⟨hl', hf'⟩ | ⟨hl', hf', ho⟩ | ⟨hl', hf', ho⟩ | ⟨hl', hf', ho⟩ | ⟨hl', hf', ho⟩
    all_goals omega
  have hly : Hid (∀ W : World, Calls Try.prog 35 #[.int .i64 op] W fun e w' => e = .returned (.int .i64 (lay op)) ∧ w' = W) := fun W => lay_any op W
  have hdp : Hid (∀ W : World, Calls Try.prog 34 #[.int .i64 (lay op), .int .i64 deep] W fun e w' => e = .returned (.bool false) ∧ w' = W) := fun W => by
    have := deep_any (lay op) deep W
    rwa [decide_eq_false (fun x => hd ((deep_iff' op deep).1 x))] at this
  have hct0 := hok.2.1
  have hct1 := hok.2.2 hc
  obtain ⟨a0, cd, ct⟩ := st
  obtain rfl : cd = 0 := hc
  simp only at hct0 hct1 hn h8
  have c2 : w1.cell? ⟨q, 2, none⟩ = some (.int .i64 (8192 - ct)) := P1.cell 2 (by decide)
  have c3 : w1.cell? ⟨q, 3, none⟩ = some (.int .i64 0) := P1.cell 3 (by decide)
  have f2 := P1.frozen 2
  have cl := cell_lt c2
  obtain ⟨m, hm⟩ : ∃ m : Int, m = 8192 - ct := ⟨_, rfl⟩
  rw [← hm] at c2
  have hm0 : ¬ m = 0 := by omega
  have hm1 : 1 ≤ m := by omega
  have hm2 : m ≤ 8192 := by omega
  obtain ⟨w3, hw3⟩ : ∃ w3, w1.setCell ⟨q, 2, none⟩ (.int .i64 (m - 1)) = w3 := ⟨_, rfl⟩
  have P3 : Ps q w1 w3 s ⟨a0, 0, ct + 1⟩ := by rw [← hw3]; exact (Ps.start P1.row).set 2 _ (pset2 (by omega))
  have hs3 : w3.heap.size = w1.heap.size := by rw [← hw3]; simp
  obtain ⟨W0, hW0⟩ : ∃ W0, w3.alloc (.cells #[.int .i64 op, .int .i64 0, .int .i64 0, .int .i64 0, .int .i64 0, .slice none 0 0, .slice none 0 0, .slice none 0 0] 47) = W0 := ⟨_, rfl⟩
  obtain ⟨p, hp⟩ : ∃ p, p = w3.heap.size := ⟨_, rfl⟩
  have P0 : Po q p w1 W0 s ⟨a0, 0, ct + 1⟩ (f0 op) := ⟨P3.later (by rw [← hW0]; exact La (Lz _)), by rw [hp, ← hW0]; exact row8 w3 _ _ _ _ _ _ _ _, by omega⟩
  have hok0 : Rok s ⟨a0, 0, ct + 1⟩ := ⟨hok.1, by show 0 ≤ ct + 1; omega, fun _ => by show ct + 1 ≤ 8192; omega⟩
  have i3 : W0.cell? ⟨q, 3, none⟩ = some (.int .i64 0) := P0.1.code.1
  rw [show met ⟨a0, 0, ct⟩ = ⟨a0, 0, ct + 1⟩ from rfl]
  clear i3
  by_cases hbl : lay op = 2 ∨ lay op = 3
  · have hbp : Hid (Calls Try.prog 64 #[.pointer (some ⟨q, 0, none⟩), .pointer (some ⟨p, 0, none⟩), .int .i64 (lay op), .int .i64 deep] W0 (Pb q p w1 s op (ro (rl s k) s op deep ⟨a0, 0, ct + 1⟩))) := by
      rcases hbl with hl | hl
      · exact pblock hs k op deep hd0 (fun x => hd ((deep_iff' op deep).1 ⟨Or.inl hl, x⟩)) hL hok0 rfl hn false (Or.inl ⟨hl, rfl⟩) P0
      · exact pblock hs k op deep hd0 (fun x => hd ((deep_iff' op deep).1 ⟨Or.inr hl, x⟩)) hL hok0 rfl hn true (Or.inr ⟨hl, rfl⟩) P0
    replace P1 : Hid (Ps q w w1 s ⟨a0, 0, ct⟩) := P1
    rw [← hW0] at hbp
    clear P0 hW0
    replace hs1 : Hid (w1.heap.size = w.heap.size + 1) := hs1
    replace hs3 : Hid (w3.heap.size = w1.heap.size) := hs3
    clear h hb hok hok0 hL hd hf P3 hn h8 hct0 hct1 hm
    generalize ro (rl s k) s op deep ⟨a0, 0, ct + 1⟩ = r at *
    rcases hbl with hl | hl
    all_goals
      rw [hl] at hly hdp hbp
      subst hp
      clear hl hl0
      go_enter Try.func45, Try.ntmps45
      go_wp2_with (first | (go_at_call 35; refine (hly.out _).mono ?_; rintro e w9 ⟨rfl, rfl⟩) | (go_at_call 34; refine (hdp.out _).mono ?_; rintro e w8 ⟨rfl, rfl⟩) | (go_at_call 64; refine hbp.out.mono ?_; intro e w2 hh; obtain ⟨rfl, st2, a, b, bi, ty, LA, nl, lc, B, nb, bc, E, ne, ec, P2, hfin⟩ := hh.fin (w := w) (by have := hs1.out; omega); have hr2 : w2.rowIs w.heap.size 47 8 (f0 0) := hr.of_block (P2.out.1.block (by omega) hr.lt); have hq0 := hr2.lt; have hq1 := P2.out.2.1.lt; have y0 : w2.cell? ⟨w.heap.size, 0, none⟩ = some (f0 0 0) := hr2.cell (i := 0) (by decide); have g0 := hr2.frozen 0; have v0 : w2.cell? ⟨w3.heap.size, 0, none⟩ = some (.int .i64 op) := P2.out.2.1.cell (i := 0) (by decide); have y1 : w2.cell? ⟨w.heap.size, 1, none⟩ = some (f0 0 1) := hr2.cell (i := 1) (by decide); have g1 := hr2.frozen 1; have v1 : w2.cell? ⟨w3.heap.size, 1, none⟩ = some (.int .i64 a) := P2.out.2.1.cell (i := 1) (by decide); have y2 : w2.cell? ⟨w.heap.size, 2, none⟩ = some (f0 0 2) := hr2.cell (i := 2) (by decide); have g2 := hr2.frozen 2; have v2 : w2.cell? ⟨w3.heap.size, 2, none⟩ = some (.int .i64 b) := P2.out.2.1.cell (i := 2) (by decide); have y3 : w2.cell? ⟨w.heap.size, 3, none⟩ = some (f0 0 3) := hr2.cell (i := 3) (by decide); have g3 := hr2.frozen 3; have v3 : w2.cell? ⟨w3.heap.size, 3, none⟩ = some (.int .i64 bi) := P2.out.2.1.cell (i := 3) (by decide); have y4 : w2.cell? ⟨w.heap.size, 4, none⟩ = some (f0 0 4) := hr2.cell (i := 4) (by decide); have g4 := hr2.frozen 4; have v4 : w2.cell? ⟨w3.heap.size, 4, none⟩ = some (.int .i64 ty) := P2.out.2.1.cell (i := 4) (by decide); have y5 : w2.cell? ⟨w.heap.size, 5, none⟩ = some (f0 0 5) := hr2.cell (i := 5) (by decide); have g5 := hr2.frozen 5; have v5 : w2.cell? ⟨w3.heap.size, 5, none⟩ = some (.slice LA nl lc) := P2.out.2.1.cell (i := 5) (by decide); have y6 : w2.cell? ⟨w.heap.size, 6, none⟩ = some (f0 0 6) := hr2.cell (i := 6) (by decide); have g6 := hr2.frozen 6; have v6 : w2.cell? ⟨w3.heap.size, 6, none⟩ = some (.slice B nb bc) := P2.out.2.1.cell (i := 6) (by decide); have y7 : w2.cell? ⟨w.heap.size, 7, none⟩ = some (f0 0 7) := hr2.cell (i := 7) (by decide); have g7 := hr2.frozen 7; have v7 : w2.cell? ⟨w3.heap.size, 7, none⟩ = some (.slice E ne ec) := P2.out.2.1.cell (i := 7) (by decide)))
      refine bodyPost_ret (v := .agg #[.int .i64 op, .int .i64 a, .int .i64 b, .int .i64 bi, .int .i64 ty, .slice LA nl lc, .slice B nb bc, .slice E ne ec]) (by simp [results, Try.results45, go_sem, y0, y1, y2, y3, y4, y5, y6, y7, hq0]) rfl ?_
      have ht := turned8 hr2 (.int .i64 op) (.int .i64 a) (.int .i64 b) (.int .i64 bi) (.int .i64 ty) (.slice LA nl lc) (.slice B nb bc) (.slice E ne ec)
      exact hfin.out _ ((P1.out.trans P2.out.1).turned (Nat.le_refl _) hr2 ht) (fun k hk hl => ht.block (by have := hs1.out; omega) hl)
  · have hbp : Hid (Calls Try.prog 65 #[.pointer (some ⟨q, 0, none⟩), .pointer (some ⟨p, 0, none⟩), .int .i64 (lay op)] W0 (Pb q p w1 s op (ro (rl s k) s op deep ⟨a0, 0, ct + 1⟩))) := (pplain hs hok0.1 (rl s k) op deep hl0 (fun x => hbl (Or.inl x)) (fun x => hbl (Or.inr x)) P0).mono fun e w' hh => Pb.of_Pm hh
    replace P1 : Hid (Ps q w w1 s ⟨a0, 0, ct⟩) := P1
    rw [← hW0] at hbp
    clear P0 hW0
    have n2 : (lay op == 2) = false := beq_false (fun x => hbl (Or.inl x))
    have n3 : (lay op == 3) = false := beq_false (fun x => hbl (Or.inr x))
    have n0 : (lay op == 0) = false := beq_false hl0
    replace hs1 : Hid (w1.heap.size = w.heap.size + 1) := hs1
    replace hs3 : Hid (w3.heap.size = w1.heap.size) := hs3
    clear h hb hok hok0 hL hd hf P3 hn h8 hct0 hct1 hm hbl hl0
    generalize ro (rl s k) s op deep ⟨a0, 0, ct + 1⟩ = r at *
    generalize lay op = ly at *
    subst hp
    go_enter Try.func45, Try.ntmps45
    go_wp2_with (first | (go_at_call 35; refine (hly.out _).mono ?_; rintro e w9 ⟨rfl, rfl⟩) | (go_at_call 34; refine (hdp.out _).mono ?_; rintro e w8 ⟨rfl, rfl⟩) | (go_at_call 65; refine hbp.out.mono ?_; intro e w2 hh; obtain ⟨rfl, st2, a, b, bi, ty, LA, nl, lc, B, nb, bc, E, ne, ec, P2, hfin⟩ := hh.fin (w := w) (by have := hs1.out; omega); have hr2 : w2.rowIs w.heap.size 47 8 (f0 0) := hr.of_block (P2.out.1.block (by omega) hr.lt); have hq0 := hr2.lt; have hq1 := P2.out.2.1.lt; have y0 : w2.cell? ⟨w.heap.size, 0, none⟩ = some (f0 0 0) := hr2.cell (i := 0) (by decide); have g0 := hr2.frozen 0; have v0 : w2.cell? ⟨w3.heap.size, 0, none⟩ = some (.int .i64 op) := P2.out.2.1.cell (i := 0) (by decide); have y1 : w2.cell? ⟨w.heap.size, 1, none⟩ = some (f0 0 1) := hr2.cell (i := 1) (by decide); have g1 := hr2.frozen 1; have v1 : w2.cell? ⟨w3.heap.size, 1, none⟩ = some (.int .i64 a) := P2.out.2.1.cell (i := 1) (by decide); have y2 : w2.cell? ⟨w.heap.size, 2, none⟩ = some (f0 0 2) := hr2.cell (i := 2) (by decide); have g2 := hr2.frozen 2; have v2 : w2.cell? ⟨w3.heap.size, 2, none⟩ = some (.int .i64 b) := P2.out.2.1.cell (i := 2) (by decide); have y3 : w2.cell? ⟨w.heap.size, 3, none⟩ = some (f0 0 3) := hr2.cell (i := 3) (by decide); have g3 := hr2.frozen 3; have v3 : w2.cell? ⟨w3.heap.size, 3, none⟩ = some (.int .i64 bi) := P2.out.2.1.cell (i := 3) (by decide); have y4 : w2.cell? ⟨w.heap.size, 4, none⟩ = some (f0 0 4) := hr2.cell (i := 4) (by decide); have g4 := hr2.frozen 4; have v4 : w2.cell? ⟨w3.heap.size, 4, none⟩ = some (.int .i64 ty) := P2.out.2.1.cell (i := 4) (by decide); have y5 : w2.cell? ⟨w.heap.size, 5, none⟩ = some (f0 0 5) := hr2.cell (i := 5) (by decide); have g5 := hr2.frozen 5; have v5 : w2.cell? ⟨w3.heap.size, 5, none⟩ = some (.slice LA nl lc) := P2.out.2.1.cell (i := 5) (by decide); have y6 : w2.cell? ⟨w.heap.size, 6, none⟩ = some (f0 0 6) := hr2.cell (i := 6) (by decide); have g6 := hr2.frozen 6; have v6 : w2.cell? ⟨w3.heap.size, 6, none⟩ = some (.slice B nb bc) := P2.out.2.1.cell (i := 6) (by decide); have y7 : w2.cell? ⟨w.heap.size, 7, none⟩ = some (f0 0 7) := hr2.cell (i := 7) (by decide); have g7 := hr2.frozen 7; have v7 : w2.cell? ⟨w3.heap.size, 7, none⟩ = some (.slice E ne ec) := P2.out.2.1.cell (i := 7) (by decide)))
    refine bodyPost_ret (v := .agg #[.int .i64 op, .int .i64 a, .int .i64 b, .int .i64 bi, .int .i64 ty, .slice LA nl lc, .slice B nb bc, .slice E ne ec]) (by simp [results, Try.results45, go_sem, y0, y1, y2, y3, y4, y5, y6, y7, hq0]) rfl ?_
    have ht := turned8 hr2 (.int .i64 op) (.int .i64 a) (.int .i64 b) (.int .i64 bi) (.int .i64 ty) (.slice LA nl lc) (.slice B nb bc) (.slice E ne ec)
    exact hfin.out _ ((P1.out.trans P2.out.1).turned (Nat.le_refl _) hr2 ht) (fun k hk hl => ht.block (by have := hs1.out; omega) hl)
end Go.Proofs.Ytkdfmgdadnlnlaa.gi
