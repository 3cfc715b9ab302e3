/- XN: IX, IY, IZ, IUN, IOK, joined. -/
import Derived.Test.YtngciahmoenkiacIU
import Derived.Test.YtngciahmoenkiacXM
import Derived.Test.YtngciahmoenkiacXC
/- Over this seat's translation: the document's reader: its place only grows. -/
set_option linter.unusedVariables false
set_option linter.unusedSimpArgs false
set_option maxRecDepth 100000
set_option maxHeartbeats 4000000
namespace Go.Proofs.Ytngciahmoenkiac
open Go.RowKit
variable {s : ByteArray} {st st' st'' : Rst}
/-- a place within the text, not ahead of another -/
def Rge (s : ByteArray) (st st' : Rst) : Prop := Rin s st' ∧ st.at_ ≤ st'.at_
theorem Rge.trans (h : Rge s st st') (h2 : Rge s st' st'') : Rge s st st'' := ⟨h2.1, Int.le_trans h.2 h2.2⟩
theorem Rge.refl (h : Rin s st) : Rge s st st := ⟨h, Int.le_refl _⟩
theorem rfail_at (st : Rst) (e : Int) : (rfail st e).at_ = st.at_ := by unfold rfail; split <;> rfl
theorem rfail_ge (h : Rin s st) (e : Int) : Rge s st (rfail st e) := ⟨rfail_in h e, by rw [rfail_at]; exact Int.le_refl _⟩
theorem rbyte_ge (h : Rin s st) : Rge s st (rbyte s st).2 := by
  refine ⟨rbyte_in h, ?_⟩
  unfold rbyte
  split
  · show st.at_ ≤ st.at_ + 1; omega
  · rw [show ((0 : Int), rfail st 1401).2 = rfail st 1401 from rfl, rfail_at]; exact Int.le_refl _
theorem rfail_ne (st : Rst) (e : Int) (he : ¬ e = 0) : ¬ (rfail st e).code = 0 := by
  unfold rfail
  split
  · exact he
  · assumption
theorem rbyte_lt (h : (rbyte s st).2.code = 0) : st.at_ < (rbyte s st).2.at_ ∧ st.code = 0 ∧ st.at_ < s.size := by
  unfold rbyte at h ⊢
  split
  · rename_i h1; exact ⟨by show st.at_ < st.at_ + 1; omega, h1.1, h1.2⟩
  · rename_i h1
    rw [if_neg h1] at h
    exact absurd h (rfail_ne st 1401 (by decide))
theorem rmoved_ge (h : Rin s st) (x : Int × Int × Int) (hx : x.2.2 = 0 → st.at_ ≤ x.2.1 ∧ x.2.1 ≤ s.size) : Rge s st (rmoved st x).2 := by
  unfold rmoved
  split
  · exact Rge.refl h
  · split
    · rename_i h1; have := hx h1; have h0 := h.1; exact ⟨⟨by show 0 ≤ x.2.1; omega, this.2⟩, this.1⟩
    · split
      · exact rfail_ge h _
      · exact rfail_ge h _
theorem ul_ge (s : ByteArray) (a b : Int) (h : (ulR s a b).2.2 = 0) : a ≤ (ulR s a b).2.1 ∧ (ulR s a b).2.1 ≤ s.size := by
  by_cases hp : (ptR s a b).2 = 0
  · obtain ⟨a', k, m, rfl, hb, h1, h2, h3, h4, h5⟩ := ptR_in hp
    unfold ulR at h ⊢
    rw [if_pos hp] at h ⊢
    split at h
    · exact absurd h (by decide)
    · rename_i hc
      rw [if_neg hc, h1]
      show (a' : Int) ≤ (k : Int) + 1 ∧ (k : Int) + 1 ≤ (s.size : Int)
      omega
  · unfold ulR at h
    rw [if_neg hp] at h
    exact absurd h hp
theorem us_ge (s : ByteArray) (a b : Int) (h : (usR s a b).2.2 = 0) : a ≤ (usR s a b).2.1 ∧ (usR s a b).2.1 ≤ s.size := by
  by_cases hp : (ptR s a b).2 = 0
  · obtain ⟨a', k, m, rfl, hb, h1, h2, h3, h4, h5⟩ := ptR_in hp
    unfold usR at h ⊢
    rw [if_pos hp] at h ⊢
    split at h
    · exact absurd h (by decide)
    · rename_i hc
      rw [if_neg hc, h1]
      show (a' : Int) ≤ (k : Int) + 1 ∧ (k : Int) + 1 ≤ (s.size : Int)
      omega
  · unfold usR at h
    rw [if_neg hp] at h
    exact absurd h hp
theorem rnum_ge (h : Rin s st) : Rge s st (rnum s st).2 := rmoved_ge h _ (ul_ge s st.at_ 32)
theorem rsgn_ge (h : Rin s st) (b : Int) : Rge s st (rsgn s st b).2 := rmoved_ge h _ (us_ge s st.at_ b)
theorem rbF_ge : ∀ (r i : Nat) (x : Int) (st : Rst), Rin s st → Rge s st (rbF s r i x st).2
  | 0, i, x, st, h => Rge.refl h
  | r + 1, i, x, st, h => (rbyte_ge h).trans (rbF_ge r (i + 1) _ _ (rbyte_in h))
theorem rlit_ge (h : Rin s st) (op : Int) : Rge s st (rlit s op st).2 := by
  unfold rlit
  split
  · exact rsgn_ge h 32
  · split
    · exact rsgn_ge h 64
    · split
      · exact rbF_ge 4 0 0 st h
      · exact rbF_ge 8 0 0 st h
theorem rnought_ge (h : Rin s st) : Rge s st (rnought s st) := by
  unfold rnought
  split
  · exact rbyte_ge h
  · exact (rbyte_ge h).trans (rfail_ge (rbyte_in h) _)
theorem rlab_ge : ∀ (n : Nat) (st : Rst), Rin s st → Rge s st (rlab s n st).2
  | 0, st, h => Rge.refl h
  | n + 1, st, h => by
    unfold rlab
    split
    · exact (rnum_ge h).trans (rlab_ge n _ (rnum_ge h).1)
    · exact Rge.refl h
theorem rtyp_ge (h : Rin s st) : Rge s st (rtyp s st) := by
  unfold rtyp
  split
  · exact (rbyte_ge h).trans (rfail_ge (rbyte_in h) _)
  · exact rbyte_ge h
theorem rcap_ge (h : Rin s st) (x : Int) : Rge s st (rcap x st) := by
  unfold rcap
  split
  · exact rfail_ge h _
  · exact Rge.refl h
/-- a list's reader goes on; 0x05 ends it where it may alone -/
def Lgr (s : ByteArray) (L : Int → Bool → Rst → Fs × Bool × Rst) : Prop := ∀ (d : Int) (o : Bool) (st : Rst), Rin s st → Rge s st (L d o st).2.2 ∧ (o = false → (L d o st).2.1 = false)
theorem ro_ge {L : Int → Bool → Rst → Fs × Bool × Rst} (hL : Lgr s L) (op deep : Int) (h : Rin s st) : Rge s st (ro L s op deep st).2 := by
  unfold ro
  split
  · split
    · exact rfail_ge h _
    · have t := rtyp_ge h
      have l := (hL (deep + 1) (decide (op = 4)) (rtyp s st) t.1).1
      split
      · exact (t.trans l).trans (hL (deep + 1) false _ l.1).1
      · exact t.trans l
  · split
    · exact rnum_ge h
    · split
      · have c := rcap_ge (rnum_ge h).1 (rnum s st).1
        exact ((rnum_ge h).trans c).trans (rlab_ge _ _ c.1)
      · split
        · exact (rnum_ge h).trans (rnought_ge (rnum_ge h).1)
        · split
          · exact (rnum_ge h).trans (rnum_ge (rnum_ge h).1)
          · split
            · exact rnought_ge h
            · split
              · exact rlit_ge h op
              · exact Rge.refl h
theorem met_ge (h : Rin s st) : Rge s st (met st) := ⟨h, Int.le_refl _⟩
theorem rl_ge : ∀ n : Nat, Lgr s (rl s n)
  | 0, d, o, st, h => ⟨Rge.refl h, fun _ => rfl⟩
  | n + 1, d, o, st, h => by
    have hb := rbyte_ge h
    have hm := hb.trans (met_ge hb.1)
    have hr := ro_ge (rl_ge n) (rbyte s st).1 d (st := met (rbyte s st).2) hm.1
    have hl := rl_ge n d o (ro (rl s n) s (rbyte s st).1 d (met (rbyte s st).2)).2 hr.1
    unfold rl
    by_cases h0 : st.code = 0
    · rw [if_pos h0]
      by_cases h1 : ¬ (rbyte s st).2.code = 0 ∨ (rbyte s st).1 = 11
      · rw [if_pos h1]; exact ⟨hb, fun _ => rfl⟩
      · rw [if_neg h1]
        by_cases h2 : (rbyte s st).1 = 5 ∧ o = true
        · rw [if_pos h2]; exact ⟨hb, fun e => by rw [h2.2] at e; exact absurd e (by decide)⟩
        · rw [if_neg h2]
          by_cases h3 : fo (rbyte s st).1 = 9
          · rw [if_pos h3]; exact ⟨hb.trans (rfail_ge hb.1 _), fun _ => rfl⟩
          · rw [if_neg h3]
            by_cases h4 : (rbyte s st).2.count + 1 > 8192
            · rw [if_pos h4]; exact ⟨hm.trans (rfail_ge hm.1 _), fun _ => rfl⟩
            · rw [if_neg h4]
              exact ⟨(hm.trans hr).trans hl.1, hl.2⟩
    · rw [if_neg h0]; exact ⟨Rge.refl h, fun _ => rfl⟩
/-- an error stays -/
theorem rfail_c0 {e : Int} (h : (rfail st e).code = 0) : st.code = 0 := by
  unfold rfail at h
  split at h
  · assumption
  · assumption
theorem rbyte_c0 (h : (rbyte s st).2.code = 0) : st.code = 0 := (rbyte_lt h).2.1
theorem rmoved_c0 {x : Int × Int × Int} (h : (rmoved st x).2.code = 0) : st.code = 0 := by
  unfold rmoved at h
  split at h
  · exact h
  · rename_i h1; exact Decidable.not_not.1 h1
theorem rbF_c0 : ∀ (r i : Nat) (x : Int) (st : Rst), (rbF s r i x st).2.code = 0 → st.code = 0
  | 0, i, x, st, h => h
  | r + 1, i, x, st, h => rbyte_c0 (rbF_c0 r (i + 1) _ _ h)
theorem rlit_c0 {op : Int} (h : (rlit s op st).2.code = 0) : st.code = 0 := by
  unfold rlit at h
  split at h
  · exact rmoved_c0 h
  · split at h
    · exact rmoved_c0 h
    · split at h
      · exact rbF_c0 4 0 0 st h
      · exact rbF_c0 8 0 0 st h
theorem rnought_c0 (h : (rnought s st).code = 0) : st.code = 0 := by
  unfold rnought at h
  split at h
  · exact rbyte_c0 h
  · exact rbyte_c0 (rfail_c0 h)
theorem rlab_c0 : ∀ (n : Nat) (st : Rst), (rlab s n st).2.code = 0 → st.code = 0
  | 0, st, h => h
  | n + 1, st, h => by
    unfold rlab at h
    split at h
    · assumption
    · exact h
theorem rtyp_c0 (h : (rtyp s st).code = 0) : st.code = 0 := by
  unfold rtyp at h
  split at h
  · exact rbyte_c0 (rfail_c0 h)
  · exact rbyte_c0 h
theorem rcap_c0 {x : Int} (h : (rcap x st).code = 0) : st.code = 0 := by
  unfold rcap at h
  split at h
  · exact rfail_c0 h
  · exact h
def Lc0 (L : Int → Bool → Rst → Fs × Bool × Rst) : Prop := ∀ d o st, (L d o st).2.2.code = 0 → st.code = 0
theorem ro_c0 {L : Int → Bool → Rst → Fs × Bool × Rst} (hL : Lc0 L) {op deep : Int} (h : (ro L s op deep st).2.code = 0) : st.code = 0 := by
  unfold ro at h
  split at h
  · split at h
    · exact rfail_c0 h
    · split at h
      · exact rtyp_c0 (hL _ _ _ (hL _ _ _ h))
      · exact rtyp_c0 (hL _ _ _ h)
  · split at h
    · exact rmoved_c0 h
    · split at h
      · exact rmoved_c0 (rcap_c0 (rlab_c0 _ _ h))
      · split at h
        · exact rmoved_c0 (rnought_c0 h)
        · split at h
          · exact rmoved_c0 (rmoved_c0 h)
          · split at h
            · exact rnought_c0 h
            · split at h
              · exact rlit_c0 h
              · exact h
theorem rl_c0 : ∀ n : Nat, Lc0 (rl s n)
  | 0, d, o, st, h => h
  | n + 1, d, o, st, h => by
    by_cases h0 : st.code = 0
    · exact h0
    · unfold rl at h
      rw [if_neg h0] at h
      exact h
/-- how many were met -/
theorem rfail_ct (st : Rst) (e : Int) : (rfail st e).count = st.count := by unfold rfail; split <;> rfl
theorem rbyte_ct (s : ByteArray) (st : Rst) : (rbyte s st).2.count = st.count := by
  unfold rbyte
  split
  · rfl
  · exact rfail_ct st 1401
theorem rmoved_ct (st : Rst) (x : Int × Int × Int) : (rmoved st x).2.count = st.count := by
  unfold rmoved
  split
  · rfl
  · split
    · rfl
    · split
      · exact rfail_ct st 1401
      · exact rfail_ct st 1400
theorem rbF_ct : ∀ (r i : Nat) (x : Int) (st : Rst), (rbF s r i x st).2.count = st.count
  | 0, i, x, st => rfl
  | r + 1, i, x, st => (rbF_ct r (i + 1) _ _).trans (rbyte_ct s st)
theorem rlit_ct (op : Int) (st : Rst) : (rlit s op st).2.count = st.count := by
  unfold rlit
  split
  · exact rmoved_ct st _
  · split
    · exact rmoved_ct st _
    · split
      · exact rbF_ct 4 0 0 st
      · exact rbF_ct 8 0 0 st
theorem rnought_ct (st : Rst) : (rnought s st).count = st.count := by
  unfold rnought
  split
  · exact rbyte_ct s st
  · exact (rfail_ct _ _).trans (rbyte_ct s st)
theorem rlab_ct : ∀ (n : Nat) (st : Rst), (rlab s n st).2.count = st.count
  | 0, st => rfl
  | n + 1, st => by
    unfold rlab
    split
    · exact (rlab_ct n _).trans (rmoved_ct st _)
    · rfl
theorem rtyp_ct (st : Rst) : (rtyp s st).count = st.count := by
  unfold rtyp
  split
  · exact (rfail_ct _ _).trans (rbyte_ct s st)
  · exact rbyte_ct s st
theorem rcap_ct (x : Int) (st : Rst) : (rcap x st).count = st.count := by
  unfold rcap
  split
  · exact rfail_ct st _
  · rfl
/-- not fewer are met, and not too many without an error -/
def Cge (st st' : Rst) : Prop := st.count ≤ st'.count ∧ (st'.code = 0 → st.count ≤ 8192 → st'.count ≤ 8192)
theorem Cge.of (h : st'.count = st.count) : Cge st st' := ⟨by omega, fun _ h2 => by omega⟩
def Lct (L : Int → Bool → Rst → Fs × Bool × Rst) : Prop := ∀ d o st, Cge st (L d o st).2.2
theorem ro_ct {L : Int → Bool → Rst → Fs × Bool × Rst} (hL : Lct L) (hK : Lc0 L) (op deep : Int) (st : Rst) : Cge st (ro L s op deep st).2 := by
  unfold ro
  split
  · split
    · exact Cge.of (rfail_ct st _)
    · have t := rtyp_ct (s := s) st
      have l := hL (deep + 1) (decide (op = 4)) (rtyp s st)
      split
      · have l2 := hL (deep + 1) false (L (deep + 1) (decide (op = 4)) (rtyp s st)).2.2
        have hh : st.count ≤ (L (deep + 1) false (L (deep + 1) (decide (op = 4)) (rtyp s st)).2.2).2.2.count := by have := l.1; have := l2.1; omega
        exact ⟨hh, fun hc hn => l2.2 hc (l.2 (hK _ _ _ hc) (by omega))⟩
      · have hh : st.count ≤ (L (deep + 1) (decide (op = 4)) (rtyp s st)).2.2.count := by have := l.1; omega
        exact ⟨hh, fun hc hn => l.2 hc (by omega)⟩
  · split
    · exact Cge.of (rmoved_ct st _)
    · split
      · exact Cge.of (((rlab_ct _ _).trans (rcap_ct _ _)).trans (rmoved_ct st _))
      · split
        · exact Cge.of ((rnought_ct _).trans (rmoved_ct st _))
        · split
          · exact Cge.of ((rmoved_ct _ _).trans (rmoved_ct st _))
          · split
            · exact Cge.of (rnought_ct st)
            · split
              · exact Cge.of (rlit_ct op st)
              · exact Cge.of rfl
theorem rl_ct : ∀ n : Nat, Lct (rl s n)
  | 0, d, o, st => Cge.of rfl
  | n + 1, d, o, st => by
    have hb := rbyte_ct s st
    unfold rl
    by_cases h0 : st.code = 0
    · rw [if_pos h0]
      by_cases h1 : ¬ (rbyte s st).2.code = 0 ∨ (rbyte s st).1 = 11
      · rw [if_pos h1]; exact Cge.of hb
      · rw [if_neg h1]
        by_cases h2 : (rbyte s st).1 = 5 ∧ o = true
        · rw [if_pos h2]; exact Cge.of hb
        · rw [if_neg h2]
          by_cases h3 : fo (rbyte s st).1 = 9
          · rw [if_pos h3]; exact Cge.of ((rfail_ct _ _).trans hb)
          · rw [if_neg h3]
            by_cases h4 : (rbyte s st).2.count + 1 > 8192
            · rw [if_pos h4]
              refine ⟨?_, fun hc => absurd hc (rfail_ne _ _ (by decide))⟩
              show st.count ≤ (rfail (met (rbyte s st).2) 1400).count
              rw [rfail_ct]
              show st.count ≤ (rbyte s st).2.count + 1
              omega
            · rw [if_neg h4]
              have hr := ro_ct (s := s) (rl_ct n) (rl_c0 n) (rbyte s st).1 d (met (rbyte s st).2)
              have hl := rl_ct n d o (ro (rl s n) s (rbyte s st).1 d (met (rbyte s st).2)).2
              have hm : (met (rbyte s st).2).count = (rbyte s st).2.count + 1 := rfl
              have hh : st.count ≤ (rl s n d o (ro (rl s n) s (rbyte s st).1 d (met (rbyte s st).2)).2).2.2.count := by have := hr.1; have := hl.1; omega
              exact ⟨hh, fun hc hn => hl.2 hc (hr.2 (rl_c0 n _ _ _ hc) (by omega))⟩
    · rw [if_neg h0]; exact Cge.of rfl
/-- what a reader may be -/
def Rok (s : ByteArray) (st : Rst) : Prop := Rin s st ∧ 0 ≤ st.count ∧ (st.code = 0 → st.count ≤ 8192)
end Go.Proofs.Ytngciahmoenkiac


/- Over this seat's translation: the document's reader: one instruction of whatever kind. -/
set_option linter.unusedVariables false
set_option linter.unusedSimpArgs false
set_option maxRecDepth 100000
set_option maxHeartbeats 4000000
namespace Go.Proofs.Ytngciahmoenkiac
open Go.RowKit
variable {q : Nat} {s : ByteArray} {st : Rst}
theorem lq_nil (Z : Nat → Prop) (w : World) (A : Option Addr) : Lq Z w A [] := ⟨Or.inl rfl, fun x => absurd rfl x⟩
theorem tr_nil (Z : Nat → Prop) (w : World) (A : Option Addr) : Tr Z w A .nil := Or.inl rfl
theorem fo_1 (op : Int) (h : fo op = 1) : (op == 4) = false ∧ decide (op = 4) = false := by
  have : ¬ op = 4 := fun e => by subst e; exact absurd h (by decide)
  exact ⟨beq_false this, decide_eq_false this⟩
theorem fo_2 (op : Int) (h : fo op = 2) : op = 4 := by
  unfold fo at h
  repeat' split at h
  all_goals first | assumption | omega
theorem rlab_stop (n : Nat) (h : ¬ st.code = 0) : rlab s n st = ([], st) := by
  cases n with
  | zero => rfl
  | succ n => unfold rlab; rw [if_neg h]
theorem rnum_pos (s : ByteArray) (st : Rst) : 0 ≤ (rnum s st).1 := by
  unfold rnum rmoved
  split
  · exact Int.le_refl _
  · split
    · rename_i h; exact (ul_rng s st.at_ h).1
    · split <;> exact Int.le_refl _
variable {L : Int → Bool → Rst → Fs × Bool × Rst}
theorem rtyp_of {t : Int} {st1 : Rst} (hb : rbyte s st = (t, st1)) : rtyp s st = if st1.code = 0 ∧ ¬ t = 64 ∧ ¬ (124 ≤ t ∧ t ≤ 127) then rfail st1 1400 else st1 := by unfold rtyp; rw [hb]
end Go.Proofs.Ytngciahmoenkiac


/- Over this seat's translation: the document's reader: a list being read. -/
set_option linter.unusedVariables false
set_option linter.unusedSimpArgs false
set_option maxRecDepth 100000
set_option maxHeartbeats 4000000
namespace Go.Proofs.Ytngciahmoenkiac
open Go.RowKit
variable {q : Nat} {s : ByteArray} {st st' : Rst} {w wr wr' : World} {lab lab' : Nat → Nat} {v : Value} {d : Fs}
theorem setRow_sz (w : World) (q : Nat) (cs : Array Value) : (w.setRow q cs).heap.size = w.heap.size := by simp
theorem set3 {a b c c' : Int} : ∀ j, j < 4 → (if j = 3 then Value.int .i64 c' else rF s ⟨a, b, c⟩ j) = rF s ⟨a, b, c'⟩ j := fun j hj => by
  match j, hj with
  | 0, _ => rfl
  | 1, _ => rfl
  | 2, _ => rfl
  | 3, _ => rfl
/-- how far a reader may go yet -/
def mz (s : ByteArray) (q : Nat) (W : World) : Nat :=
  match W.cell? ⟨q, 1, none⟩, W.cell? ⟨q, 2, none⟩ with
  | some (.int _ a), some (.int _ c) => if c = 0 then ((s.size : Int) - a + 1).toNat else 0
  | _, _ => 0
theorem rl_stop (k : Nat) (deep : Int) (other : Bool) (h : ¬ st.code = 0) : rl s k deep other st = (.nil, false, st) := by
  cases k with
  | zero => rfl
  | succ k => unfold rl; rw [if_neg h]
end Go.Proofs.Ytngciahmoenkiac


/- Over this seat's translation: the document's Get (pelorusref12: Uninstrs). -/
set_option linter.unusedVariables false
set_option linter.unusedSimpArgs false
set_option maxRecDepth 100000
set_option maxHeartbeats 4000000
namespace Go.Proofs.Ytngciahmoenkiac
open Go.RowKit
/-- Get: the list, the place behind, an error -/
def unI (s : ByteArray) (at_ : Int) : Fs × Int × Int :=
  if 0 ≤ at_ ∧ at_ ≤ s.size then
    if (rl s (s.size + 1) 0 false ⟨at_, 0, 0⟩).2.2.code = 0 then ((rl s (s.size + 1) 0 false ⟨at_, 0, 0⟩).1, (rl s (s.size + 1) 0 false ⟨at_, 0, 0⟩).2.2.at_, 0)
    else (.nil, 0, (rl s (s.size + 1) 0 false ⟨at_, 0, 0⟩).2.2.code)
  else (.nil, 0, 1400)
end Go.Proofs.Ytngciahmoenkiac


/- What a reader makes is a list that fits: numbers that are ints, not too many instructions. -/
set_option linter.unusedVariables false
set_option linter.unusedSimpArgs false
set_option maxRecDepth 100000
set_option maxHeartbeats 4000000
namespace Go.Proofs.Ytngciahmoenkiac
open Go.RowKit
variable {s : ByteArray} {st : Rst}
theorem i64_wrap (x : Int) : i64 (wrap64 x) := by unfold i64 wrap64; omega
theorem i64_0 : i64 0 := by unfold i64; omega
theorem ac_i64 (s : ByteArray) (a : Nat) : ∀ (j : Nat) (x : Int), i64 x → i64 (ac s a j x)
  | 0, x, h => h
  | j + 1, x, h => ac_i64 s a j _ (i64_wrap _)
theorem us_i64 (s : ByteArray) (a b : Int) : i64 (usR s a b).1 := by
  unfold usR
  split
  · split
    · exact i64_0
    · show i64 (if b = 32 then sg3 _ else ac _ _ _ _)
      split
      · unfold i64 sg3
        split <;> omega
      · refine ac_i64 _ _ _ _ ?_
        split
        · exact i64_0
        · unfold i64; omega
  · exact i64_0
theorem rmoved_i64 (st : Rst) (x : Int × Int × Int) (h : i64 x.1) : i64 (rmoved st x).1 := by
  unfold rmoved
  split
  · exact i64_0
  · split
    · exact h
    · split <;> exact i64_0
theorem rnum_i64 (s : ByteArray) (st : Rst) : i64 (rnum s st).1 := by
  unfold rnum rmoved
  split
  · exact i64_0
  · split
    · rename_i h
      have := ul_rng s st.at_ h
      unfold i64
      show -9223372036854775808 ≤ (ulR s st.at_ 32).1 ∧ (ulR s st.at_ 32).1 ≤ 9223372036854775807
      omega
    · split <;> exact i64_0
theorem rbyte_i64 (s : ByteArray) (st : Rst) : i64 (rbyte s st).1 := by
  unfold rbyte
  split
  · have := bt_lt s st.at_.toNat
    unfold i64
    show -9223372036854775808 ≤ bt s st.at_.toNat ∧ bt s st.at_.toNat ≤ 9223372036854775807
    omega
  · exact i64_0
theorem or_i64' (a b : Int) : i64 (bits .or .i64 a b) := by rw [BM.or_i64]; exact i64_wrap _
theorem rbF_i64 : ∀ (r i : Nat) (x : Int) (st : Rst), i64 x → i64 (rbF s r i x st).1
  | 0, i, x, st, h => h
  | r + 1, i, x, st, h => rbF_i64 r (i + 1) _ _ (or_i64' _ _)
theorem rlit_i64 (op : Int) (st : Rst) : i64 (rlit s op st).1 := by
  unfold rlit
  split
  · unfold i64; show -9223372036854775808 ≤ (rsgn s st 32).1 % 4294967296 ∧ (rsgn s st 32).1 % 4294967296 ≤ 9223372036854775807; omega
  · split
    · exact rmoved_i64 st _ (us_i64 s st.at_ 64)
    · split
      · exact rbF_i64 4 0 0 st i64_0
      · exact rbF_i64 8 0 0 st i64_0
theorem rlab_i64 : ∀ (n : Nat) (st : Rst), (∀ x ∈ (rlab s n st).1, i64 x) ∧ (rlab s n st).1.length ≤ n
  | 0, st => ⟨fun x h => by simp [rlab] at h, Nat.le_refl _⟩
  | n + 1, st => by
    unfold rlab
    split
    · have ih := rlab_i64 n (rnum s st).2
      refine ⟨fun x h => ?_, by simp; exact ih.2⟩
      rcases List.mem_cons.1 h with rfl | h
      · exact rnum_i64 s st
      · exact ih.1 x h
    · exact ⟨fun x h => by simp at h, by simp⟩
/-- not too many met -/
def Cok (st : Rst) : Prop := 0 ≤ st.count ∧ st.count ≤ 8193 ∧ (st.code = 0 → st.count ≤ 8192)
theorem Cok.of {st st' : Rst} (h : Cok st) (hc : st'.count = st.count) (h0 : st'.code = 0 → st.code = 0) : Cok st' := ⟨by rw [hc]; exact h.1, by rw [hc]; exact h.2.1, fun x => by rw [hc]; exact h.2.2 (h0 x)⟩
/-- a list's reader makes lists that fit -/
def Lok (L : Int → Bool → Rst → Fs × Bool × Rst) : Prop := ∀ d o st, Cok st → Cok (L d o st).2.2 ∧ (L d o st).1.Ok ∧ ((L d o st).1.len : Int) ≤ (L d o st).2.2.count - st.count
theorem ro_ok {L : Int → Bool → Rst → Fs × Bool × Rst} (hL : Lok L) (op deep : Int) (h : Cok st) : Cok (ro L s op deep st).2 ∧ st.count ≤ (ro L s op deep st).2.count ∧ i64 (ro L s op deep st).1.a ∧ i64 (ro L s op deep st).1.b ∧ i64 (ro L s op deep st).1.bi ∧ i64 (ro L s op deep st).1.ty ∧ (∀ x ∈ (ro L s op deep st).1.ls, i64 x) ∧ (ro L s op deep st).1.ls.length * 8 ≤ 140737488351232 ∧ (ro L s op deep st).1.bo.len * 112 ≤ 140737488351232 ∧ (ro L s op deep st).1.el.len * 112 ≤ 140737488351232 ∧ (ro L s op deep st).1.bo.Ok ∧ (ro L s op deep st).1.el.Ok := by
  have z := i64_0
  have nl : ∀ x ∈ ([] : List Int), i64 x := fun x h => by simp at h
  have k0 : (0 : Nat) * 8 ≤ 140737488351232 := by decide
  have k1 : (0 : Nat) * 112 ≤ 140737488351232 := by decide
  unfold ro
  split
  · split
    · exact ⟨h.of (rfail_ct st _) (fun x => rfail_c0 x), by rw [show (({} : On), rfail st 1402).2 = rfail st 1402 from rfl, rfail_ct]; exact Int.le_refl _, z, z, z, z, nl, k0, k1, k1, trivial, trivial⟩
    · have ct := h.of (rtyp_ct (s := s) st) (fun x => rtyp_c0 x)
      have ht := rtyp_ct (s := s) st
      have l1 := hL (deep + 1) (decide (op = 4)) (rtyp s st) ct
      have hb1 : (L (deep + 1) (decide (op = 4)) (rtyp s st)).1.len * 112 ≤ 140737488351232 := by have := l1.1.2.1; have := l1.2.2; have := ct.1; omega
      split
      · have l2 := hL (deep + 1) false (L (deep + 1) (decide (op = 4)) (rtyp s st)).2.2 l1.1
        have hb2 : (L (deep + 1) false (L (deep + 1) (decide (op = 4)) (rtyp s st)).2.2).1.len * 112 ≤ 140737488351232 := by have := l2.1.2.1; have := l2.2.2; have := l1.1.1; omega
        have hc : st.count ≤ (L (deep + 1) false (L (deep + 1) (decide (op = 4)) (rtyp s st)).2.2).2.2.count := by have := l2.2.2; have := l1.2.2; omega
        exact ⟨l2.1, hc, z, z, z, rbyte_i64 s st, nl, k0, hb1, hb2, l1.2.1, l2.2.1⟩
      · have hc : st.count ≤ (L (deep + 1) (decide (op = 4)) (rtyp s st)).2.2.count := by have := l1.2.2; omega
        exact ⟨l1.1, hc, z, z, z, rbyte_i64 s st, nl, k0, hb1, k1, l1.2.1, trivial⟩
  · split
    · exact ⟨h.of (rmoved_ct st _) (fun x => rmoved_c0 x), by show st.count ≤ (rnum s st).2.count; rw [show (rnum s st).2.count = st.count from rmoved_ct st _]; exact Int.le_refl _, rnum_i64 s st, z, z, z, nl, k0, k1, k1, trivial, trivial⟩
    · split
      · have e : (rlab s ((rnum s st).1.toNat + 1) (rcap (rnum s st).1 (rnum s st).2)).2.count = st.count := ((rlab_ct _ _).trans (rcap_ct _ _)).trans (rmoved_ct st _)
        have hl : (rlab s ((rnum s st).1.toNat + 1) (rcap (rnum s st).1 (rnum s st).2)).1.length * 8 ≤ 140737488351232 := by
          by_cases hx : (rnum s st).1 ≥ 1024
          · have : ¬ (rcap (rnum s st).1 (rnum s st).2).code = 0 := by unfold rcap; rw [if_pos hx]; exact rfail_ne _ _ (by decide)
            rw [rlab_stop _ this]
            exact k0
          · have := (rlab_i64 (s := s) ((rnum s st).1.toNat + 1) (rcap (rnum s st).1 (rnum s st).2)).2
            omega
        exact ⟨h.of e (fun x => rmoved_c0 (rcap_c0 (rlab_c0 _ _ x))), by show st.count ≤ (rlab s ((rnum s st).1.toNat + 1) (rcap (rnum s st).1 (rnum s st).2)).2.count; rw [e]; exact Int.le_refl _, z, z, z, z, (rlab_i64 _ _).1, hl, k1, k1, trivial, trivial⟩
      · split
        · have e : (rnought s (rnum s st).2).count = st.count := (rnought_ct _).trans (rmoved_ct st _)
          exact ⟨h.of e (fun x => rmoved_c0 (rnought_c0 x)), by show st.count ≤ (rnought s (rnum s st).2).count; rw [e]; exact Int.le_refl _, rnum_i64 s st, z, z, z, nl, k0, k1, k1, trivial, trivial⟩
        · split
          · have e : (rnum s (rnum s st).2).2.count = st.count := (rmoved_ct _ _).trans (rmoved_ct st _)
            exact ⟨h.of e (fun x => rmoved_c0 (rmoved_c0 x)), by show st.count ≤ (rnum s (rnum s st).2).2.count; rw [e]; exact Int.le_refl _, rnum_i64 s st, rnum_i64 s _, z, z, nl, k0, k1, k1, trivial, trivial⟩
          · split
            · exact ⟨h.of (rnought_ct st) (fun x => rnought_c0 x), by show st.count ≤ (rnought s st).count; rw [rnought_ct]; exact Int.le_refl _, z, z, z, z, nl, k0, k1, k1, trivial, trivial⟩
            · split
              · exact ⟨h.of (rlit_ct op st) (fun x => rlit_c0 x), by show st.count ≤ (rlit s op st).2.count; rw [rlit_ct]; exact Int.le_refl _, z, z, rlit_i64 op st, z, nl, k0, k1, k1, trivial, trivial⟩
              · exact ⟨h, Int.le_refl _, z, z, z, z, nl, k0, k1, k1, trivial, trivial⟩
theorem rl_ok : ∀ n : Nat, Lok (rl s n)
  | 0, d, o, st, h => ⟨h, trivial, by show (0 : Int) ≤ st.count - st.count; omega⟩
  | n + 1, d, o, st, h => by
    have hb := rbyte_ct s st
    have hB := h.of hb (fun x => rbyte_c0 x)
    unfold rl
    by_cases h0 : st.code = 0
    · rw [if_pos h0]
      by_cases h1 : ¬ (rbyte s st).2.code = 0 ∨ (rbyte s st).1 = 11
      · rw [if_pos h1]; exact ⟨hB, trivial, by show (0 : Int) ≤ (rbyte s st).2.count - st.count; omega⟩
      · rw [if_neg h1]
        by_cases h2 : (rbyte s st).1 = 5 ∧ o = true
        · rw [if_pos h2]; exact ⟨hB, trivial, by show (0 : Int) ≤ (rbyte s st).2.count - st.count; omega⟩
        · rw [if_neg h2]
          by_cases h3 : fo (rbyte s st).1 = 9
          · rw [if_pos h3]
            have e := rfail_ct (rbyte s st).2 1403
            exact ⟨hB.of e (fun x => rfail_c0 x), trivial, by show (0 : Int) ≤ (rfail (rbyte s st).2 1403).count - st.count; omega⟩
          · rw [if_neg h3]
            have hm : (met (rbyte s st).2).count = (rbyte s st).2.count + 1 := rfl
            have hcb := hB.1
            have hc8 := h.2.2 h0
            by_cases h4 : (rbyte s st).2.count + 1 > 8192
            · rw [if_pos h4]
              have e := rfail_ct (met (rbyte s st).2) 1400
              refine ⟨⟨?_, ?_, fun hc => absurd hc (rfail_ne _ _ (by decide))⟩, trivial, ?_⟩
              · show 0 ≤ (rfail (met (rbyte s st).2) 1400).count; omega
              · show (rfail (met (rbyte s st).2) 1400).count ≤ 8193; omega
              · show (0 : Int) ≤ (rfail (met (rbyte s st).2) 1400).count - st.count; omega
            · rw [if_neg h4]
              have hM : Cok (met (rbyte s st).2) := ⟨by omega, by omega, fun _ => by omega⟩
              obtain ⟨q1, q2, q3, q4, q5, q6, q7, q8, q9, q10, q11, q12⟩ := ro_ok (s := s) (rl_ok n) (rbyte s st).1 d hM
              obtain ⟨r1, r2, r3⟩ := rl_ok n d o (ro (rl s n) s (rbyte s st).1 d (met (rbyte s st).2)).2 q1
              refine ⟨r1, ⟨⟨rbyte_i64 s st, q3, q4, q5, q6, q7⟩, q8, q9, q10, q11, q12, r2⟩, ?_⟩
              show (((rl s n d o (ro (rl s n) s (rbyte s st).1 d (met (rbyte s st).2)).2).1.len + 1 : Nat) : Int) ≤ (rl s n d o (ro (rl s n) s (rbyte s st).1 d (met (rbyte s st).2)).2).2.2.count - st.count
              omega
    · rw [if_neg h0]; exact ⟨h, trivial, by show (0 : Int) ≤ st.count - st.count; omega⟩
theorem unI_ok (s : ByteArray) (at_ : Int) : (unI s at_).1.Ok ∧ (unI s at_).1.len * 112 ≤ 140737488351232 := by
  unfold unI
  split
  · split
    · have h := rl_ok (s := s) (s.size + 1) 0 false ⟨at_, 0, 0⟩ ⟨Int.le_refl _, by show (0 : Int) ≤ 8193; decide, fun _ => by show (0 : Int) ≤ 8192; decide⟩
      have h1 := h.1.2.1
      have h2 := h.2.2
      refine ⟨h.2.1, ?_⟩
      show (rl s (s.size + 1) 0 false ⟨at_, 0, 0⟩).1.len * 112 ≤ 140737488351232
      simp only at h2
      omega
    · exact ⟨trivial, by show (0 : Nat) * 112 ≤ 140737488351232; decide⟩
  · exact ⟨trivial, by decide⟩
end Go.Proofs.Ytngciahmoenkiac

