/- package instr's reader: zero, blockType, lowest, labels. -/
import Derived.Test.YtkdfmgdadnlnlaaKA
import Derived.Test.YtkdfmgdadnlnlaaXP
set_option linter.unusedVariables false
set_option linter.unusedSimpArgs false
set_option maxRecDepth 100000
set_option maxHeartbeats 8000000
namespace Go.Proofs.Ytkdfmgdadnlnlaa.gi
open Go.RowKit
variable {q : Nat} {w wr W W' : World} {s : ByteArray} {st st' : Rst} {lab : Nat → Nat} {l : List Int} {v : Value}
/-- a new block without a mark -/
def Zn (B : Nat) (W : World) (k : Nat) : Prop := B ≤ k ∧ Nf W k
theorem nf_of {k : Nat} (h : W'.heap[k]? = W.heap[k]?) (hn : Nf W k) : Nf W' k := fun i => (World.frozen?_of_block (w := W) (a := ⟨k, i, none⟩) h).trans (hn i)
theorem nf_row {k : Nat} {cur : Array Value} {e : TypeId} (h : W.heap[k]? = some (.cells cur e (0, 0))) : Nf W k := fun i => by simp [World.frozen?, h]
theorem zn_mv {B B' : Nat} (hB : B' ≤ B) (hs : ∀ k, B ≤ k → k < W.heap.size → W'.heap[k]? = W.heap[k]?) : ∀ k, Zn B W k → k < W.heap.size → Zn B' W' k ∧ W'.heap[k]? = W.heap[k]? := fun k hk hl => ⟨⟨Nat.le_trans hB hk.1, nf_of (hs k hk.1 hl) hk.2⟩, hs k hk.1 hl⟩
theorem pzero_any (hs : s.size < 9223372036854775000) (hin : Rin s st) (w : World) (h : w.rowIs q 67 4 (pF s st)) :
    Calls Try.prog 83 #[.pointer (some ⟨q, 0, none⟩)] w fun e' w' => e' = .returned (.tuple #[]) ∧ Hid (Ps q w w' s (rnought s st)) := by
  have hb : Hid (Calls Try.prog 44 #[.pointer (some ⟨q, 0, none⟩)] w fun e' w' => e' = .returned (.int .i64 (rbyte s st).1) ∧ Hid (Ps q w w' s (rbyte s st).2)) := pnext_any hs hin w h
  have hf : Hid (∀ W, Ps q w W s (rbyte s st).2 → Calls Try.prog 63 #[.pointer (some ⟨q, 0, none⟩), .int .i64 1400] W fun e' w' => e' = .returned (.tuple #[]) ∧ Hid (Ps q W w' s (rfail (rbyte s st).2 1400))) := fun W hW => pfail_any 1400 W hW.2.1
  unfold rnought
  generalize rbyte s st = K at *
  obtain ⟨b, st1⟩ := K
  simp only [] at hb hf ⊢
  clear h
  by_cases h0 : b = 0
  · subst h0
    rw [if_pos rfl]
    go_enter Try.func83, Try.ntmps83
    go_wp2_with (go_at_call 44; refine hb.out.mono ?_; rintro e1 w1 ⟨rfl, R1⟩)
    go_end0
    exact ⟨rfl, R1⟩
  · rw [if_neg h0]
    have h1 : (b != 0) = true := by simpa using h0
    go_enter Try.func83, Try.ntmps83
    go_wp2_with (first | (go_at_call 44; refine hb.out.mono ?_; rintro e1 w1 ⟨rfl, R1⟩) | (go_at_call 63; refine (hf.out _ R1.out).mono ?_; rintro e1 w2 ⟨rfl, R2⟩))
    go_end0
    exact ⟨rfl, R1.out.trans R2.out⟩
theorem rtyp_bty (s : ByteArray) (st : Rst) : rtyp s st = if bty (rbyte s st).1 = true then (rbyte s st).2 else rfail (rbyte s st).2 1400 := by
  unfold rtyp bty
  by_cases h : (rbyte s st).1 = 64 ∨ (124 ≤ (rbyte s st).1 ∧ (rbyte s st).1 ≤ 127)
  · rw [if_neg (by omega), if_pos (by simpa using h)]
  · have hd : ¬ decide ((rbyte s st).1 = 64 ∨ (124 ≤ (rbyte s st).1 ∧ (rbyte s st).1 ≤ 127)) = true := by simpa using h
    by_cases hc : (rbyte s st).2.code = 0
    · rw [if_pos ⟨hc, by omega, by omega⟩, if_neg hd]
    · rw [if_neg (fun x => hc x.1), if_neg hd]
      unfold rfail
      rw [if_neg hc]
theorem ptyp_any (hs : s.size < 9223372036854775000) (hin : Rin s st) (w : World) (h : w.rowIs q 67 4 (pF s st)) :
    Calls Try.prog 81 #[.pointer (some ⟨q, 0, none⟩)] w fun e' w' => e' = .returned (.int .i64 (rbyte s st).1) ∧ Hid (Ps q w w' s (rtyp s st)) := by
  have hb : Hid (Calls Try.prog 44 #[.pointer (some ⟨q, 0, none⟩)] w fun e' w' => e' = .returned (.int .i64 (rbyte s st).1) ∧ Hid (Ps q w w' s (rbyte s st).2)) := pnext_any hs hin w h
  have hf : Hid (∀ W, Ps q w W s (rbyte s st).2 → Calls Try.prog 63 #[.pointer (some ⟨q, 0, none⟩), .int .i64 1400] W fun e' w' => e' = .returned (.tuple #[]) ∧ Hid (Ps q W w' s (rfail (rbyte s st).2 1400))) := fun W hW => pfail_any 1400 W hW.2.1
  have ht : Hid (∀ W, Calls Try.prog 53 #[.int .i64 (rbyte s st).1] W fun e w' => e = .returned (.bool (bty (rbyte s st).1)) ∧ w' = W) := fun W => bty_any _ W
  rw [rtyp_bty]
  generalize rbyte s st = K at *
  obtain ⟨b, st1⟩ := K
  simp only [] at hb hf ht ⊢
  clear h
  generalize bty b = t at *
  cases t with
  | true =>
    rw [if_pos rfl]
    go_enter Try.func81, Try.ntmps81
    go_wp2_with (first | (go_at_call 44; refine hb.out.mono ?_; rintro e1 w1 ⟨rfl, R1⟩) | (go_at_call 53; refine (ht.out _).mono ?_; rintro e2 w2 ⟨rfl, rfl⟩))
    go_ret
    exact ⟨rfl, R1⟩
  | false =>
    rw [if_neg (by decide)]
    go_enter Try.func81, Try.ntmps81
    go_wp2_with (first | (go_at_call 44; refine hb.out.mono ?_; rintro e1 w1 ⟨rfl, R1⟩) | (go_at_call 53; refine (ht.out _).mono ?_; rintro e2 w2 ⟨rfl, rfl⟩) | (go_at_call 63; refine (hf.out _ R1.out).mono ?_; rintro e3 w3 ⟨rfl, R3⟩))
    go_ret
    exact ⟨rfl, R1.out.trans R3.out⟩
theorem pbits_any (hs : s.size < 9223372036854775000) (hin : Rin s st) (k : Nat) (hk : k ≤ 8) (w : World) (h : w.rowIs q 67 4 (pF s st)) :
    Calls Try.prog 86 #[.pointer (some ⟨q, 0, none⟩), .int .i64 (k : Int)] w fun e' w' => e' = .returned (.int .i64 (rbits s k st).1) ∧ Hid (Ps q w w' s (rbits s k st).2) := by
  have R := Ps.start h
  replace R : Hid (Ps q w w s st) := R
  unfold rbits
  clear h
  go_enter Try.func86, Try.ntmps86
  go_wp2_with fail
  go_loopw [5, 8] (fun v i wr => ∃ (j : Nat) (x : Int) (st1 : Rst), j ≤ k ∧ i = .int .i64 (j : Nat) ∧ v = .int .i64 x ∧ Rin s st1 ∧ Ps q w wr s st1 ∧ rbF s k 0 0 st = rbF s (k - j) j x st1) (fun v i _ => k - (intOf i).toNat)
  case atStart => exact ⟨0, 0, st, Nat.zero_le _, rfl, rfl, hin, R.out, rfl⟩
  case round =>
    obtain ⟨j, x, st1, hj, rfl, rfl, hin1, R1, hr⟩ := hrel
    by_cases hlt : j < k
    · have hl1 : (j : Int) < (k : Int) := by omega
      have h8 : 8 * (j : Int) < 64 := by omega
      rw [show k - j = (k - (j + 1)) + 1 by omega] at hr
      conv at hr => rhs; unfold rbF
      have hb : Hid (Calls Try.prog 44 #[.pointer (some ⟨q, 0, none⟩)] wr fun e' w' => e' = .returned (.int .i64 (rbyte s st1).1) ∧ Hid (Ps q wr w' s (rbyte s st1).2)) := pnext_any hs hin1 wr R1.2.1
      have hin2 : Hid (Rin s (rbyte s st1).2) := rbyte_in hin1
      replace hr : Hid (rbF s k 0 0 st = rbF s (k - (j + 1)) (j + 1) (bits .or .i64 x (wrap64 ((rbyte s st1).1 * 2 ^ (8 * j)))) (rbyte s st1).2) := hr
      replace R1 : Hid (Ps q w wr s st1) := R1
      generalize (rbyte s st1).2 = st2 at *
      generalize (rbyte s st1).1 = b at *
      go_wp2_with (go_at_call 44; refine hb.out.mono ?_; clear hb; rintro e1 w1 ⟨rfl, R2⟩)
      go_roundw
      case rel => exact ⟨j + 1, _, st2, by omega, by go_num, rfl, hin2.out, R1.out.trans R2.out, hr.out⟩
      case measure => simp [intOf]; omega
    · have hje : j = k := by omega
      subst hje
      have hr2 : Hid (rbF s j 0 0 st = (x, st1)) := by show _ = _; rw [hr, Nat.sub_self]; rfl
      replace R1 : Hid (Ps q w wr s st1) := R1
      clear hr
      go_wp2_with fail
      go_ret
      rw [hr2.out]
      exact ⟨rfl, R1⟩
/-- labels being read -/
def Pl (q : Nat) (w W : World) (s : ByteArray) (st : Rst) (v : Value) (lab : Nat → Nat) (l : List Int) : Prop := Ps q w W s st ∧ Fld lab 0 W w.heap.size 3 1 v l.length (ints l) ∧ ∀ k, k < w.heap.size → lab k = 99
theorem Ps.qlt (h : Ps q w W s st) : q < w.heap.size := by obtain ⟨_, _, F0, h3⟩ := h; exact h3.lt
theorem Pl.lq {A : Option Addr} {cap : Nat} (h : Pl q w W s st (.slice A l.length cap) lab l) : Lq (Zn w.heap.size W) W A l := by
  have h2 := h.2.1
  by_cases hl : l = []
  · subst hl
    exact ⟨Or.inl rfl, fun x => absurd rfl x⟩
  · obtain ⟨g, rfl, hb, hlt, hlab, hcap, ⟨cur, hcur, _⟩, hc⟩ := h2.at_ (List.length_pos_iff.2 hl)
    refine ⟨Or.inr ⟨g, 0, rfl, fun j hj => ?_⟩, fun _ a ha => ?_⟩
    · rw [Nat.zero_add]
      refine hc j _ ?_
      simp [ints, hj]
    · cases ha
      exact ⟨hb, nf_row hcur⟩
theorem Pl.start (h : Ps q w W s st) : Pl q w W s st (.slice none 0 0) (fun _ => 99) [] := ⟨h, ⟨World.ownsRow_nil _ _ _ _, fun g hg => by cases hg⟩, fun _ _ => rfl⟩
theorem Pl.form (h : Pl q w W s st v lab l) : ∃ A cap, v = .slice A l.length cap := by
  rcases h.2.1.1.2 with ⟨e, h0⟩ | ⟨g, cap', cur, e, _⟩
  · rw [h0]; exact ⟨none, 0, e⟩
  · exact ⟨_, _, e⟩
theorem Pl.ps (h : Pl q w W s st v lab l) (hr : Ps q W W' s st') : Pl q w W' s st' v lab l := by
  obtain ⟨h1, h2, h3⟩ := h
  have hq := Ps.qlt h1
  exact ⟨h1.trans hr, h2.chg (S := (· = 99)) (lab' := lab) ⟨hr.size, fun k hk hs => ⟨rfl, hr.block (fun e => hs (h3 k (by omega))) hk⟩⟩ (by decide), h3⟩
theorem Pl.more (h : Pl q w W s st v lab l) (x : Int) (hn : l.length ≤ 2000) : ∃ g cap w' lab', (Builtin.append_ #[45, 45] 45 #[v, .slice (some ⟨W.heap.size, 0, none⟩) 1 1]).run Try.prog (W.alloc (.cells #[.int .i64 x] 3)) = .ok (.slice (some ⟨g, 0, none⟩) (l.length + 1) cap) w' ∧ Pl q w w' s st (.slice (some ⟨g, 0, none⟩) (l.length + 1) cap) lab' (l ++ [x]) := by
  obtain ⟨h1, h2, h3⟩ := h
  have hq := Ps.qlt h1
  obtain ⟨i0, hi, hz0, hz1, hz2⟩ := int_parts
  obtain ⟨⟨cs, bs, n, e⟩, rq, F0, r0⟩ := id h1
  have hL : Later (w.setRow q cs) W := ⟨bs, n, e⟩
  have hs : (w.setRow q cs).heap.size = w.heap.size := by simp
  have hone : ∀ u ∈ [Value.int .i64 x], u.oneCell' = true := by
    intro u hu
    simp only [List.mem_cons, List.not_mem_nil, or_false] at hu
    subst hu
    rfl
  obtain ⟨g, cap, w', lab', r, G, l2, C⟩ := fld_more (P := Try.prog) hL 45 45 3 i0 (.int .i64 0) 1 8 Try.underlying45 hi hz0 hz1 hz2 rfl (by decide) (by rw [hs]; exact h2) [.int .i64 x] rfl hone (by unfold maxLen; omega) (by omega)
  have kp : ∀ k, k < w.heap.size → k < W.heap.size → lab' k = 99 ∧ w'.heap[k]? = W.heap[k]? := fun k hk hl => by
    have := C.2 k hl (by rw [h3 k hk]; decide)
    exact ⟨this.1.trans (h3 k hk), this.2⟩
  have O1 : Ps q w w' s st := by
    obtain ⟨bs', n', e'⟩ := l2
    exact ⟨⟨cs, bs', n', e'⟩, rq.of_block (kp q hq rq.lt).2, F0, r0⟩
  have hws := h1.size
  refine ⟨g, cap, w', lab', r, O1, ?_, fun k hk => (kp k hk (by omega)).1⟩
  rw [hs] at G
  rw [List.length_append, List.length_singleton, show ints (l ++ [x]) = ints l ++ [.int .i64 x] by simp [ints]]
  exact G
theorem rcap_in {s : ByteArray} {st : Rst} (h : Rin s st) (x : Int) : Rin s (rcap x st) := by
  unfold rcap
  split
  · exact rfail_in h _
  · exact h
theorem plab_any (hs : s.size < 9223372036854775000) (hin : Rin s st) (w : World) (h : w.rowIs q 67 4 (pF s st)) :
    Calls Try.prog 84 #[.pointer (some ⟨q, 0, none⟩)] w fun e w' => ∃ A c, e = .returned (.slice A (rlab s ((rnum s st).1.toNat + 1) (rcap (rnum s st).1 (rnum s st).2)).1.length c) ∧ Hid (Lq (Zn w.heap.size w') w' A (rlab s ((rnum s st).1.toNat + 1) (rcap (rnum s st).1 (rnum s st).2)).1) ∧ Hid (Ps q w w' s (rlab s ((rnum s st).1.toNat + 1) (rcap (rnum s st).1 (rnum s st).2)).2) := by
  have hnum : Hid (Calls Try.prog 82 #[.pointer (some ⟨q, 0, none⟩)] w fun e' w' => e' = .returned (.int .i64 (rnum s st).1) ∧ Hid (Ps q w w' s (rnum s st).2)) := pnum_any hs hin w h
  have hx0 := rnum_pos s st
  have hin1 : Hid (Rin s (rnum s st).2) := rnum_in hin
  have hfail : Hid (∀ W, Ps q w W s (rnum s st).2 → Calls Try.prog 63 #[.pointer (some ⟨q, 0, none⟩), .int .i64 1400] W fun e' w' => e' = .returned (.tuple #[]) ∧ Hid (Ps q W w' s (rfail (rnum s st).2 1400))) := fun W hW => pfail_any 1400 W hW.2.1
  generalize rnum s st = K at *
  obtain ⟨x, st1⟩ := K
  simp only [] at hnum hx0 hin1 hfail ⊢
  clear h hin
  unfold rcap
  by_cases hx : x ≥ 1024
  · rw [if_pos hx]
    have hne := rfail_ne st1 1400 (by decide)
    rw [rlab_stop _ hne]
    generalize rfail st1 1400 = st2 at *
    obtain ⟨a2, cd, ct⟩ := st2
    have n1 : (cd == 0) = false := beq_false hne
    go_enter Try.func84, Try.ntmps84
    go_wp2_with (first | (go_at_call 82; refine hnum.out.mono ?_; rintro e w1 ⟨rfl, R1⟩) | (go_at_call 63; refine (hfail.out _ R1.out).mono ?_; rintro e w2 ⟨rfl, R2⟩))
    have k3 : w2.cell? ⟨q, 3, none⟩ = some (.int .i64 cd) := R2.out.cell 3 (by decide)
    have kl := cell_lt k3
    refine wp_loop_rounds 1 ?_
    rw [rounds_succ]
    go_wp2_with fail
    go_ret
    first | exact ⟨none, 0, rfl, lq_nil _ _ _, R1.out.trans R2.out⟩ | exact ⟨none, ⟨0, rfl⟩, lq_nil _ _ _, R1.out.trans R2.out⟩
  · rw [if_neg hx]
    have hx2 : ¬ 1024 ≤ x := hx
    go_enter Try.func84, Try.ntmps84
    go_wp2_with (go_at_call 82; refine hnum.out.mono ?_; rintro e w1 ⟨rfl, R1⟩)
    go_loopw [4, 5] (fun v i wr => ∃ (lab : Nat → Nat) (l : List Int) (st2 : Rst), i = .int .i64 (l.length : Nat) ∧ (l.length : Int) ≤ x + 1 ∧ Rin s st2 ∧ Pl q w wr s st2 v lab l ∧ rlab s (x.toNat + 1) st1 = (l ++ (rlab s (x.toNat + 1 - l.length) st2).1, (rlab s (x.toNat + 1 - l.length) st2).2)) (fun v i _ => x.toNat + 1 - (intOf i).toNat)
    case atStart => exact ⟨fun _ => 99, [], st1, rfl, by simp; omega, hin1.out, Pl.start R1.out, rfl⟩
    case round =>
      obtain ⟨lab, l, st2, rfl, hj, hin2, OL, hr⟩ := hrel
      obtain ⟨A, cap, rfl⟩ := OL.form
      obtain ⟨a2, cd, ct⟩ := st2
      have k3 : wr.cell? ⟨q, 3, none⟩ = some (.int .i64 cd) := OL.1.cell 3 (by decide)
      have kl := cell_lt k3
      by_cases hgo : (l.length : Int) ≤ x ∧ cd = 0
      · obtain ⟨hg1, rfl⟩ := hgo
        have hnum2 : Hid (Calls Try.prog 82 #[.pointer (some ⟨q, 0, none⟩)] wr fun e' w' => e' = .returned (.int .i64 (rnum s ⟨a2, 0, ct⟩).1) ∧ Hid (Pl q w w' s (rnum s ⟨a2, 0, ct⟩).2 (.slice A l.length cap) lab l)) := by
          refine (pnum_any hs hin2 wr OL.1.row).mono ?_
          rintro e w3 ⟨rfl, R3⟩
          exact ⟨rfl, OL.ps R3.out⟩
        have hmore : Hid (∀ w3, Pl q w w3 s (rnum s ⟨a2, 0, ct⟩).2 (.slice A l.length cap) lab l → ∃ g cap2 w4 lab4, Hid ((Builtin.append_ #[45, 45] 45 #[.slice A l.length cap, .slice (some ⟨w3.heap.size, 0, none⟩) 1 1]).run Try.prog (w3.alloc (.cells #[.int .i64 (rnum s ⟨a2, 0, ct⟩).1] 3)) = .ok (.slice (some ⟨g, 0, none⟩) (l.length + 1) cap2) w4) ∧ Hid (Pl q w w4 s (rnum s ⟨a2, 0, ct⟩).2 (.slice (some ⟨g, 0, none⟩) (l.length + 1) cap2) lab4 (l ++ [(rnum s ⟨a2, 0, ct⟩).1]))) := fun w3 O3 => O3.more _ (by omega)
        have hr2 : Hid (rlab s (x.toNat + 1) st1 = ((l ++ [(rnum s ⟨a2, 0, ct⟩).1]) ++ (rlab s (x.toNat + 1 - (l.length + 1)) (rnum s ⟨a2, 0, ct⟩).2).1, (rlab s (x.toNat + 1 - (l.length + 1)) (rnum s ⟨a2, 0, ct⟩).2).2)) := by
          show _ = _
          rw [hr, show x.toNat + 1 - l.length = (x.toNat + 1 - (l.length + 1)) + 1 by omega]
          conv => lhs; unfold rlab
          simp
        have hin3 : Hid (Rin s (rnum s ⟨a2, 0, ct⟩).2) := rnum_in hin2
        clear hr OL
        replace hin2 : Hid True := trivial
        generalize (rnum s ⟨a2, 0, ct⟩).2 = st3 at *
        generalize (rnum s ⟨a2, 0, ct⟩).1 = y at *
        go_wp2_with (first | (go_at_call 82; refine hnum2.out.mono ?_; rintro e w3 ⟨rfl, O3⟩; obtain ⟨g, cap2, w4, lab4, r4, O4⟩ := hmore.out w3 O3.out) | (at_builtin; refine wpList_app rfl _ _ 45 rfl _ _ _ rfl rfl r4.out ?_))
        refine ⟨⟨lab4, l ++ [y], st3, by simp, by simp; omega, hin3.out, by simpa using O4.out, by simpa using hr2.out⟩, ?_⟩
        simp [intOf]
        omega
      · have hfin : Hid (rlab s (x.toNat + 1) st1 = (l, ⟨a2, cd, ct⟩)) := by
          show _ = _
          rw [hr]
          by_cases hg1 : (l.length : Int) ≤ x
          · have hcd : ¬ cd = 0 := fun e => hgo ⟨hg1, e⟩
            rw [show x.toNat + 1 - l.length = (x.toNat + 1 - (l.length + 1)) + 1 by omega]
            unfold rlab
            simp [hcd]
          · rw [show x.toNat + 1 - l.length = 0 by omega]
            simp [rlab]
        have hlq : Hid (Lq (Zn w.heap.size wr) wr A l) := OL.lq
        have hps : Hid (Ps q w wr s ⟨a2, cd, ct⟩) := OL.1
        have hgo2 : (¬ (l.length : Int) ≤ x) ∨ ((l.length : Int) ≤ x ∧ (cd == 0) = false) := by
          by_cases hg1 : (l.length : Int) ≤ x
          · exact Or.inr ⟨hg1, beq_false (fun e => hgo ⟨hg1, e⟩)⟩
          · exact Or.inl hg1
        clear hgo hr OL hin2
        rcases hgo2 with h9 | ⟨h9, h8⟩
        all_goals
          go_wp2_with fail
          go_ret
          rw [hfin.out]
          first | exact ⟨A, cap, rfl, hlq, hps⟩ | exact ⟨A, ⟨cap, rfl⟩, hlq, hps⟩
end Go.Proofs.Ytkdfmgdadnlnlaa.gi
