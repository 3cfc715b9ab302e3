/- Over this seat's translation: package names: UTF-8 by one walk over the bytes (isUTF8). -/
import Derived.Test.YthbagkaodcplmaaOVA
set_option linter.unusedVariables false
set_option linter.unusedSimpArgs false
set_option maxRecDepth 100000
set_option maxHeartbeats 4000000
namespace Go.Proofs.Ythbagkaodcplmaa
open Go.RowKit
/-- UTF-8 from a place on, with so much of a sign left -/
def st3 (s : ByteArray) (k : Nat) (m l h : Int) : Bool := if m = 0 then utf s (s.size - k) k else tls s k m.toNat l h && utf s (s.size - (k + m.toNat)) (k + m.toNat)
theorem st_end (s : ByteArray) (m l h : Int) (hm : 0 ≤ m) : st3 s s.size m l h = (m == 0) := by
  unfold st3
  by_cases h0 : m = 0
  · rw [if_pos h0, utf_end s _ _ (Nat.le_refl _), h0]
    rfl
  · rw [if_neg h0, beq_eq_false_iff_ne.2 h0]
    obtain ⟨j, hj⟩ : ∃ j, m.toNat = j + 1 := ⟨m.toNat - 1, by omega⟩
    rw [hj, tls_succ]
    unfold tl
    rw [decide_eq_false (by omega)]
    rfl
theorem st_none (s : ByteArray) (k : Nat) (m l h : Int) (hm : 0 ≤ m) (hk : k < s.size) (hn : (nxt3 m l h (bt s k)).2.2.2 = false) : st3 s k m l h = false := by
  unfold st3
  unfold nxt3 at hn
  by_cases h0 : m = 0
  · rw [if_pos h0] at hn ⊢
    refine utf_none s k hk ?_
    unfold fst3 at hn
    split at hn
    · assumption
    · exact absurd hn (by simp)
    · exact absurd hn (by simp)
  · rw [if_neg h0] at hn ⊢
    by_cases h1 : bt s k < l ∨ h < bt s k
    · obtain ⟨j, hj⟩ : ∃ j, m.toNat = j + 1 := ⟨m.toNat - 1, by omega⟩
      rw [hj, tls_succ]
      unfold tl
      rw [decide_eq_false (by omega)]
      rfl
    · rw [if_neg h1] at hn
      exact absurd hn (by simp)
theorem st_step (s : ByteArray) (k : Nat) (m l h : Int) (hm : 0 ≤ m) (hk : k < s.size) (hn : (nxt3 m l h (bt s k)).2.2.2 = true) :
    st3 s k m l h = st3 s (k + 1) (nxt3 m l h (bt s k)).1 (nxt3 m l h (bt s k)).2.1 (nxt3 m l h (bt s k)).2.2.1 ∧ 0 ≤ (nxt3 m l h (bt s k)).1 ∧ ((nxt3 m l h (bt s k)).1 ≤ 3 ∨ (nxt3 m l h (bt s k)).1 ≤ m) := by
  unfold nxt3 at hn ⊢
  by_cases h0 : m = 0
  · rw [if_pos h0] at hn ⊢
    rcases hl : lead (bt s k) with _ | ⟨mm, l', h'⟩
    · simp only [fst3, hl] at hn
      exact absurd hn (by decide)
    · have hst : st3 s k m l h = (tls s (k + 1) mm l' h' && utf s (s.size - (k + 1 + mm)) (k + 1 + mm)) := by
        unfold st3
        rw [if_pos h0]
        exact utf_step s k mm l' h' hk hl
      rw [hst]
      cases mm with
      | zero =>
        simp only [fst3, hl]
        refine ⟨?_, by decide, Or.inl (by decide)⟩
        unfold st3
        rw [if_pos rfl]
        rfl
      | succ j =>
        simp only [fst3, hl]
        have hj : j + 1 ≤ 3 := by
          rcases lead_cases (bt s k) (bt_lt s k).1 with ⟨_, e⟩ | ⟨_, e⟩ | ⟨_, e⟩ | ⟨_, e⟩ | ⟨_, e⟩ | ⟨_, e⟩ | ⟨_, e⟩ | ⟨_, e⟩ | ⟨_, e⟩ | ⟨_, e⟩ <;> rw [e] at hl <;> simp at hl <;> omega
        refine ⟨?_, by omega, Or.inl (by omega)⟩
        unfold st3
        rw [if_neg (by omega), Int.toNat_natCast]
  · rw [if_neg h0] at hn ⊢
    by_cases h1 : bt s k < l ∨ h < bt s k
    · rw [if_pos h1] at hn
      exact absurd hn (by decide)
    · rw [if_neg h1]
      refine ⟨?_, by show 0 ≤ m - 1; omega, Or.inr (by show m - 1 ≤ m; omega)⟩
      obtain ⟨j, hj⟩ : ∃ j, m.toNat = j + 1 := ⟨m.toNat - 1, by omega⟩
      have hj2 : (m - 1).toNat = j := by omega
      show st3 s k m l h = st3 s (k + 1) (m - 1) 128 191
      unfold st3
      rw [if_neg h0, hj, tls_succ, hj2]
      have ht : tl s k l h = true := by unfold tl; exact decide_eq_true (by omega)
      rw [ht, Bool.true_and, show k + (j + 1) = k + 1 + j by omega]
      by_cases h2 : m - 1 = 0
      · rw [if_pos h2]
        obtain rfl : j = 0 := by omega
        rfl
      · rw [if_neg h2]
def due_ (m l h : Int) (j : Nat) : Value := if j = 0 then .int .i64 m else if j = 1 then .int .u8 l else .int .u8 h
theorem q_at {V W : World} {x y z : Value} {t : TypeId} (h : Later (V.alloc (.cells #[x, y, z] t)) W) : V.heap.size < W.heap.size ∧ W.cell? ⟨V.heap.size, 0, none⟩ = some x ∧ W.cell? ⟨V.heap.size, 1, none⟩ = some y ∧ W.cell? ⟨V.heap.size, 2, none⟩ = some z := by
  have hs := h.size
  refine ⟨by simp at hs; omega, h.cell_of (by simp [go_sem]), h.cell_of (by simp [go_sem]), h.cell_of (by simp [go_sem])⟩
theorem at_world {F : Act → World → Prop} {a : Act} {W0 : World} (h : ∀ W, W = W0 → F a W) : F a W0 := h W0 rfl
theorem isutf_any (s : ByteArray) (hs : s.size < 9223372036854775000) (w : World) :
    Calls Try.prog 22 #[.string s] w fun e w' => e = .returned (.bool (utfR s)) ∧ Later w w' := by
  have hR : Hid (st3 s 0 0 0 0 = utfR s) := by
    show st3 s 0 0 0 0 = utfR s
    unfold st3 utfR
    rw [if_pos rfl]
    rfl
  generalize utfR s = R at *
  have hp : w.heap.size < w.heap.size + 1 := by omega
  go_enter Try.func22, Try.ntmps22
  go_wp2_with fail
  go_loopw [9] (fun i wr => ∃ (k : Nat) (m l h : Int), k ≤ s.size ∧ i = .int .i64 (k : Nat) ∧ (0 ≤ m ∧ m ≤ 3) ∧ st3 s k m l h = R ∧ Later w wr ∧ wr.rowIs w.heap.size 55 3 (due_ m l h)) (fun i _ => s.size - (intOf i).toNat)
  case atStart => exact ⟨0, 0, 0, 0, Nat.zero_le _, rfl, by decide, hR.out, La (Lz _), World.rowIs_alloc w _ _ _ (fun i hi => by have hi2 : i < 3 := hi; obtain rfl | rfl | rfl : i = 0 ∨ i = 1 ∨ i = 2 := (by omega) <;> rfl)⟩
  case round =>
    obtain ⟨k, m, l, h, hk, rfl, hm, hst, hL, hr⟩ := hrel
    have c0 : wr.cell? ⟨w.heap.size, 0, none⟩ = some (.int .i64 m) := hr.cell (i := 0) (by decide)
    have c1 : wr.cell? ⟨w.heap.size, 1, none⟩ = some (.int .u8 l) := hr.cell (i := 1) (by decide)
    have c2 : wr.cell? ⟨w.heap.size, 2, none⟩ = some (.int .u8 h) := hr.cell (i := 2) (by decide)
    have hlt := cell_lt c0
    by_cases hlk : k < s.size
    · have hl1 : (k : Int) < (s.size : Int) := by omega
      have hb : bt s k = (s[k].toNat : Int) := dif_pos hlk
      have hbb := bt_lt s k
      have hcall : Hid (∀ W : World, Calls Try.prog 28 #[due3 m l h, .int .u8 (bt s k)] W fun e w' => e = .returned (.tuple #[due3 (nxt3 m l h (bt s k)).1 (nxt3 m l h (bt s k)).2.1 (nxt3 m l h (bt s k)).2.2.1, .bool (nxt3 m l h (bt s k)).2.2.2]) ∧ Later W w') := fun W => behind_any m l h (bt s k) (by omega) hbb W
      have hno : Hid ((nxt3 m l h (bt s k)).2.2.2 = false → R = false) := fun hn => by rw [← hst]; exact st_none s k m l h hm.1 hlk hn
      have hyes : Hid ((nxt3 m l h (bt s k)).2.2.2 = true → R = st3 s (k + 1) (nxt3 m l h (bt s k)).1 (nxt3 m l h (bt s k)).2.1 (nxt3 m l h (bt s k)).2.2.1 ∧ 0 ≤ (nxt3 m l h (bt s k)).1 ∧ (nxt3 m l h (bt s k)).1 ≤ 3) := fun hn => by
        obtain ⟨h1, h2, h3⟩ := st_step s k m l h hm.1 hlk hn
        exact ⟨by rw [← hst]; exact h1, h2, by omega⟩
      rw [hb] at hcall hno hyes
      unfold due3 at hcall
      generalize nxt3 m l h (s[k].toNat : Int) = q at *
      obtain ⟨x, y, z, ok⟩ := q
      simp only at hcall hno hyes
      replace hL : Hid (Later w wr) := hL
      replace hr : Hid (wr.rowIs w.heap.size 55 3 (due_ m l h)) := hr
      clear hb hbb hst hm hR
      go_wp2_with fail
      go_region_law (go_simp; go_at_call 28; refine (hcall.out _).mono ?_; rintro e w4 ⟨rfl, bs, n, rfl⟩)
      all_goals
        refine at_world ?_
        intro W hW
        have LW : Hid (Later wr W) := by subst hW; exact (by repeat first | exact Lz _ | apply La | apply Lv | apply Ld | apply Ln)
        first
          | (have hq : ∃ q : Nat, q = (wr.drew.far bs n).heap.size ∧ w.heap.size ≠ q ∧ q < W.heap.size ∧ W.cell? ⟨q, 0, none⟩ = some (.int .i64 x) ∧ W.cell? ⟨q, 1, none⟩ = some (.int .u8 y) ∧ W.cell? ⟨q, 2, none⟩ = some (.int .u8 z) := by
              subst hW
              exact ⟨(wr.drew.far bs n).heap.size, rfl, by have := World.far_size wr.drew bs n; have : wr.drew.heap.size = wr.heap.size := rfl; omega, q_at (V := wr.drew.far bs n) (by repeat first | exact Lz _ | apply La | apply Lv | apply Ld | apply Ln)⟩)
          | (have hq : ∃ q : Nat, q = wr.heap.size ∧ w.heap.size ≠ q ∧ q < W.heap.size ∧ W.cell? ⟨q, 0, none⟩ = some (.int .i64 x) ∧ W.cell? ⟨q, 1, none⟩ = some (.int .u8 y) ∧ W.cell? ⟨q, 2, none⟩ = some (.int .u8 z) := by
              subst hW
              exact ⟨wr.heap.size, rfl, by omega, q_at (V := wr.drew) (by repeat first | exact Lz _ | apply La | apply Lv | apply Ld | apply Ln)⟩)
          | (have hq : ∃ q : Nat, q = wr.heap.size ∧ w.heap.size ≠ q ∧ q < W.heap.size ∧ W.cell? ⟨q, 0, none⟩ = some (.int .i64 x) ∧ W.cell? ⟨q, 1, none⟩ = some (.int .u8 y) ∧ W.cell? ⟨q, 2, none⟩ = some (.int .u8 z) := by
              subst hW
              exact ⟨wr.heap.size, rfl, by omega, q_at (V := wr) (by repeat first | exact Lz _ | apply La | apply Lv | apply Ld | apply Ln)⟩)
        have R1 : W.rowIs w.heap.size 55 3 (due_ m l h) := rowIs_later LW.out hr.out
        have f0 := R1.frozen 0
        have f1 := R1.frozen 1
        have f2 := R1.frozen 2
        have d0 : W.cell? ⟨w.heap.size, 0, none⟩ = some (.int .i64 m) := R1.cell (i := 0) (by decide)
        have d1 : W.cell? ⟨w.heap.size, 1, none⟩ = some (.int .u8 l) := R1.cell (i := 1) (by decide)
        have d2 : W.cell? ⟨w.heap.size, 2, none⟩ = some (.int .u8 h) := R1.cell (i := 2) (by decide)
        have R2 : Hid (((((W.setCell ⟨w.heap.size, 0, none⟩ (.int .i64 x)).setCell ⟨w.heap.size, 1, none⟩ (.int .u8 y)).setCell ⟨w.heap.size, 2, none⟩ (.int .u8 z))).rowIs w.heap.size 55 3 (due_ x y z)) := by
          refine (((R1.set 0 (.int .i64 x)).set 1 (.int .u8 y)).set 2 (.int .u8 z)).congr (fun j hj => ?_)
          obtain rfl | rfl | rfl : j = 0 ∨ j = 1 ∨ j = 2 := (by omega) <;> rfl
        have T2 : Turned w.heap.size W (((W.setCell ⟨w.heap.size, 0, none⟩ (.int .i64 x)).setCell ⟨w.heap.size, 1, none⟩ (.int .u8 y)).setCell ⟨w.heap.size, 2, none⟩ (.int .u8 z)) := (((Turned.refl R1).set R1 0 _).set R1 1 _).set R1 2 _
        have L2 : Hid (Later w (((W.setCell ⟨w.heap.size, 0, none⟩ (.int .i64 x)).setCell ⟨w.heap.size, 1, none⟩ (.int .u8 y)).setCell ⟨w.heap.size, 2, none⟩ (.int .u8 z))) := (hL.out.trans LW.out).turned R1 (Nat.le_refl _) T2
        have L3 : Hid (Later w W) := hL.out.trans LW.out
        obtain ⟨q, hq', hne, hql, q0, q1, q2⟩ := hq
        have hlW := cell_lt d0
        clear T2 R1 hW c0 c1 c2 hlt hL hr LW hp
        rw [← hq']
        clear hq'
        cases ok with
        | false =>
          obtain rfl := hno.out rfl
          clear hyes hno hcall hk hs L2 R2
          go_wp2_with fail
          go_ret
          exact ⟨rfl, L3.out⟩
        | true =>
          obtain ⟨e1, e2, e3⟩ := hyes.out rfl
          replace e1 : Hid _ := e1
          clear hno hcall hyes L3
          go_wp2_with fail
          go_roundw
          case rel => exact ⟨k + 1, x, y, z, by omega, by go_num, ⟨e2, e3⟩, e1.out.symm, L2.out, R2.out⟩
          case measure => simp [intOf]; omega
    · obtain rfl : k = s.size := by omega
      rw [st_end s m l h hm.1] at hst
      have hl1 : ¬ ((s.size : Int) < (s.size : Int)) := by omega
      replace hL : Hid (Later w wr) := hL
      replace hst : Hid ((m == 0) = R) := hst
      clear hk hlk hR hr hp hs
      go_wp2_with fail
      go_ret
      exact ⟨by rw [hst.out]; rfl, hL.out⟩
end Go.Proofs.Ythbagkaodcplmaa
