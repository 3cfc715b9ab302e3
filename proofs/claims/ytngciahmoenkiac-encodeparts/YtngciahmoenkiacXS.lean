/- XS: OVA, OVB, LX, OVC, OV, joined. -/
import Derived.Test.YtngciahmoenkiacOB
import Derived.Test.YtngciahmoenkiacXR
import Derived.Test.YtngciahmoenkiacXB
import Derived.Below
import Derived.ArgAppend
import Derived.Laws.IdiomCopy
import Derived.Laws.IdiomStrings
import Derived.ChangeSame
import Derived.Lib.UnsafeStr
import Derived.Lib.BufferWrite
import Derived.Laws.MakeOwn
/- Over this seat's translation: package names: what may follow a byte (first, behind). -/
set_option linter.unusedVariables false
set_option linter.unusedSimpArgs false
set_option maxRecDepth 100000
set_option maxHeartbeats 4000000
namespace Go.Proofs.Ytngciahmoenkiac
open Go.RowKit
/-- how many bytes are left, and between which the next is -/
def due3 (m l h : Int) : Value := .agg #[.int .i64 m, .int .u8 l, .int .u8 h]
/-- behind a first byte -/
def fst3 (c : Int) : Int × Int × Int × Bool :=
  match lead c with
  | none => (0, 0, 0, false)
  | some (0, _, _) => (0, 0, 0, true)
  | some (m + 1, l, h) => (((m + 1 : Nat) : Int), l, h, true)
theorem first_any (c : Int) (h0 : 0 ≤ c ∧ c < 256) (w : World) :
    Calls Try.prog 77 #[.int .u8 c] w fun e w' => e = .returned (.tuple #[due3 (fst3 c).1 (fst3 c).2.1 (fst3 c).2.2.1, .bool (fst3 c).2.2.2]) ∧ Later w w' := by
  have hh : (c < 128 ∧ fst3 c = (0, 0, 0, true)) ∨ (¬ c < 128 ∧ c < 194 ∧ fst3 c = (0, 0, 0, false)) ∨ (¬ c < 128 ∧ ¬ c < 194 ∧ 244 < c ∧ fst3 c = (0, 0, 0, false))
      ∨ (¬ c < 128 ∧ ¬ c < 194 ∧ ¬ 244 < c ∧ c < 224 ∧ fst3 c = (1, 128, 191, true)) ∨ (c = 224 ∧ fst3 c = (2, 160, 191, true)) ∨ (c = 237 ∧ fst3 c = (2, 128, 159, true))
      ∨ (¬ c < 128 ∧ ¬ c < 194 ∧ ¬ 244 < c ∧ ¬ c < 224 ∧ (c == 224) = false ∧ (c == 237) = false ∧ c < 240 ∧ fst3 c = (2, 128, 191, true)) ∨ (c = 240 ∧ fst3 c = (3, 144, 191, true)) ∨ (c = 244 ∧ fst3 c = (3, 128, 143, true))
      ∨ (¬ c < 128 ∧ ¬ c < 194 ∧ ¬ 244 < c ∧ ¬ c < 224 ∧ (c == 224) = false ∧ (c == 237) = false ∧ ¬ c < 240 ∧ (c == 240) = false ∧ (c == 244) = false ∧ fst3 c = (3, 128, 191, true)) := by
    simp only [beq_eq_false_iff_ne, ne_eq]
    rcases lead_cases c h0.1 with ⟨h, e⟩ | ⟨h, e⟩ | ⟨h, e⟩ | ⟨h, e⟩ | ⟨h, e⟩ | ⟨h, e⟩ | ⟨h, e⟩ | ⟨h, e⟩ | ⟨h, e⟩ | ⟨h, e⟩ 
    · simp only [fst3, e]
      exact Or.inl ⟨h, trivial⟩
    · simp only [fst3, e]
      exact Or.inr (Or.inl ⟨by omega, by omega, trivial⟩)
    · simp only [fst3, e]
      exact Or.inr (Or.inr (Or.inr (Or.inl ⟨by omega, by omega, by omega, by omega, rfl⟩)))
    · simp only [fst3, e]
      exact Or.inr (Or.inr (Or.inr (Or.inr (Or.inl ⟨h, rfl⟩))))
    · simp only [fst3, e]
      exact Or.inr (Or.inr (Or.inr (Or.inr (Or.inr (Or.inl ⟨h, rfl⟩)))))
    · simp only [fst3, e]
      exact Or.inr (Or.inr (Or.inr (Or.inr (Or.inr (Or.inr (Or.inl ⟨by omega, by omega, by omega, by omega, by omega, by omega, by omega, rfl⟩))))))
    · simp only [fst3, e]
      exact Or.inr (Or.inr (Or.inr (Or.inr (Or.inr (Or.inr (Or.inr (Or.inl ⟨h, rfl⟩)))))))
    · simp only [fst3, e]
      exact Or.inr (Or.inr (Or.inr (Or.inr (Or.inr (Or.inr (Or.inr (Or.inr (Or.inl ⟨h, rfl⟩))))))))
    · simp only [fst3, e]
      exact Or.inr (Or.inr (Or.inr (Or.inr (Or.inr (Or.inr (Or.inr (Or.inr (Or.inr ⟨by omega, by omega, by omega, by omega, by omega, by omega, by omega, by omega, by omega, rfl⟩))))))))
    · simp only [fst3, e]
      exact Or.inr (Or.inr (Or.inl ⟨by omega, by omega, by omega, trivial⟩))
  clear h0
  rcases hh with ⟨h1, he⟩ | ⟨h1, h2, he⟩ | ⟨h1, h2, h3, he⟩ | ⟨h1, h2, h3, h4, he⟩ | ⟨rfl, he⟩ | ⟨rfl, he⟩ | ⟨h1, h2, h3, h4, h5, h6, h7, he⟩ | ⟨rfl, he⟩ | ⟨rfl, he⟩ | ⟨h1, h2, h3, h4, h5, h6, h7, h8, h9, he⟩
  all_goals
    rw [he]
    clear he
    go_enter Try.func77, Try.ntmps77
    go_wp2
    refine bodyPost_ret (v := .tuple #[_, .bool _]) (by simp [results, Try.results77, go_sem, due3]) rfl ⟨rfl, (by repeat first | exact Lz _ | apply La | apply Lv | apply Ld | apply Ln)⟩
/-- behind one more byte -/
def nxt3 (m l h c : Int) : Int × Int × Int × Bool := if m = 0 then fst3 c else if c < l ∨ h < c then (0, 0, 0, false) else (m - 1, 128, 191, true)
theorem behind_any (m l h c : Int) (hm : 0 ≤ m ∧ m ≤ 100) (hc : 0 ≤ c ∧ c < 256) (w : World) :
    Calls Try.prog 69 #[due3 m l h, .int .u8 c] w fun e w' => e = .returned (.tuple #[due3 (nxt3 m l h c).1 (nxt3 m l h c).2.1 (nxt3 m l h c).2.2.1, .bool (nxt3 m l h c).2.2.2]) ∧ Later w w' := by
  unfold nxt3
  by_cases h0 : m = 0
  · subst h0
    rw [if_pos rfl]
    have hf : Hid (∀ w : World, Calls Try.prog 77 #[.int .u8 c] w fun e w' => e = .returned (.tuple #[due3 (fst3 c).1 (fst3 c).2.1 (fst3 c).2.2.1, .bool (fst3 c).2.2.2]) ∧ Later w w') := fun w => first_any c hc w
    generalize fst3 c = p at *
    obtain ⟨x, y, z, ok⟩ := p
    simp only at hf ⊢
    unfold due3 at *
    go_enter Try.func69, Try.ntmps69
    go_wp2_with (go_at_call 77; refine (hf.out _).mono ?_; rintro e w2 ⟨rfl, bs, n, rfl⟩)
    refine bodyPost_ret (v := .tuple #[.agg #[.int .i64 x, .int .u8 y, .int .u8 z], .bool ok]) (by simp [results, Try.results69, go_sem]) rfl ⟨rfl, (by repeat first | exact Lz _ | apply La | apply Lv | apply Ld | apply Ln)⟩
  · rw [if_neg h0]
    have h1 : (m == 0) = false := beq_eq_false_iff_ne.2 h0
    have hw : m - 1 ≤ 9223372036854775807 := by omega
    have hw2 : -9223372036854775808 ≤ m - 1 := by omega
    clear h0 hm hc
    by_cases h2 : c < l
    · rw [if_pos (Or.inl h2)]
      unfold due3
      go_enter Try.func69, Try.ntmps69
      go_wp2
      refine bodyPost_ret (v := .tuple #[_, .bool _]) (by simp [results, Try.results69, go_sem]) rfl ⟨rfl, (by repeat first | exact Lz _ | apply La | apply Lv | apply Ld | apply Ln)⟩
    · by_cases h3 : h < c
      · rw [if_pos (Or.inr h3)]
        unfold due3
        go_enter Try.func69, Try.ntmps69
        go_wp2
        refine bodyPost_ret (v := .tuple #[_, .bool _]) (by simp [results, Try.results69, go_sem]) rfl ⟨rfl, (by repeat first | exact Lz _ | apply La | apply Lv | apply Ld | apply Ln)⟩
      · rw [if_neg (fun h => h.elim h2 h3)]
        unfold due3
        go_enter Try.func69, Try.ntmps69
        go_wp2
        refine bodyPost_ret (v := .tuple #[_, .bool _]) (by simp [results, Try.results69, go_sem]) rfl ⟨rfl, (by repeat first | exact Lz _ | apply La | apply Lv | apply Ld | apply Ln)⟩
end Go.Proofs.Ytngciahmoenkiac


/- Over this seat's translation: package names: UTF-8 by one walk over the bytes (isUTF8). -/
set_option linter.unusedVariables false
set_option linter.unusedSimpArgs false
set_option maxRecDepth 100000
set_option maxHeartbeats 4000000
namespace Go.Proofs.Ytngciahmoenkiac
open Go.RowKit
/-- UTF-8 from a place on, with so much of a sign left -/
def st3 (s : ByteArray) (k : Nat) (m l h : Int) : Bool := if m = 0 then utf s (s.size - k) k else tls s k m.toNat l h && utf s (s.size - (k + m.toNat)) (k + m.toNat)
theorem st_end (s : ByteArray) (m l h : Int) (hm : 0 ≤ m) : st3 s s.size m l h = (m == 0) := by
  unfold st3
  by_cases h0 : m = 0
  · rw [if_pos h0, utf_end s _ _ (Nat.le_refl _), h0]
    rfl
  · rw [if_neg h0, beq_eq_false_iff_ne.2 h0]
    obtain ⟨j, hj⟩ : ∃ j, m.toNat = j + 1 := ⟨m.toNat - 1, by omega⟩
    rw [hj, tls_succ]
    unfold tl
    rw [decide_eq_false (by omega)]
    rfl
theorem st_none (s : ByteArray) (k : Nat) (m l h : Int) (hm : 0 ≤ m) (hk : k < s.size) (hn : (nxt3 m l h (bt s k)).2.2.2 = false) : st3 s k m l h = false := by
  unfold st3
  unfold nxt3 at hn
  by_cases h0 : m = 0
  · rw [if_pos h0] at hn ⊢
    refine utf_none s k hk ?_
    unfold fst3 at hn
    split at hn
    · assumption
    · exact absurd hn (by simp)
    · exact absurd hn (by simp)
  · rw [if_neg h0] at hn ⊢
    by_cases h1 : bt s k < l ∨ h < bt s k
    · obtain ⟨j, hj⟩ : ∃ j, m.toNat = j + 1 := ⟨m.toNat - 1, by omega⟩
      rw [hj, tls_succ]
      unfold tl
      rw [decide_eq_false (by omega)]
      rfl
    · rw [if_neg h1] at hn
      exact absurd hn (by simp)
theorem st_step (s : ByteArray) (k : Nat) (m l h : Int) (hm : 0 ≤ m) (hk : k < s.size) (hn : (nxt3 m l h (bt s k)).2.2.2 = true) :
    st3 s k m l h = st3 s (k + 1) (nxt3 m l h (bt s k)).1 (nxt3 m l h (bt s k)).2.1 (nxt3 m l h (bt s k)).2.2.1 ∧ 0 ≤ (nxt3 m l h (bt s k)).1 ∧ ((nxt3 m l h (bt s k)).1 ≤ 3 ∨ (nxt3 m l h (bt s k)).1 ≤ m) := by
  unfold nxt3 at hn ⊢
  by_cases h0 : m = 0
  · rw [if_pos h0] at hn ⊢
    rcases hl : lead (bt s k) with _ | ⟨mm, l', h'⟩
    · simp only [fst3, hl] at hn
      exact absurd hn (by decide)
    · have hst : st3 s k m l h = (tls s (k + 1) mm l' h' && utf s (s.size - (k + 1 + mm)) (k + 1 + mm)) := by
        unfold st3
        rw [if_pos h0]
        exact utf_step s k mm l' h' hk hl
      rw [hst]
      cases mm with
      | zero =>
        simp only [fst3, hl]
        refine ⟨?_, by decide, Or.inl (by decide)⟩
        unfold st3
        rw [if_pos rfl]
        rfl
      | succ j =>
        simp only [fst3, hl]
        have hj : j + 1 ≤ 3 := by
          rcases lead_cases (bt s k) (bt_lt s k).1 with ⟨_, e⟩ | ⟨_, e⟩ | ⟨_, e⟩ | ⟨_, e⟩ | ⟨_, e⟩ | ⟨_, e⟩ | ⟨_, e⟩ | ⟨_, e⟩ | ⟨_, e⟩ | ⟨_, e⟩ <;> rw [e] at hl <;> simp at hl <;> omega
        refine ⟨?_, by omega, Or.inl (by omega)⟩
        unfold st3
        rw [if_neg (by omega), Int.toNat_natCast]
  · rw [if_neg h0] at hn ⊢
    by_cases h1 : bt s k < l ∨ h < bt s k
    · rw [if_pos h1] at hn
      exact absurd hn (by decide)
    · rw [if_neg h1]
      refine ⟨?_, by show 0 ≤ m - 1; omega, Or.inr (by show m - 1 ≤ m; omega)⟩
      obtain ⟨j, hj⟩ : ∃ j, m.toNat = j + 1 := ⟨m.toNat - 1, by omega⟩
      have hj2 : (m - 1).toNat = j := by omega
      show st3 s k m l h = st3 s (k + 1) (m - 1) 128 191
      unfold st3
      rw [if_neg h0, hj, tls_succ, hj2]
      have ht : tl s k l h = true := by unfold tl; exact decide_eq_true (by omega)
      rw [ht, Bool.true_and, show k + (j + 1) = k + 1 + j by omega]
      by_cases h2 : m - 1 = 0
      · rw [if_pos h2]
        obtain rfl : j = 0 := by omega
        rfl
      · rw [if_neg h2]
def due_ (m l h : Int) (j : Nat) : Value := if j = 0 then .int .i64 m else if j = 1 then .int .u8 l else .int .u8 h
theorem q_at {V W : World} {x y z : Value} {t : TypeId} (h : Later (V.alloc (.cells #[x, y, z] t)) W) : V.heap.size < W.heap.size ∧ W.cell? ⟨V.heap.size, 0, none⟩ = some x ∧ W.cell? ⟨V.heap.size, 1, none⟩ = some y ∧ W.cell? ⟨V.heap.size, 2, none⟩ = some z := by
  have hs := h.size
  refine ⟨by simp at hs; omega, h.cell_of (by simp [go_sem]), h.cell_of (by simp [go_sem]), h.cell_of (by simp [go_sem])⟩
theorem at_world {F : Act → World → Prop} {a : Act} {W0 : World} (h : ∀ W, W = W0 → F a W) : F a W0 := h W0 rfl
theorem isutf_any (s : ByteArray) (hs : s.size < 9223372036854775000) (w : World) :
    Calls Try.prog 63 #[.string s] w fun e w' => e = .returned (.bool (utfR s)) ∧ Later w w' := by
  have hR : Hid (st3 s 0 0 0 0 = utfR s) := by
    show st3 s 0 0 0 0 = utfR s
    unfold st3 utfR
    rw [if_pos rfl]
    rfl
  generalize utfR s = R at *
  have hp : w.heap.size < w.heap.size + 1 := by omega
  go_enter Try.func63, Try.ntmps63
  go_wp2_with fail
  go_loopw [9] (fun i wr => ∃ (k : Nat) (m l h : Int), k ≤ s.size ∧ i = .int .i64 (k : Nat) ∧ (0 ≤ m ∧ m ≤ 3) ∧ st3 s k m l h = R ∧ Later w wr ∧ wr.rowIs w.heap.size 124 3 (due_ m l h)) (fun i _ => s.size - (intOf i).toNat)
  case atStart => exact ⟨0, 0, 0, 0, Nat.zero_le _, rfl, by decide, hR.out, La (Lz _), World.rowIs_alloc w _ _ _ (fun i hi => by have hi2 : i < 3 := hi; obtain rfl | rfl | rfl : i = 0 ∨ i = 1 ∨ i = 2 := (by omega) <;> rfl)⟩
  case round =>
    obtain ⟨k, m, l, h, hk, rfl, hm, hst, hL, hr⟩ := hrel
    have c0 : wr.cell? ⟨w.heap.size, 0, none⟩ = some (.int .i64 m) := hr.cell (i := 0) (by decide)
    have c1 : wr.cell? ⟨w.heap.size, 1, none⟩ = some (.int .u8 l) := hr.cell (i := 1) (by decide)
    have c2 : wr.cell? ⟨w.heap.size, 2, none⟩ = some (.int .u8 h) := hr.cell (i := 2) (by decide)
    have hlt := cell_lt c0
    by_cases hlk : k < s.size
    · have hl1 : (k : Int) < (s.size : Int) := by omega
      have hb : bt s k = (s[k].toNat : Int) := dif_pos hlk
      have hbb := bt_lt s k
      have hcall : Hid (∀ W : World, Calls Try.prog 69 #[due3 m l h, .int .u8 (bt s k)] W fun e w' => e = .returned (.tuple #[due3 (nxt3 m l h (bt s k)).1 (nxt3 m l h (bt s k)).2.1 (nxt3 m l h (bt s k)).2.2.1, .bool (nxt3 m l h (bt s k)).2.2.2]) ∧ Later W w') := fun W => behind_any m l h (bt s k) (by omega) hbb W
      have hno : Hid ((nxt3 m l h (bt s k)).2.2.2 = false → R = false) := fun hn => by rw [← hst]; exact st_none s k m l h hm.1 hlk hn
      have hyes : Hid ((nxt3 m l h (bt s k)).2.2.2 = true → R = st3 s (k + 1) (nxt3 m l h (bt s k)).1 (nxt3 m l h (bt s k)).2.1 (nxt3 m l h (bt s k)).2.2.1 ∧ 0 ≤ (nxt3 m l h (bt s k)).1 ∧ (nxt3 m l h (bt s k)).1 ≤ 3) := fun hn => by
        obtain ⟨h1, h2, h3⟩ := st_step s k m l h hm.1 hlk hn
        exact ⟨by rw [← hst]; exact h1, h2, by omega⟩
      rw [hb] at hcall hno hyes
      unfold due3 at hcall
      generalize nxt3 m l h (s[k].toNat : Int) = q at *
      obtain ⟨x, y, z, ok⟩ := q
      simp only at hcall hno hyes
      replace hL : Hid (Later w wr) := hL
      replace hr : Hid (wr.rowIs w.heap.size 124 3 (due_ m l h)) := hr
      clear hb hbb hst hm hR
      go_wp2_with fail
      go_region_law (go_simp; go_at_call 69; refine (hcall.out _).mono ?_; rintro e w4 ⟨rfl, bs, n, rfl⟩)
      all_goals
        refine at_world ?_
        intro W hW
        have LW : Hid (Later wr W) := by subst hW; exact (by repeat first | exact Lz _ | apply La | apply Lv | apply Ld | apply Ln)
        first
          | (have hq : ∃ q : Nat, q = (wr.drew.far bs n).heap.size ∧ w.heap.size ≠ q ∧ q < W.heap.size ∧ W.cell? ⟨q, 0, none⟩ = some (.int .i64 x) ∧ W.cell? ⟨q, 1, none⟩ = some (.int .u8 y) ∧ W.cell? ⟨q, 2, none⟩ = some (.int .u8 z) := by
              subst hW
              exact ⟨(wr.drew.far bs n).heap.size, rfl, by have := World.far_size wr.drew bs n; have : wr.drew.heap.size = wr.heap.size := rfl; omega, q_at (V := wr.drew.far bs n) (by repeat first | exact Lz _ | apply La | apply Lv | apply Ld | apply Ln)⟩)
          | (have hq : ∃ q : Nat, q = wr.heap.size ∧ w.heap.size ≠ q ∧ q < W.heap.size ∧ W.cell? ⟨q, 0, none⟩ = some (.int .i64 x) ∧ W.cell? ⟨q, 1, none⟩ = some (.int .u8 y) ∧ W.cell? ⟨q, 2, none⟩ = some (.int .u8 z) := by
              subst hW
              exact ⟨wr.heap.size, rfl, by omega, q_at (V := wr.drew) (by repeat first | exact Lz _ | apply La | apply Lv | apply Ld | apply Ln)⟩)
          | (have hq : ∃ q : Nat, q = wr.heap.size ∧ w.heap.size ≠ q ∧ q < W.heap.size ∧ W.cell? ⟨q, 0, none⟩ = some (.int .i64 x) ∧ W.cell? ⟨q, 1, none⟩ = some (.int .u8 y) ∧ W.cell? ⟨q, 2, none⟩ = some (.int .u8 z) := by
              subst hW
              exact ⟨wr.heap.size, rfl, by omega, q_at (V := wr) (by repeat first | exact Lz _ | apply La | apply Lv | apply Ld | apply Ln)⟩)
        have R1 : W.rowIs w.heap.size 124 3 (due_ m l h) := rowIs_later LW.out hr.out
        have f0 := R1.frozen 0
        have f1 := R1.frozen 1
        have f2 := R1.frozen 2
        have d0 : W.cell? ⟨w.heap.size, 0, none⟩ = some (.int .i64 m) := R1.cell (i := 0) (by decide)
        have d1 : W.cell? ⟨w.heap.size, 1, none⟩ = some (.int .u8 l) := R1.cell (i := 1) (by decide)
        have d2 : W.cell? ⟨w.heap.size, 2, none⟩ = some (.int .u8 h) := R1.cell (i := 2) (by decide)
        have R2 : Hid (((((W.setCell ⟨w.heap.size, 0, none⟩ (.int .i64 x)).setCell ⟨w.heap.size, 1, none⟩ (.int .u8 y)).setCell ⟨w.heap.size, 2, none⟩ (.int .u8 z))).rowIs w.heap.size 124 3 (due_ x y z)) := by
          refine (((R1.set 0 (.int .i64 x)).set 1 (.int .u8 y)).set 2 (.int .u8 z)).congr (fun j hj => ?_)
          obtain rfl | rfl | rfl : j = 0 ∨ j = 1 ∨ j = 2 := (by omega) <;> rfl
        have T2 : Turned w.heap.size W (((W.setCell ⟨w.heap.size, 0, none⟩ (.int .i64 x)).setCell ⟨w.heap.size, 1, none⟩ (.int .u8 y)).setCell ⟨w.heap.size, 2, none⟩ (.int .u8 z)) := (((Turned.refl R1).set R1 0 _).set R1 1 _).set R1 2 _
        have L2 : Hid (Later w (((W.setCell ⟨w.heap.size, 0, none⟩ (.int .i64 x)).setCell ⟨w.heap.size, 1, none⟩ (.int .u8 y)).setCell ⟨w.heap.size, 2, none⟩ (.int .u8 z))) := (hL.out.trans LW.out).turned R1 (Nat.le_refl _) T2
        have L3 : Hid (Later w W) := hL.out.trans LW.out
        obtain ⟨q, hq', hne, hql, q0, q1, q2⟩ := hq
        have hlW := cell_lt d0
        clear T2 R1 hW c0 c1 c2 hlt hL hr LW hp
        rw [← hq']
        clear hq'
        cases ok with
        | false =>
          obtain rfl := hno.out rfl
          clear hyes hno hcall hk hs L2 R2
          go_wp2_with fail
          go_ret
          exact ⟨rfl, L3.out⟩
        | true =>
          obtain ⟨e1, e2, e3⟩ := hyes.out rfl
          replace e1 : Hid _ := e1
          clear hno hcall hyes L3
          go_wp2_with fail
          go_roundw
          case rel => exact ⟨k + 1, x, y, z, by omega, by go_num, ⟨e2, e3⟩, e1.out.symm, L2.out, R2.out⟩
          case measure => simp [intOf]; omega
    · obtain rfl : k = s.size := by omega
      rw [st_end s m l h hm.1] at hst
      have hl1 : ¬ ((s.size : Int) < (s.size : Int)) := by omega
      replace hL : Hid (Later w wr) := hL
      replace hst : Hid ((m == 0) = R) := hst
      clear hk hlk hR hr hp hs
      go_wp2_with fail
      go_ret
      exact ⟨by rw [hst.out]; rfl, hL.out⟩
end Go.Proofs.Ytngciahmoenkiac


/- Bytes of a text that is turned: '[]byte(s)', one byte set, one byte appended, 'string(b)'; worlds in which only blocks from a number on may differ. -/
set_option linter.unusedVariables false
set_option linter.unusedSimpArgs false
set_option maxRecDepth 100000
set_option maxHeartbeats 4000000
namespace Go.Proofs.Ytngciahmoenkiac
open Go.RowKit
theorem below_later {B : Nat} {w w' : World} (h : Later w w') (hB : B ≤ w.heap.size) : Below B w w' := by
  obtain ⟨bs, n, rfl⟩ := h
  exact ⟨rfl, rfl, rfl, by rw [World.far_size]; omega, fun k hk => World.far_block w bs n k (by omega)⟩
/-- a list of bytes in a row from its first cell on, with room up to cap -/
def Bw (w : World) (B g cap : Nat) (d : List Int) : Prop := B ≤ g ∧ d.length ≤ cap ∧ (∀ i u, (bys d)[i]? = some u → w.cell? ⟨g, i, none⟩ = some u) ∧ ∀ i, i < cap → (w.cell? ⟨g, i, none⟩).isSome = true ∧ w.frozen? ⟨g, i, none⟩ = false
theorem Bw.later {w w' : World} {B g cap : Nat} {d : List Int} (h : Bw w B g cap d) (hl : Later w w') (hc : 0 < cap) : Bw w' B g cap d := by
  obtain ⟨h1, h2, h3, h4⟩ := h
  have hg : g < w.heap.size := by
    have := (h4 0 hc).1
    obtain ⟨v, hv⟩ := Option.isSome_iff_exists.1 this
    exact cell_lt hv
  refine ⟨h1, h2, fun i u hu => hl.cell_of (h3 i u hu), fun i hi => ?_⟩
  rw [hl.cell hg, World.frozen?_of_block (w := w) (a := ⟨g, i, none⟩) (hl.block hg)]
  exact h4 i hi
theorem bys_get {d : List Int} {i : Nat} (hi : i < d.length) : (bys d)[i]? = some (.int .u8 d[i]) := by simp [bys, hi]
theorem Bw.at_ {w : World} {B g cap : Nat} {d : List Int} (h : Bw w B g cap d) {i : Nat} (hi : i < d.length) : w.cell? ⟨g, i, none⟩ = some (.int .u8 d[i]) ∧ w.frozen? ⟨g, i, none⟩ = false ∧ g < w.heap.size := by
  have h1 := h.2.2.1 i _ (bys_get hi)
  exact ⟨h1, (h.2.2.2 i (by have := h.2.1; omega)).2, cell_lt h1⟩
theorem bw_conv (B : Nat) (d : List Int) (hd : ∀ b ∈ d, 0 ≤ b ∧ b < 256) (w : World) (hB : B ≤ w.heap.size) :
    ∃ cap w', (convert 9 50 (.string (strOfNums d))).run Try.prog w = .ok (.slice (some ⟨w.heap.size, 0, none⟩) d.length cap) w' ∧ Below B w w' ∧ Bw w' B w.heap.size cap d ∧ w'.heap.size = w.heap.size + 1 := by
  have hr := run_bytes_of_string (P := Try.prog) w 9 50 5 (strOfNums d) Try.underlying9 Try.underlying50 Try.underlying5
  have hge := grownCap_ge w (strOfNums d).size 0 5
  rw [strOfNums_size] at hr hge
  generalize grownCap w d.length 0 5 = cap at *
  have hsz : (bytesRow (strOfNums d) cap).size = cap := by
    have : (strOfNums d).data.size = d.length := strOfNums_size d
    simp [bytesRow, this, strOfNums_size]
    omega
  rw [hsz] at hr
  have hh : (w.drew.alloc (.cells (bytesRow (strOfNums d) cap) 5 (cap, cap + 1))).heap[w.heap.size]? = some (.cells (bytesRow (strOfNums d) cap) 5 (cap, cap + 1)) := heap_alloc_new w.drew _
  refine ⟨cap, _, hr, (Below.refl B w).drew.alloc hB _, ⟨hB, hge, fun i u hu => ?_, fun i hi => ⟨?_, ?_⟩⟩, by show (w.heap.push _).size = _; simp⟩
  · rw [cell_of_row _ _ _ _ _ _ hh]
    have hi : i < d.length := by have := (List.getElem?_eq_some_iff.1 hu).1; rwa [bys_len] at this
    rw [bys_get hi] at hu
    have hm := hd d[i] (List.getElem_mem hi)
    rw [← hu]
    unfold bytesRow
    rw [Array.getElem?_append_left (by simp [strOfNums, hi])]
    simp [strOfNums, hi]
    omega
  · rw [cell_of_row _ _ _ _ _ _ hh, Array.getElem?_eq_getElem (by omega)]
    rfl
  · simp only [World.frozen?, hh]
    simp
    omega
theorem Bw.set {w : World} {B g cap : Nat} {d : List Int} (h : Bw w B g cap d) (k : Nat) (hk : k < d.length) (x : Int) : Bw (w.setCell ⟨g, k, none⟩ (.int .u8 x)) B g cap (d.set k x) ∧ Below B w (w.setCell ⟨g, k, none⟩ (.int .u8 x)) := by
  have h0 := (h.at_ hk).1
  refine ⟨⟨h.1, by rw [List.length_set]; exact h.2.1, fun i u hu => ?_, fun i hi => ?_⟩, (Below.refl B w).setCell h.1 _⟩
  · have hi : i < d.length := by have := (List.getElem?_eq_some_iff.1 hu).1; rwa [bys_len, List.length_set] at this
    rw [bys_get (by rw [List.length_set]; exact hi), List.getElem_set] at hu
    by_cases hik : k = i
    · subst hik
      rw [if_pos rfl] at hu
      rw [← hu]
      have := World.cell?_setCells_in g [.int .u8 x] k w (fun j hj => by obtain rfl : j = 0 := (by simpa using hj); rw [Nat.add_zero, h0]; rfl) 0 (by simp)
      simpa [World.setCells] using this
    · rw [if_neg hik] at hu
      have := World.cell?_setCells_out g [.int .u8 x] k w ⟨g, i, none⟩ (fun _ _ => by show i < k ∨ k + 1 ≤ i; omega)
      rw [show w.setCells g k [.int .u8 x] = w.setCell ⟨g, k, none⟩ (.int .u8 x) from rfl] at this
      rw [this, ← hu]
      exact h.2.2.1 i _ (bys_get hi)
  · have hf := World.frozen?_setCells g [.int .u8 x] k w ⟨g, i, none⟩
    rw [show w.setCells g k [.int .u8 x] = w.setCell ⟨g, k, none⟩ (.int .u8 x) from rfl] at hf
    refine ⟨?_, hf.trans (h.2.2.2 i hi).2⟩
    by_cases hik : k = i
    · subst hik
      have := World.cell?_setCells_in g [.int .u8 x] k w (fun j hj => by obtain rfl : j = 0 := (by simpa using hj); rw [Nat.add_zero, h0]; rfl) 0 (by simp)
      rw [show w.setCells g k [.int .u8 x] = w.setCell ⟨g, k, none⟩ (.int .u8 x) from rfl] at this
      rw [Nat.add_zero] at this
      rw [this]
      rfl
    · have := World.cell?_setCells_out g [.int .u8 x] k w ⟨g, i, none⟩ (fun _ _ => by show i < k ∨ k + 1 ≤ i; omega)
      rw [show w.setCells g k [.int .u8 x] = w.setCell ⟨g, k, none⟩ (.int .u8 x) from rfl] at this
      rw [this]
      exact (h.2.2.2 i hi).1
theorem below_cells {B : Nat} (b : Nat) (hb : B ≤ b) : ∀ (vs : List Value) (o : Nat) (w : World), Below B w (w.setCells b o vs)
  | [], o, w => Below.refl B w
  | v :: vs, o, w => ((Below.refl B w).setCell hb v).trans (below_cells b hb vs (o + 1) _)
theorem setCells_size (b : Nat) : ∀ (vs : List Value) (o : Nat) (w : World), (w.setCells b o vs).heap.size = w.heap.size
  | [], o, w => rfl
  | v :: vs, o, w => by
    show ((w.setCell ⟨b, o, none⟩ v).setCells b (o + 1) vs).heap.size = w.heap.size
    rw [setCells_size b vs (o + 1)]
    simp [World.setCell]
theorem setCells_other (b k : Nat) (hk : k ≠ b) : ∀ (vs : List Value) (o : Nat) (w : World), (w.setCells b o vs).heap[k]? = w.heap[k]?
  | [], o, w => rfl
  | v :: vs, o, w => by
    show ((w.setCell ⟨b, o, none⟩ v).setCells b (o + 1) vs).heap[k]? = w.heap[k]?
    rw [setCells_other b k hk vs (o + 1)]
    exact Below.heap_setCell w ⟨b, o, none⟩ v k hk
theorem Bw.keep {w w' : World} {B g cap : Nat} {d : List Int} (h : Bw w B g cap d) (hb : w'.heap[g]? = w.heap[g]?) : Bw w' B g cap d :=
  ⟨h.1, h.2.1, fun i u hu => (World.cell?_of_block (a := ⟨g, i, none⟩) hb).trans (h.2.2.1 i u hu), fun i hi => by
    rw [World.cell?_of_block (w := w) (a := ⟨g, i, none⟩) hb, World.frozen?_of_block (w := w) (a := ⟨g, i, none⟩) hb]
    exact h.2.2.2 i hi⟩
/-- one byte more -/
theorem Bw.more {w : World} {B g cap : Nat} {d : List Int} (h : Bw w B g cap d) (hB : B ≤ w.heap.size) (x : Int) (hl : d.length < 1000000) (hg : g < w.heap.size) :
    ∃ g2 cap2 w2, (Builtin.append_ #[50, 50] 50 #[.slice (some ⟨g, 0, none⟩) d.length cap, .slice (some ⟨w.heap.size, 0, none⟩) 1 1]).run Try.prog (w.alloc (.cells #[.int .u8 x] 5)) = .ok (.slice (some ⟨g2, 0, none⟩) (d.length + 1) cap2) w2 ∧ Below B w w2 ∧ Bw w2 B g2 cap2 (d ++ [x]) ∧ g2 < w2.heap.size ∧ (g2 = g ∨ w.heap.size ≤ g2) ∧ ∀ k, k < w.heap.size → k ≠ g → w2.heap[k]? = w.heap[k]? := by
  obtain ⟨i, hi1, hi2, hi3, hi4⟩ := byte_parts
  have hA : Later w (w.alloc (.cells #[.int .u8 x] 5)) := La (Lz w)
  have hBA : Below B w (w.alloc (.cells #[.int .u8 x] 5)) := below_later hA hB
  have hnew : ∀ j u, [Value.int .u8 x][j]? = some u → (w.alloc (.cells #[.int .u8 x] 5)).cell? ((⟨w.heap.size, 0, none⟩ : Addr).add j) = some u := fun j u hu => by
    have hj : j = 0 := by have := (List.getElem?_eq_some_iff.1 hu).1; simpa using this
    subst hj
    rw [show (⟨w.heap.size, 0, none⟩ : Addr).add 0 = ⟨w.heap.size, 0, none⟩ from by unfold Addr.add; split <;> simp_all, cell_of_row _ _ _ _ _ _ (heap_alloc_new w _)]
    simpa using hu
  have hbl : bys (d ++ [x]) = bys d ++ [.int .u8 x] := by simp [bys]
  by_cases hr : d.length + 1 ≤ cap
  · have hold : ∀ k, k < cap → (w.alloc (.cells #[.int .u8 x] 5)).cell? ⟨g, k, none⟩ = w.cell? ⟨g, k, none⟩ ∧ (w.alloc (.cells #[.int .u8 x] 5)).frozen? ⟨g, k, none⟩ = w.frozen? ⟨g, k, none⟩ := fun k hk => ⟨hA.cell hg, World.frozen?_of_block (w := w) (a := ⟨g, k, none⟩) (hA.block hg)⟩
    have hrun := run_append_room_cells (P := Try.prog) (w.alloc (.cells #[.int .u8 x] 5)) 50 50 5 i Try.underlying50 hi1 g 0 d.length cap ⟨w.heap.size, 0, none⟩ 1 1 [.int .u8 x] (by rw [hi3]; rfl) hnew (one_byte x) hr (fun j hj => by
      obtain rfl : j = 0 := by simpa using hj
      rw [hi3, (hold _ (by omega)).1]
      exact (h.2.2.2 _ (by omega)).1) (fun j hj => by
      obtain rfl : j = 0 := by simpa using hj
      rw [hi3, (hold _ (by omega)).2]
      exact (h.2.2.2 _ (by omega)).2)
    rw [hi3, Nat.zero_add, Nat.mul_one] at hrun
    refine ⟨g, cap, _, hrun, hBA.trans (below_cells g h.1 _ _ _), ⟨h.1, by simpa using hr, fun k u hu => ?_, fun k hk => ⟨?_, ?_⟩⟩, by rw [setCells_size]; simp; omega, Or.inl rfl, fun k hk hkg => (setCells_other g k hkg _ _ _).trans (hA.block hk)⟩
    · rw [hbl] at hu
      by_cases hk : k < d.length
      · rw [List.getElem?_append_left (by rw [bys_len]; exact hk)] at hu
        rw [World.cell?_setCells_out g _ _ _ ⟨g, k, none⟩ (fun _ _ => Or.inl hk), (hold k (by have := h.2.1; omega)).1]
        exact h.2.2.1 k u hu
      · rw [List.getElem?_append_right (by rw [bys_len]; omega), bys_len] at hu
        have hk0 : k - d.length = 0 := by have := (List.getElem?_eq_some_iff.1 hu).1; simpa using this
        obtain rfl : k = d.length := by omega
        have hin := World.cell?_setCells_in g [.int .u8 x] d.length (w.alloc (.cells #[.int .u8 x] 5)) (fun j hj => by
          obtain rfl : j = 0 := by simpa using hj
          rw [Nat.add_zero, (hold _ (by omega)).1]
          exact (h.2.2.2 _ (by omega)).1) 0 (by simp)
        rw [Nat.add_zero] at hin
        rw [hin, ← hu, hk0]
        rfl
    · by_cases hkd : k = d.length
      · subst hkd
        have hin := World.cell?_setCells_in g [.int .u8 x] d.length (w.alloc (.cells #[.int .u8 x] 5)) (fun j hj => by
          obtain rfl : j = 0 := by simpa using hj
          rw [Nat.add_zero, (hold _ (by omega)).1]
          exact (h.2.2.2 _ (by omega)).1) 0 (by simp)
        rw [Nat.add_zero] at hin
        rw [hin]
        rfl
      · rw [World.cell?_setCells_out g _ _ _ ⟨g, k, none⟩ (fun _ _ => by show k < d.length ∨ d.length + 1 ≤ k; omega), (hold k hk).1]
        exact (h.2.2.2 k hk).1
    · rw [World.frozen?_setCells, (hold k hk).2]
      exact (h.2.2.2 k hk).2
  · have hcd : cap = d.length := by have := h.2.1; omega
    have hrun := run_append_grow (P := Try.prog) (w.alloc (.cells #[.int .u8 x] 5)) 50 50 5 i (.int .u8 0) Try.underlying50 hi1 hi2 ⟨g, 0, none⟩ d.length cap (bys d) (by rw [hi3, bys_len]; omega) (fun j v hv => by
      rw [show (⟨g, 0, none⟩ : Addr).add j = ⟨g, j, none⟩ from by unfold Addr.add; split <;> simp_all]
      exact hA.cell_of (h.2.2.1 j v hv)) ⟨w.heap.size, 0, none⟩ 1 1 [.int .u8 x] (by rw [hi3]; rfl) hnew (by omega) (by omega) (growslice_fits (by omega) (by rw [hi4]; omega))
    have hge := grownCap_ge (w.alloc (.cells #[.int .u8 x] 5)) (d.length + 1) cap 5
    generalize grownCap (w.alloc (.cells #[.int .u8 x] 5)) (d.length + 1) cap 5 = cap2 at *
    have hzl : (Builtin.zeroCells (Value.int .u8 0).cells (cap2 - (d.length + 1))).size = cap2 - (d.length + 1) := by simp [Builtin.zeroCells, Value.cells]
    have hrow : ((bys d).toArray ++ [Value.int .u8 x].toArray ++ Builtin.zeroCells (Value.int .u8 0).cells (cap2 - (d.length + 1))).size = cap2 := by
      simp only [Array.size_append, hzl]
      simp [bys_len]
      omega
    have hh : ((w.alloc (.cells #[.int .u8 x] 5)).drew.alloc (.cells ((bys d).toArray ++ [Value.int .u8 x].toArray ++ Builtin.zeroCells (Value.int .u8 0).cells (cap2 - (d.length + 1))) 5)).heap[(w.alloc (.cells #[.int .u8 x] 5)).heap.size]? = some (.cells ((bys d).toArray ++ [Value.int .u8 x].toArray ++ Builtin.zeroCells (Value.int .u8 0).cells (cap2 - (d.length + 1))) 5) := heap_alloc_new (w.alloc (.cells #[.int .u8 x] 5)).drew _
    refine ⟨_, cap2, _, hrun, (hBA.drew).alloc (by show B ≤ (w.heap.push _).size; simp; omega) _, ⟨by simp; omega, by simpa using hge, fun k u hu => ?_, fun k hk => ⟨?_, ?_⟩⟩, (Array.getElem?_eq_some_iff.1 hh).1, Or.inr (by simp), fun k hk _ => ((La (Ld hA) : Later w _).block hk)⟩
    · rw [cell_of_row _ _ _ _ _ _ hh]
      have hk : k < (bys (d ++ [x])).length := (List.getElem?_eq_some_iff.1 hu).1
      rw [hbl] at hu hk
      rw [Array.getElem?_append_left (by simpa using hk)]
      simpa using hu
    · rw [cell_of_row _ _ _ _ _ _ hh, Array.getElem?_eq_getElem (by omega)]
      rfl
    · simp only [World.frozen?, hh]
      simp
/-- nothing handed in but numbers and texts: what a walk leaves that touched no old block -/
theorem post_none {H : Type} {enc : TypeId × Value → H} {P : Program} {f : Func} {s : ChangeSpec} {apart fresh handsOn again : Bool} {W W' : World} {args : Array Value} {v : Value} {ds gs : List (DataW H)}
    (hW : DataW.Whole enc P f.params.toList s.vars apart W args.toList ds gs [])
    (hres : ∀ (b : Nat) (sp : Nat → Bool) (hd : Bool), DataW.TrodAll enc P W' b sp hd f.resultTypes.toList (v.resultList f.resultTypes.size) (s.fn H (ds ++ gs)).results [])
    (hargs : ∀ sp : Nat → Bool, DataW.TrodAll enc P W' 0 sp true f.params.toList args.toList (s.fn H (ds ++ gs)).args [])
    (hvars : ∀ sp : Nat → Bool, DataW.TrodVars enc P W' sp s.vars (s.fn H (ds ++ gs)).vars [])
    (hk : W.keptBut W' (· ∈ ([] : List MemPlace)))
    (hok : ∀ (j : Nat) (t : TypeId) (r : Value), f.resultTypes[j]? = some t → (v.resultList f.resultTypes.size)[j]? = some r → Value.okWide P W' .any 0 t r) :
    s.post enc P f apart fresh handsOn again W args v W' := by
  refine ⟨ds, gs, [], [], [], [], hW, hres _ _ _, hargs _, hvars _, World.keptBut_mono (fun p hp => absurd hp List.not_mem_nil) hk, fun _ => ⟨hok, _, _, [], ⟨[], [], ChangeShapes.trodAll_append (hargs _) (hres _ _ _), hvars _, rfl, fun b off hp => ?_, fun _ => List.nodup_nil⟩, fun p hp _ => hp⟩⟩
  simp at hp
theorem slice_bytes (A : Option Addr) (n cap h : Nat) (hh : h ≤ cap) (w : World) : (Instr.slice 50 (.slice A n cap) none (some (.int .i64 (h : Int))) none).run Try.prog w = .ok (.slice A h cap) w := by
  obtain ⟨i0, hi, hz0, hz1, hz2⟩ := byte_parts
  have h1 : (h : Int) ≤ (cap : Int) := by omega
  have hA : (A.map fun x => x.add 0) = A := by
    cases A with
    | none => rfl
    | some a => simp [Addr.add]
  simp [Instr.slice, run_underlying Try.underlying50, Instr.sliceBounds, run_sliceBound, sizeOf, typeInfo, hi, hz1, h1, hA]
/-- the first m of them as a text -/
theorem Bw.str {w : World} {B g cap m c : Nat} {d : List Int} (h : Bw w B g cap d) (hm : m ≤ d.length) (hb : ∀ x ∈ d, 0 ≤ x ∧ x < 256) : (convert 50 9 (.slice (some ⟨g, 0, none⟩) m c)).run Try.prog w = .ok (.string (strOfNums (d.take m))) w := by
  have hlen : (d.take m).length = m := by simp; omega
  have hB : Lib.Bytes w g 0 (strOfNums (d.take m)) := Lib.bytes_of_nums hlen (fun x hx => hb x (List.mem_of_mem_take hx)) (fun i hi => by
    rw [Nat.zero_add]
    refine h.2.2.1 i _ ?_
    rw [bys_get (by omega)]
    simp [List.getD, List.getElem?_take, hi, show i < d.length by omega])
  have := Lib.run_convert_whole (P := Try.prog) w 50 5 9 Try.underlying50 Try.underlying5 Try.underlying9 g 0 _ hB c
  rwa [strOfNums_size, hlen] at this
end Go.Proofs.Ytngciahmoenkiac


/- Over this seat's translation: strings.Clone: the same bytes; a new row is laid, and marked. -/
set_option linter.unusedVariables false
set_option linter.unusedSimpArgs false
set_option maxRecDepth 100000
set_option maxHeartbeats 4000000
namespace Go.Proofs.Ytngciahmoenkiac
open Go.RowKit
theorem later_below {w w' : World} (n : Nat) (h : Below w.heap.size w w') (hd : w'.drawn = w.drawn + n) : Later w w' := by
  refine ⟨w'.heap.extract w.heap.size w'.heap.size, n, ?_⟩
  obtain ⟨h1, h2, h3, h4, h5⟩ := h
  have hh : w'.heap = w.heap ++ w'.heap.extract w.heap.size w'.heap.size := by
    apply Array.ext_getElem?
    intro k
    rcases Nat.lt_or_ge k w.heap.size with hk | hk
    · rw [Array.getElem?_append_left hk, h5 k hk]
    · rw [Array.getElem?_append_right hk, Array.getElem?_extract]
      by_cases hk2 : k < w'.heap.size
      · rw [if_pos (by omega)]
        congr 1
        omega
      · rw [if_neg (by omega), Array.getElem?_eq_none (by omega)]
  cases w'
  simp only at h1 h2 h3 hd hh
  subst h1 h2 h3 hd
  unfold World.far
  rw [← hh]
/-- why a text is none -/
def flt (s : ByteArray) : Int := if 64 < s.size then 1301 else if utfR s = true then 0 else 1300
theorem fault_any (s : ByteArray) (hs : s.size < 9223372036854775000) (w : World) :
    Calls Try.prog 60 #[.string s] w fun e w' => e = .returned (.int .i64 (flt s)) ∧ Later w w' := by
  unfold flt
  by_cases h : 64 < s.size
  · have h1 : (64 : Int) < (s.size : Int) := by omega
    rw [if_pos h]
    go_enter Try.func60, Try.ntmps60
    go_wp2
    go_ret
    exact ⟨rfl, Lz _⟩
  · have h1 : ¬ (64 : Int) < (s.size : Int) := by omega
    rw [if_neg h]
    have hu : Hid (∀ w : World, Calls Try.prog 63 #[.string s] w fun e w' => e = .returned (.bool (utfR s)) ∧ Later w w') := fun w => isutf_any s hs w
    generalize utfR s = b at *
    cases b
    all_goals
      go_enter Try.func60, Try.ntmps60
      go_wp2_with (go_at_call 63; refine (hu.out _).mono ?_; rintro e w2 ⟨rfl, l2⟩; replace l2 : Hid (Later w w2) := l2)
      go_ret
      exact ⟨rfl, l2.out⟩
end Go.Proofs.Ytngciahmoenkiac


/- Over this seat's translation: the faces of package names: May, Put, Get. -/
set_option linter.unusedVariables false
set_option linter.unusedSimpArgs false
set_option maxRecDepth 100000
set_option maxHeartbeats 4000000
namespace Go.Proofs.Ytngciahmoenkiac
open Go.RowKit
theorem may_flt (s : ByteArray) : mayN s = (flt s == 0) := by
  unfold mayN flt
  by_cases h : 64 < s.size
  · rw [if_pos h, decide_eq_false (by omega)]; rfl
  · rw [if_neg h, decide_eq_true (by omega)]
    cases utfR s <;> rfl
theorem nm_flt (s : ByteArray) : (flt s = 0 ∧ s.size ≤ 64 ∧ nmR s = (strOfNums (lebL (s.size : Int)) ++ s, 0)) ∨ (¬ flt s = 0 ∧ nmR s = (⟨#[]⟩, flt s)) := by
  unfold flt nmR
  by_cases h : 64 < s.size
  · rw [if_pos h, if_pos h]; exact Or.inr ⟨by decide, rfl⟩
  · rw [if_neg h, if_neg h]
    by_cases hu : utfR s = true
    · rw [if_pos hu, if_pos hu]; exact Or.inl ⟨rfl, by omega, rfl⟩
    · rw [if_neg hu, if_neg hu]; exact Or.inr ⟨by decide, rfl⟩
theorem nput_any (s : ByteArray) (hs : s.size < 9223372036854775000) (w : World) :
    Calls Try.prog 55 #[.string s] w fun e w' => e = .returned (.tuple #[.string (nmR s).1, .int .i64 (nmR s).2]) ∧ Later w w' := by
  have hf : Hid (∀ w : World, Calls Try.prog 60 #[.string s] w fun e w' => e = .returned (.int .i64 (flt s)) ∧ Later w w') := fun w => fault_any s hs w
  rcases nm_flt s with ⟨h0, h64, hn⟩ | ⟨h0, hn⟩
  · rw [hn]
    rw [h0] at hf
    have hle : Hid (∀ w : World, Calls Try.prog 51 #[.int .i64 (s.size : Int)] w fun e w' => e = .returned (.string (strOfNums (lebL (s.size : Int)))) ∧ Later w w') := fun w => put_any _ (by omega) w
    have hz : (strOfNums (lebL (s.size : Int))).size ≤ 10 := by rw [strOfNums_size]; exact lebF_len 9 _
    generalize strOfNums (lebL (s.size : Int)) = t at *
    clear hn h0
    go_enter Try.func55, Try.ntmps55
    go_wp2_with (first | (go_at_call 60; refine (hf.out _).mono ?_; rintro e w2 ⟨rfl, l2⟩; replace l2 : Hid (Later w w2) := l2) | (go_at_call 51; refine (hle.out _).mono ?_; rintro e w3 ⟨rfl, l3⟩; replace l3 : Hid (Later w2 w3) := l3))
    go_ret2
    exact ⟨rfl, l2.out.trans l3.out⟩
  · rw [hn]
    generalize flt s = c at *
    have h1 : (c != 0) = true := by simpa using h0
    clear hn h0
    go_enter Try.func55, Try.ntmps55
    go_wp2_with (go_at_call 60; refine (hf.out _).mono ?_; rintro e w2 ⟨rfl, l2⟩; replace l2 : Hid (Later w w2) := l2)
    go_ret2
    exact ⟨rfl, l2.out⟩
end Go.Proofs.Ytngciahmoenkiac

