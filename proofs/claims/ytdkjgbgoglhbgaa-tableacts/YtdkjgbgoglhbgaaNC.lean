/- Over this seat's translation: a table as a struct and its row of ints; how a list is written into it. -/
import Derived.Test.YtdkjgbgoglhbgaaNB
set_option linter.unusedVariables false
set_option linter.unusedSimpArgs false
set_option maxRecDepth 100000
set_option maxHeartbeats 4000000
namespace Go.Proofs.Ytdkjgbgoglhbgaa
open Go.RowKit

/-- a table: a struct at p of one list, its ints f; all of it laid from block B on -/
def Tab (T : TypeId) (w : World) (B p : Nat) (A : Option Addr) (n cap : Nat) (f : Nat → Int) : Prop :=
  w.rowIs p T 1 (fun _ => .slice A n cap) ∧ B ≤ p ∧ n ≤ 1024 ∧ w.ownsRow B 3 1 (.slice A n cap) n (xs f n) ∧ (Value.slice A n cap).ownBlock ≠ some p
/-- the blocks of a table -/
def Of (p : Nat) (A : Option Addr) (k : Nat) : Prop := k = p ∨ (Value.slice A 0 0).ownBlock = some k
theorem owns_turn {w w' : World} {B k n : Nat} {A : Option Addr} {cap : Nat} {L : List Value} (h : w.ownsRow B 3 1 (.slice A n cap) n L) (hk : (Value.slice A 0 0).ownBlock ≠ some k) (ht : Turned k w w') : w'.ownsRow B 3 1 (.slice A n cap) n L := by
  refine ⟨h.1, ?_⟩
  rcases h.2 with h2 | ⟨g, cap', cur, h2, h3, h4, h5⟩
  · exact Or.inl h2
  · refine Or.inr ⟨g, cap', cur, h2, h3, ?_, h5⟩
    have hg : g ≠ k := by
      intro e
      subst e
      cases h2
      exact hk rfl
    rw [ht.block hg (Array.getElem?_eq_some_iff.1 h4).1]
    exact h4
namespace Tab
variable {T : TypeId} {w w' : World} {B p : Nat} {A : Option Addr} {n cap : Nat} {f : Nat → Int}
theorem c0 (h : Tab T w B p A n cap f) : w.cell? ⟨p, 0, none⟩ = some (.slice A n cap) := h.1.cell (i := 0) (by decide)
theorem lt (h : Tab T w B p A n cap f) : p < w.heap.size := h.1.lt
theorem le (h : Tab T w B p A n cap f) : n ≤ cap := by
  rcases h.2.2.2.1.2 with ⟨e, h0⟩ | ⟨g, cap', cur, e, _, _, h2, _⟩
  · cases e; omega
  · cases e; exact h2
theorem later (h : Tab T w B p A n cap f) (hl : Later w w') : Tab T w' B p A n cap f := ⟨rowIs_later hl h.1, h.2.1, h.2.2.1, hl.owns h.2.2.2.1, h.2.2.2.2⟩
theorem turn (h : Tab T w B p A n cap f) {k : Nat} (hk : ¬ Of p A k) (ht : Turned k w w') : Tab T w' B p A n cap f :=
  ⟨ht.row h.1 (fun e => hk (Or.inl e.symm)), h.2.1, h.2.2.1, owns_turn h.2.2.2.1 (fun e => hk (Or.inr e)) ht, h.2.2.2.2⟩
theorem lst (h : Tab T w B p A n cap f) : Lst w A n f := by
  rcases h.2.2.2.1.2 with ⟨e, h0⟩ | ⟨g, cap', cur, e, _, _, h2, _⟩
  · exact Or.inl h0
  · cases e
    exact Or.inr ⟨g, 0, rfl, fun j hj => by rw [Nat.zero_add]; exact owns_cell h.2.2.2.1 (xs_get f n j hj)⟩
theorem at_ (h : Tab T w B p A n cap f) (j : Nat) (hj : j < n) : ∃ g, A = some ⟨g, 0, none⟩ ∧ w.cell? ⟨g, j, none⟩ = some (.int .i64 (f j)) := by
  rcases h.2.2.2.1.2 with ⟨e, h0⟩ | ⟨g, cap', cur, e, _, _, h2, _⟩
  · omega
  · cases e
    exact ⟨g, rfl, owns_cell h.2.2.2.1 (xs_get f n j hj)⟩
theorem base (h : Tab T w B p A n cap f) {k : Nat} (hk : Of p A k) : B ≤ k ∧ k < w.heap.size := by
  rcases hk with rfl | hk
  · exact ⟨h.2.1, h.lt⟩
  · exact h.2.2.2.1.lt k (by cases A <;> exact hk)
/-- from the world ahead of all, a table's block turned is a new block turned -/
theorem from_ {W : World} (h : Tab T w B p A n cap f) (hL : Later W w) (hB : W.heap.size ≤ B) {k : Nat} (hk : Of p A k) (ht : Turned k w w') : Later W w' := by
  have hb := h.base hk
  rcases hk with rfl | hk
  · exact hL.turned h.1 (by omega) ht
  · rcases h.2.2.2.1.2 with ⟨e, h0⟩ | ⟨g, cap', cur, e, _, h3, h2, _⟩
    · cases e; cases hk
    · cases e
      cases hk
      obtain ⟨cs, bs, m, rfl⟩ := ht
      exact (hL.setRow cs (by omega) h3).far
end Tab
/-- a list laid over ints -/
def lay (f : Nat → Int) (a m : Nat) (h : Nat → Int) : Nat → Int := fun i => if a ≤ i ∧ i < a + m then h (i - a) else f i
theorem size_int : (Try.prog.info? 3).map (·.size) = some 1 := by kernel_rfl
theorem slice_from (A : Option Addr) (n cap a : Nat) (ha : a ≤ n) (w : World) :
    (Instr.slice 34 (.slice A n cap) (some (.int .i64 (a : Int))) none none).run Try.prog w = .ok (.slice (if cap = a then A else A.map (·.add a)) (n - a) (cap - a)) w := by
  obtain ⟨i0, hi, hz0, hz1, hz2⟩ := int_parts
  have h1 : (a : Int) ≤ (n : Int) := by omega
  simp [Instr.slice, run_underlying Try.underlying34, Instr.sliceBounds, run_sliceBound, sizeOf, typeInfo, hi, hz1, h1]
theorem slice_to (A : Option Addr) (n cap h : Nat) (ha : h ≤ cap) (w : World) :
    (Instr.slice 34 (.slice A n cap) none (some (.int .i64 (h : Int))) none).run Try.prog w = .ok (.slice A h cap) w := by
  obtain ⟨i0, hi, hz0, hz1, hz2⟩ := int_parts
  have h1 : (h : Int) ≤ (cap : Int) := by omega
  simp [Instr.slice, run_underlying Try.underlying34, Instr.sliceBounds, run_sliceBound, sizeOf, typeInfo, hi, hz1, h1]
  cases A with
  | none => simp
  | some v => intro _; obtain ⟨b, o, s⟩ := v; cases s <;> simp [Addr.add]
/-- a list copied into a row -/
theorem row_copy {w : World} {g cap : Nat} {cur : List Value} {t : TypeId} (hg : w.heap[g]? = some (.cells cur.toArray t (0, 0))) (a m c dLen dCap : Nat) (D S : Option Addr) (h : Nat → Int) (hm : m ≤ dLen) (hfit : a + m ≤ cur.length) (hD : 0 < m → D = some ⟨g, a, none⟩) (hS : Lst w S m h) :
    (Builtin.copy_ #[34, 34] 3 #[.slice D dLen dCap, .slice S m c]).run Try.prog w = .ok (goInt m) (w.setRow g (splice cur a (xs h m)).toArray) := by
  have := run_copy_to (P := Try.prog) w 34 34 3 3 Try.underlying34 size_int D S dLen dCap m c g a cur t hg (xs h m) (by rw [xs_len]; exact (Nat.min_eq_left hm).symm) (fun hp => by
    rw [xs_len] at hp
    refine ⟨hD hp, ?_⟩
    obtain ⟨b, o, rfl, hc⟩ := hS.resolve_left (by omega)
    exact ⟨_, rfl, news_at hc⟩) (by rw [xs_len]; exact hfit) (xs_one h m)
  rw [xs_len] at this
  exact this
theorem put_into {T : TypeId} {w : World} {B p : Nat} {A : Option Addr} {n cap : Nat} {f : Nat → Int} (ht : Tab T w B p A n cap f) (a m c : Nat) (S : Option Addr) (h : Nat → Int) (hfit : a + m ≤ n) (hS : Lst w S m h) :
    ∃ w2, (Builtin.copy_ #[34, 34] 3 #[.slice (if cap = a then A else A.map (·.add a)) (n - a) (cap - a), .slice S m c]).run Try.prog w = .ok (goInt m) w2 ∧ (∃ k, Of p A k ∧ Turned k w w2) ∧ Tab T w2 B p A n cap (lay f a m h) := by
  rcases ht.2.2.2.1.2 with ⟨e, h0⟩ | ⟨g, cap', cur, e, h1, h2, h3, h4, h5, h6⟩
  · cases e
    clear h0
    obtain ⟨rfl, rfl⟩ : a = 0 ∧ m = 0 := by omega
    refine ⟨w, run_copy_none (P := Try.prog) w _ _ _ _ _ _ _ _ _ _ Try.underlying34 size_int (by simp), ⟨p, Or.inl rfl, Turned.refl ht.1⟩, ht.1, ht.2.1, ht.2.2.1, ht.2.2.2.1, ht.2.2.2.2⟩
  · cases e
    have hgp : g ≠ p := fun e => ht.2.2.2.2 (by rw [e]; rfl)
    rw [Nat.mul_one] at h5 h6
    have hcl : cur.toList.length = cap := by simpa using h5
    have hrow : w.rowIs g 3 cap (fun i => cur.getD i (.int .i64 0)) := ⟨cur, h2, h5, fun i hi => by simp [Array.getD, h5, hi]⟩
    have hfl : a + (xs h m).length ≤ cur.toList.length := by rw [xs_len, hcl]; omega
    have hcp := row_copy (cap := cap) (cur := cur.toList) (by simpa using h2) a m c (n - a) (cap - a) (if cap = a then some ⟨g, 0, none⟩ else (some (⟨g, 0, none⟩ : Addr)).map (·.add a)) S h (by omega) (by rw [hcl]; omega) (fun hm => by rw [if_neg (by omega)]; simp [add_of]) hS
    have htn : Turned g w (w.setRow g (splice cur.toList a (xs h m)).toArray) := (Turned.refl hrow).setRow hrow _
    refine ⟨_, hcp, ⟨g, Or.inr rfl, htn⟩, htn.row ht.1 (Ne.symm hgp), ht.2.1, ht.2.2.1, ⟨by rw [xs_len, Nat.mul_one], Or.inr ⟨g, cap, _, rfl, h1, setRow_heap _ _ _ _ _ _ h2, h3, h4, by rw [Nat.mul_one]; simp only [List.size_toArray]; rw [length_splice _ _ _ hfl, hcl], ?_⟩⟩, ht.2.2.2.2⟩
    rw [Nat.mul_one]
    apply List.ext_getElem?
    intro i
    rw [List.getElem?_take]
    by_cases hi : i < n
    · rw [if_pos hi, xs_get _ _ _ hi]
      show (splice cur.toList a (xs h m))[i]? = _
      rw [splice_get _ _ _ _ hfl, xs_len]
      unfold lay
      by_cases hh : a ≤ i ∧ i < a + m
      · rw [if_pos hh, if_pos hh, xs_get _ _ _ (by omega)]
      · rw [if_neg hh, if_neg hh]
        have h7 : (cur.toList.take n)[i]? = (xs f n)[i]? := by rw [h6]
        rw [List.getElem?_take, if_pos hi, xs_get _ _ _ hi] at h7
        exact h7
    · rw [if_neg hi, List.getElem?_eq_none (by rw [xs_len]; omega)]
end Go.Proofs.Ytdkjgbgoglhbgaa
