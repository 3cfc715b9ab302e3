/- XV: EB, EC, ED, EE, joined. -/
import Derived.Test.YtngciahmoenkiacEA
import Derived.Test.YtngciahmoenkiacOB
import Derived.Test.YtngciahmoenkiacXE
import Derived.Test.YtngciahmoenkiacXN
/- Over this seat's translation: the document's reader of modules: its small functions. -/
set_option linter.unusedVariables false
set_option linter.unusedSimpArgs false
set_option maxRecDepth 100000
set_option maxHeartbeats 4000000
namespace Go.Proofs.Ytngciahmoenkiac
open Go.RowKit
/-- a reader: its place, its first error -/
structure Sst where
  at_ : Int
  code : Int
def sF (s : ByteArray) (st : Sst) (j : Nat) : Value := [Value.string s, .int .i64 st.at_, .int .i64 st.code].getD j undef
def sfail (st : Sst) (e : Int) : Sst := if st.code = 0 then { st with code := e } else st
def sbyte (s : ByteArray) (st : Sst) : Int × Sst := if st.code = 0 ∧ st.at_ < s.size then (bt s st.at_.toNat, { st with at_ := st.at_ + 1 }) else (0, sfail st 1506)
def snum (s : ByteArray) (st : Sst) : Int × Sst := if ¬ st.code = 0 then (0, st) else if (ulR s st.at_ 32).2.2 = 0 then ((ulR s st.at_ 32).1, { st with at_ := (ulR s st.at_ 32).2.1 }) else (0, sfail st 1506)
def smany (s : ByteArray) (most : Int) (st : Sst) : Int × Sst := if most < (snum s st).1 then (0, sfail (snum s st).2 1508) else snum s st
def sname (s : ByteArray) (st : Sst) : ByteArray × Sst := if ¬ st.code = 0 then (⟨#[]⟩, st) else if (unR s st.at_).2.2 = 0 then ((unR s st.at_).1, { st with at_ := (unR s st.at_).2.1 }) else if (unR s st.at_).2.2 = 1301 then (⟨#[]⟩, sfail st 1508) else (⟨#[]⟩, sfail st 1506)
def smust (s : ByteArray) (b : Int) (st : Sst) : Sst := if (sbyte s st).1 = b then (sbyte s st).2 else sfail (sbyte s st).2 1506
def skind (s : ByteArray) (st : Sst) : Int × Sst := ((sbyte s st).1, if (sbyte s st).2.code = 0 ∧ ¬ (124 ≤ (sbyte s st).1 ∧ (sbyte s st).1 ≤ 127) then sfail (sbyte s st).2 1506 else (sbyte s st).2)
def sflag (s : ByteArray) (st : Sst) : Bool × Sst := (decide ((sbyte s st).1 = 1), if 1 < (sbyte s st).1 then sfail (sbyte s st).2 1506 else (sbyte s st).2)
def slim (s : ByteArray) (st : Sst) : (Int × Int) × Sst :=
  if (sflag s st).1 = false then (((snum s (sflag s st).2).1, -1), (snum s (sflag s st).2).2)
  else (((snum s (sflag s st).2).1, (snum s (snum s (sflag s st).2).2).1), (snum s (snum s (sflag s st).2).2).2)
/-- a place within the text -/
def Sin (s : ByteArray) (st : Sst) : Prop := 0 ≤ st.at_ ∧ st.at_ ≤ s.size
theorem sfail_in {s : ByteArray} {st : Sst} (h : Sin s st) (e : Int) : Sin s (sfail st e) := by
  unfold sfail
  split <;> exact h
theorem sbyte_in {s : ByteArray} {st : Sst} (h : Sin s st) : Sin s (sbyte s st).2 := by
  unfold sbyte
  split
  · rename_i h1
    exact ⟨by have := h.1; show 0 ≤ st.at_ + 1; omega, by have := h1.2; show st.at_ + 1 ≤ _; omega⟩
  · exact sfail_in h _
theorem snum_in {s : ByteArray} {st : Sst} (h : Sin s st) : Sin s (snum s st).2 := by
  unfold snum
  split
  · exact h
  · split
    · rename_i h1
      have := ul_rng s st.at_ h1
      exact ⟨by show 0 ≤ (ulR s st.at_ 32).2.1; omega, by show (ulR s st.at_ 32).2.1 ≤ _; omega⟩
    · exact sfail_in h _
theorem smany_in {s : ByteArray} {st : Sst} (h : Sin s st) (m : Int) : Sin s (smany s m st).2 := by
  unfold smany
  split
  · exact sfail_in (snum_in h) _
  · exact snum_in h
variable {q : Nat} {w wr wr' : World} {s : ByteArray} {st st' : Sst}
theorem row_new (w : World) (T : TypeId) (L : List Value) : (w.alloc (.cells L.toArray T)).rowIs w.heap.size T L.length (fun j => L.getD j undef) := ⟨_, heap_alloc_new w _, by simp, fun i hi => by simp [List.getD, hi]⟩
theorem sset1 {a b a' : Int} : ∀ j, j < 3 → (if j = 1 then Value.int .i64 a' else sF s ⟨a, b⟩ j) = sF s ⟨a', b⟩ j := fun j hj => by
  match j, hj with
  | 0, _ => rfl
  | 1, _ => rfl
  | 2, _ => rfl
theorem sset2 {a b b' : Int} : ∀ j, j < 3 → (if j = 2 then Value.int .i64 b' else sF s ⟨a, b⟩ j) = sF s ⟨a, b'⟩ j := fun j hj => by
  match j, hj with
  | 0, _ => rfl
  | 1, _ => rfl
  | 2, _ => rfl
theorem sbyte_pos (hin : Sin s st) : 0 ≤ (sbyte s st).1 ∧ (sbyte s st).1 < 256 := by
  unfold sbyte
  split
  · exact bt_lt _ _
  · exact ⟨Int.le_refl _, by show (0 : Int) < 256; decide⟩
end Go.Proofs.Ytngciahmoenkiac


/- Over this seat's translation: the document's reader of modules: names, types, limits, lists of instructions. -/
set_option linter.unusedVariables false
set_option linter.unusedSimpArgs false
set_option maxRecDepth 100000
set_option maxHeartbeats 4000000
namespace Go.Proofs.Ytngciahmoenkiac
open Go.RowKit
variable {q : Nat} {w wr wr' : World} {s : ByteArray} {st st' : Sst}
end Go.Proofs.Ytngciahmoenkiac


/- Over this seat's translation: the document's reader of modules: lists of instructions. -/
set_option linter.unusedVariables false
set_option linter.unusedSimpArgs false
set_option maxRecDepth 100000
set_option maxHeartbeats 4000000
namespace Go.Proofs.Ytngciahmoenkiac
open Go.RowKit
def sinstrs (s : ByteArray) (st : Sst) : Fs × Sst := if ¬ st.code = 0 then (.nil, st) else if (unI s st.at_).2.2 = 0 then ((unI s st.at_).1, { st with at_ := (unI s st.at_).2.1 }) else if (unI s st.at_).2.2 = 1402 then (.nil, sfail st 1507) else (.nil, sfail st 1506)
variable {q : Nat} {w wr wr' : World} {s : ByteArray} {st st' : Sst}
end Go.Proofs.Ytngciahmoenkiac


/- Over this seat's translation: the document's reader of modules: lists of value types. -/
set_option linter.unusedVariables false
set_option linter.unusedSimpArgs false
set_option maxRecDepth 100000
set_option maxHeartbeats 4000000
namespace Go.Proofs.Ytngciahmoenkiac
open Go.RowKit
/-- so many parts, while there is no error -/
def srep {α : Type} (f : Sst → α × Sst) : Nat → Sst → List α × Sst
  | 0, st => ([], st)
  | k + 1, st => if st.code = 0 then ((f st).1 :: (srep f k (f st).2).1, (srep f k (f st).2).2) else ([], st)
theorem srep_bad {α : Type} (f : Sst → α × Sst) (k : Nat) (st : Sst) (h : ¬ st.code = 0) : srep f k st = ([], st) := by
  cases k with
  | zero => rfl
  | succ k => rw [srep, if_neg h]
theorem srep_ok {α : Type} (f : Sst → α × Sst) (k : Nat) (st : Sst) (h : st.code = 0) : srep f (k + 1) st = ((f st).1 :: (srep f k (f st).2).1, (srep f k (f st).2).2) := by rw [srep, if_pos h]
theorem srep_len {α : Type} (f : Sst → α × Sst) : ∀ (k : Nat) (st : Sst), (srep f k st).1.length ≤ k
  | 0, st => Nat.le_refl _
  | k + 1, st => by
    rw [srep]
    split
    · simp only [List.length_cons]; have := srep_len f k (f st).2; omega
    · exact Nat.zero_le _
theorem srep_in {α : Type} {s : ByteArray} (f : Sst → α × Sst) (hf : ∀ st, Sin s st → Sin s (f st).2) : ∀ (k : Nat) (st : Sst), Sin s st → Sin s (srep f k st).2
  | 0, st, h => h
  | k + 1, st, h => by
    rw [srep]
    split
    · exact srep_in f hf k _ (hf st h)
    · exact h
theorem skind_in {s : ByteArray} {st : Sst} (h : Sin s st) : Sin s (skind s st).2 := by
  unfold skind
  simp only []
  split
  · exact sfail_in (sbyte_in h) _
  · exact sbyte_in h
theorem sflag_in {s : ByteArray} {st : Sst} (h : Sin s st) : Sin s (sflag s st).2 := by
  unfold sflag
  simp only []
  split
  · exact sfail_in (sbyte_in h) _
  · exact sbyte_in h
theorem smust_in {s : ByteArray} {st : Sst} (h : Sin s st) (b : Int) : Sin s (smust s b st) := by
  unfold smust
  split
  · exact sbyte_in h
  · exact sfail_in (sbyte_in h) _
theorem slim_in {s : ByteArray} {st : Sst} (h : Sin s st) : Sin s (slim s st).2 := by
  unfold slim
  split
  · exact snum_in (sflag_in h)
  · exact snum_in (snum_in (sflag_in h))
/-- numbers as structs of one field -/
abbrev f1 (x : Int) : List Fd := [fN x]
theorem flat1 (xs : List Int) (j : Nat) (hj : j < xs.length) : (xs.flatMap f1)[j]? = some (fN (xs.getD j 0)) := by
  have := flat_get f1 1 (fun _ => rfl) xs j 0 (by decide)
  rw [Nat.mul_one, Nat.add_zero] at this
  rw [this, List.getElem?_eq_getElem hj]
  simp [List.getD, hj]
theorem Rt.lq {Z : Nat → Prop} {w : World} {A : Option Addr} {xs : List Int} (h : Rt f1 Z w A xs) : Lq Z w A xs := by
  rcases h with h | ⟨g, o, L, e, hz, hc, hi⟩
  · subst h
    exact ⟨Or.inl rfl, fun x => absurd rfl x⟩
  · subst e
    refine ⟨Or.inr ⟨g, o, rfl, fun j hj => ?_⟩, fun _ a ha => by cases ha; exact hz⟩
    obtain ⟨v, h1, h2⟩ := hi.get (flat1 xs j hj)
    rw [hc j v h1]
    exact congrArg some h2
theorem ti_int : Ti 25 3 1 8 := ti_of Try.underlying25 (by kernel_rfl) (by decide)
def skinds (s : ByteArray) (st : Sst) : List Int × Sst := srep (skind s) (smany s 1024 st).1.toNat (smany s 1024 st).2
theorem skinds_in {s : ByteArray} {st : Sst} (h : Sin s st) : Sin s (skinds s st).2 := srep_in _ (fun _ h => skind_in h) _ _ (smany_in h _)
theorem snum_rng {s : ByteArray} {st : Sst} : 0 ≤ (snum s st).1 ∧ (snum s st).1 < 34359738368 := by
  unfold snum
  split
  · exact ⟨Int.le_refl _, by show (0 : Int) < _; decide⟩
  · split
    · rename_i h
      have := ul_rng s st.at_ h
      exact ⟨this.1, this.2.1⟩
    · exact ⟨Int.le_refl _, by show (0 : Int) < _; decide⟩
theorem smany_rng {s : ByteArray} {st : Sst} {m : Int} (hm : 0 ≤ m) : 0 ≤ (smany s m st).1 ∧ (smany s m st).1 ≤ m := by
  unfold smany
  split
  · exact ⟨Int.le_refl _, hm⟩
  · exact ⟨snum_rng.1, by omega⟩
variable {q : Nat} {w wr wr' : World} {s : ByteArray} {st st' : Sst}
end Go.Proofs.Ytngciahmoenkiac

