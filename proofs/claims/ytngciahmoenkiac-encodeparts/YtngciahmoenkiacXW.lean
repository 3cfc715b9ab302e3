/- XW: EF, EG, EH, EI, EJ, EK, joined. -/
import Derived.Test.YtngciahmoenkiacXV
/- Over this seat's translation: structs of one's own, told by lists; the document's reader of modules: an import. -/
set_option linter.unusedVariables false
set_option linter.unusedSimpArgs false
set_option maxRecDepth 100000
set_option maxHeartbeats 4000000
namespace Go.Proofs.Ytngciahmoenkiac
open Go.RowKit
/-- a struct in a block: its cells -/
def Rl (W : World) (p : Nat) (T : TypeId) (L : List Value) : Prop := W.rowIs p T L.length (fun j => L.getD j undef)
section
variable {W W' : World} {p : Nat} {T : TypeId} {L : List Value}
theorem Rl.cell (h : Rl W p T L) (i : Nat) {v : Value} (hv : L[i]? = some v) : W.cell? ⟨p, i, none⟩ = some v := by
  obtain ⟨hi, he⟩ := List.getElem?_eq_some_iff.1 hv
  have := World.rowIs.cell h hi
  rw [this]
  simp [List.getD, hv]
theorem Rl.frozen (h : Rl W p T L) (i : Nat) : W.frozen? ⟨p, i, none⟩ = false := World.rowIs.frozen h i
theorem Rl.lt (h : Rl W p T L) : p < W.heap.size := World.rowIs.lt h
theorem Rl.set (h : Rl W p T L) (i : Nat) (v : Value) : Rl (W.setCell ⟨p, i, none⟩ v) p T (L.set i v) := by
  unfold Rl
  rw [List.length_set]
  refine (World.rowIs.set h i v).congr fun j hj => ?_
  simp only [List.getD, List.getElem?_set]
  by_cases e : j = i
  · subst e
    simp [hj]
  · simp [e, Ne.symm e]
theorem Rl.off (h : Rl W p T L) {k : Nat} (i : Nat) (v : Value) (hk : p ≠ k) : Rl (W.setCell ⟨k, i, none⟩ v) p T L := World.rowIs.of_block h (Below.heap_setCell W ⟨k, i, none⟩ v p (fun e => hk e))
theorem Rl.wr {S : Nat → Prop} (h : Rl W p T L) (hw : Wr S W W') (hs : ¬ S p) : Rl W' p T L := hw.row hs h
theorem Rl.later (h : Rl W p T L) (hl : Later W W') : Rl W' p T L := rowIs_later hl h
end
/-- an import: its names, its kind, its type, whether it may be set, its limits -/
abbrev Imp : Type := ByteArray × ByteArray × Int × Int × Bool × Int × Int
def simp4 (s : ByteArray) (k : Int) (st : Sst) : (Int × Bool × Int × Int) × Sst :=
  if k = 0 then (((snum s st).1, false, 0, 0), (snum s st).2)
  else if k = 1 then ((0, false, (slim s (smust s 112 st)).1.1, (slim s (smust s 112 st)).1.2), (slim s (smust s 112 st)).2)
  else if k = 2 then ((0, false, (slim s st).1.1, (slim s st).1.2), (slim s st).2)
  else if k = 3 then (((skind s st).1, (sflag s (skind s st).2).1, 0, 0), (sflag s (skind s st).2).2)
  else ((0, false, 0, 0), sfail st 1506)
def spart (s : ByteArray) (st : Sst) : Imp × Sst :=
  (((sname s st).1, (sname s (sname s st).2).1, (sbyte s (sname s (sname s st).2).2).1, (simp4 s (sbyte s (sname s (sname s st).2).2).1 (sbyte s (sname s (sname s st).2).2).2).1), (simp4 s (sbyte s (sname s (sname s st).2).2).1 (sbyte s (sname s (sname s st).2).2).2).2)
theorem unm_rng (s : ByteArray) (at_ : Int) (h : (unR s at_).2.2 = 0) : 0 ≤ (unR s at_).2.1 ∧ (unR s at_).2.1 ≤ s.size := by
  unfold unR at h ⊢
  split at h
  · rename_i h1
    have := ul_rng s at_ h1.1
    split at h
    · simp at h
    · rename_i h2
      split at h
      · rename_i h3
        rw [if_pos h1, if_neg h2, if_pos h3]
        have := h1.2
        simp only []
        omega
      · simp at h
  · simp at h
theorem sname_in {s : ByteArray} {st : Sst} (h : Sin s st) : Sin s (sname s st).2 := by
  unfold sname
  split
  · exact h
  · split
    · rename_i h1
      have := unm_rng s st.at_ h1
      exact ⟨this.1, this.2⟩
    · split <;> exact sfail_in h _
def impV (x : Imp) : Value := .agg #[.string x.1, .string x.2.1, .int .i64 x.2.2.1, .int .i64 x.2.2.2.1, .bool x.2.2.2.2.1, .int .i64 x.2.2.2.2.2.1, .int .i64 x.2.2.2.2.2.2]
variable {q : Nat} {w wr wr' : World} {s : ByteArray} {st st' : Sst}
end Go.Proofs.Ytngciahmoenkiac


/- Over this seat's translation: the document's reader of modules: a code. -/
set_option linter.unusedVariables false
set_option linter.unusedSimpArgs false
set_option maxRecDepth 100000
set_option maxHeartbeats 4000000
namespace Go.Proofs.Ytngciahmoenkiac
open Go.RowKit
/-- runs of locals -/
def slocs (s : ByteArray) : Nat → List Int → Sst → List Int × Sst
  | 0, ls, st => (ls, st)
  | k + 1, ls, st => if st.code = 0 then (if 256 - (ls.length : Int) < (snum s st).1 then (ls, sfail (snum s st).2 1508) else slocs s k (ls ++ List.replicate (snum s st).1.toNat (skind s (snum s st).2).1) (skind s (snum s st).2).2) else (ls, st)
theorem slocs_bad (s : ByteArray) (k : Nat) (ls : List Int) (st : Sst) (h : ¬ st.code = 0) : slocs s k ls st = (ls, st) := by
  cases k with
  | zero => rfl
  | succ k => rw [slocs, if_neg h]
theorem slocs_in {s : ByteArray} : ∀ (k : Nat) (ls : List Int) (st : Sst), Sin s st → Sin s (slocs s k ls st).2
  | 0, ls, st, h => h
  | k + 1, ls, st, h => by
    rw [slocs]
    split
    · split
      · exact sfail_in (snum_in h) _
      · exact slocs_in k _ _ (skind_in (snum_in h))
    · exact h
theorem slocs_len {s : ByteArray} : ∀ (k : Nat) (ls : List Int) (st : Sst), ls.length ≤ 256 → (slocs s k ls st).1.length ≤ 256
  | 0, ls, st, h => h
  | k + 1, ls, st, h => by
    rw [slocs]
    split
    · split
      · exact h
      · have := snum_rng (s := s) (st := st)
        refine slocs_len k _ _ ?_
        rw [List.length_append, List.length_replicate]
        omega
    · exact h
def sclose (size from_ : Int) (st : Sst) : Sst := if st.code = 0 ∧ ¬ st.at_ - from_ = size then sfail st 1504 else st
def sbody (s : ByteArray) (st : Sst) : (List Int × Fs) × Sst :=
  (((slocs s (smany s 1024 (snum s st).2).1.toNat [] (smany s 1024 (snum s st).2).2).1, (sinstrs s (slocs s (smany s 1024 (snum s st).2).1.toNat [] (smany s 1024 (snum s st).2).2).2).1),
    sclose (snum s st).1 (snum s st).2.at_ (sinstrs s (slocs s (smany s 1024 (snum s st).2).1.toNat [] (smany s 1024 (snum s st).2).2).2).2)
/-- one struct more, behind what was read -/
theorem Mk.grow {α : Type} {f : α → List Fd} {e t : TypeId} {B k by_ : Nat} {v : Value} {xs : List α} {S : Nat → Prop} {wr w2 : World} (hM : Mk f B e k wr v xs) (hB : B ≤ wr.heap.size) (hT : Ti t e k by_) (ty : TypeId) (x : α) (hf : (f x).length = k) (c : List Value) (hn : (xs.length + 1) * by_ ≤ 140737488355328) (h63 : xs.length + 1 ≤ 1000000000) (W2 : Wr S wr w2) (hS : ∀ j, S j → j < B) (hc : itc (wr.heap.size ≤ ·) w2 (f x) c) :
    ∃ g cap w', (Builtin.append_ #[t, t] ty #[v, .slice (some ⟨w2.heap.size, 0, none⟩) 1 1]).run Try.prog (w2.alloc (.cells c.toArray e)) = .ok (.slice (some ⟨g, 0, none⟩) (xs.length + 1) cap) w' ∧ Mk f B e k w' (.slice (some ⟨g, 0, none⟩) (xs.length + 1) cap) (xs ++ [x]) ∧ Wr (B ≤ ·) w2 w' :=
  hM.more (w := w2) hT ty hB W2.size (fun j hj hl => W2.block j hl (fun e => by have := hS j e; omega)) x hf c hc hn h63
theorem Wr.low {B k : Nat} {w w' : World} (h : Wr (fun j => j < B) w w') (i : Nat) (v : Value) (hk : k < B) : Wr (fun j => j < B) w (w'.setCell ⟨k, i, none⟩ v) := h.set i v (Or.inl hk)
theorem uni_rng (s : ByteArray) (at_ : Int) (h : (unI s at_).2.2 = 0) : 0 ≤ (unI s at_).2.1 ∧ (unI s at_).2.1 ≤ s.size := by
  unfold unI at h ⊢
  split at h
  · rename_i h1
    rw [if_pos h1]
    split at h
    · rename_i h2
      rw [if_pos h2]
      exact ((rl_ge (s := s) (s.size + 1)) 0 false ⟨at_, 0, 0⟩ h1).1.1
    · rename_i h2
      exact absurd h h2
  · simp at h
theorem sinstrs_in {s : ByteArray} {st : Sst} (h : Sin s st) : Sin s (sinstrs s st).2 := by
  unfold sinstrs
  split
  · exact h
  · split
    · rename_i h1
      exact uni_rng s st.at_ h1
    · split <;> exact sfail_in h _
variable {q : Nat} {w wr wr' : World} {s : ByteArray} {st st' : Sst}
end Go.Proofs.Ytngciahmoenkiac


/- Over this seat's translation: a module being read: its rows. -/
set_option linter.unusedVariables false
set_option linter.unusedSimpArgs false
set_option maxRecDepth 100000
set_option maxHeartbeats 4000000
namespace Go.Proofs.Ytngciahmoenkiac
open Go.RowKit
section
variable {q p j k by_ : Nat} {w wr wr' w3 : World} {s : ByteArray} {st st' st3 : Sst} {L : List Value} {v : Value} {e t : TypeId}
end
/-- the fields of a module's parts -/
abbrev fTy (x : List Int × List Int) : List Fd := [fL x.1, fL x.2]
abbrev fIm (x : Imp) : List Fd := [fT x.1, fT x.2.1, fN x.2.2.1, fN x.2.2.2.1, fB x.2.2.2.2.1, fN x.2.2.2.2.2.1, fN x.2.2.2.2.2.2]
abbrev fLi (x : Int × Int) : List Fd := [fN x.1, fN x.2]
abbrev fGl (x : Int × Bool × Fs) : List Fd := [fN x.1, fB x.2.1, fI x.2.2]
abbrev fEx (x : ByteArray × Int × Int) : List Fd := [fT x.1, fN x.2.1, fN x.2.2]
abbrev fEl (x : Fs × List Int) : List Fd := [fI x.1, fL x.2]
abbrev fCo (x : List Int × Fs) : List Fd := [fL x.1, fI x.2]
abbrev fDa (x : Fs × ByteArray) : List Fd := [fI x.1, fT x.2]
theorem ti_fty : Ti 23 36 2 48 := ti_of Try.underlying23 (by kernel_rfl) (by decide)
theorem ti_imp : Ti 24 40 7 72 := ti_of Try.underlying24 (by kernel_rfl) (by decide)
theorem ti_lim : Ti 26 38 2 16 := ti_of Try.underlying26 (by kernel_rfl) (by decide)
theorem ti_glo : Ti 27 45 3 40 := ti_of Try.underlying27 (by kernel_rfl) (by decide)
theorem ti_exp : Ti 28 47 3 32 := ti_of Try.underlying28 (by kernel_rfl) (by decide)
theorem ti_elm : Ti 29 49 2 48 := ti_of Try.underlying29 (by kernel_rfl) (by decide)
theorem ti_cod : Ti 30 59 2 48 := ti_of Try.underlying30 (by kernel_rfl) (by decide)
theorem ti_dat : Ti 31 52 2 40 := ti_of Try.underlying31 (by kernel_rfl) (by decide)
end Go.Proofs.Ytngciahmoenkiac


/- Over this seat's translation: the document's reader of modules: imports, functions, tables, memories. -/
set_option linter.unusedVariables false
set_option linter.unusedSimpArgs false
set_option maxRecDepth 100000
set_option maxHeartbeats 4000000
namespace Go.Proofs.Ytngciahmoenkiac
open Go.RowKit
variable {q p : Nat} {w wr wr' : World} {s : ByteArray} {st st' : Sst} {L : List Value}
theorem simp4_in {k : Int} (h : Sin s st) : Sin s (simp4 s k st).2 := by
  unfold simp4
  split
  · exact snum_in h
  · split
    · exact slim_in (smust_in h _)
    · split
      · exact slim_in h
      · split
        · exact sflag_in (skind_in h)
        · exact sfail_in h _
theorem spart_in (h : Sin s st) : Sin s (spart s st).2 := simp4_in (sbyte_in (sname_in (sname_in h)))
def simps (s : ByteArray) (st : Sst) : List Imp × Sst := srep (spart s) (smany s 1024 st).1.toNat (smany s 1024 st).2
theorem simps_in (h : Sin s st) : Sin s (simps s st).2 := srep_in (spart s) (fun _ h => spart_in h) _ _ (smany_in h _)
def sfuncs (s : ByteArray) (st : Sst) : List Int × Sst := srep (snum s) (smany s 256 st).1.toNat (smany s 256 st).2
theorem sfuncs_in (h : Sin s st) : Sin s (sfuncs s st).2 := srep_in (snum s) (fun _ h => snum_in h) _ _ (smany_in h _)
def stabs (s : ByteArray) (st : Sst) : List (Int × Int) × Sst := srep (fun st => slim s (smust s 112 st)) (smany s 1024 st).1.toNat (smany s 1024 st).2
theorem stabs_in (h : Sin s st) : Sin s (stabs s st).2 := srep_in (fun st => slim s (smust s 112 st)) (fun _ h => slim_in (smust_in h _)) _ _ (smany_in h _)
def smems (s : ByteArray) (st : Sst) : List (Int × Int) × Sst := srep (slim s) (smany s 1024 st).1.toNat (smany s 1024 st).2
theorem smems_in (h : Sin s st) : Sin s (smems s st).2 := srep_in (slim s) (fun _ h => slim_in h) _ _ (smany_in h _)
end Go.Proofs.Ytngciahmoenkiac


/- Over this seat's translation: the document's reader of modules: codes. -/
set_option linter.unusedVariables false
set_option linter.unusedSimpArgs false
set_option maxRecDepth 100000
set_option maxHeartbeats 4000000
namespace Go.Proofs.Ytngciahmoenkiac
open Go.RowKit
variable {q p : Nat} {w wr wr' : World} {s : ByteArray} {st st' : Sst} {L : List Value}
theorem sbody_in (h : Sin s st) : Sin s (sbody s st).2 := by
  unfold sbody sclose
  simp only []
  split
  · exact sfail_in (sinstrs_in (slocs_in _ _ _ (smany_in (snum_in h) _))) _
  · exact sinstrs_in (slocs_in _ _ _ (smany_in (snum_in h) _))
def scodes (s : ByteArray) (st : Sst) : List (List Int × Fs) × Sst := srep (sbody s) (smany s 256 st).1.toNat (smany s 256 st).2
theorem scodes_in (h : Sin s st) : Sin s (scodes s st).2 := srep_in (sbody s) (fun _ h => sbody_in h) _ _ (smany_in h _)
end Go.Proofs.Ytngciahmoenkiac


/- Over this seat's translation: the document's reader of modules: types, globals. -/
set_option linter.unusedVariables false
set_option linter.unusedSimpArgs false
set_option maxRecDepth 100000
set_option maxHeartbeats 4000000
namespace Go.Proofs.Ytngciahmoenkiac
open Go.RowKit
variable {q p : Nat} {w wr wr' : World} {s : ByteArray} {st st' : Sst} {L : List Value}
def sty (s : ByteArray) (st : Sst) : (List Int × List Int) × Sst := (((skinds s (smust s 96 st)).1, (skinds s (skinds s (smust s 96 st)).2).1), (skinds s (skinds s (smust s 96 st)).2).2)
def stys (s : ByteArray) (st : Sst) : List (List Int × List Int) × Sst := srep (sty s) (smany s 256 st).1.toNat (smany s 256 st).2
theorem stys_in (h : Sin s st) : Sin s (stys s st).2 := srep_in (sty s) (fun _ h => skinds_in (skinds_in (smust_in h _))) _ _ (smany_in h _)
def sglo (s : ByteArray) (st : Sst) : (Int × Bool × Fs) × Sst := (((skind s st).1, (sflag s (skind s st).2).1, (sinstrs s (sflag s (skind s st).2).2).1), (sinstrs s (sflag s (skind s st).2).2).2)
def sglos (s : ByteArray) (st : Sst) : List (Int × Bool × Fs) × Sst := srep (sglo s) (smany s 1024 st).1.toNat (smany s 1024 st).2
theorem sglos_in (h : Sin s st) : Sin s (sglos s st).2 := srep_in (sglo s) (fun _ h => sinstrs_in (sflag_in (skind_in h))) _ _ (smany_in h _)
end Go.Proofs.Ytngciahmoenkiac

