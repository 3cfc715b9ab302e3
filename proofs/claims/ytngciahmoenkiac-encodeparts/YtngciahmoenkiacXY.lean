/- XY: EL, EM, EN, EO, EP, joined. -/
import Derived.Test.YtngciahmoenkiacXW
/- Over this seat's translation: the document's reader of modules: exports, the start. -/
set_option linter.unusedVariables false
set_option linter.unusedSimpArgs false
set_option maxRecDepth 100000
set_option maxHeartbeats 4000000
namespace Go.Proofs.Ytngciahmoenkiac
open Go.RowKit
variable {q p : Nat} {w wr wr' : World} {s : ByteArray} {st st' : Sst} {L : List Value}
def sover (x : Int) (st : Sst) : Sst := if 3 < x then sfail st 1506 else st
theorem sover_in {x : Int} (h : Sin s st) : Sin s (sover x st) := by
  unfold sover
  split
  · exact sfail_in h _
  · exact h
def sexp (s : ByteArray) (st : Sst) : (ByteArray × Int × Int) × Sst := (((sname s st).1, (sbyte s (sname s st).2).1, (snum s (sover (sbyte s (sname s st).2).1 (sbyte s (sname s st).2).2)).1), (snum s (sover (sbyte s (sname s st).2).1 (sbyte s (sname s st).2).2)).2)
theorem sexp_in (h : Sin s st) : Sin s (sexp s st).2 := snum_in (sover_in (sbyte_in (sname_in h)))
def sexps (s : ByteArray) (st : Sst) : List (ByteArray × Int × Int) × Sst := srep (sexp s) (smany s 1024 st).1.toNat (smany s 1024 st).2
theorem sexps_in (h : Sin s st) : Sin s (sexps s st).2 := srep_in (sexp s) (fun _ h => sexp_in h) _ _ (smany_in h _)
end Go.Proofs.Ytngciahmoenkiac


/- Over this seat's translation: the document's reader of modules: elements. -/
set_option linter.unusedVariables false
set_option linter.unusedSimpArgs false
set_option maxRecDepth 100000
set_option maxHeartbeats 4000000
namespace Go.Proofs.Ytngciahmoenkiac
open Go.RowKit
variable {q p : Nat} {w wr wr' : World} {s : ByteArray} {st st' : Sst} {L : List Value}
def snil (x : Int) (st : Sst) : Sst := if x = 0 then st else sfail st 1506
theorem snil_in {x : Int} (h : Sin s st) : Sin s (snil x st) := by
  unfold snil
  split
  · exact h
  · exact sfail_in h _
/-- a list of numbers -/
def snums (s : ByteArray) (st : Sst) : List Int × Sst := srep (snum s) (smany s 1024 st).1.toNat (smany s 1024 st).2
theorem snums_in (h : Sin s st) : Sin s (snums s st).2 := srep_in (snum s) (fun _ h => snum_in h) _ _ (smany_in h _)
def selm (s : ByteArray) (st : Sst) : (Fs × List Int) × Sst := (((sinstrs s (snil (snum s st).1 (snum s st).2)).1, (snums s (sinstrs s (snil (snum s st).1 (snum s st).2)).2).1), (snums s (sinstrs s (snil (snum s st).1 (snum s st).2)).2).2)
theorem selm_in (h : Sin s st) : Sin s (selm s st).2 := snums_in (sinstrs_in (snil_in (snum_in h)))
def selms (s : ByteArray) (st : Sst) : List (Fs × List Int) × Sst := srep (selm s) (smany s 1024 st).1.toNat (smany s 1024 st).2
theorem selms_in (h : Sin s st) : Sin s (selms s st).2 := srep_in (selm s) (fun _ h => selm_in h) _ _ (smany_in h _)
end Go.Proofs.Ytngciahmoenkiac


/- Over this seat's translation: the document's reader of modules: datas. -/
set_option linter.unusedVariables false
set_option linter.unusedSimpArgs false
set_option maxRecDepth 100000
set_option maxHeartbeats 4000000
namespace Go.Proofs.Ytngciahmoenkiac
open Go.RowKit
variable {q p : Nat} {w wr wr' : World} {s : ByteArray} {st st' : Sst} {L : List Value}
theorem at_world {F : Act → World → Prop} {a : Act} {W0 : World} (h : ∀ W, W = W0 → F a W) : F a W0 := h W0 rfl
/-- so many bytes -/
def sbytes (s : ByteArray) (many : Int) (st : Sst) : ByteArray × Sst := if st.code = 0 then (if (s.size : Int) - st.at_ < many then (⟨#[]⟩, sfail st 1506) else (s.extract st.at_.toNat (st.at_.toNat + many.toNat), { st with at_ := st.at_ + many })) else (⟨#[]⟩, st)
theorem sbytes_in {x : Int} (hx : 0 ≤ x) (h : Sin s st) : Sin s (sbytes s x st).2 := by
  unfold sbytes
  split
  · split
    · exact sfail_in h _
    · have := h.1
      have := h.2
      exact ⟨by show 0 ≤ st.at_ + x; omega, by show st.at_ + x ≤ _; omega⟩
  · exact h
def sdat (s : ByteArray) (st : Sst) : (Fs × ByteArray) × Sst := (((sinstrs s (snil (snum s st).1 (snum s st).2)).1, (sbytes s (snum s (sinstrs s (snil (snum s st).1 (snum s st).2)).2).1 (snum s (sinstrs s (snil (snum s st).1 (snum s st).2)).2).2).1), (sbytes s (snum s (sinstrs s (snil (snum s st).1 (snum s st).2)).2).1 (snum s (sinstrs s (snil (snum s st).1 (snum s st).2)).2).2).2)
theorem sdat_in (h : Sin s st) : Sin s (sdat s st).2 := sbytes_in snum_rng.1 (snum_in (sinstrs_in (snil_in (snum_in h))))
def sdats (s : ByteArray) (st : Sst) : List (Fs × ByteArray) × Sst := srep (sdat s) (smany s 1024 st).1.toNat (smany s 1024 st).2
theorem sdats_in (h : Sin s st) : Sin s (sdats s st).2 := srep_in (sdat s) (fun _ h => sdat_in h) _ _ (smany_in h _)
end Go.Proofs.Ytngciahmoenkiac


/- Over this seat's translation: modules in memory; the document's reader of modules: a section by its number. -/
set_option linter.unusedVariables false
set_option linter.unusedSimpArgs false
set_option maxRecDepth 100000
set_option maxHeartbeats 4000000
namespace Go.Proofs.Ytngciahmoenkiac
open Go.RowKit
/-- a module -/
structure Md where
  ty : List (List Int × List Int)
  im : List (Imp)
  fu : List (Int)
  ta : List (Int × Int)
  me : List (Int × Int)
  gl : List (Int × Bool × Fs)
  ex : List (ByteArray × Int × Int)
  st : Int
  el : List (Fs × List Int)
  co : List (List Int × Fs)
  da : List (Fs × ByteArray)
def mdZ (x : Int) : Md := ⟨[], [], [], [], [], [], [], x, [], [], []⟩
/-- a row of structs and the slice's cell -/
def Fc {α : Type} (f : α → List Fd) (Z : Nat → Prop) (w : World) (xs : List α) (v : Value) : Prop := ∃ A c, v = .slice A xs.length c ∧ Rt f Z w A xs
theorem Fc.move {α : Type} {f : α → List Fd} {Z Z' : Nat → Prop} {w w' : World} {xs : List α} {v : Value} (hf : ∀ x, 0 < (f x).length) (hk : ∀ k, Z k → k < w.heap.size → Z' k ∧ w'.heap[k]? = w.heap[k]?) (h : Fc f Z w xs v) : Fc f Z' w' xs v := by
  obtain ⟨A, c, e, h⟩ := h
  exact ⟨A, c, e, h.move hf hk⟩
theorem Fc.nil {α : Type} {f : α → List Fd} {Z : Nat → Prop} {w : World} : Fc f Z w ([] : List α) (.slice none 0 0) := ⟨none, 0, rfl, Or.inl rfl⟩
/-- the cells of a module -/
def ModC (Z : Nat → Prop) (w : World) (m : Md) (L : List Value) : Prop := ∃ v0 v1 v2 v3 v4 v5 v6 v8 v9 v10, L = [v0, v1, v2, v3, v4, v5, v6, .int .i64 m.st, v8, v9, v10] ∧ Fc fTy Z w m.ty v0 ∧ Fc fIm Z w m.im v1 ∧ Fc f1 Z w m.fu v2 ∧ Fc fLi Z w m.ta v3 ∧ Fc fLi Z w m.me v4 ∧ Fc fGl Z w m.gl v5 ∧ Fc fEx Z w m.ex v6 ∧ Fc fEl Z w m.el v8 ∧ Fc fCo Z w m.co v9 ∧ Fc fDa Z w m.da v10
theorem ModC.move {Z Z' : Nat → Prop} {w w' : World} {m : Md} {L : List Value} (hk : ∀ k, Z k → k < w.heap.size → Z' k ∧ w'.heap[k]? = w.heap[k]?) (h : ModC Z w m L) : ModC Z' w' m L := by
  obtain ⟨v0, v1, v2, v3, v4, v5, v6, v8, v9, v10, e, h0, h1, h2, h3, h4, h5, h6, h8, h9, h10⟩ := h
  exact ⟨v0, v1, v2, v3, v4, v5, v6, v8, v9, v10, e, h0.move (fun _ => Nat.succ_pos _) hk, h1.move (fun _ => Nat.succ_pos _) hk, h2.move (fun _ => Nat.succ_pos _) hk, h3.move (fun _ => Nat.succ_pos _) hk, h4.move (fun _ => Nat.succ_pos _) hk, h5.move (fun _ => Nat.succ_pos _) hk, h6.move (fun _ => Nat.succ_pos _) hk, h8.move (fun _ => Nat.succ_pos _) hk, h9.move (fun _ => Nat.succ_pos _) hk, h10.move (fun _ => Nat.succ_pos _) hk⟩
theorem ModC.zero (Z : Nat → Prop) (w : World) (x : Int) : ModC Z w (mdZ x) [.slice none 0 0, .slice none 0 0, .slice none 0 0, .slice none 0 0, .slice none 0 0, .slice none 0 0, .slice none 0 0, .int .i64 x, .slice none 0 0, .slice none 0 0, .slice none 0 0] := ⟨_, _, _, _, _, _, _, _, _, _, rfl, Fc.nil, Fc.nil, Fc.nil, Fc.nil, Fc.nil, Fc.nil, Fc.nil, Fc.nil, Fc.nil, Fc.nil⟩
theorem ModC.len {Z : Nat → Prop} {w : World} {m : Md} {L : List Value} (h : ModC Z w m L) : L.length = 11 := by
  obtain ⟨v0, v1, v2, v3, v4, v5, v6, v8, v9, v10, e, _⟩ := h
  rw [e]
  rfl
/-- a section's content, by its number -/
def ssec (s : ByteArray) (id : Int) (m : Md) : Md × Sst :=
  if id = 1 then ({ m with ty := (stys s ⟨0, 0⟩).1 }, (stys s ⟨0, 0⟩).2) else
  if id = 2 then ({ m with im := (simps s ⟨0, 0⟩).1 }, (simps s ⟨0, 0⟩).2) else
  if id = 3 then ({ m with fu := (sfuncs s ⟨0, 0⟩).1 }, (sfuncs s ⟨0, 0⟩).2) else
  if id = 4 then ({ m with ta := (stabs s ⟨0, 0⟩).1 }, (stabs s ⟨0, 0⟩).2) else
  if id = 5 then ({ m with me := (smems s ⟨0, 0⟩).1 }, (smems s ⟨0, 0⟩).2) else
  if id = 6 then ({ m with gl := (sglos s ⟨0, 0⟩).1 }, (sglos s ⟨0, 0⟩).2) else
  if id = 7 then ({ m with ex := (sexps s ⟨0, 0⟩).1 }, (sexps s ⟨0, 0⟩).2) else
  if id = 8 then ({ m with st := (snum s ⟨0, 0⟩).1 }, (snum s ⟨0, 0⟩).2) else
  if id = 9 then ({ m with el := (selms s ⟨0, 0⟩).1 }, (selms s ⟨0, 0⟩).2) else
  if id = 10 then ({ m with co := (scodes s ⟨0, 0⟩).1 }, (scodes s ⟨0, 0⟩).2) else
  ({ m with da := (sdats s ⟨0, 0⟩).1 }, (sdats s ⟨0, 0⟩).2)
section
variable {Z : Nat → Prop} {q p : Nat} {w w' : World} {s : ByteArray} {m : Md} {L : List Value}
end
end Go.Proofs.Ytngciahmoenkiac


/- Over this seat's translation: the document's reader of modules (pelorusref12: Unmodule). -/
set_option linter.unusedVariables false
set_option linter.unusedSimpArgs false
set_option maxRecDepth 100000
set_option maxHeartbeats 4000000
namespace Go.Proofs.Ytngciahmoenkiac
open Go.RowKit
/-- a section's content, customs too -/
def ssec0 (u : ByteArray) (id : Int) (m : Md) (x : Nat) : Md × Sst := if id = 0 then (m, ⟨(x : Int), (sname u ⟨0, 0⟩).2.code⟩) else ((ssec u id m).1, sclose (x : Int) 0 (ssec u id m).2)
/-- section by section -/
def unL (s : ByteArray) : Nat → Nat → Nat → Md → Md × Int
  | 0, _, _, m => (m, 0)
  | n + 1, a, b, m =>
    if a < s.size then
      if 11 < bt s a then (mdZ 0, 1502)
      else if ¬ bt s a = 0 ∧ bt s a ≤ (b : Int) then (mdZ 0, 1503)
      else if ¬ ((ulR s ((a : Int) + 1) 32).2.2 = 0 ∧ (ulR s ((a : Int) + 1) 32).1 ≤ (s.size : Int) - (ulR s ((a : Int) + 1) 32).2.1) then (mdZ 0, 1501)
      else if (ssec0 (s.extract (ulR s ((a : Int) + 1) 32).2.1.toNat ((ulR s ((a : Int) + 1) 32).2.1.toNat + (ulR s ((a : Int) + 1) 32).1.toNat)) (bt s a) m (ulR s ((a : Int) + 1) 32).1.toNat).2.code = 0 then
        unL s n ((ulR s ((a : Int) + 1) 32).2.1.toNat + (ulR s ((a : Int) + 1) 32).1.toNat) (if bt s a = 0 then b else (bt s a).toNat) (ssec0 (s.extract (ulR s ((a : Int) + 1) 32).2.1.toNat ((ulR s ((a : Int) + 1) 32).2.1.toNat + (ulR s ((a : Int) + 1) 32).1.toNat)) (bt s a) m (ulR s ((a : Int) + 1) 32).1.toNat).1
      else (mdZ 0, (ssec0 (s.extract (ulR s ((a : Int) + 1) 32).2.1.toNat ((ulR s ((a : Int) + 1) 32).2.1.toNat + (ulR s ((a : Int) + 1) 32).1.toNat)) (bt s a) m (ulR s ((a : Int) + 1) 32).1.toNat).2.code)
    else if m.fu.length = m.co.length then (m, 0) else (mdZ 0, 1505)
/-- Module: a module, an error -/
def unM (s : ByteArray) : Md × Int := if 65536 < s.size then (mdZ 0, 1508) else if s.size < 8 ∨ ¬ (s.extract 0 8).toList = [0, 97, 115, 109, 1, 0, 0, 0] then (mdZ 0, 1500) else unL s s.size 8 0 (mdZ (-1))
/-- what is answered -/
def UnP (w : World) (r : Md × Int) (e : Ending) (w' : World) : Prop := ∃ L : List Value, e = .returned (.tuple #[.agg L.toArray, .int .i64 r.2]) ∧ ModC (w.heap.size ≤ ·) w' r.1 L ∧ Later w w'
theorem wrap_add (a b c : Nat) (h : a + b ≤ c) (hc : c ≤ 65536) : wrap64 ((a : Int) + (b : Int)) = (a : Int) + (b : Int) := by unfold wrap64; omega
theorem ul_gt (s : ByteArray) (at_ : Int) (h : (ulR s at_ 32).2.2 = 0) : at_ < (ulR s at_ 32).2.1 := by
  by_cases hp : (ptR s at_ 32).2 = 0
  · obtain ⟨a, k, m, rfl, hb, h1, h2, h3, h4, h5⟩ := ptR_in hp
    have hp2 : ptR s (a : Int) 32 = ((k : Int), 0) := Prod.ext h1 hp
    unfold ulR at h ⊢
    rw [hp2, if_pos rfl] at h ⊢
    split at h
    · simp at h
    · rename_i hc
      rw [if_neg hc]
      show (a : Int) < (k : Int) + 1
      omega
  · unfold ulR at h
    rw [if_neg hp] at h
    exact absurd h hp
end Go.Proofs.Ytngciahmoenkiac

