/- The document's reader of modules: a table and a memory by their limits. -/
import Derived.Test.YtngciahmoenkiabFE
set_option linter.unusedVariables false
set_option linter.unusedSimpArgs false
set_option maxRecDepth 100000
set_option maxHeartbeats 8000000
namespace Go.Proofs.Ytngciahmoenkiab
open Go.RowKit
theorem sbyte_bl {u : ByteArray} {a : Nat} {x : Int} {d : List Int} (h : bl u a (x :: d)) : sbyte u ⟨(a : Int), 0⟩ = (x, ⟨((a + 1 : Nat) : Int), 0⟩) := by
  obtain ⟨h1, h2, _⟩ := h
  unfold sbyte
  rw [if_pos ⟨rfl, by show (a : Int) < _; omega⟩]
  show (bt u (a : Int).toNat, _) = _
  rw [Int.toNat_natCast, h2]
  rfl
theorem smust_bl {u : ByteArray} {a : Nat} {x : Int} {d : List Int} (h : bl u a (x :: d)) : smust u x ⟨(a : Int), 0⟩ = ⟨((a + 1 : Nat) : Int), 0⟩ := by
  unfold smust
  rw [sbyte_bl h]
  exact if_pos rfl
theorem smust_no {u : ByteArray} {a : Nat} {x y : Int} {d : List Int} (h : bl u a (x :: d)) (hxy : ¬ x = y) : smust u y ⟨(a : Int), 0⟩ = ⟨((a + 1 : Nat) : Int), 1506⟩ := by
  unfold smust
  rw [sbyte_bl h]
  show (if x = y then _ else _) = _
  rw [if_neg hxy]
  rfl
theorem leb_1 : lebL 1 = [1] := by decide +kernel
theorem many_1 {u : ByteArray} {d : List Int} (h : bl u 0 (1 :: d)) (m : Int) (hm : 1 ≤ m) : smany u m ⟨0, 0⟩ = (1, ⟨1, 0⟩) := by
  have h1 : bl u 0 (lebL 1) := by rw [leb_1]; exact (bl_app (d := [1]) (e := d)).1 h |>.1
  have e : snum u ⟨0, 0⟩ = (1, ⟨((0 + (lebL 1).length : Nat) : Int), 0⟩) := snum_bl (by decide) h1
  unfold smany
  rw [e, leb_1]
  show (if m < 1 then _ else _) = _
  rw [if_neg (by omega)]
  rfl
/-- limits as they stand -/
def limL (f a b : Int) : List Int := f :: (lebL a ++ (if f = 1 then lebL b else []))
theorem slim_bl {u : ByteArray} {p : Nat} {f a b : Int} (hf : f = 0 ∨ f = 1) (ha : 0 ≤ a ∧ a < 4294967296) (hb : 0 ≤ b ∧ b < 4294967296) (h : bl u p (limL f a b)) : slim u ⟨(p : Int), 0⟩ = ((a, if f = 1 then b else -1), ⟨((p + (limL f a b).length : Nat) : Int), 0⟩) := by
  have hs := sbyte_bl h
  have h2 : bl u (p + 1) (lebL a ++ (if f = 1 then lebL b else [])) := h.2.2
  obtain ⟨h3, h4⟩ := bl_app.1 h2
  have e1 := snum_bl ha h3
  rcases hf with rfl | rfl
  · unfold slim sflag
    rw [hs]
    show (if decide ((0 : Int) = 1) = false then (((snum u ⟨((p + 1 : Nat) : Int), 0⟩).1, -1), (snum u ⟨((p + 1 : Nat) : Int), 0⟩).2) else _) = _
    rw [if_pos (by decide), e1]
    have e2 : (limL 0 a b).length = 1 + (lebL a).length := by simp [limL]; omega
    rw [e2, if_neg (by decide), Nat.add_assoc]
  · rw [if_pos rfl] at h4
    have e2 := snum_bl hb h4
    unfold slim sflag
    rw [hs]
    show (if decide ((1 : Int) = 1) = false then _ else (((snum u ⟨((p + 1 : Nat) : Int), 0⟩).1, (snum u (snum u ⟨((p + 1 : Nat) : Int), 0⟩).2).1), (snum u (snum u ⟨((p + 1 : Nat) : Int), 0⟩).2).2)) = _
    rw [if_neg (by decide), e1]
    simp only []
    rw [e2]
    have e3 : (limL 1 a b).length = 1 + (lebL a).length + (lebL b).length := by simp [limL]; omega
    rw [e3]
    simp only [if_true, Nat.add_assoc]
theorem slim_no {u : ByteArray} {p : Nat} {f : Int} {d : List Int} (hf : 1 < f) (h : bl u p (f :: d)) : (slim u ⟨(p : Int), 0⟩).2.code = 1506 := by
  have hs := sbyte_bl h
  have hfl : sflag u ⟨(p : Int), 0⟩ = (false, ⟨((p + 1 : Nat) : Int), 1506⟩) := by
    unfold sflag
    rw [hs]
    show (decide (f = 1), if 1 < f then _ else _) = _
    rw [if_pos hf, decide_eq_false (by omega)]
    rfl
  unfold slim
  rw [hfl]
  simp only [if_true]
  rw [snum_bad (by show ¬ (1506 : Int) = 0; decide)]
theorem un_tab (u : ByteArray) (f a b : Int) (hf : f = 0 ∨ f = 1) (ha : 0 ≤ a ∧ a < 4294967296) (hb : 0 ≤ b ∧ b < 4294967296) (h : bl u 0 (1 :: 112 :: limL f a b)) (hu : u.size = (1 :: 112 :: limL f a b).length) (hsz : u.size ≤ 65000) : unM (hd8 ++ secB ((4 : Nat) : Int) u) = ({ mdZ (-1) with ta := [(a, if f = 1 then b else -1)] }, 0) := by
  have hm := many_1 h 1024 (by decide)
  have h1 : bl u 1 (112 :: limL f a b) := h.2.2
  have h2 : bl u 2 (limL f a b) := h1.2.2
  have e1 := smust_bl h1
  have e2 := slim_bl hf ha hb h2
  generalize (if f = 1 then b else -1) = r at *
  have hs : stabs u ⟨0, 0⟩ = ([(a, r)], ⟨(u.size : Int), 0⟩) := by
    unfold stabs
    rw [hm]
    show srep (fun st => slim u (smust u 112 st)) 1 ⟨((1 : Nat) : Int), 0⟩ = _
    rw [srep_ok _ _ _ rfl]
    show (((slim u (smust u 112 ⟨((1 : Nat) : Int), 0⟩)).1 :: _), _) = _
    rw [e1, e2, hu]
    simp only [srep, List.length_cons]
    rw [show 2 + (limL f a b).length = (limL f a b).length + 1 + 1 by omega]
  have hc : ssec0 u ((4 : Nat) : Int) (mdZ (-1)) u.size = ({ mdZ (-1) with ta := [(a, r)] }, ⟨(u.size : Int), 0⟩) := by
    show (({ mdZ (-1) with ta := (stabs u ⟨0, 0⟩).1 } : Md), sclose (u.size : Int) 0 (stabs u ⟨0, 0⟩).2) = _
    rw [hs]
    unfold sclose
    rw [if_neg (fun z => z.2 (by show (u.size : Int) - 0 = _; omega))]
  rw [unM_one 4 u (by decide) hsz, hc]
  rfl
theorem un_mem (u : ByteArray) (f a b : Int) (hf : f = 0 ∨ f = 1) (ha : 0 ≤ a ∧ a < 4294967296) (hb : 0 ≤ b ∧ b < 4294967296) (h : bl u 0 (1 :: limL f a b)) (hu : u.size = (1 :: limL f a b).length) (hsz : u.size ≤ 65000) : unM (hd8 ++ secB ((5 : Nat) : Int) u) = ({ mdZ (-1) with me := [(a, if f = 1 then b else -1)] }, 0) := by
  have hm := many_1 h 1024 (by decide)
  have h2 : bl u 1 (limL f a b) := h.2.2
  have e2 := slim_bl hf ha hb h2
  generalize (if f = 1 then b else -1) = r at *
  have hs : smems u ⟨0, 0⟩ = ([(a, r)], ⟨(u.size : Int), 0⟩) := by
    unfold smems
    rw [hm]
    show srep (slim u) 1 ⟨((1 : Nat) : Int), 0⟩ = _
    rw [srep_ok _ _ _ rfl, e2, hu]
    simp only [srep, List.length_cons]
    rw [show 1 + (limL f a b).length = (limL f a b).length + 1 by omega]
  have hc : ssec0 u ((5 : Nat) : Int) (mdZ (-1)) u.size = ({ mdZ (-1) with me := [(a, r)] }, ⟨(u.size : Int), 0⟩) := by
    show (({ mdZ (-1) with me := (smems u ⟨0, 0⟩).1 } : Md), sclose (u.size : Int) 0 (smems u ⟨0, 0⟩).2) = _
    rw [hs]
    unfold sclose
    rw [if_neg (fun z => z.2 (by show (u.size : Int) - 0 = _; omega))]
  rw [unM_one 5 u (by decide) hsz, hc]
  rfl
theorem un_err (u : ByteArray) (id : Nat) (hid : 1 ≤ id ∧ id ≤ 11) (hsz : u.size ≤ 65000) (c : Int) (hc : ¬ c = 0) (h : (ssec u (id : Int) (mdZ (-1))).2.code = c) : unM (hd8 ++ secB (id : Int) u) = (mdZ 0, c) := by
  have e : (ssec0 u (id : Int) (mdZ (-1)) u.size).2.code = c := by
    unfold ssec0
    rw [if_neg (by omega)]
    show (sclose _ _ _).code = _
    unfold sclose
    rw [if_neg (fun z => hc (by rw [← h]; exact z.1))]
    exact h
  rw [unM_one id u hid hsz, e, if_neg hc]
theorem tab_code {u : ByteArray} {d : List Int} (h : bl u 0 (1 :: d)) (c : Int) (hc : ¬ c = 0) (h2 : (slim u (smust u 112 ⟨1, 0⟩)).2.code = c) : (ssec u ((4 : Nat) : Int) (mdZ (-1))).2.code = c := by
  show (stabs u ⟨0, 0⟩).2.code = c
  unfold stabs
  rw [many_1 h 1024 (by decide)]
  show (srep (fun st => slim u (smust u 112 st)) 1 ⟨1, 0⟩).2.code = c
  rw [srep_ok _ _ _ rfl]
  exact h2
theorem mem_code {u : ByteArray} {d : List Int} (h : bl u 0 (1 :: d)) (c : Int) (hc : ¬ c = 0) (h2 : (slim u ⟨1, 0⟩).2.code = c) : (ssec u ((5 : Nat) : Int) (mdZ (-1))).2.code = c := by
  show (smems u ⟨0, 0⟩).2.code = c
  unfold smems
  rw [many_1 h 1024 (by decide)]
  show (srep (slim u) 1 ⟨1, 0⟩).2.code = c
  rw [srep_ok _ _ _ rfl]
  exact h2
theorem un_71 (u : ByteArray) (d : List Int) (h : bl u 0 (1 :: 113 :: d)) (hsz : u.size ≤ 65000) : unM (hd8 ++ secB ((4 : Nat) : Int) u) = (mdZ 0, 1506) := by
  refine un_err u 4 (by decide) hsz 1506 (by decide) (tab_code h 1506 (by decide) ?_)
  have h1 : bl u 1 (113 :: d) := h.2.2
  have e := smust_no h1 (show ¬ (113 : Int) = 112 by decide)
  rw [show (⟨1, 0⟩ : Sst) = ⟨((1 : Nat) : Int), 0⟩ from rfl, e, slim_bad (by show ¬ (1506 : Int) = 0; decide)]
theorem un_tabf (u : ByteArray) (f : Int) (d : List Int) (hf : 1 < f) (h : bl u 0 (1 :: 112 :: f :: d)) (hsz : u.size ≤ 65000) : unM (hd8 ++ secB ((4 : Nat) : Int) u) = (mdZ 0, 1506) := by
  refine un_err u 4 (by decide) hsz 1506 (by decide) (tab_code h 1506 (by decide) ?_)
  have h1 : bl u 1 (112 :: f :: d) := h.2.2
  have h2 : bl u 2 (f :: d) := h1.2.2
  rw [show (⟨1, 0⟩ : Sst) = ⟨((1 : Nat) : Int), 0⟩ from rfl, smust_bl h1]
  exact slim_no hf h2
theorem un_memf (u : ByteArray) (f : Int) (d : List Int) (hf : 1 < f) (h : bl u 0 (1 :: f :: d)) (hsz : u.size ≤ 65000) : unM (hd8 ++ secB ((5 : Nat) : Int) u) = (mdZ 0, 1506) := by
  refine un_err u 5 (by decide) hsz 1506 (by decide) (mem_code h 1506 (by decide) ?_)
  have h1 : bl u 1 (f :: d) := h.2.2
  exact slim_no hf h1
end Go.Proofs.Ytngciahmoenkiab
