/- The document's reader of modules: a module of two sections; a code with two runs of locals and no instruction. -/
import Derived.Test.YtngciahmoenkiabFF
set_option linter.unusedVariables false
set_option linter.unusedSimpArgs false
set_option maxRecDepth 100000
set_option maxHeartbeats 8000000
namespace Go.Proofs.Ytngciahmoenkiab
open Go.RowKit
/-- a module of two sections -/
theorem unM_two (i j : Nat) (a b : ByteArray) (hi : 1 ≤ i) (hij : i < j) (hj : j ≤ 11) (ha : a.size ≤ 30000) (hb : b.size ≤ 30000) (m1 : Md) (st1 : Sst) (h1 : ssec0 a (i : Int) (mdZ (-1)) a.size = (m1, st1)) (hc : st1.code = 0) :
    unM (hd8 ++ secB (i : Int) a ++ secB (j : Int) b) = if (ssec0 b (j : Int) m1 b.size).2.code = 0 then (if (ssec0 b (j : Int) m1 b.size).1.fu.length = (ssec0 b (j : Int) m1 b.size).1.co.length then ((ssec0 b (j : Int) m1 b.size).1, 0) else (mdZ 0, 1505)) else (mdZ 0, (ssec0 b (j : Int) m1 b.size).2.code) := by
  have hla := lebL_max (a.size : Int)
  have hlb := lebL_max (b.size : Int)
  have hsa := sec_len (i : Int) a
  have hsb := sec_len (j : Int) b
  have hz : (hd8 ++ secB (i : Int) a ++ secB (j : Int) b).size = 8 + (secB (i : Int) a).size + (secB (j : Int) b).size := by rw [ByteArray.size_append, ByteArray.size_append]; rfl
  have hz1 : (hd8 ++ secB (i : Int) a).size = 8 + (secB (i : Int) a).size := by rw [ByteArray.size_append]; rfl
  have htx : ((hd8 ++ secB (i : Int) a ++ secB (j : Int) b).extract 0 8).toList = [0, 97, 115, 109, 1, 0, 0, 0] := by
    rw [ByteArray.append_assoc, pre8]
    kernel_rfl
  unfold unM
  rw [if_neg (by omega), if_neg (by rintro (h | h); omega; exact h htx)]
  obtain ⟨n, hn⟩ : ∃ n, (hd8 ++ secB (i : Int) a ++ secB (j : Int) b).size = n + 1 + 1 + 1 := ⟨(hd8 ++ secB (i : Int) a ++ secB (j : Int) b).size - 3, by omega⟩
  have t1 := unL_one hd8 (secB (j : Int) b) a i 0 (n + 1 + 1) (mdZ (-1)) (by omega) (Or.inr (by omega)) (by omega)
  have t2 := unL_one (hd8 ++ secB (i : Int) a) ByteArray.empty b j i (n + 1) m1 (by omega) (Or.inr (by omega)) (by rw [ByteArray.append_empty]; omega)
  rw [ByteArray.append_empty] at t2
  rw [hn]
  show unL _ (n + 1 + 1 + 1) hd8.size 0 _ = _
  rw [t1, h1, if_pos hc, if_neg (by omega : ¬ i = 0), ← ByteArray.size_append, t2]
  split
  · rw [if_neg (by omega : ¬ j = 0), unL_end (by rw [hz, hz1]; omega)]
  · rfl
theorem unI_end {u : ByteArray} {a : Nat} {d : List Int} (h : bl u a (11 :: d)) : unI u (a : Int) = (.nil, ((a + 1 : Nat) : Int), 0) := by
  obtain ⟨h1, h2, _⟩ := h
  have hr : rl u (u.size + 1) 0 false ⟨(a : Int), 0, 0⟩ = (.nil, false, ⟨((a + 1 : Nat) : Int), 0, 0⟩) := by
    have hb : rbyte u ⟨(a : Int), 0, 0⟩ = (11, ⟨((a + 1 : Nat) : Int), 0, 0⟩) := by
      unfold rbyte
      rw [if_pos ⟨rfl, by show (a : Int) < _; omega⟩]
      show (bt u (a : Int).toNat, _) = _
      rw [Int.toNat_natCast, h2]
      rfl
    unfold rl
    rw [if_pos rfl, hb]
    rw [if_pos (Or.inr rfl)]
  unfold unI
  rw [if_pos (by omega), hr]
  rfl
theorem sinstrs_end {u : ByteArray} {a : Nat} {d : List Int} (h : bl u a (11 :: d)) : sinstrs u ⟨(a : Int), 0⟩ = (.nil, ⟨((a + 1 : Nat) : Int), 0⟩) := by
  unfold sinstrs
  rw [if_neg (by simp)]
  show (if (unI u (a : Int)).2.2 = 0 then _ else _ : Fs × Sst) = _
  rw [unI_end h]
  rfl
theorem skind_bl {u : ByteArray} {a : Nat} {x : Int} {d : List Int} (hx : 124 ≤ x ∧ x ≤ 127) (h : bl u a (x :: d)) : skind u ⟨(a : Int), 0⟩ = (x, ⟨((a + 1 : Nat) : Int), 0⟩) := by
  unfold skind
  rw [sbyte_bl h]
  show (x, if (0 : Int) = 0 ∧ ¬ (124 ≤ x ∧ x ≤ 127) then _ else _) = _
  rw [if_neg (fun z => z.2 hx)]
theorem slocs_go {u : ByteArray} (n : Nat) (ls : List Int) (p : Nat) (x k : Int) {d : List Int} (hx : 0 ≤ x ∧ x < 4294967296) (hk : 124 ≤ k ∧ k ≤ 127) (hl : (ls.length : Int) + x ≤ 256) (h : bl u p (lebL x ++ k :: d)) : slocs u (n + 1) ls ⟨(p : Int), 0⟩ = slocs u n (ls ++ List.replicate x.toNat k) ⟨((p + (lebL x).length + 1 : Nat) : Int), 0⟩ := by
  obtain ⟨h1, h2⟩ := bl_app.1 h
  rw [slocs, if_pos rfl, snum_bl hx h1]
  simp only []
  rw [skind_bl hk h2, if_neg (by omega)]
theorem slocs_no {u : ByteArray} (n : Nat) (ls : List Int) (p : Nat) (x : Int) {d : List Int} (hx : 0 ≤ x ∧ x < 4294967296) (hl : 256 < (ls.length : Int) + x) (h : bl u p (lebL x ++ d)) : ∃ q, slocs u (n + 1) ls ⟨(p : Int), 0⟩ = (ls, ⟨q, 1508⟩) := by
  obtain ⟨h1, h2⟩ := bl_app.1 h
  refine ⟨((p + (lebL x).length : Nat) : Int), ?_⟩
  rw [slocs, if_pos rfl, snum_bl hx h1]
  simp only []
  rw [if_pos (by omega)]
  rfl
theorem leb_2 : lebL 2 = [2] := by decide +kernel
/-- a code's bytes: two runs of locals, no instruction -/
def locL (x k y : Int) : List Int := 2 :: (lebL x ++ k :: (lebL y ++ [127, 11]))
theorem locL_len (x k y : Int) : (locL x k y).length = (lebL x).length + (lebL y).length + 4 := by
  unfold locL
  simp only [List.length_cons, List.length_append, List.length_nil]
  omega
theorem smany_bl {u : ByteArray} {p : Nat} {y m : Int} (hy : 0 ≤ y ∧ y < 4294967296) (hm : y ≤ m) (h : bl u p (lebL y)) : smany u m ⟨(p : Int), 0⟩ = (y, ⟨((p + (lebL y).length : Nat) : Int), 0⟩) := by
  unfold smany
  rw [snum_bl hy h]
  show (if m < y then _ else _) = _
  rw [if_neg (by omega)]
theorem sbody_ok {u : ByteArray} {p : Nat} {n x k y : Int} (hn : 0 ≤ n ∧ n < 4294967296) (hx : 0 ≤ x ∧ x < 4294967296) (hy : 0 ≤ y ∧ y < 4294967296) (hk : 124 ≤ k ∧ k ≤ 127) (hl : x + y ≤ 256) (h : bl u p (lebL n ++ locL x k y)) :
    sbody u ⟨(p : Int), 0⟩ = ((List.replicate x.toNat k ++ List.replicate y.toNat 127, .nil), sclose n ((p + (lebL n).length : Nat) : Int) ⟨((p + (lebL n).length + (locL x k y).length : Nat) : Int), 0⟩) := by
  obtain ⟨h1, h2⟩ := bl_app.1 h
  have e1 := snum_bl hn h1
  have e2 := smany_bl (u := u) (y := 2) (m := 1024) (by decide) (by decide) (show bl u (p + (lebL n).length) (lebL 2) by rw [leb_2]; exact ((bl_app (d := [2])).1 h2).1)
  rw [leb_2] at e2
  have h3 : bl u (p + (lebL n).length + 1) (lebL x ++ k :: (lebL y ++ [127, 11])) := h2.2.2
  have e3 := slocs_go (u := u) 1 [] _ x k hx hk (by simp; omega) h3
  have h4 : bl u (p + (lebL n).length + 1 + (lebL x).length + 1) (lebL y ++ 127 :: [11]) := (bl_app.1 h3).2.2.2
  have e4 := slocs_go (u := u) 0 ([] ++ List.replicate x.toNat k) _ y 127 hy (by decide) (by simp; omega) h4
  have h5 : bl u (p + (lebL n).length + 1 + (lebL x).length + 1 + (lebL y).length + 1) (11 :: []) := (bl_app.1 h4).2.2.2
  have e5 := sinstrs_end h5
  have e0 : slocs u 0 ([] ++ List.replicate x.toNat k ++ List.replicate y.toNat 127) ⟨((p + (lebL n).length + 1 + (lebL x).length + 1 + (lebL y).length + 1 : Nat) : Int), 0⟩ = ([] ++ List.replicate x.toNat k ++ List.replicate y.toNat 127, ⟨((p + (lebL n).length + 1 + (lebL x).length + 1 + (lebL y).length + 1 : Nat) : Int), 0⟩) := rfl
  have hz := locL_len x k y
  have ez : p + (lebL n).length + (locL x k y).length = p + (lebL n).length + 1 + (lebL x).length + 1 + (lebL y).length + 1 + 1 := by omega
  have E : slocs u (smany u 1024 (snum u ⟨(p : Int), 0⟩).2).1.toNat [] (smany u 1024 (snum u ⟨(p : Int), 0⟩).2).2 = ([] ++ List.replicate x.toNat k ++ List.replicate y.toNat 127, ⟨((p + (lebL n).length + 1 + (lebL x).length + 1 + (lebL y).length + 1 : Nat) : Int), 0⟩) := by
    rw [e1]
    show slocs u (smany u 1024 ⟨((p + (lebL n).length : Nat) : Int), 0⟩).1.toNat [] (smany u 1024 ⟨((p + (lebL n).length : Nat) : Int), 0⟩).2 = _
    rw [e2]
    show slocs u (1 + 1) [] ⟨((p + (lebL n).length + 1 : Nat) : Int), 0⟩ = _
    rw [e3, e4, e0]
  unfold sbody
  rw [E, e1]
  simp only []
  rw [e5, ez, List.nil_append]
theorem sbody_no {u : ByteArray} {p : Nat} {n x k y : Int} (hn : 0 ≤ n ∧ n < 4294967296) (hx : 0 ≤ x ∧ x ≤ 256) (hy : 0 ≤ y ∧ y < 4294967296) (hk : 124 ≤ k ∧ k ≤ 127) (hl : 256 < x + y) (h : bl u p (lebL n ++ locL x k y)) :
    (sbody u ⟨(p : Int), 0⟩).2.code = 1508 := by
  obtain ⟨h1, h2⟩ := bl_app.1 h
  have e1 := snum_bl hn h1
  have e2 := smany_bl (u := u) (y := 2) (m := 1024) (by decide) (by decide) (show bl u (p + (lebL n).length) (lebL 2) by rw [leb_2]; exact ((bl_app (d := [2])).1 h2).1)
  rw [leb_2] at e2
  have h3 : bl u (p + (lebL n).length + 1) (lebL x ++ k :: (lebL y ++ [127, 11])) := h2.2.2
  have e3 := slocs_go (u := u) 1 [] _ x k ⟨hx.1, by omega⟩ hk (by simp; omega) h3
  have h4 : bl u (p + (lebL n).length + 1 + (lebL x).length + 1) (lebL y ++ 127 :: [11]) := (bl_app.1 h3).2.2.2
  obtain ⟨q, e4⟩ := slocs_no (u := u) 0 ([] ++ List.replicate x.toNat k) _ y hy (by simp; omega) h4
  have E : slocs u (smany u 1024 (snum u ⟨(p : Int), 0⟩).2).1.toNat [] (smany u 1024 (snum u ⟨(p : Int), 0⟩).2).2 = ([] ++ List.replicate x.toNat k, ⟨q, 1508⟩) := by
    rw [e1]
    show slocs u (smany u 1024 ⟨((p + (lebL n).length : Nat) : Int), 0⟩).1.toNat [] (smany u 1024 ⟨((p + (lebL n).length : Nat) : Int), 0⟩).2 = _
    rw [e2]
    show slocs u (1 + 1) [] ⟨((p + (lebL n).length + 1 : Nat) : Int), 0⟩ = _
    rw [e3, e4]
  unfold sbody
  rw [E]
  simp only []
  have es : sinstrs u ⟨q, 1508⟩ = (.nil, ⟨q, 1508⟩) := by
    unfold sinstrs
    rw [if_pos (by show ¬ (1508 : Int) = 0; decide)]
  rw [es]
  show (sclose _ _ ⟨q, 1508⟩).code = 1508
  unfold sclose
  rw [if_neg (fun z => absurd z.1 (by show ¬ (1508 : Int) = 0; decide))]
theorem sec3 : ssec0 ⟨#[1, 0]⟩ ((3 : Nat) : Int) (mdZ (-1)) (⟨#[1, 0]⟩ : ByteArray).size = ({ mdZ (-1) with fu := [0] }, ⟨2, 0⟩) := by kernel_rfl
/-- the code section's bytes -/
def codL (n x k y : Int) : List Int := 1 :: (lebL n ++ locL x k y)
theorem codL_len (n x k y : Int) : (codL n x k y).length ≤ 40 := by
  have h1 := lebL_max n
  have h2 := lebL_max x
  have h3 := lebL_max y
  have h4 := locL_len x k y
  unfold codL
  simp only [List.length_cons, List.length_append]
  omega
theorem codL_byte (n x k y : Int) (hk : 0 ≤ k ∧ k < 256) : ∀ b ∈ codL n x k y, 0 ≤ b ∧ b < 256 := by
  intro b hb
  have h1 := lebL_byte n
  have h2 := lebL_byte x
  have h3 := lebL_byte y
  unfold codL locL at hb
  simp only [List.mem_cons, List.mem_append, List.not_mem_nil, or_false] at hb
  rcases hb with rfl | hb | rfl | hb | rfl | hb | rfl | rfl
  · decide
  · exact h1 _ hb
  · decide
  · exact h2 _ hb
  · exact hk
  · exact h3 _ hb
  · decide
  · decide
theorem scodes_1 {u : ByteArray} {n x k y : Int} (h : bl u 0 (codL n x k y)) : scodes u ⟨0, 0⟩ = ((sbody u ⟨((1 : Nat) : Int), 0⟩).1 :: [], (sbody u ⟨((1 : Nat) : Int), 0⟩).2) := by
  unfold scodes
  rw [many_1 h 256 (by decide)]
  show srep (sbody u) (0 + 1) ⟨((1 : Nat) : Int), 0⟩ = _
  rw [srep_ok _ _ _ rfl]
  rfl
theorem loc_ok (n x k y : Int) (hn : n = ((locL x k y).length : Int)) (hx : 0 ≤ x ∧ x < 4294967296) (hy : 0 ≤ y ∧ y < 4294967296) (hk : 124 ≤ k ∧ k ≤ 127) (hl : x + y ≤ 256) :
    unM (hd8 ++ secB ((3 : Nat) : Int) ⟨#[1, 0]⟩ ++ secB ((10 : Nat) : Int) (strOfNums (codL n x k y))) = ({ mdZ (-1) with fu := [0], co := [(List.replicate x.toNat k ++ List.replicate y.toNat 127, .nil)] }, 0) := by
  have hb := bl_num (codL n x k y) (codL_byte n x k y (by omega))
  have hz := codL_len n x k y
  have h2 := lebL_max x
  have h3 := lebL_max y
  have h4 := locL_len x k y
  have e := sbody_ok (u := strOfNums (codL n x k y)) (p := 1) (n := n) ⟨by omega, by omega⟩ hx hy hk hl hb.2.2
  have es : sclose n ((1 + (lebL n).length : Nat) : Int) ⟨((1 + (lebL n).length + (locL x k y).length : Nat) : Int), 0⟩ = ⟨((1 + (lebL n).length + (locL x k y).length : Nat) : Int), 0⟩ := by
    unfold sclose
    rw [if_neg (fun z => z.2 (by show ((1 + (lebL n).length + (locL x k y).length : Nat) : Int) - _ = n; omega))]
  have hs : (strOfNums (codL n x k y)).size = 1 + (lebL n).length + (locL x k y).length := by
    rw [strOfNums_size]
    unfold codL
    simp only [List.length_cons, List.length_append]
    omega
  rw [es] at e
  have e2 := scodes_1 hb
  rw [e] at e2
  have e3 : ssec0 (strOfNums (codL n x k y)) ((10 : Nat) : Int) { mdZ (-1) with fu := [0] } (strOfNums (codL n x k y)).size = ({ mdZ (-1) with fu := [0], co := [(List.replicate x.toNat k ++ List.replicate y.toNat 127, .nil)] }, ⟨((1 + (lebL n).length + (locL x k y).length : Nat) : Int), 0⟩) := by
    show (({ mdZ (-1) with fu := [0], co := (scodes (strOfNums (codL n x k y)) ⟨0, 0⟩).1 } : Md), sclose ((strOfNums (codL n x k y)).size : Int) 0 (scodes (strOfNums (codL n x k y)) ⟨0, 0⟩).2) = _
    rw [e2]
    unfold sclose
    rw [if_neg (fun z => z.2 (by show ((1 + (lebL n).length + (locL x k y).length : Nat) : Int) - 0 = _; omega))]
  rw [unM_two 3 10 ⟨#[1, 0]⟩ (strOfNums (codL n x k y)) (by decide) (by decide) (by decide) (by decide) (by rw [strOfNums_size]; omega) _ _ sec3 rfl, e3]
  rfl
theorem loc_err (n x k y c : Int) (hk : 124 ≤ k ∧ k ≤ 127) (hc : ¬ c = 0) (h : (sbody (strOfNums (codL n x k y)) ⟨((1 : Nat) : Int), 0⟩).2.code = c) :
    (unM (hd8 ++ secB ((3 : Nat) : Int) ⟨#[1, 0]⟩ ++ secB ((10 : Nat) : Int) (strOfNums (codL n x k y)))).2 = c := by
  have hb := bl_num (codL n x k y) (codL_byte n x k y (by omega))
  have hz := codL_len n x k y
  have e2 := scodes_1 hb
  have e3 : (ssec0 (strOfNums (codL n x k y)) ((10 : Nat) : Int) { mdZ (-1) with fu := [0] } (strOfNums (codL n x k y)).size).2.code = c := by
    show (sclose ((strOfNums (codL n x k y)).size : Int) 0 (scodes (strOfNums (codL n x k y)) ⟨0, 0⟩).2).code = _
    rw [e2]
    unfold sclose
    rw [if_neg (fun z => hc (by rw [← h]; exact z.1))]
    exact h
  rw [unM_two 3 10 ⟨#[1, 0]⟩ (strOfNums (codL n x k y)) (by decide) (by decide) (by decide) (by decide) (by rw [strOfNums_size]; omega) _ _ sec3 rfl, e3, if_neg hc]
theorem loc_size (n x k y : Int) (hn : n = ((locL x k y).length : Int) + 1) (hx : 0 ≤ x ∧ x < 4294967296) (hy : 0 ≤ y ∧ y < 4294967296) (hk : 124 ≤ k ∧ k ≤ 127) (hl : x + y ≤ 256) :
    (unM (hd8 ++ secB ((3 : Nat) : Int) ⟨#[1, 0]⟩ ++ secB ((10 : Nat) : Int) (strOfNums (codL n x k y)))).2 = 1504 := by
  have hb := bl_num (codL n x k y) (codL_byte n x k y (by omega))
  have h2 := lebL_max x
  have h3 := lebL_max y
  have h4 := locL_len x k y
  refine loc_err n x k y 1504 hk (by decide) ?_
  rw [sbody_ok (u := strOfNums (codL n x k y)) (p := 1) (n := n) ⟨by omega, by omega⟩ hx hy hk hl hb.2.2]
  unfold sclose
  rw [if_pos ⟨rfl, fun z => by
    have z : ((1 + (lebL n).length + (locL x k y).length : Nat) : Int) - ((1 + (lebL n).length : Nat) : Int) = n := z
    omega⟩]
  rfl
theorem loc_long (n x k y : Int) (hn : 0 ≤ n ∧ n < 4294967296) (hx : 0 ≤ x ∧ x ≤ 256) (hy : 0 ≤ y ∧ y < 4294967296) (hk : 124 ≤ k ∧ k ≤ 127) (hl : 256 < x + y) :
    (unM (hd8 ++ secB ((3 : Nat) : Int) ⟨#[1, 0]⟩ ++ secB ((10 : Nat) : Int) (strOfNums (codL n x k y)))).2 = 1508 := by
  have hb := bl_num (codL n x k y) (codL_byte n x k y (by omega))
  exact loc_err n x k y 1508 hk (by decide) (sbody_no hn hx hy hk hl hb.2.2)
end Go.Proofs.Ytngciahmoenkiab
