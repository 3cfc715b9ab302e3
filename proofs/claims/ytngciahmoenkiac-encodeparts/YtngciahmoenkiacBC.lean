/- Package encode: texts as bytes; locals as runs. No walk. -/
import Derived.Test.YtngciahmoenkiacBA
set_option linter.unusedVariables false
set_option linter.unusedSimpArgs false
set_option maxRecDepth 100000
set_option maxHeartbeats 4000000
namespace Go.Proofs.Ytngciahmoenkiac
open Go.RowKit
theorem strL_len (s : ByteArray) : (strL s).length = s.size := by unfold strL; rw [List.length_map]; exact Array.length_toList
theorem strL_byte (s : ByteArray) : ∀ b ∈ strL s, 0 ≤ b ∧ b < 256 := by
  intro b hb
  obtain ⟨x, _, rfl⟩ := List.mem_map.1 hb
  have := x.toNat_lt
  omega
theorem nums_strL (s : ByteArray) : strOfNums (strL s) = s := by
  apply ByteArray.ext
  apply Array.ext'
  rw [strOfNums_data]
  unfold strL
  rw [List.map_map]
  conv => rhs; rw [← List.map_id s.data.toList]
  refine List.map_congr_left fun x _ => ?_
  show UInt8.ofNat (x.toNat : Int).toNat = x
  simp
theorem strL_app (a b : ByteArray) : strL (a ++ b) = strL a ++ strL b := by
  unfold strL
  rw [ByteArray.data_append, Array.toList_append, List.map_append]
theorem strL_nums (d : List Int) (h : ∀ b ∈ d, 0 ≤ b ∧ b < 256) : strL (strOfNums d) = d := by
  unfold strL
  rw [strOfNums_data, List.map_map]
  conv => rhs; rw [← List.map_id d]
  refine List.map_congr_left fun x hx => ?_
  have := h x hx
  show (((UInt8.ofNat x.toNat).toNat : Nat) : Int) = x
  rw [UInt8.toNat_ofNat']
  omega
/-- runs, one by one -/
def flat (d : List (Int × Int)) : List Int := d.flatMap fun x => List.replicate x.1.toNat x.2
theorem flat_app (a b : List (Int × Int)) : flat (a ++ b) = flat a ++ flat b := List.flatMap_append
theorem rnS_flat (d : List (Int × Int)) (t : Int) (hd : ∀ x ∈ d, 1 ≤ x.1) : flat (rnS d t) = flat d ++ [t] ∧ ∀ x ∈ rnS d t, 1 ≤ x.1 := by
  unfold rnS
  split
  · rename_i h
    rcases List.eq_nil_or_concat d with rfl | ⟨e, x, rfl⟩
    · cases h
    · rw [List.concat_eq_append] at *
      simp only [List.getLast?_append, List.getLast?_singleton, Option.some_or, Option.map_some, Option.some.injEq, Option.getD_some, List.dropLast_concat] at h ⊢
      have h1 := hd x (by simp)
      refine ⟨?_, fun y hy => ?_⟩
      · rw [flat_app, flat_app, List.append_assoc]
        congr 1
        simp only [flat, List.flatMap_cons, List.flatMap_nil, List.append_nil]
        rw [show (x.1 + 1).toNat = x.1.toNat + 1 by omega, List.replicate_succ', h]
      · rcases List.mem_append.1 hy with hy | hy
        · exact hd y (List.mem_append_left _ hy)
        · rw [List.mem_singleton.1 hy]
          show 1 ≤ x.1 + 1
          omega
  · refine ⟨by rw [flat_app]; rfl, fun y hy => ?_⟩
    rcases List.mem_append.1 hy with hy | hy
    · exact hd y hy
    · rw [List.mem_singleton.1 hy]
      exact Int.le_refl _
theorem runs_flat' : ∀ (ts : List Int) (d : List (Int × Int)), (∀ x ∈ d, 1 ≤ x.1) → flat (ts.foldl rnS d) = flat d ++ ts ∧ ∀ x ∈ ts.foldl rnS d, 1 ≤ x.1
  | [], d, hd => ⟨by simp, hd⟩
  | t :: r, d, hd => by
    obtain ⟨h1, h2⟩ := rnS_flat d t hd
    obtain ⟨h3, h4⟩ := runs_flat' r (rnS d t) h2
    refine ⟨?_, h4⟩
    show flat (r.foldl rnS (rnS d t)) = _
    rw [h3, h1, List.append_assoc]
    rfl
theorem runs_flat (ts : List Int) : flat (runs ts) = ts ∧ ∀ x ∈ runs ts, 1 ≤ x.1 := by
  obtain ⟨h1, h2⟩ := runs_flat' ts [] (by simp)
  exact ⟨h1, h2⟩
theorem flat_len' : ∀ (d : List (Int × Int)), (∀ x ∈ d, 1 ≤ x.1) → d.length ≤ (flat d).length
  | [], _ => Nat.zero_le _
  | x :: r, h => by
    have := flat_len' r (fun y hy => h y (List.mem_cons_of_mem _ hy))
    have := h x List.mem_cons_self
    show r.length + 1 ≤ (List.replicate x.1.toNat x.2 ++ flat r).length
    rw [List.length_append, List.length_replicate]
    omega
theorem rnS_len (d : List (Int × Int)) (t : Int) : (rnS d t).length ≤ d.length + 1 := by
  unfold rnS
  split
  · rw [List.length_append, List.length_dropLast, List.length_singleton]
    omega
  · rw [List.length_append, List.length_singleton]
    exact Nat.le_refl _
theorem runs_snoc (ts : List Int) (t : Int) : runs (ts ++ [t]) = rnS (runs ts) t := by
  unfold runs
  rw [List.foldl_append]
  rfl
theorem rnS_last (d : List (Int × Int)) (t : Int) : (rnS d t).getLast?.map Prod.snd = some t := by
  unfold rnS
  split <;> simp
/-- the last run is of the last local's type -/
theorem runs_last (ts : List Int) : (runs ts).getLast?.map Prod.snd = ts.getLast? := by
  rcases List.eq_nil_or_concat ts with rfl | ⟨e, x, rfl⟩
  · rfl
  · rw [List.concat_eq_append, runs_snoc, rnS_last]
    simp
/-- a local of another type than the one ahead of it -/
theorem runs_new (ts : List Int) (t : Int) (h : ¬ ts.getLast? = some t) : runs (ts ++ [t]) = runs ts ++ [(1, t)] := by
  rw [runs_snoc]
  unfold rnS
  rw [if_neg (by rw [runs_last]; exact h)]
/-- a local of the type of the one ahead of it -/
theorem runs_same (ts : List Int) (t : Int) (h : ts.getLast? = some t) : ∃ (rs : List (Int × Int)) (m : Int), runs ts = rs ++ [(m, t)] ∧ runs (ts ++ [t]) = rs ++ [(m + 1, t)] ∧ 1 ≤ m ∧ m ≤ ts.length := by
  have hl := runs_last ts
  rw [h] at hl
  rcases List.eq_nil_or_concat (runs ts) with hr | ⟨rs, x, hr⟩
  · rw [hr] at hl; cases hl
  · rw [List.concat_eq_append] at hr
    rw [hr] at hl
    simp only [List.getLast?_append, List.getLast?_singleton, Option.some_or, Option.map_some, Option.some.injEq] at hl
    obtain ⟨m, t'⟩ := x
    obtain rfl : t' = t := hl
    obtain ⟨f1, f2⟩ := runs_flat ts
    have hm := f2 (m, t') (by rw [hr]; simp)
    refine ⟨rs, m, hr, ?_, hm, ?_⟩
    · rw [runs_snoc, hr]
      unfold rnS
      rw [if_pos (by simp)]
      simp
    · have := congrArg List.length f1
      rw [hr, flat_app, List.length_append] at this
      simp only [flat, List.flatMap_cons, List.flatMap_nil, List.append_nil, List.length_replicate] at this
      omega
end Go.Proofs.Ytngciahmoenkiac
