/- package decode's reader: numbers, bytes that must be, types, kinds, names, instructions. -/
import Derived.Test.YtngciahmoenkiabEQ
import Derived.Test.YtngciahmoenkiabDB
import Derived.Test.YtngciahmoenkiabXS
import Derived.Test.YtngciahmoenkiabXU
import Derived.Test.YtngciahmoenkiabXY
set_option linter.unusedVariables false
set_option linter.unusedSimpArgs false
set_option maxRecDepth 100000
set_option maxHeartbeats 4000000
namespace Go.Proofs.Ytngciahmoenkiab
open Go.RowKit
variable {q b : Nat} {w w' wr wr' : World} {v u s : ByteArray} {st st' : Sst} {a a' : Int}
theorem Got.bad {α : Type} {P : α → Value → World → Prop} {r : α × Sst} {c : Int} (hc : ¬ c = 0) (he : r.2.code = c) (hw : Wr (· = q) w w') : Got q b w v P r (thr c) w' := Or.inr ⟨by rw [he]; exact hc, by rw [he], hw⟩
theorem Got.ok {α : Type} {P : α → Value → World → Prop} {r : α × Sst} {y : Value} (hc : r.2.code = 0) (hp : P r.1 y w') (hd : Ds q b w w' v r.2.at_) : Got q b w v P r (.returned y) w' := Or.inl ⟨hc, ⟨_, rfl, hp⟩, hd⟩
theorem sfail_bad (h : ¬ st.code = 0) (e : Int) : sfail st e = st := if_neg h
theorem sbyte_bad (h : ¬ st.code = 0) : sbyte s st = (0, st) := by unfold sbyte; rw [if_neg (fun x => h x.1), sfail_bad h]
theorem snum_bad (h : ¬ st.code = 0) : snum s st = (0, st) := if_pos h
theorem smany_bad (h : ¬ st.code = 0) {m : Int} (hm : 0 ≤ m) : smany s m st = (0, st) := by unfold smany; rw [snum_bad h]; exact if_neg (by show ¬ m < 0; omega)
theorem sname_bad (h : ¬ st.code = 0) : sname s st = (⟨#[]⟩, st) := if_pos h
theorem smust_bad (h : ¬ st.code = 0) (c : Int) : smust s c st = st := by
  unfold smust
  rw [sbyte_bad h]
  split
  · rfl
  · exact sfail_bad h _
theorem skind_bad (h : ¬ st.code = 0) : skind s st = (0, st) := by
  unfold skind
  rw [sbyte_bad h]
  show (0, if st.code = 0 ∧ _ then _ else _) = _
  rw [if_neg (fun x => h x.1)]
theorem sflag_bad (h : ¬ st.code = 0) : sflag s st = (false, st) := by
  unfold sflag
  rw [sbyte_bad h]
  rfl
theorem sinstrs_bad (h : ¬ st.code = 0) : sinstrs s st = (.nil, st) := if_pos h
theorem slim_bad (h : ¬ st.code = 0) : (slim s st).2 = st := by
  unfold slim
  rw [sflag_bad h]
  simp only []
  simp [snum_bad h]
theorem snil_bad (h : ¬ st.code = 0) (x : Int) : snil x st = st := by
  unfold snil
  split
  · rfl
  · exact sfail_bad h _
theorem sover_bad (h : ¬ st.code = 0) (x : Int) : sover x st = st := by
  unfold sover
  split
  · exact sfail_bad h _
  · rfl
theorem sbytes_bad (h : ¬ st.code = 0) (x : Int) : sbytes s x st = (⟨#[]⟩, st) := if_neg h
theorem sclose_bad (h : ¬ st.code = 0) (x y : Int) : sclose x y st = st := if_neg (fun z => h z.1)
theorem skinds_bad (h : ¬ st.code = 0) : skinds s st = ([], st) := by
  unfold skinds
  rw [smany_bad h (by decide)]
  rfl
theorem snums_bad (h : ¬ st.code = 0) : snums s st = ([], st) := by
  unfold snums
  rw [smany_bad h (by decide)]
  rfl
/-- a list of instructions in new memory -/
def pI (B : Nat) (x : Fs) (y : Value) (w' : World) : Prop := ∃ A c, y = .slice A x.len c ∧ Tr (Zf B w') w' A x
def pT (x : ByteArray) (y : Value) (_ : World) : Prop := y = .string x
def pL (x : Int × Int) (y : Value) (_ : World) : Prop := y = .agg #[.int .i64 x.1, .int .i64 x.2]
theorem need_of {t : Bool} (c : Int) (h : t = true) (W : World) : Calls Try.prog 24 #[.bool t, .int .i64 c] W fun e w' => e = .returned (.tuple #[]) ∧ w' = W := by rw [h]; exact need_ok c W
theorem must_any (c : Int) (hv : v.size < 9223372036854775000) (hS : Shf b v u) (hc : st.code = 0) (hin : Sin u st) (w : World) (h : w.rowIs q 82 2 (dF v b st.at_)) :
    Calls Try.prog 52 #[.pointer (some ⟨q, 0, none⟩), .int .i64 c] w (Got q b w v pU ((), smust u c st)) := by
  have hb : Hid (Calls Try.prog 62 #[.pointer (some ⟨q, 0, none⟩)] w (Got q b w v pN (sbyte u st))) := next_any hv hS hc hin w h
  generalize hr : ((), smust u c st) = r
  unfold smust at hr
  generalize sbyte u st = K at *
  obtain ⟨x, a1, cd1⟩ := K
  simp only [] at hr
  replace hr : Hid (_ = r) := hr
  clear h hin hc hS hv
  go_enter Try.func52, Try.ntmps52
  go_wp2_with fail
  refine hb.out.mono ?_
  clear hb
  rintro e w1 (⟨hc1, ⟨y, rfl, hy⟩, D1⟩ | ⟨hc1, rfl, W1⟩)
  · obtain rfl : cd1 = 0 := hc1
    obtain rfl : y = .int .i64 x := hy
    replace D1 : Hid (Ds q b w w1 v a1) := D1
    by_cases h0 : x = c
    · subst h0
      have hn : Hid (∀ W, Calls Try.prog 24 #[.bool true, .int .i64 1506] W fun e w' => e = .returned (.tuple #[]) ∧ w' = W) := need_ok 1506
      go_wp2_with (go_at_call 24; refine (hn.out _).mono ?_; rintro e w2 ⟨rfl, hw⟩; obtain rfl : w1 = w2 := hw.symm)
      have hr := hr.out
      first | rw [if_pos rfl] at hr | rw [if_pos trivial] at hr
      subst hr
      go_end0
      exact Got.ok rfl rfl D1.out
    · have h1 : (x == c) = false := beq_false h0
      have hn : Hid (∀ W, Calls Try.prog 24 #[.bool false, .int .i64 1506] W fun e w' => e = thr 1506 ∧ w' = W) := need_bad 1506
      go_wp2_with (go_at_call 24; refine (hn.out _).mono ?_; rintro e w2 ⟨rfl, hw⟩; obtain rfl : w1 = w2 := hw.symm)
      have hr := hr.out
      rw [if_neg h0, sfail_new] at hr
      subst hr
      exact ⟨rfl, Got.bad (by decide) rfl D1.out.1⟩
  · replace hc1 : ¬ cd1 = 0 := hc1
    have hr := hr.out
    rw [sfail_bad hc1] at hr
    split at hr
    all_goals
      subst hr
      exact ⟨rfl, Got.bad hc1 rfl W1⟩
theorem flag_any (hv : v.size < 9223372036854775000) (hS : Shf b v u) (hc : st.code = 0) (hin : Sin u st) (w : World) (h : w.rowIs q 82 2 (dF v b st.at_)) :
    Calls Try.prog 55 #[.pointer (some ⟨q, 0, none⟩)] w (Got q b w v pB (sflag u st)) := by
  have hb : Hid (Calls Try.prog 62 #[.pointer (some ⟨q, 0, none⟩)] w (Got q b w v pN (sbyte u st))) := next_any hv hS hc hin w h
  generalize hr : (sflag u st) = r
  unfold sflag at hr
  generalize sbyte u st = K at *
  obtain ⟨x, a1, cd1⟩ := K
  simp only [] at hr
  replace hr : Hid (_ = r) := hr
  clear h hin hc hS hv
  go_enter Try.func55, Try.ntmps55
  go_wp2_with fail
  refine hb.out.mono ?_
  clear hb
  rintro e w1 (⟨hc1, ⟨y, rfl, hy⟩, D1⟩ | ⟨hc1, rfl, W1⟩)
  · obtain rfl : cd1 = 0 := hc1
    obtain rfl : y = .int .i64 x := hy
    replace D1 : Hid (Ds q b w w1 v a1) := D1
    by_cases h0 : x ≤ 1
    · have hx1 : Hid ((x == 1) = decide (x = 1)) := rfl
      have hn : Hid (∀ W, Calls Try.prog 24 #[.bool true, .int .i64 1506] W fun e w' => e = .returned (.tuple #[]) ∧ w' = W) := need_ok 1506
      go_wp2_with (go_at_call 24; refine (hn.out _).mono ?_; rintro e w2 ⟨rfl, hw⟩; obtain rfl : w1 = w2 := hw.symm)
      have hr := hr.out
      rw [if_neg (show ¬ 1 < x by omega)] at hr
      subst hr
      go_ret
      exact Got.ok rfl (show Value.bool _ = .bool _ by rw [← hx1.out]) D1.out
    · have h1 : decide (x ≤ 1) = false := decide_eq_false h0
      have hn : Hid (∀ W, Calls Try.prog 24 #[.bool false, .int .i64 1506] W fun e w' => e = thr 1506 ∧ w' = W) := need_bad 1506
      go_wp2_with (go_at_call 24; refine (hn.out _).mono ?_; rintro e w2 ⟨rfl, hw⟩; obtain rfl : w1 = w2 := hw.symm)
      have hr := hr.out
      rw [if_pos (show 1 < x by omega), sfail_new] at hr
      subst hr
      exact ⟨rfl, Got.bad (by decide) rfl D1.out.1⟩
  · replace hc1 : ¬ cd1 = 0 := hc1
    have hr := hr.out
    rw [sfail_bad hc1] at hr
    split at hr
    all_goals
      subst hr
      exact ⟨rfl, Got.bad hc1 rfl W1⟩
theorem number_any (hv : v.size < 9223372036854775000) (hS : Shf b v u) (hc : st.code = 0) (hin : Sin u st) (w : World) (h : w.rowIs q 82 2 (dF v b st.at_)) :
    Calls Try.prog 34 #[.pointer (some ⟨q, 0, none⟩)] w (Got q b w v pN (snum u st)) := by
  obtain ⟨a, cd⟩ := st
  obtain rfl : cd = 0 := hc
  have R := Ds.start h
  have c0 := R.cell0
  have c1 := R.cell1
  have f1 := R.frozen
  have hl := cell_lt c0
  have hsz := hS.size
  have i0 : 0 ≤ a := hin.1
  have i1 : a ≤ u.size := hin.2
  have hg : ∀ W, Calls Try.prog 27 #[.string v, .int .i64 ((b : Int) + a), .int .i64 32] W fun e w' => e = .returned (.tuple #[.int .i64 (ulR v ((b : Int) + a) 32).1, .int .i64 (ulR v ((b : Int) + a) 32).2.1, .int .i64 (ulR v ((b : Int) + a) 32).2.2]) ∧ Later W w' := fun W => get_any v hv _ 32 ⟨by omega, by omega⟩ (by decide) W
  rw [ulR_sh hS a 32 i0 i1] at hg
  unfold snum
  simp only []
  rw [if_neg (by simp)]
  generalize ulR u a 32 = X at *
  obtain ⟨x, to, e⟩ := X
  replace R : Hid (Ds q b w w v a) := R
  clear h hin hS hsz i0 i1 hv
  generalize (b : Int) + a = K at *
  by_cases h1 : e = 0
  · subst h1
    rw [if_pos rfl]
    rw [show sh3 b (x, to, (0 : Int)) = (x, (b : Int) + to, 0) from if_pos rfl] at hg
    obtain ⟨T, hT⟩ : ∃ T : Int, T = (b : Int) + to := ⟨_, rfl⟩
    rw [← hT] at hg
    simp only [] at hg
    replace hg : Hid _ := hg
    replace hT : Hid (T = (b : Int) + to) := hT
    have hn : Hid (∀ W, Calls Try.prog 24 #[.bool true, .int .i64 1506] W fun e w' => e = .returned (.tuple #[]) ∧ w' = W) := need_ok 1506
    go_enter Try.func34, Try.ntmps34
    go_wp2_with fail
    go_region_law (go_simp; go_at_call 27; refine (hg.out _).mono ?_; rintro e1 w1 ⟨rfl, l1⟩; have L1 : Hid (Later w w1) := (Ld (Lz _)).trans l1; have k1 := L1.out.cell_of c1; have g1 := (R.out.later L1.out).frozen; have hl1 := cell_lt k1; clear l1)
    all_goals
      go_wp2_with (go_at_call 24; refine (hn.out _).mono ?_; rintro e w2 ⟨rfl, hw⟩; obtain rfl : w1 = w2 := hw.symm)
      go_ret
      exact Got.ok rfl rfl ((R.out.later L1.out).set _ hT.out)
  · rw [if_neg h1, sfail_new]
    rw [show sh3 b (x, to, e) = (x, to, e) from if_neg h1] at hg
    have h2 : (e == 0) = false := beq_false h1
    simp only [] at hg
    replace hg : Hid _ := hg
    have hn : Hid (∀ W, Calls Try.prog 24 #[.bool false, .int .i64 1506] W fun e w' => e = thr 1506 ∧ w' = W) := need_bad 1506
    go_enter Try.func34, Try.ntmps34
    go_wp2_with fail
    go_region_law (go_simp; go_at_call 27; refine (hg.out _).mono ?_; rintro e1 w1 ⟨rfl, l1⟩; have L1 : Hid (Later w w1) := (Ld (Lz _)).trans l1; clear l1)
    all_goals
      go_wp2_with (go_at_call 24; refine (hn.out _).mono ?_; rintro e w2 ⟨rfl, hw⟩; obtain rfl : w1 = w2 := hw.symm)
      exact ⟨rfl, Got.bad (by decide) rfl (R.out.later L1.out).1⟩
theorem zero_any (hv : v.size < 9223372036854775000) (hS : Shf b v u) (hc : st.code = 0) (hin : Sin u st) (w : World) (h : w.rowIs q 82 2 (dF v b st.at_)) :
    Calls Try.prog 57 #[.pointer (some ⟨q, 0, none⟩)] w (Got q b w v pU ((), snil (snum u st).1 (snum u st).2)) := by
  have hb : Hid (Calls Try.prog 34 #[.pointer (some ⟨q, 0, none⟩)] w (Got q b w v pN (snum u st))) := number_any hv hS hc hin w h
  generalize hr : ((), snil (snum u st).1 (snum u st).2) = r
  unfold snil at hr
  generalize snum u st = K at *
  obtain ⟨x, a1, cd1⟩ := K
  simp only [] at hr
  replace hr : Hid (_ = r) := hr
  clear h hin hc hS hv
  go_enter Try.func57, Try.ntmps57
  go_wp2_with fail
  refine hb.out.mono ?_
  clear hb
  rintro e w1 (⟨hc1, ⟨y, rfl, hy⟩, D1⟩ | ⟨hc1, rfl, W1⟩)
  · obtain rfl : cd1 = 0 := hc1
    obtain rfl : y = .int .i64 x := hy
    replace D1 : Hid (Ds q b w w1 v a1) := D1
    by_cases h0 : x = 0
    · subst h0
      have hn : Hid (∀ W, Calls Try.prog 24 #[.bool true, .int .i64 1506] W fun e w' => e = .returned (.tuple #[]) ∧ w' = W) := need_ok 1506
      go_wp2_with (go_at_call 24; refine (hn.out _).mono ?_; rintro e w2 ⟨rfl, hw⟩; obtain rfl : w1 = w2 := hw.symm)
      have hr := hr.out
      first | rw [if_pos rfl] at hr | rw [if_pos trivial] at hr
      subst hr
      go_end0
      exact Got.ok rfl rfl D1.out
    · have h1 : (x == 0) = false := beq_false h0
      have hn : Hid (∀ W, Calls Try.prog 24 #[.bool false, .int .i64 1506] W fun e w' => e = thr 1506 ∧ w' = W) := need_bad 1506
      go_wp2_with (go_at_call 24; refine (hn.out _).mono ?_; rintro e w2 ⟨rfl, hw⟩; obtain rfl : w1 = w2 := hw.symm)
      have hr := hr.out
      rw [if_neg h0, sfail_new] at hr
      subst hr
      exact ⟨rfl, Got.bad (by decide) rfl D1.out.1⟩
  · replace hc1 : ¬ cd1 = 0 := hc1
    have hr := hr.out
    rw [sfail_bad hc1] at hr
    split at hr
    all_goals
      subst hr
      exact ⟨rfl, Got.bad hc1 rfl W1⟩
theorem kind_any (hv : v.size < 9223372036854775000) (hS : Shf b v u) (hc : st.code = 0) (hin : Sin u st) (w : World) (h : w.rowIs q 82 2 (dF v b st.at_)) :
    Calls Try.prog 54 #[.pointer (some ⟨q, 0, none⟩)] w (Got q b w v pN ((sbyte u st).1, sover (sbyte u st).1 (sbyte u st).2)) := by
  have hb : Hid (Calls Try.prog 62 #[.pointer (some ⟨q, 0, none⟩)] w (Got q b w v pN (sbyte u st))) := next_any hv hS hc hin w h
  generalize hr : ((sbyte u st).1, sover (sbyte u st).1 (sbyte u st).2) = r
  unfold sover at hr
  generalize sbyte u st = K at *
  obtain ⟨x, a1, cd1⟩ := K
  simp only [] at hr
  replace hr : Hid (_ = r) := hr
  clear h hin hc hS hv
  go_enter Try.func54, Try.ntmps54
  go_wp2_with fail
  refine hb.out.mono ?_
  clear hb
  rintro e w1 (⟨hc1, ⟨y, rfl, hy⟩, D1⟩ | ⟨hc1, rfl, W1⟩)
  · obtain rfl : cd1 = 0 := hc1
    obtain rfl : y = .int .i64 x := hy
    replace D1 : Hid (Ds q b w w1 v a1) := D1
    by_cases h0 : x ≤ 3
    · skip
      have hn : Hid (∀ W, Calls Try.prog 24 #[.bool true, .int .i64 1506] W fun e w' => e = .returned (.tuple #[]) ∧ w' = W) := need_ok 1506
      go_wp2_with (go_at_call 24; refine (hn.out _).mono ?_; rintro e w2 ⟨rfl, hw⟩; obtain rfl : w1 = w2 := hw.symm)
      have hr := hr.out
      rw [if_neg (show ¬ 3 < x by omega)] at hr
      subst hr
      go_ret
      exact Got.ok rfl rfl D1.out
    · have h1 : decide (x ≤ 3) = false := decide_eq_false h0
      have hn : Hid (∀ W, Calls Try.prog 24 #[.bool false, .int .i64 1506] W fun e w' => e = thr 1506 ∧ w' = W) := need_bad 1506
      go_wp2_with (go_at_call 24; refine (hn.out _).mono ?_; rintro e w2 ⟨rfl, hw⟩; obtain rfl : w1 = w2 := hw.symm)
      have hr := hr.out
      rw [if_pos (show 3 < x by omega), sfail_new] at hr
      subst hr
      exact ⟨rfl, Got.bad (by decide) rfl D1.out.1⟩
  · replace hc1 : ¬ cd1 = 0 := hc1
    have hr := hr.out
    rw [sfail_bad hc1] at hr
    split at hr
    all_goals
      subst hr
      exact ⟨rfl, Got.bad hc1 rfl W1⟩
theorem count_any (m : Int) (hm : 0 ≤ m) (hv : v.size < 9223372036854775000) (hS : Shf b v u) (hc : st.code = 0) (hin : Sin u st) (w : World) (h : w.rowIs q 82 2 (dF v b st.at_)) :
    Calls Try.prog 51 #[.pointer (some ⟨q, 0, none⟩), .int .i64 m] w (Got q b w v pN (smany u m st)) := by
  have hb : Hid (Calls Try.prog 34 #[.pointer (some ⟨q, 0, none⟩)] w (Got q b w v pN (snum u st))) := number_any hv hS hc hin w h
  generalize hr : (smany u m st) = r
  unfold smany at hr
  generalize snum u st = K at *
  obtain ⟨x, a1, cd1⟩ := K
  simp only [] at hr
  replace hr : Hid (_ = r) := hr
  clear h hin hc hS hv
  go_enter Try.func51, Try.ntmps51
  go_wp2_with fail
  refine hb.out.mono ?_
  clear hb
  rintro e w1 (⟨hc1, ⟨y, rfl, hy⟩, D1⟩ | ⟨hc1, rfl, W1⟩)
  · obtain rfl : cd1 = 0 := hc1
    obtain rfl : y = .int .i64 x := hy
    replace D1 : Hid (Ds q b w w1 v a1) := D1
    by_cases h0 : x ≤ m
    · skip
      have hn : Hid (∀ W, Calls Try.prog 24 #[.bool true, .int .i64 1508] W fun e w' => e = .returned (.tuple #[]) ∧ w' = W) := need_ok 1508
      go_wp2_with (go_at_call 24; refine (hn.out _).mono ?_; rintro e w2 ⟨rfl, hw⟩; obtain rfl : w1 = w2 := hw.symm)
      have hr := hr.out
      rw [if_neg (show ¬ m < x by omega)] at hr
      subst hr
      go_ret
      exact Got.ok rfl rfl D1.out
    · have h1 : decide (x ≤ m) = false := decide_eq_false h0
      have hn : Hid (∀ W, Calls Try.prog 24 #[.bool false, .int .i64 1508] W fun e w' => e = thr 1508 ∧ w' = W) := need_bad 1508
      go_wp2_with (go_at_call 24; refine (hn.out _).mono ?_; rintro e w2 ⟨rfl, hw⟩; obtain rfl : w1 = w2 := hw.symm)
      have hr := hr.out
      rw [if_pos (show m < x by omega), sfail_new] at hr
      subst hr
      exact ⟨rfl, Got.bad (by decide) rfl D1.out.1⟩
  · replace hc1 : ¬ cd1 = 0 := hc1
    have hr := hr.out
    rw [sfail_bad hc1] at hr
    split at hr
    all_goals
      subst hr
      exact ⟨rfl, Got.bad hc1 rfl W1⟩
theorem vtype_any (hv : v.size < 9223372036854775000) (hS : Shf b v u) (hc : st.code = 0) (hin : Sin u st) (w : World) (h : w.rowIs q 82 2 (dF v b st.at_)) :
    Calls Try.prog 53 #[.pointer (some ⟨q, 0, none⟩)] w (Got q b w v pN (skind u st)) := by
  have hb : Hid (Calls Try.prog 62 #[.pointer (some ⟨q, 0, none⟩)] w (Got q b w v pN (sbyte u st))) := next_any hv hS hc hin w h
  generalize hr : skind u st = r
  unfold skind at hr
  generalize sbyte u st = K at *
  obtain ⟨x, a1, cd1⟩ := K
  simp only [] at hr
  replace hr : Hid (_ = r) := hr
  have ht : Hid (∀ W, Calls Try.prog 63 #[.int .i64 x] W fun e w' => e = .returned (.bool (decide (124 ≤ x ∧ x ≤ 127))) ∧ w' = W) := gi.istype_any x
  clear h hin hc hS hv
  go_enter Try.func53, Try.ntmps53
  go_wp2_with fail
  refine hb.out.mono ?_
  clear hb
  rintro e w1 (⟨hc1, ⟨y, rfl, hy⟩, D1⟩ | ⟨hc1, rfl, W1⟩)
  · obtain rfl : cd1 = 0 := hc1
    obtain rfl : y = .int .i64 x := hy
    replace D1 : Hid (Ds q b w w1 v a1) := D1
    by_cases h0 : 124 ≤ x ∧ x ≤ 127
    · rw [decide_eq_true h0] at ht
      have hn : Hid (∀ W, Calls Try.prog 24 #[.bool true, .int .i64 1506] W fun e w' => e = .returned (.tuple #[]) ∧ w' = W) := need_ok 1506
      have hr2 : Hid ((x, (⟨a1, 0⟩ : Sst)) = r) := by rw [← hr.out, if_neg (fun z => z.2 h0)]; rfl
      clear h0 hr
      go_wp2_with (first | (go_at_call 63; refine (ht.out _).mono ?_; rintro e w2 ⟨rfl, hw⟩; obtain rfl : w1 = w2 := hw.symm; clear ht) | (go_at_call 24; refine (hn.out _).mono ?_; rintro e w2 ⟨rfl, hw⟩; obtain rfl : w1 = w2 := hw.symm))
      go_ret
      rw [← hr2.out]
      exact Got.ok rfl rfl D1.out
    · rw [decide_eq_false h0] at ht
      have hn : Hid (∀ W, Calls Try.prog 24 #[.bool false, .int .i64 1506] W fun e w' => e = thr 1506 ∧ w' = W) := need_bad 1506
      have hr2 : Hid ((x, (⟨a1, 1506⟩ : Sst)) = r) := by rw [← hr.out, if_pos ⟨rfl, h0⟩, sfail_new]; rfl
      clear h0 hr
      go_wp2_with (first | (go_at_call 63; refine (ht.out _).mono ?_; rintro e w2 ⟨rfl, hw⟩; obtain rfl : w1 = w2 := hw.symm; clear ht) | (go_at_call 24; refine (hn.out _).mono ?_; rintro e w2 ⟨rfl, hw⟩; obtain rfl : w1 = w2 := hw.symm))
      rw [← hr2.out]
      exact ⟨rfl, Got.bad (by decide) rfl D1.out.1⟩
  · replace hc1 : ¬ cd1 = 0 := hc1
    have hr := hr.out
    rw [if_neg (fun z => hc1 z.1)] at hr
    subst hr
    exact ⟨rfl, Got.bad hc1 rfl W1⟩
theorem name_any (hv : v.size < 9223372036854775000) (hS : Shf b v u) (hc : st.code = 0) (hin : Sin u st) (w : World) (h : w.rowIs q 82 2 (dF v b st.at_)) :
    Calls Try.prog 50 #[.pointer (some ⟨q, 0, none⟩)] w (Got q b w v (pT) (sname u st)) := by
  obtain ⟨a, cd⟩ := st
  obtain rfl : cd = 0 := hc
  have R := Ds.start h
  have hq := h.lt
  have c0 := R.cell0
  have c1 := R.cell1
  have f1 := R.frozen
  have hl := cell_lt c0
  have hsz := hS.size
  have i0 : 0 ≤ a := hin.1
  have i1 : a ≤ u.size := hin.2
  have hg := fun W : World => nget_any v hv ((b : Int) + a) ⟨by omega, by omega⟩ W
  rw [unR_sh hS a i0 i1] at hg
  unfold sname
  simp only []
  rw [if_neg (by simp)]
  generalize unR u a = X at *
  obtain ⟨x, to, e⟩ := X
  replace R : Hid (Ds q b w w v a) := R
  clear h hin hS hsz i0 i1 hv
  generalize (b : Int) + a = K at *
  by_cases h1 : e = 0
  · subst h1
    rw [if_pos rfl]
    rw [show sh3 b (x, to, (0 : Int)) = (x, (b : Int) + to, 0) from if_pos rfl] at hg
    obtain ⟨T, hT⟩ : ∃ T : Int, T = (b : Int) + to := ⟨_, rfl⟩
    rw [← hT] at hg
    simp only [] at hg
    replace hg : Hid _ := hg
    replace hT : Hid (T = (b : Int) + to) := hT
    have hn : Hid (∀ W, Calls Try.prog 24 #[.bool true, .int .i64 1508] W fun e w' => e = .returned (.tuple #[]) ∧ w' = W) := need_ok 1508
    have hm : Hid (∀ W, Calls Try.prog 24 #[.bool true, .int .i64 1506] W fun e w' => e = .returned (.tuple #[]) ∧ w' = W) := need_ok 1506
    go_enter Try.func50, Try.ntmps50
    go_wp2_with fail
    go_region_law (go_simp; go_at_call 61; refine (hg.out _).mono ?_; rintro e1 w1 ⟨rfl, l1⟩; have L1 : Hid (Later w w1) := (Ld (Lz _)).trans l1; have k1 := L1.out.cell_of c1; have g1 := (R.out.later L1.out).frozen; have hl1 := cell_lt k1; clear l1)
    all_goals
      go_wp2_with (go_at_call 24; refine (hn.out _).mono ?_; rintro e w2 ⟨rfl, hw⟩; obtain rfl : w1 = w2 := hw.symm; clear hn)
      go_wp2_with (go_at_call 24; refine (hm.out _).mono ?_; rintro e w2 ⟨rfl, hw⟩; obtain rfl : w1 = w2 := hw.symm)
      go_ret
      exact Got.ok rfl (rfl) ((R.out.later L1.out).set _ hT.out)
  · rw [if_neg h1]
    rw [show sh3 b (x, to, e) = (x, to, e) from if_neg h1] at hg
    simp only [] at hg
    replace hg : Hid _ := hg
    by_cases h2 : e = 1301
    · subst h2
      rw [if_pos rfl, sfail_new]
      have hn : Hid (∀ W, Calls Try.prog 24 #[.bool false, .int .i64 1508] W fun e w' => e = thr 1508 ∧ w' = W) := need_bad 1508
      clear h1
      go_enter Try.func50, Try.ntmps50
      go_wp2_with fail
      go_region_law (go_simp; go_at_call 61; refine (hg.out _).mono ?_; rintro e1 w1 ⟨rfl, l1⟩; have L1 : Hid (Later w w1) := (Ld (Lz _)).trans l1; have k1 := L1.out.cell_of c1; have g1 := (R.out.later L1.out).frozen; have hl1 := cell_lt k1; clear l1)
      all_goals
        go_wp2_with (go_at_call 24; refine (hn.out _).mono ?_; rintro e w2 ⟨rfl, hw⟩; obtain rfl : w1 = w2 := hw.symm; clear hn)
        exact ⟨rfl, Got.bad (by decide) rfl (R.out.later L1.out).1⟩
    · rw [if_neg h2, sfail_new]
      have n1 : (e == 0) = false := beq_false h1
      have n2 : (e != 1301) = true := by simpa using h2
      have hn : Hid (∀ W, Calls Try.prog 24 #[.bool true, .int .i64 1508] W fun e w' => e = .returned (.tuple #[]) ∧ w' = W) := need_ok 1508
      have hm : Hid (∀ W, Calls Try.prog 24 #[.bool false, .int .i64 1506] W fun e w' => e = thr 1506 ∧ w' = W) := need_bad 1506
      clear h1 h2
      go_enter Try.func50, Try.ntmps50
      go_wp2_with fail
      go_region_law (go_simp; go_at_call 61; refine (hg.out _).mono ?_; rintro e1 w1 ⟨rfl, l1⟩; have L1 : Hid (Later w w1) := (Ld (Lz _)).trans l1; have k1 := L1.out.cell_of c1; have g1 := (R.out.later L1.out).frozen; have hl1 := cell_lt k1; clear l1)
      all_goals
        go_wp2_with (go_at_call 24; refine (hn.out _).mono ?_; rintro e w2 ⟨rfl, hw⟩; obtain rfl : w1 = w2 := hw.symm; clear hn)
        go_wp2_with (go_at_call 24; refine (hm.out _).mono ?_; rintro e w2 ⟨rfl, hw⟩; obtain rfl : w1 = w2 := hw.symm)
        exact ⟨rfl, Got.bad (by decide) rfl (R.out.later L1.out).1⟩
theorem instrs_any (hv : v.size < 9223372036854775000) (hS : Shf b v u) (hc : st.code = 0) (hin : Sin u st) (w : World) (h : w.rowIs q 82 2 (dF v b st.at_)) :
    Calls Try.prog 56 #[.pointer (some ⟨q, 0, none⟩)] w (Got q b w v (pI w.heap.size) (sinstrs u st)) := by
  obtain ⟨a, cd⟩ := st
  obtain rfl : cd = 0 := hc
  have R := Ds.start h
  have hq := h.lt
  have c0 := R.cell0
  have c1 := R.cell1
  have f1 := R.frozen
  have hl := cell_lt c0
  have hsz := hS.size
  have i0 : 0 ≤ a := hin.1
  have i1 : a ≤ u.size := hin.2
  have hg := fun W : World => gi.iget_any v hv ((b : Int) + a) ⟨by omega, by omega⟩ W
  rw [unI_sh hS a i0 i1] at hg
  unfold sinstrs
  simp only []
  rw [if_neg (by simp)]
  generalize unI u a = X at *
  obtain ⟨x, to, e⟩ := X
  replace R : Hid (Ds q b w w v a) := R
  clear h hin hS hsz i0 i1 hv
  generalize (b : Int) + a = K at *
  by_cases h1 : e = 0
  · subst h1
    rw [if_pos rfl]
    rw [show sh3 b (x, to, (0 : Int)) = (x, (b : Int) + to, 0) from if_pos rfl] at hg
    obtain ⟨T, hT⟩ : ∃ T : Int, T = (b : Int) + to := ⟨_, rfl⟩
    rw [← hT] at hg
    simp only [] at hg
    replace hg : Hid _ := hg
    replace hT : Hid (T = (b : Int) + to) := hT
    have hn : Hid (∀ W, Calls Try.prog 24 #[.bool true, .int .i64 1507] W fun e w' => e = .returned (.tuple #[]) ∧ w' = W) := need_ok 1507
    have hm : Hid (∀ W, Calls Try.prog 24 #[.bool true, .int .i64 1506] W fun e w' => e = .returned (.tuple #[]) ∧ w' = W) := need_ok 1506
    go_enter Try.func56, Try.ntmps56
    go_wp2_with fail
    go_region_law (go_simp; go_at_call 64; refine (hg.out _).mono ?_; rintro e1 w1 ⟨A, c, rfl, T1, l1⟩; have L1 : Hid (Later w w1) := (Ld (Lz _)).trans l1.out; have k1 := L1.out.cell_of c1; have g1 := (R.out.later L1.out).frozen; have hl1 := cell_lt k1; clear l1)
    all_goals
      go_wp2_with (go_at_call 24; refine (hn.out _).mono ?_; rintro e w2 ⟨rfl, hw⟩; obtain rfl : w1 = w2 := hw.symm; clear hn)
      go_wp2_with (go_at_call 24; refine (hm.out _).mono ?_; rintro e w2 ⟨rfl, hw⟩; obtain rfl : w1 = w2 := hw.symm)
      go_ret
      exact Got.ok rfl (⟨A, c, rfl, T1.out.move (fun k hk hl => by have e0 := fun v => Below.heap_setCell w1 ⟨q, 1, none⟩ v k (fun e => by have e : k = q := e; have hk : w.heap.size ≤ k := hk.1; omega); exact ⟨⟨hk.1, nfof (e0 _) hk.2⟩, e0 _⟩)⟩) ((R.out.later L1.out).set _ hT.out)
  · rw [if_neg h1]
    rw [show sh3 b (x, to, e) = (x, to, e) from if_neg h1] at hg
    simp only [] at hg
    replace hg : Hid _ := hg
    by_cases h2 : e = 1402
    · subst h2
      rw [if_pos rfl, sfail_new]
      have hn : Hid (∀ W, Calls Try.prog 24 #[.bool false, .int .i64 1507] W fun e w' => e = thr 1507 ∧ w' = W) := need_bad 1507
      clear h1
      go_enter Try.func56, Try.ntmps56
      go_wp2_with fail
      go_region_law (go_simp; go_at_call 64; refine (hg.out _).mono ?_; rintro e1 w1 ⟨A, c, rfl, T1, l1⟩; have L1 : Hid (Later w w1) := (Ld (Lz _)).trans l1.out; have k1 := L1.out.cell_of c1; have g1 := (R.out.later L1.out).frozen; have hl1 := cell_lt k1; clear l1)
      all_goals
        go_wp2_with (go_at_call 24; refine (hn.out _).mono ?_; rintro e w2 ⟨rfl, hw⟩; obtain rfl : w1 = w2 := hw.symm; clear hn)
        exact ⟨rfl, Got.bad (by decide) rfl (R.out.later L1.out).1⟩
    · rw [if_neg h2, sfail_new]
      have n1 : (e == 0) = false := beq_false h1
      have n2 : (e != 1402) = true := by simpa using h2
      have hn : Hid (∀ W, Calls Try.prog 24 #[.bool true, .int .i64 1507] W fun e w' => e = .returned (.tuple #[]) ∧ w' = W) := need_ok 1507
      have hm : Hid (∀ W, Calls Try.prog 24 #[.bool false, .int .i64 1506] W fun e w' => e = thr 1506 ∧ w' = W) := need_bad 1506
      clear h1 h2
      go_enter Try.func56, Try.ntmps56
      go_wp2_with fail
      go_region_law (go_simp; go_at_call 64; refine (hg.out _).mono ?_; rintro e1 w1 ⟨A, c, rfl, T1, l1⟩; have L1 : Hid (Later w w1) := (Ld (Lz _)).trans l1.out; have k1 := L1.out.cell_of c1; have g1 := (R.out.later L1.out).frozen; have hl1 := cell_lt k1; clear l1)
      all_goals
        go_wp2_with (go_at_call 24; refine (hn.out _).mono ?_; rintro e w2 ⟨rfl, hw⟩; obtain rfl : w1 = w2 := hw.symm; clear hn)
        go_wp2_with (go_at_call 24; refine (hm.out _).mono ?_; rintro e w2 ⟨rfl, hw⟩; obtain rfl : w1 = w2 := hw.symm)
        exact ⟨rfl, Got.bad (by decide) rfl (R.out.later L1.out).1⟩
end Go.Proofs.Ytngciahmoenkiab
