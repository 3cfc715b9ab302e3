/- package decode's sections: an iterator that may panic, and whose rounds may. -/
import Derived.Test.YtngciahmoenkiabEQ
import Derived.Test.YtngciahmoenkiabDH
import Derived.Test.YtngciahmoenkiabXY
import Derived.Test.YtngciahmoenkiabRP
import Derived.RangeFuncCalls
import Derived.Shelf.Abstract
import Derived.Shelf.RegionOpen
import Derived.WalkKit
import Derived.OwnWalkIn
import Derived.TacticsInMore
import Derived.LoopNIn
import Derived.LoopIn
set_option linter.unusedVariables false
set_option linter.unusedSimpArgs false
set_option maxRecDepth 100000
set_option maxHeartbeats 8000000
namespace Go.Proofs.Ytngciahmoenkiab
open Go.RowKit Go.Shelf
attribute [local go_sem] Oper.semAt_some
variable {s : ByteArray} {n a g X T : Nat} {m : Md}
theorem unL_end (h : ¬ a < s.size) : unL s (n + 1) a g m = (if m.fu.length = m.co.length then (m, 0) else (mdZ 0, 1505)) := by
  conv => lhs; unfold unL
  exact if_neg h
theorem unL_sec (h : a < s.size) (h1 : 11 < bt s a) : unL s (n + 1) a g m = (mdZ 0, 1502) := by
  conv => lhs; unfold unL
  rw [if_pos h, if_pos h1]
theorem unL_ord (h : a < s.size) (h1 : ¬ 11 < bt s a) (h2 : ¬ bt s a = 0 ∧ bt s a ≤ (g : Int)) : unL s (n + 1) a g m = (mdZ 0, 1503) := by
  conv => lhs; unfold unL
  rw [if_pos h, if_neg h1, if_pos h2]
theorem unL_cut (h : a < s.size) (h1 : ¬ 11 < bt s a) (h2 : ¬ (¬ bt s a = 0 ∧ bt s a ≤ (g : Int))) (h3 : ¬ ((ulR s ((a : Int) + 1) 32).2.2 = 0 ∧ (ulR s ((a : Int) + 1) 32).1 ≤ (s.size : Int) - (ulR s ((a : Int) + 1) 32).2.1)) : unL s (n + 1) a g m = (mdZ 0, 1501) := by
  conv => lhs; unfold unL
  rw [if_pos h, if_neg h1, if_neg h2, if_pos h3]
theorem unL_go (h : a < s.size) (h1 : ¬ 11 < bt s a) (h2 : ¬ (¬ bt s a = 0 ∧ bt s a ≤ (g : Int))) (h3 : ulR s ((a : Int) + 1) 32 = ((X : Int), (T : Int), 0)) (h4 : T + X ≤ s.size) :
    unL s (n + 1) a g m = if (ssec0 (s.extract T (T + X)) (bt s a) m X).2.code = 0 then unL s n (T + X) (if bt s a = 0 then g else (bt s a).toNat) (ssec0 (s.extract T (T + X)) (bt s a) m X).1 else (mdZ 0, (ssec0 (s.extract T (T + X)) (bt s a) m X).2.code) := by
  conv => lhs; unfold unL
  rw [if_pos h, if_neg h1, if_neg h2, h3]
  simp only [Int.toNat_natCast]
  rw [if_neg (fun z => z ⟨trivial, by omega⟩)]
/-- what lies while the sections are gone over: the text's box, the loop's two blocks, the module -/
def Iv (s : ByteArray) (w0 : World) (p gs D l : Nat) (rc : Loop) (m : Md) (W : World) : Prop :=
  Wr (fun k => w0.heap.size ≤ k) w0 W ∧ (W.cell? ⟨gs, 0, none⟩ = some (.string s) ∧ Rl W w0.heap.size 34 [.slice none 0 0, .slice none 0 0, .slice none 0 0, .slice none 0 0, .slice none 0 0, .slice none 0 0, .slice none 0 0, .int .i64 0, .slice none 0 0, .slice none 0 0, .slice none 0 0]) ∧ W.heap[D]? = some (.deferred (some [])) ∧ W.heap[l]? = some (.loop rc) ∧
    ∃ Z L, (∀ k, Z k → l < k ∧ k < W.heap.size ∧ Nf W k) ∧ Rl W p 34 L ∧ ModC Z W m L
variable {w0 W W' : World} {p gs D l : Nat} {rc : Loop}
theorem Iv.later (h : Iv s w0 p gs D l rc m W) (hl : Later W W') : Iv s w0 p gs D l rc m W' := by
  obtain ⟨h1, h2, h3, h4, Z, L, h5, h6, h7⟩ := h
  exact ⟨h1.ltr hl, ⟨hl.cell_of h2.1, h2.2.later hl⟩, (hl.block (Array.getElem?_eq_some_iff.1 h3).1).trans h3, (hl.block (Array.getElem?_eq_some_iff.1 h4).1).trans h4, Z, L, fun k hk => ⟨(h5 k hk).1, Nat.lt_of_lt_of_le (h5 k hk).2.1 hl.size, nfof (hl.block (h5 k hk).2.1) (h5 k hk).2.2⟩, h6.later hl, h7.move fun k hk hkl => ⟨hk, hl.block hkl⟩⟩
/-- what lies when an error was thrown -/
def Er (w0 : World) (D : Nat) (W : World) : Prop := Wr (fun k => w0.heap.size ≤ k) w0 W ∧ W.heap[D]? = some (.deferred (some []))
theorem Iv.er (h : Iv s w0 p gs D l rc m W) : Er w0 D W := ⟨h.1, h.2.2.1⟩
/-- how going over the sections ends -/
def SecP (s : ByteArray) (w0 : World) (p gs D l : Nat) (rc : Loop) (r : Md × Int) (e : Ending) (W' : World) : Prop :=
  (∃ v mf, e = .returned v ∧ Iv s w0 p gs D l rc mf W' ∧ r = (if mf.fu.length = mf.co.length then (mf, 0) else (mdZ 0, 1505))) ∨
  (∃ c, ¬ c = 0 ∧ e = thr c ∧ r = (mdZ 0, c) ∧ Er w0 D W')
/-- what a round makes of a section -/
def RdP (s : ByteArray) (w0 : World) (p gs D l : Nat) (rc : Loop) (r : Md × Sst) (e : Ending) (W' : World) : Prop :=
  (r.2.code = 0 ∧ e = .returned (.bool true) ∧ Iv s w0 p gs D l rc r.1 W') ∨ (¬ r.2.code = 0 ∧ e = thr r.2.code ∧ Er w0 D W')
theorem room_of_none {F : Fence} (hd : F.depth = none) (k : Nat) : F.room k := fun d h => by rw [hd] at h; cases h
theorem yield_n {m m' : Nat} {P : Program} {l : Nat} {args : Array Value} {W : World} {R : Ending → World → Prop} (h : YieldAt Fence.wide m P l args W R) : YieldAt Fence.wide m' P l args W R := by
  obtain ⟨fn, tmps, assign, body, hy, hR⟩ := h
  exact ⟨fn, tmps, assign, body, hy, hR.1, fun c cs _ => hR.2 c cs (room_of_none rfl _)⟩
theorem sl_to (u : ByteArray) (n : Nat) (h : n ≤ u.size) (w : World) : (Instr.slice 9 (.string u) none (some (.int .i64 (n : Int))) none).run Try.prog w = .ok (.string (u.extract 0 n)) w := by
  have ht := Try.underlying9
  have h2 : (n : Int) ≤ (u.size : Int) := by omega
  have h3 : (0 : Int) ≤ (n : Int) := by omega
  simp [Instr.slice, run_underlying ht, Instr.sliceBounds, run_sliceBound, sliced, h2, h3]
theorem sections_it (hs : s.size ≤ 65536) (h8 : 8 ≤ s.size) (nn mm : Nat) (m0 : Md)
    (hY : ∀ (m : Md) (id bg sz : Nat) (W : World), Iv s w0 p gs D l rc m W → id ≤ 11 → bg + sz ≤ s.size → YieldAt Fence.wide mm Try.prog l #[.int .i64 (id : Int), .pointer (some ⟨W.heap.size, 0, none⟩)] (W.alloc (.cells #[.string (s.extract 0 (bg + sz)), .int .i64 (bg : Int)] 82)) (RdP s w0 p gs D l rc (ssec0 (s.extract bg (bg + sz)) (id : Int) m sz)))
    (hI : Iv s w0 p gs D l rc m0 W) :
    CallsIn Fence.wide nn Try.prog 26 #[.func (.yield l) #[] #[], .pointer (some ⟨gs, 0, none⟩)] W (SecP s w0 p gs D l rc (unL s s.size 8 0 m0)) := by
  generalize hr : unL s s.size 8 0 m0 = r
  replace hI : Hid (Iv s w0 p gs D l rc m0 W) := hI
  replace hr : Hid (unL s s.size 8 0 m0 = r) := hr
  replace hY : Hid (∀ (m : Md) (id bg sz : Nat) (W : World), Iv s w0 p gs D l rc m W → id ≤ 11 → bg + sz ≤ s.size → YieldAt Fence.wide mm Try.prog l #[.int .i64 (id : Int), .pointer (some ⟨W.heap.size, 0, none⟩)] (W.alloc (.cells #[.string (s.extract 0 (bg + sz)), .int .i64 (bg : Int)] 82)) (RdP s w0 p gs D l rc (ssec0 (s.extract bg (bg + sz)) (id : Int) m sz))) := hY
  refine callsIn_of_wp Try.func26 rfl trivial ?_ rfl
  simp only [Try.ntmps26, List.size_toArray, List.length_cons, List.length_nil, Nat.reduceAdd, Nat.reduceSub, Array.replicate_succ, Array.replicate_zero, List.push_toArray, List.append_toArray, List.nil_append, List.cons_append]
  gi_wp2
  gi_loopw [3, 4] (fun v3 v4 wr => ∃ (a g n : Nat) (m : Md), v3 = .int .i64 (g : Int) ∧ v4 = .int .i64 (a : Int) ∧ Iv s w0 p gs D l rc m wr ∧ s.size < n + a ∧ a ≤ s.size ∧ g ≤ 11 ∧ unL s n a g m = r) (fun v3 v4 _ => s.size - (intOf v4).toNat)
  case atStart => exact ⟨8, 0, s.size, m0, rfl, rfl, hI.out, by omega, h8, by omega, hr.out⟩
  case round =>
    obtain ⟨a, g, n, m, rfl, rfl, hIv, hn, ha, hg, htot⟩ := hrel
    clear hI hr
    have cg : wr.cell? ⟨gs, 0, none⟩ = some (.string s) := hIv.2.1.1
    have lg := cell_lt cg
    obtain ⟨n', rfl⟩ : ∃ n', n = n' + 1 := ⟨n - 1, by omega⟩
    by_cases h0 : a < s.size
    · have h1 : (a : Int) < (s.size : Int) := by omega
      obtain ⟨I, hI⟩ : ∃ I : Nat, I = s[a].toNat := ⟨_, rfl⟩
      have hbt : bt s a = (I : Int) := by rw [hI]; exact dif_pos h0
      have hI2 : I < 256 := by rw [hI]; exact s[a].toNat_lt
      have hwI : wrap64 (s[a].toNat : Int) = (I : Int) := by rw [← hI]; unfold wrap64; omega
      clear hI
      by_cases h2 : 11 < I
      · rw [unL_sec h0 (by rw [hbt]; omega)] at htot
        have hfin : Hid (SecP s w0 p gs D l rc r (thr 1502) wr) := Or.inr ⟨1502, by decide, rfl, htot.symm, hIv.er⟩
        have h3 : decide ((I : Int) ≤ 11) = false := decide_eq_false (by omega)
        have hn1 : Hid (∀ W nn, CallsIn Fence.wide nn Try.prog 24 #[.bool false, .int .i64 1502] W fun e w' => e = thr 1502 ∧ w' = W) := fun W nn => callsIn_wide.2 (need_bad 1502 W)
        clear htot hIv hY hbt
        gi_wp2
        refine ⟨trivial, fun h => (by cases h), ?_⟩
        refine (hn1.out _ _).mono ?_
        rintro e W2 ⟨rfl, rfl⟩
        exact ⟨rfl, hfin.out⟩
      have h3 : (I : Int) ≤ 11 := by omega
      have hk1 : Hid (∀ W nn, CallsIn Fence.wide nn Try.prog 24 #[.bool true, .int .i64 1502] W fun e w' => e = .returned (.tuple #[]) ∧ w' = W) := fun W nn => callsIn_wide.2 (need_ok 1502 W)
      by_cases h4 : ¬ I = 0 ∧ I ≤ g
      · rw [unL_ord h0 (by rw [hbt]; omega) (by rw [hbt]; omega)] at htot
        have hfin : Hid (SecP s w0 p gs D l rc r (thr 1503) wr) := Or.inr ⟨1503, by decide, rfl, htot.symm, hIv.er⟩
        have h5 : ((I : Int) == 0) = false := beq_false (by omega)
        have h6 : decide (g < I) = false := decide_eq_false (by omega)
        have hn1 : Hid (∀ W nn, CallsIn Fence.wide nn Try.prog 24 #[.bool false, .int .i64 1503] W fun e w' => e = thr 1503 ∧ w' = W) := fun W nn => callsIn_wide.2 (need_bad 1503 W)
        clear htot hIv hY hbt h2 h4
        gi_wp2
        refine ⟨trivial, fun h => (by cases h), ?_⟩
        refine (hk1.out _ _).mono ?_
        rintro e W2 ⟨rfl, rfl⟩
        gi_wp2
        refine ⟨trivial, fun h => (by cases h), ?_⟩
        refine (hn1.out _ _).mono ?_
        rintro e W2 ⟨rfl, rfl⟩
        exact ⟨rfl, hfin.out⟩
      have hk2 : Hid (∀ W nn, CallsIn Fence.wide nn Try.prog 24 #[.bool true, .int .i64 1503] W fun e w' => e = .returned (.tuple #[]) ∧ w' = W) := fun W nn => callsIn_wide.2 (need_ok 1503 W)
      have hg1 : Hid (∀ W nn, CallsIn Fence.wide nn Try.prog 27 #[.string s, .int .i64 ((a : Int) + 1), .int .i64 32] W fun e w' => e = .returned (.tuple #[.int .i64 (ulR s ((a : Int) + 1) 32).1, .int .i64 (ulR s ((a : Int) + 1) 32).2.1, .int .i64 (ulR s ((a : Int) + 1) 32).2.2]) ∧ Later W w') := fun W nn => callsIn_wide.2 (get_any s (by omega) _ 32 ⟨by omega, by omega⟩ (by decide) W)
      by_cases hz : I = 0
      · subst hz
        have hcut : ∀ (hx : ¬ ((ulR s ((a : Int) + 1) 32).2.2 = 0 ∧ (ulR s ((a : Int) + 1) 32).1 ≤ (s.size : Int) - (ulR s ((a : Int) + 1) 32).2.1)), r = (mdZ 0, 1501) := fun hx => by rw [← htot, unL_cut h0 (by rw [hbt]; omega) (by rw [hbt]; omega) hx]
        have hgo : ∀ X T : Nat, ulR s ((a : Int) + 1) 32 = ((X : Int), (T : Int), 0) → T + X ≤ s.size → r = if (ssec0 (s.extract T (T + X)) (0 : Nat) m X).2.code = 0 then unL s n' (T + X) g (ssec0 (s.extract T (T + X)) (0 : Nat) m X).1 else (mdZ 0, (ssec0 (s.extract T (T + X)) (0 : Nat) m X).2.code) := fun X T h5 h6 => by
          rw [← htot, unL_go h0 (by rw [hbt]; omega) (by rw [hbt]; omega) h5 h6, hbt]
          rfl
        have hrg := ul_rng s ((a : Int) + 1)
        have hgt := ul_gt s ((a : Int) + 1)
        clear htot
        rcases hx : ulR s ((a : Int) + 1) 32 with ⟨x, t, e⟩
        rw [hx] at hg1 hcut hrg hgt
        simp only [] at hg1 hcut hrg hgt
        replace hIv : Hid (Iv s w0 p gs D l rc m wr) := hIv
        by_cases he : e = 0
        · subst he
          obtain ⟨r1, r2, r3, r4⟩ := hrg rfl
          have r5 := hgt rfl
          obtain ⟨X, rfl⟩ := Int.eq_ofNat_of_zero_le r1
          obtain ⟨T, rfl⟩ := Int.eq_ofNat_of_zero_le r3
          have hw5 : -9223372036854775808 ≤ (s.size : Int) - (T : Int) := by omega
          have hw6 : (s.size : Int) - (T : Int) ≤ 9223372036854775807 := by omega
          by_cases hle : (X : Int) ≤ (s.size : Int) - (T : Int)
          · have hr := hgo X T hx (by omega)
            clear hgo hcut hx hrg hgt
            have hyl := fun (W : World) (hW : Iv s w0 p gs D l rc m W) => yield_n (m' := nn - 1) (hY.out m 0 T X W hW (by omega) (by omega))
            have hk3 : Hid (∀ W nn, CallsIn Fence.wide nn Try.prog 24 #[.bool true, .int .i64 1501] W fun e w' => e = .returned (.tuple #[]) ∧ w' = W) := fun W nn => callsIn_wide.2 (need_ok 1501 W)
            have hsl := sl_to s (T + X) (by omega)
            have hw3 : -9223372036854775808 ≤ (T : Int) + (X : Int) := by omega
            have hw4 : (T : Int) + (X : Int) ≤ 9223372036854775807 := by omega
            generalize hss : ssec0 (s.extract T (T + X)) ((0 : Nat) : Int) m X = rr at *
            obtain ⟨m2, a2, cd2⟩ := rr
            replace hyl : Hid (∀ W : World, Iv s w0 p gs D l rc m W → YieldAt Fence.wide (nn - 1) Try.prog l #[.int .i64 0, .pointer (some ⟨W.heap.size, 0, none⟩)] (W.alloc (.cells #[.string (s.extract 0 (T + X)), .int .i64 (T : Int)] 82)) (RdP s w0 p gs D l rc (m2, ⟨a2, cd2⟩))) := hyl
            replace hr : Hid (r = if cd2 = 0 then unL s n' (T + X) g m2 else (mdZ 0, cd2)) := hr
            clear hY hss hbt
            gi_wp2
            refine ⟨trivial, fun h => (by cases h), ?_⟩
            refine (hk1.out _ _).mono ?_
            rintro e W2 ⟨rfl, rfl⟩
            gi_wp2
            refine ⟨trivial, fun h => (by cases h), ?_⟩
            refine (hk2.out _ _).mono ?_
            rintro e W2 ⟨rfl, rfl⟩
            gi_wp2
            refine ⟨trivial, fun h => (by cases h), ?_⟩
            refine (hg1.out _ _).mono ?_
            rintro e W3 ⟨rfl, l3⟩
            have cg3 := l3.cell_of cg
            have lg3 := cell_lt cg3
            replace l3 : Hid (Later W2 W3) := l3
            clear hg1 hk1 hk2 cg lg
            gi_wp2
            refine ⟨trivial, fun h => (by cases h), ?_⟩
            refine (hk3.out _ _).mono ?_
            rintro e W4 ⟨rfl, rfl⟩
            obtain ⟨fn, tmps, assign, body, hy, hR⟩ := hyl.out W4 (hIv.out.later l3.out)
            replace hR : Hid (RoundIn Fence.wide (nn - 1) Try.prog l fn tmps assign body (W4.alloc (.cells #[.string (s.extract 0 (T + X)), .int .i64 (T : Int)] 82)) (RdP s w0 p gs D l rc (m2, ⟨a2, cd2⟩))) := hR
            clear hk3 hyl
            gi_wp2
            refine ⟨fun h => (by cases h), ?_⟩
            refine hR.out.mono ?_
            clear hR hy
            rintro e W5 (⟨hc5, rfl, hI5⟩ | ⟨hc5, rfl, hW5⟩)
            · obtain rfl : cd2 = 0 := hc5
              have hr2 := hr.out
              rw [if_pos rfl] at hr2
              have hfin : Hid (Iv s w0 p gs D l rc m2 W5 ∧ s.size < n' + (T + X) ∧ T + X ≤ s.size ∧ unL s n' (T + X) g m2 = r ∧ a < T + X) := ⟨hI5, by omega, by omega, hr2.symm, by omega⟩
              clear hI5 hr hr2 hIv
              gi_wp2
              go_roundw
              case rel => exact ⟨T + X, g, n', m2, rfl, by push_cast; rfl, hfin.out.1, hfin.out.2.1, hfin.out.2.2.1, by omega, hfin.out.2.2.2.1⟩
              case measure => have := hfin.out.2.2; simp [intOf]; omega
            · replace hc5 : ¬ cd2 = 0 := hc5
              have hr2 := hr.out
              rw [if_neg hc5] at hr2
              exact ⟨rfl, Or.inr ⟨cd2, hc5, rfl, hr2, hW5⟩⟩
          · have hle2 : decide ((X : Int) ≤ (s.size : Int) - (T : Int)) = false := decide_eq_false hle
            have hr := hcut (fun z => hle z.2)
            clear hgo hcut hx hrg hgt
            have hfin : Hid (∀ W, Later wr W → SecP s w0 p gs D l rc r (thr 1501) W) := fun W hW => Or.inr ⟨1501, by decide, rfl, hr, (hIv.out.later hW).er⟩
            have hk3 : Hid (∀ W nn, CallsIn Fence.wide nn Try.prog 24 #[.bool false, .int .i64 1501] W fun e w' => e = thr 1501 ∧ w' = W) := fun W nn => callsIn_wide.2 (need_bad 1501 W)
            clear hY hbt hr hle
            gi_wp2
            refine ⟨trivial, fun h => (by cases h), ?_⟩
            refine (hk1.out _ _).mono ?_
            rintro e W2 ⟨rfl, rfl⟩
            gi_wp2
            refine ⟨trivial, fun h => (by cases h), ?_⟩
            refine (hk2.out _ _).mono ?_
            rintro e W2 ⟨rfl, rfl⟩
            gi_wp2
            refine ⟨trivial, fun h => (by cases h), ?_⟩
            refine (hg1.out _ _).mono ?_
            rintro e W3 ⟨rfl, l3⟩
            have cg3 := l3.cell_of cg
            have lg3 := cell_lt cg3
            replace l3 : Hid (Later W2 W3) := l3
            clear hg1 hk1 hk2 cg lg
            gi_wp2
            refine ⟨trivial, fun h => (by cases h), ?_⟩
            refine (hk3.out _ _).mono ?_
            rintro e W4 ⟨rfl, rfl⟩
            exact ⟨rfl, hfin.out _ l3.out⟩
        · have he2 : (e == 0) = false := beq_false he
          have hr := hcut (fun z => he z.1)
          clear hgo hcut hx hrg hgt
          have hfin : Hid (∀ W, Later wr W → SecP s w0 p gs D l rc r (thr 1501) W) := fun W hW => Or.inr ⟨1501, by decide, rfl, hr, (hIv.out.later hW).er⟩
          have hk3 : Hid (∀ W nn, CallsIn Fence.wide nn Try.prog 24 #[.bool false, .int .i64 1501] W fun e w' => e = thr 1501 ∧ w' = W) := fun W nn => callsIn_wide.2 (need_bad 1501 W)
          clear hY hbt hr he
          gi_wp2
          refine ⟨trivial, fun h => (by cases h), ?_⟩
          refine (hk1.out _ _).mono ?_
          rintro e W2 ⟨rfl, rfl⟩
          gi_wp2
          refine ⟨trivial, fun h => (by cases h), ?_⟩
          refine (hk2.out _ _).mono ?_
          rintro e W2 ⟨rfl, rfl⟩
          gi_wp2
          refine ⟨trivial, fun h => (by cases h), ?_⟩
          refine (hg1.out _ _).mono ?_
          rintro e W3 ⟨rfl, l3⟩
          have cg3 := l3.cell_of cg
          have lg3 := cell_lt cg3
          replace l3 : Hid (Later W2 W3) := l3
          clear hg1 hk1 hk2 cg lg
          gi_wp2
          refine ⟨trivial, fun h => (by cases h), ?_⟩
          refine (hk3.out _ _).mono ?_
          rintro e W4 ⟨rfl, rfl⟩
          exact ⟨rfl, hfin.out _ l3.out⟩
      have h5 : ((I : Int) == 0) = false := beq_false (by omega)
      have h6 : g < I := by omega
      have h7 : g ≤ I := by omega
      clear h2 h4
      have hcut : ∀ (hx : ¬ ((ulR s ((a : Int) + 1) 32).2.2 = 0 ∧ (ulR s ((a : Int) + 1) 32).1 ≤ (s.size : Int) - (ulR s ((a : Int) + 1) 32).2.1)), r = (mdZ 0, 1501) := fun hx => by rw [← htot, unL_cut h0 (by rw [hbt]; omega) (by rw [hbt]; omega) hx]
      have hgo : ∀ X T : Nat, ulR s ((a : Int) + 1) 32 = ((X : Int), (T : Int), 0) → T + X ≤ s.size → r = if (ssec0 (s.extract T (T + X)) (I : Nat) m X).2.code = 0 then unL s n' (T + X) I (ssec0 (s.extract T (T + X)) (I : Nat) m X).1 else (mdZ 0, (ssec0 (s.extract T (T + X)) (I : Nat) m X).2.code) := fun X T h5 h6 => by
        rw [← htot, unL_go h0 (by rw [hbt]; omega) (by rw [hbt]; omega) h5 h6, hbt]
        rw [if_neg (show ¬ (I : Int) = 0 by omega), Int.toNat_natCast]
      have hrg := ul_rng s ((a : Int) + 1)
      have hgt := ul_gt s ((a : Int) + 1)
      clear htot
      rcases hx : ulR s ((a : Int) + 1) 32 with ⟨x, t, e⟩
      rw [hx] at hg1 hcut hrg hgt
      simp only [] at hg1 hcut hrg hgt
      replace hIv : Hid (Iv s w0 p gs D l rc m wr) := hIv
      by_cases he : e = 0
      · subst he
        obtain ⟨r1, r2, r3, r4⟩ := hrg rfl
        have r5 := hgt rfl
        obtain ⟨X, rfl⟩ := Int.eq_ofNat_of_zero_le r1
        obtain ⟨T, rfl⟩ := Int.eq_ofNat_of_zero_le r3
        have hw5 : -9223372036854775808 ≤ (s.size : Int) - (T : Int) := by omega
        have hw6 : (s.size : Int) - (T : Int) ≤ 9223372036854775807 := by omega
        by_cases hle : (X : Int) ≤ (s.size : Int) - (T : Int)
        · have hr := hgo X T hx (by omega)
          clear hgo hcut hx hrg hgt
          have hyl := fun (W : World) (hW : Iv s w0 p gs D l rc m W) => yield_n (m' := nn - 1) (hY.out m I T X W hW (by omega) (by omega))
          have hk3 : Hid (∀ W nn, CallsIn Fence.wide nn Try.prog 24 #[.bool true, .int .i64 1501] W fun e w' => e = .returned (.tuple #[]) ∧ w' = W) := fun W nn => callsIn_wide.2 (need_ok 1501 W)
          have hsl := sl_to s (T + X) (by omega)
          have hw3 : -9223372036854775808 ≤ (T : Int) + (X : Int) := by omega
          have hw4 : (T : Int) + (X : Int) ≤ 9223372036854775807 := by omega
          generalize hss : ssec0 (s.extract T (T + X)) ((I : Nat) : Int) m X = rr at *
          obtain ⟨m2, a2, cd2⟩ := rr
          replace hyl : Hid (∀ W : World, Iv s w0 p gs D l rc m W → YieldAt Fence.wide (nn - 1) Try.prog l #[.int .i64 (I : Int), .pointer (some ⟨W.heap.size, 0, none⟩)] (W.alloc (.cells #[.string (s.extract 0 (T + X)), .int .i64 (T : Int)] 82)) (RdP s w0 p gs D l rc (m2, ⟨a2, cd2⟩))) := hyl
          replace hr : Hid (r = if cd2 = 0 then unL s n' (T + X) I m2 else (mdZ 0, cd2)) := hr
          clear hY hss hbt
          gi_wp2
          refine ⟨trivial, fun h => (by cases h), ?_⟩
          refine (hk1.out _ _).mono ?_
          rintro e W2 ⟨rfl, rfl⟩
          gi_wp2
          refine ⟨trivial, fun h => (by cases h), ?_⟩
          refine (hk2.out _ _).mono ?_
          rintro e W2 ⟨rfl, rfl⟩
          gi_wp2
          refine ⟨trivial, fun h => (by cases h), ?_⟩
          refine (hg1.out _ _).mono ?_
          rintro e W3 ⟨rfl, l3⟩
          have cg3 := l3.cell_of cg
          have lg3 := cell_lt cg3
          replace l3 : Hid (Later W2 W3) := l3
          clear hg1 hk1 hk2 cg lg
          gi_wp2
          refine ⟨trivial, fun h => (by cases h), ?_⟩
          refine (hk3.out _ _).mono ?_
          rintro e W4 ⟨rfl, rfl⟩
          obtain ⟨fn, tmps, assign, body, hy, hR⟩ := hyl.out W4 (hIv.out.later l3.out)
          replace hR : Hid (RoundIn Fence.wide (nn - 1) Try.prog l fn tmps assign body (W4.alloc (.cells #[.string (s.extract 0 (T + X)), .int .i64 (T : Int)] 82)) (RdP s w0 p gs D l rc (m2, ⟨a2, cd2⟩))) := hR
          clear hk3 hyl
          gi_wp2
          refine ⟨fun h => (by cases h), ?_⟩
          refine hR.out.mono ?_
          clear hR hy
          rintro e W5 (⟨hc5, rfl, hI5⟩ | ⟨hc5, rfl, hW5⟩)
          · obtain rfl : cd2 = 0 := hc5
            have hr2 := hr.out
            rw [if_pos rfl] at hr2
            have hfin : Hid (Iv s w0 p gs D l rc m2 W5 ∧ s.size < n' + (T + X) ∧ T + X ≤ s.size ∧ unL s n' (T + X) I m2 = r ∧ a < T + X) := ⟨hI5, by omega, by omega, hr2.symm, by omega⟩
            clear hI5 hr hr2 hIv
            gi_wp2
            go_roundw
            case rel => exact ⟨T + X, I, n', m2, by simp; omega, by push_cast; rfl, hfin.out.1, hfin.out.2.1, hfin.out.2.2.1, by omega, hfin.out.2.2.2.1⟩
            case measure => have := hfin.out.2.2; simp [intOf]; omega
          · replace hc5 : ¬ cd2 = 0 := hc5
            have hr2 := hr.out
            rw [if_neg hc5] at hr2
            exact ⟨rfl, Or.inr ⟨cd2, hc5, rfl, hr2, hW5⟩⟩
        · have hle2 : decide ((X : Int) ≤ (s.size : Int) - (T : Int)) = false := decide_eq_false hle
          have hr := hcut (fun z => hle z.2)
          clear hgo hcut hx hrg hgt
          have hfin : Hid (∀ W, Later wr W → SecP s w0 p gs D l rc r (thr 1501) W) := fun W hW => Or.inr ⟨1501, by decide, rfl, hr, (hIv.out.later hW).er⟩
          have hk3 : Hid (∀ W nn, CallsIn Fence.wide nn Try.prog 24 #[.bool false, .int .i64 1501] W fun e w' => e = thr 1501 ∧ w' = W) := fun W nn => callsIn_wide.2 (need_bad 1501 W)
          clear hY hbt hr hle
          gi_wp2
          refine ⟨trivial, fun h => (by cases h), ?_⟩
          refine (hk1.out _ _).mono ?_
          rintro e W2 ⟨rfl, rfl⟩
          gi_wp2
          refine ⟨trivial, fun h => (by cases h), ?_⟩
          refine (hk2.out _ _).mono ?_
          rintro e W2 ⟨rfl, rfl⟩
          gi_wp2
          refine ⟨trivial, fun h => (by cases h), ?_⟩
          refine (hg1.out _ _).mono ?_
          rintro e W3 ⟨rfl, l3⟩
          have cg3 := l3.cell_of cg
          have lg3 := cell_lt cg3
          replace l3 : Hid (Later W2 W3) := l3
          clear hg1 hk1 hk2 cg lg
          gi_wp2
          refine ⟨trivial, fun h => (by cases h), ?_⟩
          refine (hk3.out _ _).mono ?_
          rintro e W4 ⟨rfl, rfl⟩
          exact ⟨rfl, hfin.out _ l3.out⟩
      · have he2 : (e == 0) = false := beq_false he
        have hr := hcut (fun z => he z.1)
        clear hgo hcut hx hrg hgt
        have hfin : Hid (∀ W, Later wr W → SecP s w0 p gs D l rc r (thr 1501) W) := fun W hW => Or.inr ⟨1501, by decide, rfl, hr, (hIv.out.later hW).er⟩
        have hk3 : Hid (∀ W nn, CallsIn Fence.wide nn Try.prog 24 #[.bool false, .int .i64 1501] W fun e w' => e = thr 1501 ∧ w' = W) := fun W nn => callsIn_wide.2 (need_bad 1501 W)
        clear hY hbt hr he
        gi_wp2
        refine ⟨trivial, fun h => (by cases h), ?_⟩
        refine (hk1.out _ _).mono ?_
        rintro e W2 ⟨rfl, rfl⟩
        gi_wp2
        refine ⟨trivial, fun h => (by cases h), ?_⟩
        refine (hk2.out _ _).mono ?_
        rintro e W2 ⟨rfl, rfl⟩
        gi_wp2
        refine ⟨trivial, fun h => (by cases h), ?_⟩
        refine (hg1.out _ _).mono ?_
        rintro e W3 ⟨rfl, l3⟩
        have cg3 := l3.cell_of cg
        have lg3 := cell_lt cg3
        replace l3 : Hid (Later W2 W3) := l3
        clear hg1 hk1 hk2 cg lg
        gi_wp2
        refine ⟨trivial, fun h => (by cases h), ?_⟩
        refine (hk3.out _ _).mono ?_
        rintro e W4 ⟨rfl, rfl⟩
        exact ⟨rfl, hfin.out _ l3.out⟩
    · have h1 : ¬ (a : Int) < (s.size : Int) := by omega
      rw [unL_end h0] at htot
      have hfin : Hid (SecP s w0 p gs D l rc r (.returned (.tuple #[])) wr) := Or.inl ⟨_, m, rfl, hIv, htot.symm⟩
      clear htot hIv hY
      gi_wp2
      go_end0
      exact hfin.out
end Go.Proofs.Ytngciahmoenkiab
