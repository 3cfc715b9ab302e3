/- 'InstrLabels' of package peloruslaw14 returns true at every list of ints: labels of a table come back, the last with them; without one there is none. No condition. -/
import Derived.Test.YtkdfmgdadnlnlabIAX
import Derived.Test.YtkdfmgdadnlnlabXQ
import Derived.LoopTactic
import Derived.OpenShut
import Derived.ChangeMaps5
import Derived.ShutString
import Derived.SizedLaws
set_option linter.unusedVariables false
set_option linter.unusedSimpArgs false
set_option maxRecDepth 100000
set_option maxHeartbeats 8000000
namespace Go.Proofs.Ytkdfmgdadnlnlab.instrLabels
open Go.ChangeShapes Go.WideShapes Go.ChangeAt Go.RowKit
def F14 (ls : List Int) : Fs := .cons 14 0 0 0 0 ls .nil .nil .nil
theorem ok14 (ls : List Int) (h : ∀ x ∈ ls, Wd x) (hl : ls.length ≤ 2000) : (F14 ls).Ok := ⟨⟨by unfold i64; omega, i64_0, i64_0, i64_0, i64_0, fun x hx => by have := h x hx; unfold Wd at this; unfold i64; omega⟩, by omega, by decide, by decide, trivial, trivial, trivial⟩
theorem may14 (ls : List Int) (h : ∀ x ∈ ls, Wd x) (h1 : 1 ≤ ls.length) (h2 : ls.length ≤ 1024) : mayP 14 0 0 0 0 ls 0 0 := by
  simp [mayP, fo]
  exact ⟨h, by omega, h2⟩
theorem bad14 (ls : List Int) (h : ls.length = 0 ∨ 1024 < ls.length) : puR (F14 ls) = ([], 1400) := by
  have hc : (ck (F14 ls) 0 0).1 = 1400 := by
    have hm : ¬ mayP 14 0 0 0 0 ls Fs.nil.len Fs.nil.len := by
      intro hm
      simp [mayP, fo] at hm
      obtain ⟨_, _, h1, h2⟩ := hm
      rcases h with h | h
      · rw [List.length_eq_zero_iff] at h
        subst h
        simp at h1
      · omega
    unfold F14 ck
    rw [if_neg (by decide), if_neg (fun x => absurd x.2 (by decide)), if_pos hm]
  unfold puR
  rw [hc, if_neg (by decide)]
def ints' (l : List Int) : List Value := l.map fun x => Value.int .i64 x
theorem fld_lq {lab : Nat → Nat} {W : World} {b cap : Nat} {A : Option Addr} {l : List Int} (h : Fld lab 0 W b 3 1 (.slice A l.length cap) l.length (ints' l)) : Lq (fun _ => True) W A l := by
  by_cases hl : l = []
  · subst hl
    exact ⟨Or.inl rfl, fun x => absurd rfl x⟩
  · obtain ⟨g, rfl, hb, hlt, hlab, hcap, _, hc⟩ := h.at_ (List.length_pos_iff.2 hl)
    refine ⟨Or.inr ⟨g, 0, rfl, fun j hj => ?_⟩, fun _ a ha => trivial⟩
    rw [Nat.zero_add]
    refine hc j _ ?_
    simp [ints', hj]
theorem fld_form {lab : Nat → Nat} {tag b n size : Nat} {e : TypeId} {W : World} {v : Value} {L : List Value} (h : Fld lab tag W b e size v n L) : ∃ A cap, v = .slice A n cap := by
  rcases h.1.2 with ⟨e, h0⟩ | ⟨g, cap', cur, e, _⟩
  · rw [h0]; exact ⟨none, 0, e⟩
  · exact ⟨_, _, e⟩
theorem and_w (x : Int) : Wd (bits .and .i64 x 4294967295) := by
  rw [show (4294967295 : Int) = ((2 ^ 32 : Nat) - 1 : Int) by decide, BM.and_mask x 32 (by decide)]
  unfold Wd
  constructor
  · exact Int.emod_nonneg _ (by decide)
  · have := Int.emod_lt_of_pos x (show (0 : Int) < ((2 ^ 32 : Nat) : Int) by decide)
    have e : ((2 ^ 32 : Nat) : Int) = 4294967296 := by decide
    omega
def zrs (m : Nat) : List Int := List.replicate m 0
theorem zrs_len (m : Nat) : (zrs m).length = m := List.length_replicate
/-- a row of noughts -/
theorem made_lq (n : Nat) (w W' : World) (hl : Later (w.alloc (.cells (madeCells #[.int .i64 0] n) 3)) W') : Lq (fun _ => True) W' (some ⟨w.heap.size, 0, none⟩) (zrs n) := by
  refine ⟨Or.inr ⟨w.heap.size, 0, rfl, fun j hj => ?_⟩, fun _ a ha => trivial⟩
  rw [zrs_len] at hj
  rw [Nat.zero_add]
  have := (World.rowIs_made w (.int .i64 0) n 3).cell hj
  rw [hl.cell_of this]
  simp [zrs, List.getD, hj]
theorem core (A : Option Addr) (n cap : Nat) (f : Nat → Int) (w : World) (hv : n = 0 ∨ ∃ g o, A = some ⟨g, o, none⟩ ∧ ∀ i, i < n → w.cell? ⟨g, o + i, none⟩ = some (.int .i64 (f i))) :
    Calls Try.prog 5 #[.slice A n cap] w fun e w' => e = .returned (.bool true) ∧ Later w w' := by
  obtain ⟨iv, hv1, hv2, hv3, hv4⟩ := int_parts
  have hmk : ∀ (m : Int) (w' : World), 0 ≤ m → m ≤ 2000 → (Instr.makeSlice 23 (.int .i64 m) (.int .i64 m)).run Try.prog w' = .ok (.slice (some ⟨w'.heap.size, 0, none⟩) m.toNat m.toNat) (w'.alloc (.cells (madeCells #[.int .i64 0] m.toNat) 3)) := fun m w' h0 h1 => by
    have hr := run_make (P := Try.prog) w' 23 3 iv _ Try.underlying23 hv1 hv2 .i64 .i64 m m (by omega) (Int.le_refl _) (by rw [hv4]; omega) (by omega)
    simp only [hv3, Nat.mul_one] at hr
    exact hr
  have mk1 : ∀ w' : World, (Instr.makeSlice 23 (.int .i64 1025) (.int .i64 1025)).run Try.prog w' = .ok (.slice (some ⟨w'.heap.size, 0, none⟩) 1025 1025) (w'.alloc (.cells (madeCells #[.int .i64 0] 1025) 3)) := fun w' => hmk 1025 w' (by decide) (by decide)
  have mk2 : ∀ w' : World, (Instr.makeSlice 23 (.int .i64 1024) (.int .i64 1024)).run Try.prog w' = .ok (.slice (some ⟨w'.heap.size, 0, none⟩) 1024 1024) (w'.alloc (.cells (madeCells #[.int .i64 0] 1024) 3)) := fun w' => hmk 1024 w' (by decide) (by decide)
  clear hmk
  replace hv : Hid _ := hv
  go_enter Try.func5, Try.ntmps5
  go_wp2_with (go_at_call 7; refine (awake_any _).mono ?_; rintro e w0 ⟨rfl, l0⟩; replace l0 : Hid (Later w w0) := l0)
  go_loopw [3, 4] (fun v i wr => ∃ (l : List Int) (lab : Nat → Nat), i = .int .i64 (l.length : Nat) ∧ l.length ≤ n ∧ l.length ≤ 200 ∧ (∀ x ∈ l, Wd x) ∧ Later w0 wr ∧ Fld lab 0 wr w0.heap.size 3 1 v l.length (ints' l)) (fun v i _ => n - (intOf i).toNat)
  case atStart => exact ⟨[], fun _ => 0, rfl, Nat.zero_le _, Nat.zero_le _, fun x h => by simp at h, Lz _, ⟨World.ownsRow_nil _ _ _ _, fun g hg => by cases hg⟩⟩
  case round =>
    obtain ⟨l, lab, rfl, hl1, hl2, hw, hL, hF⟩ := hrel
    obtain ⟨A', cap', rfl⟩ := fld_form hF
    by_cases hgo : l.length < n ∧ l.length < 200
    · obtain ⟨g1, g2⟩ := hgo
      have i1 : (l.length : Int) < (n : Int) := by omega
      have i2 : (l.length : Int) < 200 := by omega
      obtain ⟨g, o, rfl, hc⟩ := hv.out.resolve_left (by omega)
      have k0 := (l0.out.trans hL).cell_of (hc l.length g1)
      have hlt := cell_lt k0
      obtain ⟨g', c', w', lab', r, G, L', C⟩ := fld_more (P := Try.prog) hL 23 23 3 iv (.int .i64 0) 1 8 Try.underlying23 hv1 hv2 hv3 hv4 rfl (by decide) hF [.int .i64 (bits .and .i64 (f l.length) 4294967295)] rfl (by intro u hu; simp only [List.mem_cons, List.not_mem_nil, or_false] at hu; subst hu; rfl) (by unfold maxLen; omega) (by omega)
      have hwd := and_w (f l.length)
      replace r : Hid _ := r
      have hfin : Hid ((∀ x ∈ l ++ [bits .and .i64 (f l.length) 4294967295], Wd x) ∧ Later w0 w' ∧ Fld lab' 0 w' w0.heap.size 3 1 (.slice (some ⟨g', 0, none⟩) (l.length + 1) c') (l ++ [bits .and .i64 (f l.length) 4294967295]).length (ints' (l ++ [bits .and .i64 (f l.length) 4294967295]))) := by
        refine ⟨fun x hx => ?_, L', ?_⟩
        · rcases List.mem_append.1 hx with hx | hx
          · exact hw x hx
          · simp at hx; rw [hx]; exact hwd
        · rw [List.length_append, List.length_singleton, show ints' (l ++ [bits .and .i64 (f l.length) 4294967295]) = ints' l ++ [.int .i64 (bits .and .i64 (f l.length) 4294967295)] by simp [ints']]
          exact G
      clear hF hL hw G L' C hc hv1 hv2 hv3 hv4 hwd
      go_wp2_with (at_builtin; refine wpList_app rfl _ _ 23 rfl _ _ _ rfl rfl r.out ?_)
      go_roundw
      case rel => exact ⟨l ++ [bits .and .i64 (f l.length) 4294967295], lab', by rw [List.length_append, List.length_singleton]; go_num, by rw [List.length_append, List.length_singleton]; omega, by rw [List.length_append, List.length_singleton]; omega, hfin.out.1, hfin.out.2.1, hfin.out.2.2⟩
      case measure => simp [intOf]; omega
    · have hcond : (¬ (l.length : Int) < (n : Int)) ∨ ((l.length : Int) < (n : Int) ∧ ¬ (l.length : Int) < 200) := by omega
      have hQ := fld_lq hF
      have hok := ok14 l hw (by omega)
      replace hL : Hid (Later w0 wr) := hL
      clear hF hgo hv hv1 hv2 hv3 hv4
      by_cases hemp : l = []
      · subst hemp
        have hpu := bad14 [] (Or.inl rfl)
        have h1 : Hid (∀ (W : World) (B : Option Addr) (k : Nat), Tr (fun _ => True) W B (F14 []) → Calls Try.prog 8 #[.slice B 1 k] W fun e w' => e = .returned (.tuple #[.string ⟨#[]⟩, .int .i64 1400]) ∧ Hid (Later W w')) := fun W B k hB => iput_lit _ hok (by show 1 * 112 ≤ 140737488351232; decide) _ _ ⟨#[]⟩ rfl hpu 1 rfl _ W B k hB
        have hT : Hid (Tr (fun _ => True) (wr.alloc (.cells #[.int .i64 14, .int .i64 0, .int .i64 0, .int .i64 0, .int .i64 0, .slice A' 0 cap', .slice none 0 0, .slice none 0 0] 27)) (some ⟨wr.heap.size, 0, none⟩) (F14 [])) := tr_lit (ls := []) (bo := .nil) (el := .nil) rfl rfl rfl (Lz _) (hQ.later (La (Lz _))) (Or.inl rfl) (Or.inl rfl) trivial
        simp only [List.length_nil] at hcond ⊢
        clear hQ hok hpu hw hl1 hl2 mk1 mk2
        rcases hcond with hc1 | ⟨hc1, hc2⟩
        · go_wp2_with fail
          refine (h1.out _ _ _ hT.out).mono ?_
          clear h1
          rintro e w2 ⟨rfl, l2⟩
          go_wp2_with (go_at_call 9; refine (num_any _ _).mono ?_; rintro e w' ⟨rfl, hw⟩; have hw := hw.symm; subst hw)
          go_ret
          exact ⟨rfl, ((l0.out.trans hL.out).trans (La (Lz _))).trans l2.out⟩
        · exact absurd (show ((0 : Nat) : Int) < 200 by decide) hc2
      · have hlen : 1 ≤ l.length := List.length_pos_iff.2 hemp
        have hm := may14 l hw hlen (by omega)
        have hpu := put_one 14 0 0 0 0 l hm trivial
        have hun := get_one 14 0 0 0 0 l hm hok
        have hsz : (strOfNums (ltB (.cons 14 0 0 0 0 l .nil .nil .nil) ++ [11])).size ≤ 1000000 := by
          have hck : (ck (F14 l) 0 0).1 = 0 := by
            unfold F14 ck
            rw [if_neg (by decide), if_neg (fun x => absurd x.2 (by decide)), if_neg (fun x => x hm)]
            simp [ck]
          have h1 := ltB_len (F14 l) 0 0 (by decide) (by decide) hck
          have h2 : (ck (F14 l) 0 0).2 = 1 := by
            unfold F14 ck
            rw [if_neg (by decide), if_neg (fun x => absurd x.2 (by decide)), if_neg (fun x => x hm)]
            simp [ck]
          rw [strOfNums_size]
          unfold F14 at h1 h2
          simp only [List.length_append, List.length_singleton]
          omega
        have b1 := bad14 (zrs 1025) (Or.inr (by rw [zrs_len]; decide))
        have wz : ∀ m : Nat, ∀ x ∈ zrs m, Wd x := fun m x hx => by obtain rfl := List.eq_of_mem_replicate hx; unfold Wd; decide
        have b2 := put_one 14 0 0 0 0 (zrs 1024) (may14 _ (wz 1024) (by rw [zrs_len]; decide) (by rw [zrs_len]; decide)) trivial
        have o1 := ok14 (zrs 1025) (wz 1025) (by rw [zrs_len]; decide)
        have o2 := ok14 (zrs 1024) (wz 1024) (by rw [zrs_len]; decide)
        have h1 : Hid (∀ (W : World) (B : Option Addr) (k : Nat), Tr (fun _ => True) W B (F14 l) → Calls Try.prog 8 #[.slice B 1 k] W fun e w' => e = .returned (.tuple #[.string (strOfNums (ltB (.cons 14 0 0 0 0 l .nil .nil .nil) ++ [11])), .int .i64 0]) ∧ Hid (Later W w')) := fun W B k hB => iput_is _ hok (by show 1 * 112 ≤ 140737488351232; decide) _ _ hpu 1 rfl _ W B k hB
        have h2 : Hid (∀ W : World, Calls Try.prog 10 #[.string (strOfNums (ltB (.cons 14 0 0 0 0 l .nil .nil .nil) ++ [11])), .int .i64 0] W fun e' w' => ∃ A' c', e' = .returned (.tuple #[.slice A' 1 c', .int .i64 ((strOfNums (ltB (.cons 14 0 0 0 0 l .nil .nil .nil) ++ [11])).size : Int), .int .i64 0]) ∧ Hid (Tr (W.heap.size ≤ ·) w' A' (F14 l)) ∧ Hid (Later W w')) := fun W => iget_is _ 0 _ _ 0 hun (by omega) (by decide) W
        have h3 : Hid (∀ (W : World) (B : Option Addr) (k : Nat), Tr (fun _ => True) W B (F14 (zrs 1025)) → Calls Try.prog 8 #[.slice B 1 k] W fun e w' => e = .returned (.tuple #[.string ⟨#[]⟩, .int .i64 1400]) ∧ Hid (Later W w')) := fun W B k hB => iput_lit _ o1 (by show 1 * 112 ≤ 140737488351232; decide) _ _ ⟨#[]⟩ rfl b1 1 rfl _ W B k hB
        have h4 : Hid (∀ (W : World) (B : Option Addr) (k : Nat), Tr (fun _ => True) W B (F14 (zrs 1024)) → Calls Try.prog 8 #[.slice B 1 k] W fun e w' => ∃ t : ByteArray, e = .returned (.tuple #[.string t, .int .i64 0]) ∧ Hid (Later W w')) := fun W B k hB => (iput_is _ o2 (by show 1 * 112 ≤ 140737488351232; decide) _ _ b2 1 rfl _ W B k hB).mono fun e w' h => ⟨_, h⟩
        have h5 : Hid (∀ (W : World) (B C : Option Addr) (k k' : Nat), Lst W B l.length (fun j => l.getD j 0) → Lst W C l.length (fun j => l.getD j 0) → Calls Try.prog 12 #[.slice B l.length k, .slice C l.length k'] W fun e w' => e = .returned (.bool true) ∧ Later W w') := fun W B C k k' hB hC => same_any B C l.length k k' _ (by omega) W hB hC
        generalize strOfNums (ltB (.cons 14 0 0 0 0 l .nil .nil .nil) ++ [11]) = S1 at *
        have hl0 : ((l.length : Int) == 0) = false := beq_eq_false_iff_ne.2 (by omega)
        have hl00 : ¬ l.length = 0 := by omega
        have hT : Hid (Tr (fun _ => True) (wr.alloc (.cells #[.int .i64 14, .int .i64 0, .int .i64 0, .int .i64 0, .int .i64 0, .slice A' l.length cap', .slice none 0 0, .slice none 0 0] 27)) (some ⟨wr.heap.size, 0, none⟩) (F14 l)) := tr_lit (ls := l) (bo := .nil) (el := .nil) rfl rfl rfl (Lz _) (hQ.later (La (Lz _))) (Or.inl rfl) (Or.inl rfl) trivial
        replace hQ : Hid (Lq (fun _ => True) wr A' l) := hQ
        replace hw : Hid (∀ x ∈ l, Wd x) := hw
        clear hpu hun hm hok b1 b2 o1 o2 wz
        rcases hcond with hc1 | ⟨hc1, hc2⟩
        all_goals
          go_wp2_with fail
          refine (h1.out _ _ _ hT.out).mono ?_
          clear h1 hT
          rintro e w2 ⟨rfl, l2⟩
          go_wp2_with fail
          refine (h2.out _).mono ?_
          clear h2
          rintro e w3 ⟨A3, c3, rfl, T3, l3⟩
          go_wp2_with fail
          refine calls_world ?_
          intro W4 hW4
          have L34 : Hid (Later w3 W4) := by rw [hW4]; exact (by repeat first | exact Lz _ | apply La)
          have T4 : Tr (fun _ => True) W4 (some ⟨w3.heap.size + 1, 0, none⟩) (F14 (zrs 1025)) := by
            have := tr_lit (W' := W4) (Z := fun _ => True) (ls := zrs 1025) (bo := .nil) (el := .nil) (m1 := 1025) (by rw [zrs_len]) rfl rfl (by rw [hW4]; exact Lz _) (made_lq 1025 w3 W4 (by rw [hW4]; exact La (Lz _))) (Or.inl rfl) (Or.inl rfl) trivial
            simpa [F14] using this
          clear hW4
          refine (h3.out _ _ _ T4).mono ?_
          clear h3 T4
          rintro e w4 ⟨rfl, l4⟩
          go_wp2_with fail
          refine calls_world ?_
          intro W5 hW5
          have L45 : Hid (Later w4 W5) := by rw [hW5]; exact (by repeat first | exact Lz _ | apply La)
          have T5 : Tr (fun _ => True) W5 (some ⟨w4.heap.size + 1, 0, none⟩) (F14 (zrs 1024)) := by
            have := tr_lit (W' := W5) (Z := fun _ => True) (ls := zrs 1024) (bo := .nil) (el := .nil) (m1 := 1024) (by rw [zrs_len]) rfl rfl (by rw [hW5]; exact Lz _) (made_lq 1024 w4 W5 (by rw [hW5]; exact La (Lz _))) (Or.inl rfl) (Or.inl rfl) trivial
            simpa [F14] using this
          clear hW5
          refine (h4.out _ _ _ T5).mono ?_
          clear h4 T5
          rintro e w5 ⟨t5, rfl, l5⟩
          have L35 : Later w3 w5 := (L34.out.trans l4.out).trans (L45.out.trans l5.out)
          have Lr5 : Later wr w5 := ((La (Lz _)).trans l2.out).trans (l3.out.trans L35)
          have L05 : Hid (Later w w5) := (l0.out.trans hL.out).trans Lr5
          have Q5 := hQ.out.later Lr5
          obtain ⟨g, o1, rfl, _, hA⟩ := (T3.out.later L35).resolve_left (by simp [F14])
          obtain ⟨LA, lc, B, bc, E, ec, k0, k1, k2, k3, k4, k5, k6, k7, q5, _, _, _⟩ := (show At _ w5 g o1 (.cons 14 0 0 0 0 l .nil .nil .nil) from hA).head
          have hi := cell_lt k5
          have hs5 : Hid (Lst w5 LA l.length (fun j => l.getD j 0)) := q5.1
          have hs6 : Hid (Lst w5 A' l.length (fun j => l.getD j 0)) := Q5.1
          clear T3 hA L34 l4 L45 l5 L35 Lr5 q5 Q5 hQ hL l0 l2 l3 k0 k1 k2 k3 k4 k6 k7
          go_wp2_with (first | (go_at_call 9; refine (num_any _ _).mono ?_; rintro e w' ⟨rfl, hw⟩; have hw := hw.symm; subst hw) | (go_at_call 12; refine (h5.out _ _ _ _ _ hs5.out hs6.out).mono ?_; clear h5; rintro e w6 ⟨rfl, l6⟩))
          go_ret
          exact ⟨rfl, L05.out.trans l6⟩
theorem view_ints {H : Type} {enc : TypeId × Value → H} {W : World} {A : Option Addr} {n cap : Nat} {d : DataW H} {ps : List MemPlace} (h : DataW.Trod enc Try.prog W 0 (fun _ => true) true 23 (.slice A n cap) d ps) :
    ∃ f : Nat → Int, n = 0 ∨ ∃ g o, A = some ⟨g, o, none⟩ ∧ ∀ i, i < n → W.cell? ⟨g, o + i, none⟩ = some (.int .i64 (f i)) := by
  obtain ⟨fuel, hf⟩ := h
  rcases open_ints Try.underlying23 Try.underlying3 (by kernel_rfl) hf with ⟨hcs, hx⟩ | ⟨a, len', cap', zs, hcs, _, hl, hm, hz, hx, hcell, hwz⟩
  · simp [Value.cells] at hcs
    exact ⟨fun _ => 0, Or.inl hcs.2.1⟩
  · simp [Value.cells] at hcs
    obtain ⟨rfl, rfl, rfl⟩ := hcs
    simp only [if_true] at hz
    by_cases h0 : n = 0
    · exact ⟨fun _ => 0, Or.inl h0⟩
    · obtain ⟨b, off, spot⟩ := a
      have hspot : spot = none := by simpa [Addr.add] using World.cell?_spot (hcell 0 (by omega))
      subst hspot
      exact ⟨fun i => zs.getD i 0, Or.inr ⟨b, off, rfl, fun i hi => by rw [← iadd_of]; exact hcell i (by omega)⟩⟩
theorem walk (A : Option Addr) (n cap : Nat) (w : World) (hv : ∃ f : Nat → Int, n = 0 ∨ ∃ g o, A = some ⟨g, o, none⟩ ∧ ∀ i, i < n → w.cell? ⟨g, o + i, none⟩ = some (.int .i64 (f i))) :
    Calls Try.prog 5 #[.slice A n cap] w fun e w' => e = .returned (.bool true) ∧ Later w w' := by
  obtain ⟨f, hf⟩ := hv
  exact core A n cap f w hf

set_option maxRecDepth 100000 in
theorem lifted (os : Os) (started : os.Started) (H : Type) (enc : TypeId × Value → H) :
    ReturnsInHanded {} Try.checked os 5 .any (Rows.instrLabelsSpec.pre6 enc Try.prog Try.f5 Rows.instrLabelsRow.domain false) (Rows.instrLabelsSpec.post enc Try.prog Try.f5 false true false false) := by
  refine returnsInHanded_of_change_sized (C := Try.checked) own started (by kernel_rfl) Try.func5
    (ChangeSpec.witness6 (enc := enc) (C := Try.checked) false ⟨#[], #[.slice none 0 0], []⟩ 8 (by kernel_rfl) (by kernel_rfl) (by kernel_rfl) (by kernel_rfl)) ?_
  intro W base args ds gs before hval0 hW _ _ _
  have hval : ∀ (j : Nat) t v, Try.f5.params[j]? = some t → args[j]? = some v → Value.okWide Try.prog W .any base t v := hval0
  have hW' := hW
  obtain ⟨p, q, hA0, hV, rfl, hfz, hnd⟩ := hW
  have hA : DataW.TrodAll enc Try.prog W 0 (fun _ => true) true Try.f5.params.toList args.toList ds p := hA0
  rw [Try.params5] at hA hval
  obtain ⟨v0, vs0, d0, ds0, p0, q0, hargs, rfl, rfl, h0, r0⟩ := trodAll_cons hA
  obtain ⟨rfl, rfl, rfl⟩ := trodAll_nil r0
  obtain rfl : args = #[v0] := by cases args; simp_all
  obtain ⟨rfl, rfl⟩ := trodVars_none hV
  obtain ⟨A0, n0, c0, rfl⟩ := okWide_slice Try.underlying23 (hval 0 23 v0 rfl rfl)
  clear hA0 hval0
  simp only [List.append_nil, List.nil_append] at hW'
  have hlt : ∀ x ∈ p0, x.block < W.heap.size := fun x hx => by simpa using hW'.lt x hx
  refine (walk A0 n0 c0 W (view_ints h0)).mono fun e W' ⟨he, hl⟩ => ?_
  subst he
  have hbel : Below W.heap.size W W' := by obtain ⟨bs, nn, rfl⟩ := hl; exact ⟨rfl, rfl, rfl, by rw [World.far_size]; omega, fun k hk => World.far_block W bs nn k hk⟩
  have hx : ∀ sp : Nat → Bool, (∀ p ∈ p0, sp p.block = true) → DataW.TrodAll enc Try.prog W' 0 sp true [23] [.slice A0 n0 c0] [d0] (p0) := fun sp hsp => by simpa using (trodAll_cons_mk (WideElems.Trod_stays (by kernel_rfl) (by kernel_rfl) (of_decide_eq_true (by kernel_rfl)) h0 (fun x hx => hbel.same (hlt x (by simp [hx]))) (fun x hx => hsp x (by simp [hx]))) trodAll_mk0)
  exact ⟨_, rfl, post_kept (pa := p0) (pv := []) hW' (fun _ _ _ => (trodAll_cons_mk (shut_bool Try.underlying4 _) trodAll_mk0)) (fun sp hsp => hx sp hsp) (fun _ _ => rfl) (by simp) (hbel.frame _) hbel.block (ok_one (by kernel_rfl) rfl (okWide_bool_mk Try.underlying4 _))⟩

theorem over : Rows.instrLabelsRow.holds Try.pinned (OpenSpec.ofChange Rows.instrLabelsSpec) :=
  OpenClaim.holds_of_wide 5 Try.f5 rfl rfl rfl rfl rfl rfl rfl ⟨rfl, rfl, rfl, rfl, rfl⟩ rfl rfl rfl rfl rfl (by kernel_rfl) Try.func5 (by kernel_rfl)
    (of_decide_eq_true (by kernel_rfl)) (by unfold Func.isWrapper; first | (rw [if_pos (by decide +kernel)]; kernel_rfl) | (rw [if_neg (by decide +kernel)]; exact ⟨rfl, rfl⟩))
    (fun os started H enc _ => lifted os started H enc)


theorem proved : Rows.InstrLabelsSaid := over
end Go.Proofs.Ytkdfmgdadnlnlab.instrLabels
namespace Go.Proofs.Ytkdfmgdadnlnlab
theorem instrLabels_holds : Rows.InstrLabelsSaid := instrLabels.proved
#print axioms instrLabels_holds
end Go.Proofs.Ytkdfmgdadnlnlab
