/- Over this seat's translation: Load of the document's memory. -/
import Derived.Test.YtbbjbgbpjhhcoaaDoorMR
set_option linter.unusedVariables false
set_option linter.unusedSimpArgs false
set_option maxRecDepth 100000
set_option maxHeartbeats 8000000
namespace Go.Proofs.YtbbjbgbpjhhcoaaDoor
open Go.RowKit Go.BY
theorem wd_top (f : Nat → Nat) : ∀ (k c : Nat), wd f c (k + 1) = f c + 256 * wd f (c + 1) k
  | 0, c => by simp [wd]
  | k + 1, c => by
    have ih := wd_top f k c
    rw [wd, ih, wd, Nat.pow_succ, show c + 1 + k = c + (k + 1) by omega, Nat.mul_add, Nat.mul_comm (256 ^ k) 256, ← Nat.mul_assoc, Nat.mul_comm (f (c + (k + 1))) 256, Nat.mul_assoc]
    omega
theorem or_byte (V x : Nat) (hx : x < 256) : bits .or .i64 (wrap64 (wrap64 (V : Int) * 256)) (wrap64 (x : Int)) = wrap64 ((x + 256 * V : Nat) : Int) := by
  rw [BM.or_i64]
  have e1 : (wrap64 (wrap64 (V : Int) * 256) % 18446744073709551616).toNat = (V % 72057594037927936) * 256 := by simp only [wrap64]; omega
  have e2 : (wrap64 (x : Int) % 18446744073709551616).toNat = x := by simp only [wrap64]; omega
  rw [e1, e2]
  have h := lor_step x (V % 72057594037927936) 1 (by simpa using hx)
  rw [Nat.or_comm, show (256 : Nat) = 256 ^ 1 by decide, h]
  simp only [wrap64]
  omega
theorem rload_op (p : Nat) (op at_ off : Int) (h : op < 40 ∨ 53 < op) (w : World) :
    Calls Tryd.prog 16 #[.pointer (some ⟨p, 0, none⟩), .int .i64 op, .int .i64 at_, .int .i64 off] w fun e w' => e = .returned (.tuple #[.int .i64 0, .int .i64 800]) ∧ Later w w' := by
  rcases h with h | h
  · go_enter Tryd.func16, Tryd.ntmps16
    go_wp2
    go_ret2
    exact ⟨rfl, Lz _⟩
  · have h' : ¬ op < 40 := by omega
    have h2 : 54 ≤ op := by omega
    go_enter Tryd.func16, Tryd.ntmps16
    go_wp2
    go_ret2
    exact ⟨rfl, Lz _⟩
theorem rload_addr (p : Nat) (op at_ off : Int) (h : 40 ≤ op ∧ op ≤ 53) (r1 r2 : Bool) (h1 : decide (0 ≤ at_ ∧ at_ ≤ 4294967295) = r1) (h2 : decide (0 ≤ off ∧ off ≤ 4294967295) = r2) (hr : (r1 && r2) = false) (w : World) :
    Calls Tryd.prog 16 #[.pointer (some ⟨p, 0, none⟩), .int .i64 op, .int .i64 at_, .int .i64 off] w fun e w' => e = .returned (.tuple #[.int .i64 0, .int .i64 800]) ∧ Later w w' := by
  have k1 : ¬ op < 40 := by omega
  have k2 : ¬ 54 ≤ op := by omega
  replace h1 : Hid (decide (0 ≤ at_ ∧ at_ ≤ 4294967295) = r1) := h1
  replace h2 : Hid (decide (0 ≤ off ∧ off ≤ 4294967295) = r2) := h2
  cases r1 <;> cases r2 <;> simp at hr
  all_goals
    go_enter Tryd.func16, Tryd.ntmps16
    go_wp2_with (first | (go_at_call_of 31 at_; refine (word_is _ _ h1.out _).mono ?_; rintro e w' ⟨rfl, rfl⟩) | (go_at_call_of 31 off; refine (word_is _ _ h2.out _).mono ?_; rintro e w' ⟨rfl, rfl⟩))
    go_ret2
    exact ⟨rfl, Lz _⟩
theorem rload_out (T : TypeId) (p b n k a o : Nat) (most : Int) (f : Nat → Nat) (hk : k < 14) (h1 : a < 4294967296) (h2 : o < 4294967296) (w : World) (hm : Hid (Mem T w p b n most f)) (hfit : ¬ a + o + (ldAt k).1 ≤ n) :
    Calls Tryd.prog 16 #[.pointer (some ⟨p, 0, none⟩), .int .i64 ((40 + k : Nat) : Int), .int .i64 (a : Nat), .int .i64 (o : Nat)] w fun e w' => e = .returned (.tuple #[.int .i64 0, .int .i64 801]) ∧ Later w w' := by
  have e1 : Hid (decide ((0 : Int) ≤ (a : Int) ∧ (a : Int) ≤ 4294967295) = true) := decide_eq_true (by omega)
  have e2 : Hid (decide ((0 : Int) ≤ (o : Int) ∧ (o : Int) ≤ 4294967295) = true) := decide_eq_true (by omega)
  have hz : szR k = (ldAt k).1 := if_pos hk
  have hpl : Hid (Calls Tryd.prog 32 #[.pointer (some ⟨p, 0, none⟩), .int .i64 (40 + (k : Int)), .int .i64 (a : Nat), .int .i64 (o : Nat)] w fun e w' => e = .returned (.int .i64 (-1)) ∧ Later w w') :=
    place_in T p b n most f k a o (by omega) _ (by omega) h1 h2 w hm (-1) (by rw [hz, if_neg hfit])
  have k1 : ¬ 40 + (k : Int) < 40 := by omega
  have k2 : ¬ 54 ≤ 40 + (k : Int) := by omega
  clear hm hz
  go_enter Tryd.func16, Tryd.ntmps16
  go_wp2_with (first | (go_at_call 31; refine (word_is _ true (by first | exact e1.out | exact e2.out) _).mono ?_; rintro e w' ⟨rfl, rfl⟩) | (go_at_call 32; refine hpl.out.mono ?_; rintro e w1 ⟨rfl, bs, m, rfl⟩))
  go_ret2
  exact ⟨rfl, Lv (Lz _)⟩
theorem ext_is (V n : Nat) (hn : n = 1 ∨ n = 2 ∨ n = 4) (hV : V < 256 ^ n) (m : Int) (hm : m = ((8 * n : Nat) : Int)) (w : World) :
    Calls Tryd.prog 37 #[.int .i64 (V : Int), .int .i64 m] w fun e w' => e = .returned (.int .i64 (sx n V)) ∧ w' = w := by
  subst hm
  rcases hn with rfl | rfl | rfl
  · have hb := BM.and1 ((V : Int) / 128)
    have hV2 : (V : Int) < 256 := by simp only [Nat.reducePow] at hV; omega
    unfold sx
    by_cases h : 2 ^ (8 * 1 - 1) ≤ V
    all_goals
      first | rw [if_pos h] | rw [if_neg h]
      have hq : (V : Int) / 128 % 2 = if 2 ^ (8 * 1 - 1) ≤ V then 1 else 0 := by
        simp only [Nat.reducePow, Nat.reduceMul, Nat.reduceSub] at *
        split <;> omega
      first | rw [if_pos h] at hq | rw [if_neg h] at hq
      clear h hV
      go_enter Tryd.func37, Tryd.ntmps37
      go_wp2
      go_ret
      exact ⟨by first | rfl | simp, rfl⟩
  · have hb := BM.and1 ((V : Int) / 32768)
    have hV2 : (V : Int) < 65536 := by simp only [Nat.reducePow] at hV; omega
    unfold sx
    by_cases h : 2 ^ (8 * 2 - 1) ≤ V
    all_goals
      first | rw [if_pos h] | rw [if_neg h]
      have hq : (V : Int) / 32768 % 2 = if 2 ^ (8 * 2 - 1) ≤ V then 1 else 0 := by
        simp only [Nat.reducePow, Nat.reduceMul, Nat.reduceSub] at *
        split <;> omega
      first | rw [if_pos h] at hq | rw [if_neg h] at hq
      clear h hV
      go_enter Tryd.func37, Tryd.ntmps37
      go_wp2
      go_ret
      exact ⟨by first | rfl | simp, rfl⟩
  · have hb := BM.and1 ((V : Int) / 2147483648)
    have hV2 : (V : Int) < 4294967296 := by simp only [Nat.reducePow] at hV; omega
    unfold sx
    by_cases h : 2 ^ (8 * 4 - 1) ≤ V
    all_goals
      first | rw [if_pos h] | rw [if_neg h]
      have hq : (V : Int) / 2147483648 % 2 = if 2 ^ (8 * 4 - 1) ≤ V then 1 else 0 := by
        simp only [Nat.reducePow, Nat.reduceMul, Nat.reduceSub] at *
        split <;> omega
      first | rw [if_pos h] at hq | rw [if_neg h] at hq
      clear h hV
      go_enter Tryd.func37, Tryd.ntmps37
      go_wp2
      go_ret
      exact ⟨by first | rfl | simp, rfl⟩
theorem rload_v (T : TypeId) (p b n k a o : Nat) (most : Int) (f : Nat → Nat) (hk : k < 14) (h1 : a < 4294967296) (h2 : o < 4294967296) (w : World) (hm : Hid (Mem T w p b n most f)) (sz V : Nat) (s wi : Bool) (hL : Hid (ldAt k = (sz, s, wi))) (hfit : a + o + sz ≤ n) (hVe : Hid (V = wd f (a + o) sz)) (R : Int) (hR : Hid (R = lv sz s wi V)) :
    Calls Tryd.prog 16 #[.pointer (some ⟨p, 0, none⟩), .int .i64 ((40 + k : Nat) : Int), .int .i64 (a : Nat), .int .i64 (o : Nat)] w fun e w' => e = .returned (.tuple #[.int .i64 R, .int .i64 0]) ∧ Later w w' := by
  have e1 : Hid (decide ((0 : Int) ≤ (a : Int) ∧ (a : Int) ≤ 4294967295) = true) := decide_eq_true (by omega)
  have e2 : Hid (decide ((0 : Int) ≤ (o : Int) ∧ (o : Int) ≤ 4294967295) = true) := decide_eq_true (by omega)
  have hz : szR k = sz := by unfold szR; rw [if_pos hk, hL.out]
  have hpl : Hid (Calls Tryd.prog 32 #[.pointer (some ⟨p, 0, none⟩), .int .i64 (40 + (k : Int)), .int .i64 (a : Nat), .int .i64 (o : Nat)] w fun e w' => e = .returned (.int .i64 ((a : Int) + (o : Int))) ∧ Later w w') :=
    place_in T p b n most f k a o (by omega) _ (by omega) h1 h2 w hm _ (by rw [hz, if_pos hfit]; omega)
  have hsz : Hid (∀ w', Calls Tryd.prog 24 #[.int .i64 (40 + (k : Int))] w' fun e w2 => e = .returned (.int .i64 (sz : Nat)) ∧ Later w' w2) := fun w' => sz_any k (by omega) _ _ (by omega) (by rw [if_pos hk, hL.out]) w'
  have k1 : ¬ 40 + (k : Int) < 40 := by omega
  have k2 : ¬ 54 ≤ 40 + (k : Int) := by omega
  have k0 : ¬ (a : Int) + (o : Int) < 0 := by omega
  have hn := hm.out.2.2.2.2
  obtain ⟨f1, f2, f3⟩ := ld_facts k hk
  rw [hL.out] at f1 f2 f3
  simp only at f1 f2 f3
  replace f3 : Hid _ := f3
  clear hz
  go_enter Tryd.func16, Tryd.ntmps16
  go_wp2_with (go_at_call 31; refine (word_is _ true (by first | exact e1.out | exact e2.out) _).mono ?_; rintro e w' ⟨rfl, rfl⟩)
  refine hpl.out.mono ?_
  rintro e w1 ⟨rfl, hl1⟩
  clear hpl
  go_wp2_with fail
  refine (hsz.out _).mono ?_
  rintro e w2 ⟨rfl, hl2⟩
  clear hsz
  have hl3 := hl1.trans hl2
  have hm2 := hm.out.later hl3
  have hcs := hm2.c0
  have hby := hm2.by_
  have hf := hm2.2.2.2.1
  replace hl3 : Hid (Later _ w2) := hl3
  replace hl1 : Hid True := trivial
  replace hl2 : Hid True := trivial
  clear hm2 hm
  go_wp2
  go_loopw [12, 13] (fun v i wr => ∃ c : Nat, c ≤ sz ∧ i = .int .i64 ((c : Int) - 1) ∧ v = .int .i64 (wrap64 ((wd f (a + o + c) (sz - c) : Nat) : Int)) ∧ wr = w2) (fun _ i _ => (intOf i + 1).toNat)
  case atStart => exact ⟨sz, Nat.le_refl _, rfl, by rw [Nat.sub_self]; simp [wd, wrap64], rfl⟩
  case round =>
    obtain ⟨c, hcl, rfl, rfl, rfl⟩ := hrel
    cases c with
    | succ d =>
      have hd : ((d + 1 : Nat) : Int) - 1 = (d : Int) := by omega
      rw [hd]
      have hcb := hby (a + o + d) (by omega)
      have hob := or_byte (wd f (a + o + (d + 1)) (sz - (d + 1))) (f (a + o + d)) (hf _)
      have hst : f (a + o + d) + 256 * wd f (a + o + (d + 1)) (sz - (d + 1)) = wd f (a + o + d) (sz - d) := by
        rw [show sz - d = (sz - (d + 1)) + 1 by omega, wd_top]; rfl
      rw [hst] at hob
      clear hst
      generalize wd f (a + o + (d + 1)) (sz - (d + 1)) = X at *
      go_wp2
      go_roundw
      case rel => exact ⟨d, by omega, by go_num, rfl, trivial⟩
      case measure => simp [intOf]
    | zero =>
      have hVl : Hid (V < 256 ^ sz) := by rw [hVe.out]; exact wd_lt f (a + o) hf sz
      rw [Nat.sub_zero, Nat.add_zero, ← hVe.out]
      clear hby hf hfit hcl hVe
      rcases (by omega : k = 0 ∨ k = 1 ∨ k = 2 ∨ k = 3 ∨ k = 4 ∨ k = 5 ∨ k = 6 ∨ k = 7 ∨ k = 8 ∨ k = 9 ∨ k = 10 ∨ k = 11 ∨ k = 12 ∨ k = 13) with rfl | rfl | rfl | rfl | rfl | rfl | rfl | rfl | rfl | rfl | rfl | rfl | rfl | rfl
      · obtain ⟨rfl, rfl, rfl⟩ : sz = 4 ∧ s = false ∧ wi = false := by have h := hL.out; simp [ldAt, ldTab] at h; exact ⟨h.1.symm, by simpa using h.2.1, by simpa using h.2.2⟩
        have hV2 : V < 4294967296 := hVl.out
        have hw : wrap64 (V : Int) = (V : Int) := by simp only [wrap64]; omega
        clear hVl
        go_wp2
        go_ret2
        refine ⟨?_, hl3.out⟩
        rw [hR.out]
        simp only [lv, Bool.false_eq_true, if_false, if_true]
        rw [hw]
        rw [Int.emod_eq_of_lt (by omega) (by omega)]
        rfl
      · obtain ⟨rfl, rfl, rfl⟩ : sz = 8 ∧ s = false ∧ wi = true := by have h := hL.out; simp [ldAt, ldTab] at h; exact ⟨h.1.symm, by simpa using h.2.1, by simpa using h.2.2⟩
        go_wp2
        go_ret2
        refine ⟨?_, hl3.out⟩
        rw [hR.out]
        simp only [lv, Bool.false_eq_true, if_false, if_true]
        try rfl
      · obtain ⟨rfl, rfl, rfl⟩ : sz = 4 ∧ s = false ∧ wi = false := by have h := hL.out; simp [ldAt, ldTab] at h; exact ⟨h.1.symm, by simpa using h.2.1, by simpa using h.2.2⟩
        have hV2 : V < 4294967296 := hVl.out
        have hw : wrap64 (V : Int) = (V : Int) := by simp only [wrap64]; omega
        clear hVl
        go_wp2
        go_ret2
        refine ⟨?_, hl3.out⟩
        rw [hR.out]
        simp only [lv, Bool.false_eq_true, if_false, if_true]
        rw [hw]
        rw [Int.emod_eq_of_lt (by omega) (by omega)]
        rfl
      · obtain ⟨rfl, rfl, rfl⟩ : sz = 8 ∧ s = false ∧ wi = true := by have h := hL.out; simp [ldAt, ldTab] at h; exact ⟨h.1.symm, by simpa using h.2.1, by simpa using h.2.2⟩
        go_wp2
        go_ret2
        refine ⟨?_, hl3.out⟩
        rw [hR.out]
        simp only [lv, Bool.false_eq_true, if_false, if_true]
        try rfl
      · obtain ⟨rfl, rfl, rfl⟩ : sz = 1 ∧ s = true ∧ wi = false := by have h := hL.out; simp [ldAt, ldTab] at h; exact ⟨h.1.symm, by simpa using h.2.1, by simpa using h.2.2⟩
        have hV2 : V < 256 := hVl.out
        have hw : wrap64 (V : Int) = (V : Int) := by simp only [wrap64]; omega
        clear hVl
        rw [hw]
        clear hw
        go_wp2_with (first | (go_at_call 37; refine (ext_is V 1 (by omega) (by simpa using hV2) _ rfl _).mono ?_; rintro e w8 ⟨rfl, rfl⟩) | (go_at_call 36; refine (rlow_any _ _).mono ?_; rintro e w9 ⟨rfl, rfl⟩))
        go_ret2
        refine ⟨?_, hl3.out⟩
        rw [hR.out]
        simp only [lv, Bool.false_eq_true, if_false, if_true]
        try rfl
      · obtain ⟨rfl, rfl, rfl⟩ : sz = 1 ∧ s = false ∧ wi = false := by have h := hL.out; simp [ldAt, ldTab] at h; exact ⟨h.1.symm, by simpa using h.2.1, by simpa using h.2.2⟩
        have hV2 : V < 256 := hVl.out
        have hw : wrap64 (V : Int) = (V : Int) := by simp only [wrap64]; omega
        clear hVl
        go_wp2
        go_ret2
        refine ⟨?_, hl3.out⟩
        rw [hR.out]
        simp only [lv, Bool.false_eq_true, if_false, if_true]
        rw [hw]
        rw [Int.emod_eq_of_lt (by omega) (by omega)]
        rfl
      · obtain ⟨rfl, rfl, rfl⟩ : sz = 2 ∧ s = true ∧ wi = false := by have h := hL.out; simp [ldAt, ldTab] at h; exact ⟨h.1.symm, by simpa using h.2.1, by simpa using h.2.2⟩
        have hV2 : V < 65536 := hVl.out
        have hw : wrap64 (V : Int) = (V : Int) := by simp only [wrap64]; omega
        clear hVl
        rw [hw]
        clear hw
        go_wp2_with (first | (go_at_call 37; refine (ext_is V 2 (by omega) (by simpa using hV2) _ rfl _).mono ?_; rintro e w8 ⟨rfl, rfl⟩) | (go_at_call 36; refine (rlow_any _ _).mono ?_; rintro e w9 ⟨rfl, rfl⟩))
        go_ret2
        refine ⟨?_, hl3.out⟩
        rw [hR.out]
        simp only [lv, Bool.false_eq_true, if_false, if_true]
        try rfl
      · obtain ⟨rfl, rfl, rfl⟩ : sz = 2 ∧ s = false ∧ wi = false := by have h := hL.out; simp [ldAt, ldTab] at h; exact ⟨h.1.symm, by simpa using h.2.1, by simpa using h.2.2⟩
        have hV2 : V < 65536 := hVl.out
        have hw : wrap64 (V : Int) = (V : Int) := by simp only [wrap64]; omega
        clear hVl
        go_wp2
        go_ret2
        refine ⟨?_, hl3.out⟩
        rw [hR.out]
        simp only [lv, Bool.false_eq_true, if_false, if_true]
        rw [hw]
        rw [Int.emod_eq_of_lt (by omega) (by omega)]
        rfl
      · obtain ⟨rfl, rfl, rfl⟩ : sz = 1 ∧ s = true ∧ wi = true := by have h := hL.out; simp [ldAt, ldTab] at h; exact ⟨h.1.symm, by simpa using h.2.1, by simpa using h.2.2⟩
        have hV2 : V < 256 := hVl.out
        have hw : wrap64 (V : Int) = (V : Int) := by simp only [wrap64]; omega
        clear hVl
        rw [hw]
        clear hw
        go_wp2_with (first | (go_at_call 37; refine (ext_is V 1 (by omega) (by simpa using hV2) _ rfl _).mono ?_; rintro e w8 ⟨rfl, rfl⟩) | (go_at_call 36; refine (rlow_any _ _).mono ?_; rintro e w9 ⟨rfl, rfl⟩))
        go_ret2
        refine ⟨?_, hl3.out⟩
        rw [hR.out]
        simp only [lv, Bool.false_eq_true, if_false, if_true]
        try rfl
      · obtain ⟨rfl, rfl, rfl⟩ : sz = 1 ∧ s = false ∧ wi = true := by have h := hL.out; simp [ldAt, ldTab] at h; exact ⟨h.1.symm, by simpa using h.2.1, by simpa using h.2.2⟩
        have hV2 : V < 256 := hVl.out
        have hw : wrap64 (V : Int) = (V : Int) := by simp only [wrap64]; omega
        clear hVl
        go_wp2
        go_ret2
        refine ⟨?_, hl3.out⟩
        rw [hR.out]
        simp only [lv, Bool.false_eq_true, if_false, if_true]
        rw [hw]
        rfl
      · obtain ⟨rfl, rfl, rfl⟩ : sz = 2 ∧ s = true ∧ wi = true := by have h := hL.out; simp [ldAt, ldTab] at h; exact ⟨h.1.symm, by simpa using h.2.1, by simpa using h.2.2⟩
        have hV2 : V < 65536 := hVl.out
        have hw : wrap64 (V : Int) = (V : Int) := by simp only [wrap64]; omega
        clear hVl
        rw [hw]
        clear hw
        go_wp2_with (first | (go_at_call 37; refine (ext_is V 2 (by omega) (by simpa using hV2) _ rfl _).mono ?_; rintro e w8 ⟨rfl, rfl⟩) | (go_at_call 36; refine (rlow_any _ _).mono ?_; rintro e w9 ⟨rfl, rfl⟩))
        go_ret2
        refine ⟨?_, hl3.out⟩
        rw [hR.out]
        simp only [lv, Bool.false_eq_true, if_false, if_true]
        try rfl
      · obtain ⟨rfl, rfl, rfl⟩ : sz = 2 ∧ s = false ∧ wi = true := by have h := hL.out; simp [ldAt, ldTab] at h; exact ⟨h.1.symm, by simpa using h.2.1, by simpa using h.2.2⟩
        have hV2 : V < 65536 := hVl.out
        have hw : wrap64 (V : Int) = (V : Int) := by simp only [wrap64]; omega
        clear hVl
        go_wp2
        go_ret2
        refine ⟨?_, hl3.out⟩
        rw [hR.out]
        simp only [lv, Bool.false_eq_true, if_false, if_true]
        rw [hw]
        rfl
      · obtain ⟨rfl, rfl, rfl⟩ : sz = 4 ∧ s = true ∧ wi = true := by have h := hL.out; simp [ldAt, ldTab] at h; exact ⟨h.1.symm, by simpa using h.2.1, by simpa using h.2.2⟩
        have hV2 : V < 4294967296 := hVl.out
        have hw : wrap64 (V : Int) = (V : Int) := by simp only [wrap64]; omega
        clear hVl
        rw [hw]
        clear hw
        go_wp2_with (first | (go_at_call 37; refine (ext_is V 4 (by omega) (by simpa using hV2) _ rfl _).mono ?_; rintro e w8 ⟨rfl, rfl⟩) | (go_at_call 36; refine (rlow_any _ _).mono ?_; rintro e w9 ⟨rfl, rfl⟩))
        go_ret2
        refine ⟨?_, hl3.out⟩
        rw [hR.out]
        simp only [lv, Bool.false_eq_true, if_false, if_true]
        try rfl
      · obtain ⟨rfl, rfl, rfl⟩ : sz = 4 ∧ s = false ∧ wi = true := by have h := hL.out; simp [ldAt, ldTab] at h; exact ⟨h.1.symm, by simpa using h.2.1, by simpa using h.2.2⟩
        have hV2 : V < 4294967296 := hVl.out
        have hw : wrap64 (V : Int) = (V : Int) := by simp only [wrap64]; omega
        clear hVl
        go_wp2
        go_ret2
        refine ⟨?_, hl3.out⟩
        rw [hR.out]
        simp only [lv, Bool.false_eq_true, if_false, if_true]
        rw [hw]
        rfl
theorem rload_in (T : TypeId) (p b n k a o : Nat) (most : Int) (f : Nat → Nat) (hk : k < 14) (h1 : a < 4294967296) (h2 : o < 4294967296) (w : World) (hm : Hid (Mem T w p b n most f)) (hfit : a + o + (ldAt k).1 ≤ n) :
    Calls Tryd.prog 16 #[.pointer (some ⟨p, 0, none⟩), .int .i64 ((40 + k : Nat) : Int), .int .i64 (a : Nat), .int .i64 (o : Nat)] w fun e w' => e = .returned (.tuple #[.int .i64 (lv (ldAt k).1 (ldAt k).2.1 (ldAt k).2.2 (wd f (a + o) (ldAt k).1)), .int .i64 0]) ∧ Later w w' :=
  rload_v T p b n k a o most f hk h1 h2 w hm _ _ _ _ rfl hfit rfl _ rfl
end Go.Proofs.YtbbjbgbpjhhcoaaDoor
