/- 'DecodeCustoms' of package peloruslaw15 returns true at every three texts and an int: sections of bytes put in between the others turn nothing of a module. No condition. -/
import Derived.Test.YtngciahmoenkiaaFC
import Derived.Test.YtngciahmoenkiaaFCu
import Derived.Test.YtngciahmoenkiaaFZ
import Derived.LoopTactic
import Derived.OpenShut
import Derived.ChangeMaps5
import Derived.ShutString
import Derived.SizedLaws
set_option linter.unusedVariables false
set_option linter.unusedSimpArgs false
set_option maxRecDepth 100000
set_option maxHeartbeats 8000000
namespace Go.Proofs.Ytngciahmoenkiaa.decodeCustoms
open Go.ChangeShapes Go.WideShapes Go.ChangeAt Go.RowKit
theorem bz {n a b c : Nat} (h : n = a + b + c) : (a : Int) + (b : Int) + (c : Int) = (n : Int) := by omega
theorem cus_size {s t : ByteArray} {M : Md} {C k i q : Nat} (h : Cus s M C t k i q) (hs : s.size ≤ 60000) (hC : C ≤ 1100) : t.size ≤ 70000 := by
  obtain ⟨h1, h2, h3, h4, _⟩ := h
  split at h4 <;> omega
theorem bad (s : ByteArray) (hs : s.size ≤ 140737488351232) (nm : ByteArray) (hnm : nm.size ≤ 140737488351232) (ex : ByteArray) (hex : ex.size ≤ 140737488351232) (at_ : Int) (c : Int) (hc : ¬ c = 0) (hr : unM s = (mdZ 0, c)) (w : World) :
    Calls Try.prog 3 #[.string s, .string nm, .string ex, .int .i64 at_] w fun e w' => e = .returned (.bool true) ∧ Later w w' := by
  have hm1 : Hid (∀ W, Calls Try.prog 9 #[.string s] W (DzP W c)) := dm_zero (by omega) hr
  have hc2 : (c != 0) = true := by simpa using hc
  clear hr
  have hn : Hid (∀ x W, Calls Try.prog 10 #[.int .i64 x] W fun e w' => e = .returned (.int .i64 x) ∧ w' = W) := lnum_any
  go_enter Try.func3, Try.ntmps3
  go_wp2_with (go_at_call 8; refine (awake_any _).mono ?_; rintro e w0 ⟨rfl, l0⟩; replace l0 : Hid (Later w w0) := l0.out)
  refine (hm1.out _).mono ?_
  clear hm1
  rintro e w1 ⟨A1, c1, rfl, C1, l1⟩
  have L1 : Hid (Later w w1) := l0.out.trans l1.out
  clear l0
  have hz : Hid (∀ W, Later w1 W → _) := same_zero C1
  clear C1 l1
  go_wp2_with (first | (go_at_call 10; refine (hn.out _ _).mono ?_; rintro e W ⟨rfl, hw⟩; subst hw) | (go_at_call 12; refine (hz.out _ (by repeat first | exact Lz _ | apply La | apply Ld)).mono ?_; clear hz; rintro e w4 ⟨rfl, l4⟩; replace l4 : Hid _ := l4))
  go_ret
  exact ⟨rfl, L1.out.trans (Later.trans (by repeat first | exact Lz _ | apply La | apply Ld) l4.out)⟩
theorem off (s : ByteArray) (hs : s.size ≤ 140737488351232) (nm : ByteArray) (hnm : nm.size ≤ 140737488351232) (ex : ByteArray) (hex : ex.size ≤ 140737488351232) (at_ : Int) (hr : (unM s).2 = 0) (h : 60000 < s.size ∨ (s.size ≤ 60000 ∧ mayN nm = false) ∨ (s.size ≤ 60000 ∧ mayN nm = true ∧ 1000 < ex.size)) (w : World) :
    Calls Try.prog 3 #[.string s, .string nm, .string ex, .int .i64 at_] w fun e w' => e = .returned (.bool true) ∧ Later w w' := by
  have hm1 : Hid (∀ W, Calls Try.prog 9 #[.string s] W (DcP W 0)) := dm_code (by omega) hr
  clear hr
  rcases h with h | ⟨h, h2⟩ | ⟨h, h2, h3⟩
  · have q1 : (60000 : Int) < (s.size : Int) := by omega
    have hmay : Hid True := trivial
    have hn : Hid (∀ x W, Calls Try.prog 10 #[.int .i64 x] W fun e w' => e = .returned (.int .i64 x) ∧ w' = W) := lnum_any
    go_enter Try.func3, Try.ntmps3
    go_wp2_with (go_at_call 8; refine (awake_any _).mono ?_; rintro e w0 ⟨rfl, l0⟩; replace l0 : Hid (Later w w0) := l0.out)
    refine (hm1.out _).mono ?_
    clear hm1
    rintro e w1 ⟨A1, n1, c1, st1, rfl, l1⟩
    have L1 : Hid (Later w w1) := l0.out.trans l1.out
    clear l0
    clear l1
    go_wp2_with (first | (go_at_call 10; refine (hn.out _ _).mono ?_; rintro e W ⟨rfl, hw⟩; subst hw) | (go_at_call 11; refine (hmay.out _).mono ?_; clear hmay; rintro e W ⟨rfl, hw⟩; subst hw))
    go_ret
    exact ⟨rfl, La L1.out⟩
  · have q1 : ¬ (60000 : Int) < (s.size : Int) := by omega
    have q2 : decide ((60000 : Int) < (s.size : Int)) = false := decide_eq_false q1
    have q3 : decide (60000 < s.size) = false := decide_eq_false (by omega)
    have hmay : Hid (∀ W, Calls Try.prog 11 #[.string nm] W fun e w' => e = .returned (.bool false) ∧ w' = W) := fun W => by have t := namemay_any nm (by omega) W; rw [h2] at t; exact t
    have hn : Hid (∀ x W, Calls Try.prog 10 #[.int .i64 x] W fun e w' => e = .returned (.int .i64 x) ∧ w' = W) := lnum_any
    go_enter Try.func3, Try.ntmps3
    go_wp2_with (go_at_call 8; refine (awake_any _).mono ?_; rintro e w0 ⟨rfl, l0⟩; replace l0 : Hid (Later w w0) := l0.out)
    refine (hm1.out _).mono ?_
    clear hm1
    rintro e w1 ⟨A1, n1, c1, st1, rfl, l1⟩
    have L1 : Hid (Later w w1) := l0.out.trans l1.out
    clear l0
    clear l1
    go_wp2_with (first | (go_at_call 10; refine (hn.out _ _).mono ?_; rintro e W ⟨rfl, hw⟩; subst hw) | (go_at_call 11; refine (hmay.out _).mono ?_; clear hmay; rintro e W ⟨rfl, hw⟩; subst hw))
    go_ret
    exact ⟨rfl, La L1.out⟩
  · have q1 : ¬ (60000 : Int) < (s.size : Int) := by omega
    have q2 : decide ((60000 : Int) < (s.size : Int)) = false := decide_eq_false q1
    have q3 : decide (60000 < s.size) = false := decide_eq_false (by omega)
    have q4 : (1000 : Int) < (ex.size : Int) := by omega
    have hmay : Hid (∀ W, Calls Try.prog 11 #[.string nm] W fun e w' => e = .returned (.bool true) ∧ w' = W) := fun W => by have t := namemay_any nm (by omega) W; rw [h2] at t; exact t
    have hn : Hid (∀ x W, Calls Try.prog 10 #[.int .i64 x] W fun e w' => e = .returned (.int .i64 x) ∧ w' = W) := lnum_any
    go_enter Try.func3, Try.ntmps3
    go_wp2_with (go_at_call 8; refine (awake_any _).mono ?_; rintro e w0 ⟨rfl, l0⟩; replace l0 : Hid (Later w w0) := l0.out)
    refine (hm1.out _).mono ?_
    clear hm1
    rintro e w1 ⟨A1, n1, c1, st1, rfl, l1⟩
    have L1 : Hid (Later w w1) := l0.out.trans l1.out
    clear l0
    clear l1
    go_wp2_with (first | (go_at_call 10; refine (hn.out _ _).mono ?_; rintro e W ⟨rfl, hw⟩; subst hw) | (go_at_call 11; refine (hmay.out _).mono ?_; clear hmay; rintro e W ⟨rfl, hw⟩; subst hw))
    go_ret
    exact ⟨rfl, La L1.out⟩
theorem main (s : ByteArray) (hs : s.size ≤ 140737488351232) (nm : ByteArray) (hnm : nm.size ≤ 140737488351232) (ex : ByteArray) (hex : ex.size ≤ 140737488351232) (at_ : Int) (M : Md) (hr : unM s = (M, 0)) (h6 : s.size ≤ 60000) (hmn : mayN nm = true) (h1000 : ex.size ≤ 1000) (q : Nat) (hq : bits .and .i64 at_ 7 = (q : Int)) (w : World) :
    Calls Try.prog 3 #[.string s, .string nm, .string ex, .int .i64 at_] w fun e w' => e = .returned (.bool true) ∧ Later w w' := by
  have hM : MdOk M := by have t := unM_ok s; rw [hr] at t; exact t
  have hn64 : nm.size ≤ 64 := by
    unfold mayN at hmn
    have t : decide (nm.size ≤ 64) = true ∧ utfR nm = true := by simpa using hmn
    exact of_decide_eq_true t.1
  obtain ⟨_, h8, _, _⟩ := un_open hr
  have hb := name_ok nm ex hmn
  have lb := lebL_max (nm.size : Int)
  obtain ⟨B, hB⟩ : ∃ B, B = strOfNums (lebL (nm.size : Int)) ++ nm ++ ex := ⟨_, rfl⟩
  have zB : B.size = (lebL (nm.size : Int)).length + nm.size + ex.size := by rw [hB, ByteArray.size_append, ByteArray.size_append, strOfNums_size]
  rw [← hB] at hb
  have lc := lebL_max (B.size : Int)
  have zC := sec_len ((0 : Nat) : Int) B
  have hS := Cus.start hr (secB ((0 : Nat) : Int) B).size q
  have hstep := fun (t : ByteArray) (k i : Nat) (h : Cus s M (secB ((0 : Nat) : Int) B).size t k i q) (hi : i < s.size) => Cus.step B hb h hi
  have hfin := fun (t : ByteArray) (k i : Nat) (h : Cus s M (secB ((0 : Nat) : Int) B).size t k i q) (hi : ¬ i < s.size) => Cus.fin B hb rfl h hi (by omega)
  obtain ⟨Cu, hCu⟩ : ∃ C, C = secB ((0 : Nat) : Int) B := ⟨_, rfl⟩
  rw [← hCu] at hS hstep hfin
  replace hS : Hid _ := hS
  replace hstep : Hid _ := hstep
  replace hfin : Hid _ := hfin
  have hmay : Hid (∀ W, Calls Try.prog 11 #[.string nm] W fun e w' => e = .returned (.bool true) ∧ w' = W) := fun W => by have t := namemay_any nm (by omega) W; rw [hmn] at t; exact t
  have hl1 : Hid (∀ W : World, Calls Try.prog 13 #[.int .i64 (nm.size : Int)] W fun e w' => e = .returned (.string (strOfNums (lebL (nm.size : Int)))) ∧ Later W w') := fun W => leb_any _ W
  have hl2 : Hid (∀ (W : World) (z : Int), z = (B.size : Int) → Calls Try.prog 13 #[.int .i64 z] W fun e w' => e = .returned (.string (strOfNums (lebL (B.size : Int)))) ∧ Later W w') := fun W z hz => by
    subst hz
    exact leb_any _ W
  have hsec : secB ((0 : Nat) : Int) B = ⟨#[0]⟩ ++ strOfNums (lebL (B.size : Int)) ++ B := by
    unfold secB
    rw [show strOfNums [((0 : Nat) : Int)] = (⟨#[0]⟩ : ByteArray) by kernel_rfl]
  have hm1 : Hid (∀ W, Calls Try.prog 9 #[.string s] W (DmP W M 0)) := dm_is (by omega) hr
  have hu : Hid (∀ (i : Nat) (X T : Nat), ulR s ((i : Int) + 1) 32 = ((X : Int), (T : Int), 0) → ∀ W, Calls Try.prog 14 #[.string s, .int .i64 ((i : Int) + 1), .int .i64 32] W fun e w' => e = .returned (.tuple #[.int .i64 (X : Int), .int .i64 (T : Int), .int .i64 0]) ∧ w' = W) := fun i X T h W => by
    have t := unleb_any s (by omega) ((i : Int) + 1) 32 W
    rw [h] at t
    exact t
  have z1 : (strOfNums (lebL (nm.size : Int))).size ≤ 10 := by rw [strOfNums_size]; exact lb
  have z2 : (strOfNums (lebL (B.size : Int))).size ≤ 10 := by rw [strOfNums_size]; exact lc
  have zs1 : (strOfNums (lebL (nm.size : Int))).size = (lebL (nm.size : Int)).length := strOfNums_size _
  have s8 : ∀ W : World, (Instr.slice 9 (.string s) none (some (.int .i64 8)) none).run Try.prog W = .ok (.string (s.extract 0 8)) W := fun W => sl_to s 8 h8 W
  have sq : Hid (∀ (i X T : Nat), i + 1 < T → T + X ≤ s.size → ∀ W : World, (Instr.slice 9 (.string s) (some (.int .i64 (i : Int))) (some (.int .i64 ((T : Int) + (X : Int)))) none).run Try.prog W = .ok (.string (s.extract i (T + X))) W) := fun i X T h1 h2 W => by
    have t := sl_eq s i (T + X - i) (by omega) W
    rw [show (i : Int) + ((T + X - i : Nat) : Int) = (T : Int) + (X : Int) by omega, show i + (T + X - i) = T + X by omega] at t
    exact t
  have hCz : Hid (Cu.size ≤ 1100) := by show _ ≤ _; rw [hCu]; omega
  have hBz : Hid (B.size = (strOfNums (lebL (nm.size : Int))).size + nm.size + ex.size) := by show _ = _; omega
  rw [← hCu] at hsec
  clear hCu
  generalize strOfNums (lebL (nm.size : Int)) = S1 at *
  generalize strOfNums (lebL (B.size : Int)) = S2 at *
  subst hB
  subst hsec
  have q1 : ¬ (60000 : Int) < (s.size : Int) := by omega
  have q2 : decide ((60000 : Int) < (s.size : Int)) = false := decide_eq_false q1
  have q3 : decide (60000 < s.size) = false := decide_eq_false (by omega)
  have q4 : ¬ (1000 : Int) < (ex.size : Int) := by omega
  have q5 : ¬ 9223372036854775807 < S1.size + nm.size := by omega
  have q6 : ¬ 9223372036854775807 < S1.size + nm.size + ex.size := by omega
  have q7 : ¬ 9223372036854775807 < 1 + S2.size := by omega
  have q8 : ¬ 9223372036854775807 < 1 + S2.size + (S1.size + nm.size + ex.size) := by omega
  replace hs : Hid (s.size ≤ 60000) := h6
  replace hS : Hid _ := hS
  replace hM : Hid _ := hM
  clear hr h6 hmn h1000 hb lb zB lc zC z1 z2 zs1 hnm hex hn64
  replace h8 : Hid _ := h8
  have hn : Hid (∀ x W, Calls Try.prog 10 #[.int .i64 x] W fun e w' => e = .returned (.int .i64 x) ∧ w' = W) := lnum_any
  go_enter Try.func3, Try.ntmps3
  go_wp2_with (go_at_call 8; refine (awake_any _).mono ?_; rintro e w0 ⟨rfl, l0⟩; replace l0 : Hid (Later w w0) := l0.out)
  refine (hm1.out _).mono ?_
  clear hm1
  rintro e w1 ⟨A1, c1, rfl, C1, l1⟩
  have L1 : Hid (Later w w1) := l0.out.trans l1.out
  clear l0
  go_wp2_with (first | (go_at_call 10; refine (hn.out _ _).mono ?_; rintro e W ⟨rfl, hw⟩; subst hw) | (go_at_call 11; refine (hmay.out _).mono ?_; clear hmay; rintro e W ⟨rfl, hw⟩; subst hw) | (go_at_call 13; refine (hl1.out _).mono ?_; clear hl1; rintro e w2 ⟨rfl, l2⟩; replace l2 : Hid _ := l2))
  refine (hl2.out _ _ (bz hBz.out)).mono ?_
  clear hl2
  rintro e w3 ⟨rfl, l3⟩
  have m0 : w3.cell? ⟨w1.heap.size, 0, none⟩ = some (.slice (A1 0) M.ty.length (c1 0)) := Later.cell_of l3 (Later.cell_of l2.out (by simp [go_sem]))
  have m1 : w3.cell? ⟨w1.heap.size, 1, none⟩ = some (.slice (A1 1) M.im.length (c1 1)) := Later.cell_of l3 (Later.cell_of l2.out (by simp [go_sem]))
  have m2 : w3.cell? ⟨w1.heap.size, 2, none⟩ = some (.slice (A1 2) M.fu.length (c1 2)) := Later.cell_of l3 (Later.cell_of l2.out (by simp [go_sem]))
  have m3 : w3.cell? ⟨w1.heap.size, 3, none⟩ = some (.slice (A1 3) M.ta.length (c1 3)) := Later.cell_of l3 (Later.cell_of l2.out (by simp [go_sem]))
  have m4 : w3.cell? ⟨w1.heap.size, 4, none⟩ = some (.slice (A1 4) M.me.length (c1 4)) := Later.cell_of l3 (Later.cell_of l2.out (by simp [go_sem]))
  have m5 : w3.cell? ⟨w1.heap.size, 5, none⟩ = some (.slice (A1 5) M.gl.length (c1 5)) := Later.cell_of l3 (Later.cell_of l2.out (by simp [go_sem]))
  have m6 : w3.cell? ⟨w1.heap.size, 6, none⟩ = some (.slice (A1 6) M.ex.length (c1 6)) := Later.cell_of l3 (Later.cell_of l2.out (by simp [go_sem]))
  have m7 : w3.cell? ⟨w1.heap.size, 7, none⟩ = some (.int .i64 M.st) := Later.cell_of l3 (Later.cell_of l2.out (by simp [go_sem]))
  have m8 : w3.cell? ⟨w1.heap.size, 8, none⟩ = some (.slice (A1 8) M.el.length (c1 8)) := Later.cell_of l3 (Later.cell_of l2.out (by simp [go_sem]))
  have m9 : w3.cell? ⟨w1.heap.size, 9, none⟩ = some (.slice (A1 9) M.co.length (c1 9)) := Later.cell_of l3 (Later.cell_of l2.out (by simp [go_sem]))
  have m10 : w3.cell? ⟨w1.heap.size, 10, none⟩ = some (.slice (A1 10) M.da.length (c1 10)) := Later.cell_of l3 (Later.cell_of l2.out (by simp [go_sem]))
  have j3 : Hid (Later w1 w3) := ((La (Lz _)).trans l2.out).trans l3
  have lm := cell_lt m0
  have L3 : Hid (Later w w3) := L1.out.trans j3.out
  have C3 : Hid (ModC (w0.heap.size ≤ ·) w3 M [.slice (A1 0) M.ty.length (c1 0), .slice (A1 1) M.im.length (c1 1), .slice (A1 2) M.fu.length (c1 2), .slice (A1 3) M.ta.length (c1 3), .slice (A1 4) M.me.length (c1 4), .slice (A1 5) M.gl.length (c1 5), .slice (A1 6) M.ex.length (c1 6), .int .i64 M.st, .slice (A1 8) M.el.length (c1 8), .slice (A1 9) M.co.length (c1 9), .slice (A1 10) M.da.length (c1 10)]) := C1.out.move fun k hk hl => ⟨hk, j3.out.block hl⟩
  clear L1 C1 l1 l2 l3 j3
  go_wp2_with fail
  go_loopw [13, 14, 15] (fun t k i wr => ∃ (tt : ByteArray) (kk ii : Nat), t = .string tt ∧ k = .int .i64 (kk : Int) ∧ i = .int .i64 (ii : Int) ∧ Cus s M (⟨#[0]⟩ ++ S2 ++ (S1 ++ nm ++ ex)).size tt kk ii q ∧ Later w3 wr) (fun _ _ i _ => s.size - (intOf i).toNat)
  case atStart => exact ⟨_, 0, 8, rfl, rfl, rfl, hS.out, Lz _⟩
  case round =>
    obtain ⟨tt, kk, ii, rfl, rfl, rfl, hC, hL⟩ := hrel
    have hk0 : kk ≤ 60000 := Nat.le_trans hC.2.2.1 (Nat.le_trans hC.2.1 hs.out)
    have hi0 : ii ≤ 60000 := Nat.le_trans hC.2.1 hs.out
    have ht0 : tt.size ≤ 70000 := cus_size hC hs.out hCz.out
    have hc0 : ((⟨#[0]⟩ ++ S2 ++ (S1 ++ nm ++ ex))).size ≤ 1100 := hCz.out
    replace hL : Hid _ := hL
    by_cases hlt : ii < s.size
    · have hi1 : (ii : Int) < (s.size : Int) := by omega
      obtain ⟨X, T, a3, a4, a5, c0, c1⟩ := hstep.out tt kk ii hC hlt
      have hu1 : Hid _ := hu.out ii X T a3
      have sq1 := sq.out ii X T a4 a5
      have hTX : T + X ≤ 60000 := Nat.le_trans a5 hs.out
      have hsz : (s.extract ii (T + X)).size ≤ 60000 := by rw [ByteArray.size_extract]; omega
      have hcs : ((⟨#[0]⟩ ++ S2 ++ (S1 ++ nm ++ ex))).size = 1 + S2.size + (S1.size + nm.size + ex.size) := by rw [ByteArray.size_append, ByteArray.size_append, ByteArray.size_append, ByteArray.size_append]; rfl
      have p4 : ¬ 9223372036854775807 < tt.size + (1 + S2.size + (S1.size + nm.size + ex.size)) := by omega
      have p5 : ¬ 9223372036854775807 < tt.size + (1 + S2.size + (S1.size + nm.size + ex.size)) + (s.extract ii (T + X)).size := by omega
      have p1 : ¬ 9223372036854775807 < tt.size + (s.extract ii (T + X)).size := by omega
      have p2 : ¬ 9223372036854775807 < tt.size + ((⟨#[0]⟩ ++ S2 ++ (S1 ++ nm ++ ex))).size := by omega
      have p3 : ¬ 9223372036854775807 < tt.size + ((⟨#[0]⟩ ++ S2 ++ (S1 ++ nm ++ ex))).size + (s.extract ii (T + X)).size := by omega
      have hme : Hid (s.size - (T + X) < s.size - ii) := by show _ < _; omega
      replace c0 : Hid _ := c0
      replace c1 : Hid _ := c1
      clear hC a3 a4 a5 hsz hcs
      generalize s.extract ii (T + X) = U at *
      by_cases hkq : kk = q
      · subst hkq
        go_wp2_with (go_at_call 14; refine (hu1.out _).mono ?_; clear hu1; rintro e W ⟨rfl, hw⟩; subst hw)
        refine ⟨⟨_, kk + 1, T + X, rfl, by simp, by simp, (c1.out (by first | rfl | trivial)), Later.trans hL.out (by repeat first | exact Lz _ | apply La | apply Ld | apply Ln)⟩, ?_⟩
        have hme2 := hme.out
        simp [intOf]
        omega
      · have hkn : ¬ (kk : Int) = (q : Int) := by omega
        have hkb : ((kk : Int) == (q : Int)) = false := beq_false hkn
        go_wp2_with (go_at_call 14; refine (hu1.out _).mono ?_; clear hu1; rintro e W ⟨rfl, hw⟩; subst hw)
        refine ⟨⟨_, kk + 1, T + X, rfl, by simp, by simp, c0.out hkq, Later.trans hL.out (by repeat first | exact Lz _ | apply La | apply Ld | apply Ln)⟩, ?_⟩
        have hme2 := hme.out
        simp [intOf]
        omega
    · have hi1 : ¬ (ii : Int) < (s.size : Int) := by omega
      have r2 := hfin.out tt kk ii hC hlt
      have hm2 : Hid (∀ W, Calls Try.prog 9 #[.string (tt ++ (⟨#[0]⟩ ++ S2 ++ (S1 ++ nm ++ ex)))] W (DmP W M 0)) := dm_is (by rw [ByteArray.size_append]; omega) r2
      have p4 : ¬ 9223372036854775807 < tt.size + (1 + S2.size + (S1.size + nm.size + ex.size)) := by
        have hcs : ((⟨#[0]⟩ ++ S2 ++ (S1 ++ nm ++ ex))).size = 1 + S2.size + (S1.size + nm.size + ex.size) := by rw [ByteArray.size_append, ByteArray.size_append, ByteArray.size_append, ByteArray.size_append]; rfl
        omega
      clear r2 hC
      go_wp2_with fail
      refine (hm2.out _).mono ?_
      clear hm2
      rintro e w4 ⟨A4, c4, rfl, C4, l4⟩
      have hL4 : Later w3 w4 := Later.trans hL.out l4.out
      replace m0 := hL4.cell_of m0
      replace m1 := hL4.cell_of m1
      replace m2 := hL4.cell_of m2
      replace m3 := hL4.cell_of m3
      replace m4 := hL4.cell_of m4
      replace m5 := hL4.cell_of m5
      replace m6 := hL4.cell_of m6
      replace m7 := hL4.cell_of m7
      replace m8 := hL4.cell_of m8
      replace m9 := hL4.cell_of m9
      replace m10 := hL4.cell_of m10
      have lm4 := cell_lt m0
      have L4 : Hid (Later w w4) := L3.out.trans hL4
      have hz : Hid (∀ W, Later w4 W → Later w3 W → _) := same_two hM.out C4 C3
      have K4 : Hid (Later w3 w4) := hL4
      clear C4 C3 L3 l4 hL4 hL
      go_wp2_with (first | (go_at_call 10; refine (hn.out _ _).mono ?_; rintro e W ⟨rfl, hw⟩; subst hw) | (go_at_call 12; refine (hz.out _ (by repeat first | exact Lz _ | apply La | apply Ld) (K4.out.trans (by repeat first | exact Lz _ | apply La | apply Ld))).mono ?_; clear hz; rintro e w5 ⟨rfl, l5⟩; replace l5 : Hid _ := l5))
      go_ret
      exact ⟨rfl, L4.out.trans (Later.trans (by repeat first | exact Lz _ | apply La | apply Ld) l5.out)⟩
theorem walk (s : ByteArray) (hs : s.size ≤ 140737488351232) (nm : ByteArray) (hnm : nm.size ≤ 140737488351232) (ex : ByteArray) (hex : ex.size ≤ 140737488351232) (at_ : Int) (w : World) :
    Calls Try.prog 3 #[.string s, .string nm, .string ex, .int .i64 at_] w fun e w' => e = .returned (.bool true) ∧ Later w w' := by
  obtain ⟨c, hc⟩ : ∃ c, (unM s).2 = c := ⟨_, rfl⟩
  by_cases h0 : c = 0
  · subst h0
    by_cases h6 : s.size ≤ 60000
    · by_cases hm : mayN nm = true
      · by_cases he : ex.size ≤ 1000
        · obtain ⟨q, hq, _⟩ : ∃ j : Nat, bits .and .i64 at_ 7 = (j : Int) ∧ j < 8 := by have t := and_m at_ 3 (by decide); simpa using t
          exact main s hs nm hnm ex hex at_ (unM s).1 (Prod.ext rfl hc) h6 hm he q hq w
        · exact off s hs nm hnm ex hex at_ hc (Or.inr (Or.inr ⟨h6, hm, by omega⟩)) w
      · exact off s hs nm hnm ex hex at_ hc (Or.inr (Or.inl ⟨h6, by simpa using hm⟩)) w
    · exact off s hs nm hnm ex hex at_ hc (Or.inl (by omega)) w
  · exact bad s hs nm hnm ex hex at_ c h0 (Prod.ext (unM_bad (by rw [hc]; exact h0)) hc) w

set_option maxRecDepth 100000 in
theorem lifted (os : Os) (started : os.Started) (H : Type) (enc : TypeId × Value → H) :
    ReturnsInHanded {} Try.checked os 3 .any (Rows.decodeCustomsSpec.pre6 enc Try.prog Try.f3 Rows.decodeCustomsRow.domain false) (Rows.decodeCustomsSpec.post enc Try.prog Try.f3 false true false false) := by
  refine returnsInHanded_of_change_sized (C := Try.checked) own started (by kernel_rfl) Try.func3
    (ChangeSpec.witness6 (enc := enc) (C := Try.checked) false ⟨#[], #[.string ⟨#[]⟩, .string ⟨#[]⟩, .string ⟨#[]⟩, .int .i64 0], []⟩ 8 (by kernel_rfl) (by kernel_rfl) (by kernel_rfl) (by kernel_rfl)) ?_
  intro W base args ds gs before hval0 hW _ hsz0 _
  have hval : ∀ (j : Nat) t v, Try.f3.params[j]? = some t → args[j]? = some v → Value.okWide Try.prog W .any base t v := hval0
  have hW' := hW
  obtain ⟨p, q, hA0, hV, rfl, hfz, hnd⟩ := hW
  have hA : DataW.TrodAll enc Try.prog W 0 (fun _ => true) true Try.f3.params.toList args.toList ds p := hA0
  rw [Try.params3] at hA hval
  obtain ⟨v0, vs0, d0, ds0, p0, q0, hargs, rfl, rfl, h0, r0⟩ := trodAll_cons hA
  obtain ⟨v1, vs1, d1, ds1, p1, q1, rfl, rfl, rfl, h1, r1⟩ := trodAll_cons r0
  obtain ⟨v2, vs2, d2, ds2, p2, q2, rfl, rfl, rfl, h2, r2⟩ := trodAll_cons r1
  obtain ⟨v3, vs3, d3, ds3, p3, q3, rfl, rfl, rfl, h3, r3⟩ := trodAll_cons r2
  obtain ⟨rfl, rfl, rfl⟩ := trodAll_nil r3
  obtain rfl : args = #[v0, v1, v2, v3] := by cases args; simp_all
  obtain ⟨rfl, rfl⟩ := trodVars_none hV
  obtain ⟨a0, rfl, rfl, rfl, w0⟩ := ChangeMaps.open_string Try.underlying9 (hval 0 9 v0 rfl rfl) h0
  have hs0 : a0.size ≤ 140737488351232 := by
    have hs := sized_string hsz0 (j := 0) (t := 9) (bytes := a0.data.toList) rfl rfl
    unfold reachBytes at hs
    simpa using hs
  obtain ⟨a1, rfl, rfl, rfl, w1⟩ := ChangeMaps.open_string Try.underlying9 (hval 1 9 v1 rfl rfl) h1
  have hs1 : a1.size ≤ 140737488351232 := by
    have hs := sized_string hsz0 (j := 1) (t := 9) (bytes := a1.data.toList) rfl rfl
    unfold reachBytes at hs
    simpa using hs
  obtain ⟨a2, rfl, rfl, rfl, w2⟩ := ChangeMaps.open_string Try.underlying9 (hval 2 9 v2 rfl rfl) h2
  have hs2 : a2.size ≤ 140737488351232 := by
    have hs := sized_string hsz0 (j := 2) (t := 9) (bytes := a2.data.toList) rfl rfl
    unfold reachBytes at hs
    simpa using hs
  obtain ⟨a3, rfl, rfl, rfl, w3⟩ := open_int Try.underlying3 (hval 3 3 v3 rfl rfl) h3
  clear hA0 hval0
  simp only [List.append_nil, List.nil_append] at hW'
  have hlt : ∀ x ∈ ([] : List MemPlace), x.block < W.heap.size := fun x hx => by simpa using hW'.lt x hx
  refine (walk a0 hs0 a1 hs1 a2 hs2 a3 W ).mono fun e W' ⟨he, hl⟩ => ?_
  subst he
  have hbel : Below W.heap.size W W' := by obtain ⟨bs, nn, rfl⟩ := hl; exact ⟨rfl, rfl, rfl, by rw [World.far_size]; omega, fun k hk => World.far_block W bs nn k hk⟩
  have hx : ∀ sp : Nat → Bool, (∀ p ∈ ([] : List MemPlace), sp p.block = true) → DataW.TrodAll enc Try.prog W' 0 sp true [9, 9, 9, 3] [.string a0, .string a1, .string a2, .int .i64 a3] [.lit (.string a0.data.toList), .lit (.string a1.data.toList), .lit (.string a2.data.toList), .lit (.int .i64 a3)] (([] : List MemPlace)) := fun sp hsp => by simpa using (trodAll_cons_mk (ChangeMaps.shut_string Try.underlying9 w0) (trodAll_cons_mk (ChangeMaps.shut_string Try.underlying9 w1) (trodAll_cons_mk (ChangeMaps.shut_string Try.underlying9 w2) (trodAll_cons_mk (shut_int Try.underlying3 w3) trodAll_mk0))))
  exact ⟨_, rfl, post_none hW' (fun _ _ _ => (trodAll_cons_mk (shut_bool Try.underlying4 _) trodAll_mk0)) (fun sp => hx sp (fun p hp => absurd hp List.not_mem_nil)) (fun _ => rfl) (hbel.frame _) (ok_one (by kernel_rfl) rfl (okWide_bool_mk Try.underlying4 _))⟩

theorem over : Rows.decodeCustomsRow.holds Try.pinned (OpenSpec.ofChange Rows.decodeCustomsSpec) :=
  OpenClaim.holds_of_wide 3 Try.f3 rfl rfl rfl rfl rfl rfl rfl ⟨rfl, rfl, rfl, rfl, rfl⟩ rfl rfl rfl rfl rfl (by kernel_rfl) Try.func3 (by kernel_rfl)
    (of_decide_eq_true (by kernel_rfl)) (by unfold Func.isWrapper; first | (rw [if_pos (by decide +kernel)]; kernel_rfl) | (rw [if_neg (by decide +kernel)]; exact ⟨rfl, rfl⟩))
    (fun os started H enc _ => lifted os started H enc)


theorem proved : Rows.DecodeCustomsSaid := over
end Go.Proofs.Ytngciahmoenkiaa.decodeCustoms
namespace Go.Proofs.Ytngciahmoenkiaa
theorem decodeCustoms_holds : Rows.DecodeCustomsSaid := decodeCustoms.proved
#print axioms decodeCustoms_holds
end Go.Proofs.Ytngciahmoenkiaa
