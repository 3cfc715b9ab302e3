/- Package ftype: Global, Counts. -/
import Derived.Test.YtonnmbmdmkmhmaaTYE
set_option linter.unusedVariables false
set_option linter.unusedSimpArgs false
set_option maxRecDepth 100000
set_option maxHeartbeats 8000000
namespace Go.Proofs.Ytonnmbmdmkmhmaa.ty
open Go.RowKit
theorem sum_i64 {a b : Int} (h1 : 0 ≤ a) (h2 : 0 ≤ b) (h3 : a + b ≤ 9223372036854775807) : IntKind.i64.wrap (a + b) = a + b := i64_id _ (by omega) h3
theorem imk_len (l : List Imp) (k : Int) : (imk l k).length ≤ l.length := List.length_filter_le _ _
/-- how many functions, tables, memories, globals there are -/
theorem counts_any {Z : Nat → Prop} {m : Md} (hm : MdV m) {w : World} {LA : List Value} (hZ : ∀ j, Z j → j < w.heap.size) (hA : ModC Z w m LA) :
    Calls Try.prog 10 #[.agg LA.toArray] w fun e w' => e = .returned (.tuple #[.int .i64 ((imk m.im 0).length + m.fu.length : Nat), .int .i64 ((imk m.im 1).length + m.ta.length : Nat), .int .i64 ((imk m.im 2).length + m.me.length : Nat), .int .i64 ((imk m.im 3).length + m.gl.length : Nat)]) ∧ Hid (Later w w') := by
  obtain ⟨v0, v1, v2, v3, v4, v5, v6, v8, v9, v10, eA, ⟨A0, a0, rfl, r0⟩, ⟨A1, a1, rfl, r1⟩, ⟨A2, a2, rfl, r2⟩, ⟨A3, a3, rfl, r3⟩, ⟨A4, a4, rfl, r4⟩, ⟨A5, a5, rfl, r5⟩, _⟩ := hA
  subst eA
  have hi := hm.im.2
  have hf := hm.fu.2
  have ht := hm.ta.2
  have he := hm.me.2
  have hg := hm.gl.2
  have hc : Hid (∀ k W, Later w W → Calls Try.prog 25 #[.agg #[.slice A0 m.ty.length a0, .slice A1 m.im.length a1, .slice A2 m.fu.length a2, .slice A3 m.ta.length a3, .slice A4 m.me.length a4, .slice A5 m.gl.length a5, v6, .int .i64 m.st, v8, v9, v10], .int .i64 k] W fun e w' => e = .returned (.int .i64 ((imk m.im k).length : Nat)) ∧ Later W w') := fun k W hW => (count_any a1 (fun j hj => Nat.lt_of_lt_of_le (hZ j hj) hW.size) (Rt.later (fun _ => Nat.succ_pos _) hW r1) (by omega)).mono (by rintro e w' ⟨h1, h2⟩; exact ⟨h1, h2.out⟩)
  obtain ⟨N, hN⟩ : ∃ N : Int → Nat, ∀ k, (imk m.im k).length = N k := ⟨_, fun _ => rfl⟩
  have hn : ∀ k, N k ≤ m.im.length := fun k => by rw [← hN]; exact imk_len _ _
  have i0 := hn 0
  have i1 := hn 1
  have i2 := hn 2
  have i3 := hn 3
  simp only [hN] at hc ⊢
  generalize m.ty.length = l0 at *
  generalize m.im.length = l1 at *
  generalize m.fu.length = l2 at *
  generalize m.ta.length = l3 at *
  generalize m.me.length = l4 at *
  generalize m.gl.length = l5 at *
  have e0 : (N 0 : Int) + (l2 : Int) ≤ 9223372036854775807 := by omega
  have e1 : (N 1 : Int) + (l3 : Int) ≤ 9223372036854775807 := by omega
  have e2 : (N 2 : Int) + (l4 : Int) ≤ 9223372036854775807 := by omega
  have e3 : (N 3 : Int) + (l5 : Int) ≤ 9223372036854775807 := by omega
  clear hn hN r0 r1 r2 r3 r4 r5 hZ
  go_enter Try.func10, Try.ntmps10
  go_wp2_with fail
  refine wp_region_quiet_far (by kernel_rfl) (by kernel_rfl) ?_
  repeat (go_big_quiet_step ((go_at_call 25; exact Calls.far_of (hc.out _ _ (by repeat first | exact Lz _ | apply La | apply Lv | apply Ld | apply Ln)))))
  refine wpQuiet_nil ?_
  rintro _ ⟨⟨bs, dr⟩, rfl⟩
  go_wp2_with fail
  refine ⟨rfl, .tuple #[.int .i64 ((N 0 : Int) + l2), .int .i64 ((N 1 : Int) + l3), .int .i64 ((N 2 : Int) + l4), .int .i64 ((N 3 : Int) + l5)], by simp [results, Try.results10], by simp only [Int.natCast_add], by repeat first | exact Lz _ | apply La | apply Lv | apply Ld | apply Ln⟩
/-- the type of global k, and whether it may be set -/
def glT (m : Md) (k : Int) : Option (Int × Bool) :=
  if k < 0 then none else
  if k.toNat < (imk m.im 3).length then (imk m.im 3)[k.toNat]?.map (fun x => (x.2.2.2.1, x.2.2.2.2.1)) else m.gl[(k - (imk m.im 3).length).toNat]?.map (fun x => (x.1, x.2.1))
/-- how a global's type is told -/
def glE : Option (Int × Bool) → Value
  | none => .tuple #[.int .i64 0, .bool false, .int .i64 1701]
  | some x => .tuple #[.int .i64 x.1, .bool x.2, .int .i64 0]
theorem global_any {Z : Nat → Prop} {m : Md} (hm : MdV m) {w : World} {LA : List Value} (hZ : ∀ j, Z j → j < w.heap.size) (hA : ModC Z w m LA) (k : Int) (hk : k ≤ 9223372036854775807) :
    Calls Try.prog 8 #[.agg LA.toArray, .int .i64 k] w fun e w' => e = .returned (glE (glT m k)) ∧ Hid (Later w w') := by
  obtain ⟨v0, v1, v2, v3, v4, v5, v6, v8, v9, v10, eA, ⟨A0, a0, rfl, r0⟩, ⟨A1, a1, rfl, r1⟩, ⟨A2, a2, rfl, r2⟩, _, _, ⟨A5, a5, rfl, r5⟩, _⟩ := hA
  subst eA
  have hi := hm.im.2
  have hf := hm.gl.2
  generalize hv2 : Value.slice A2 m.fu.length a2 = v2
  have ham : 0 ≤ k → Hid (∀ W, Later w W → Calls Try.prog 22 #[.agg #[.slice A0 m.ty.length a0, .slice A1 m.im.length a1, v2, v3, v4, .slice A5 m.gl.length a5, v6, .int .i64 m.st, v8, v9, v10], .int .i64 3, .int .i64 k] W fun e w' => AmR (imk m.im 3) k e ∧ Hid (Later W w')) := fun h0 W hW => among_any a1 (fun j hj => Nat.lt_of_lt_of_le (hZ j hj) hW.size) (Rt.later (fun _ => Nat.succ_pos _) hW r1) (by omega) h0 hk
  clear hv2
  obtain ⟨gn, hgn⟩ : ∃ n, n = m.gl.length := ⟨_, rfl⟩
  obtain ⟨R, hR⟩ : ∃ R, R = glT m k := ⟨_, rfl⟩
  rw [← hR]
  rw [← hgn] at ham ⊢
  by_cases h1 : k < 0
  · have hR0 : R = none := by rw [hR]; exact if_pos h1
    subst hR0
    clear hR ham
    go_enter Try.func8, Try.ntmps8
    go_wp2_with fail
    refine ⟨rfl, .tuple #[.int .i64 0, .bool false, .int .i64 1701], by simp [results, Try.results8], rfl, La (Lz _)⟩
  have ham := ham (by omega)
  rw [glT, if_neg h1] at hR
  have R0 : Hid (Rl (w.alloc (.cells #[.slice A0 m.ty.length a0, .slice A1 m.im.length a1, v2, v3, v4, .slice A5 gn a5, v6, .int .i64 m.st, v8, v9, v10] 32)) w.heap.size 32 [.slice A0 m.ty.length a0, .slice A1 m.im.length a1, v2, v3, v4, .slice A5 gn a5, v6, .int .i64 m.st, v8, v9, v10]) := rl_new w 32 [.slice A0 m.ty.length a0, .slice A1 m.im.length a1, v2, v3, v4, .slice A5 gn a5, v6, .int .i64 m.st, v8, v9, v10]
  replace hR : Hid _ := hR
  replace hgn : Hid (gn = m.gl.length) := hgn
  have R5 : Hid (Rt fGl Z w A5 m.gl) := r5
  clear r0 r1 r2 r5 hi hZ
  go_enter Try.func8, Try.ntmps8
  go_wp2_with fail
  refine (ham.out _ (La (Lz _))).mono ?_
  rintro e w1 ⟨(⟨hlt, rfl⟩ | ⟨hge, rfl⟩), l1⟩
  · have L1 : Hid (Later w w1) := (La (Lz _)).trans l1.out
    obtain ⟨x, hx⟩ : ∃ x, x = (imk m.im 3)[k.toNat] := ⟨_, rfl⟩
    have hRx : R = some (x.2.2.2.1, x.2.2.2.2.1) := by
      rw [hR.out, if_pos hlt, List.getElem?_eq_getElem hlt, ← hx]
      rfl
    rw [← hx]
    subst hRx
    clear hR hx hlt ham R0 l1
    obtain ⟨x0, x1, x2, x3, x4, x5, x6⟩ := x
    simp only [impA]
    go_wp2_with fail
    try go_quiet (fail)
    go_wp2_with fail
    refine ⟨rfl, .tuple #[.int .i64 x3, .bool x4, .int .i64 0], by simp [results, Try.results8], rfl, by repeat first | exact L1.out | apply La | apply Ld | apply Ln⟩
  · have M1 := R0.out.later l1.out
    have L1 : Hid (Later w w1) := (La (Lz _)).trans l1.out
    have c5 := M1.cell 5 rfl
    have lp := M1.lt
    obtain ⟨o, ho⟩ : ∃ o, o = k - ((imk m.im 3).length : Int) := ⟨_, rfl⟩
    have hR1 : R = m.gl[o.toNat]?.map (fun x => (x.1, x.2.1)) := by
      rw [hR.out, if_neg (by omega), ← ho]
    rw [← ho]
    have ho0 : 0 ≤ o := by omega
    have ho1 : o ≤ 9223372036854775807 := by omega
    have hfu1 := hgn.out
    clear hR ham R0 l1 M1 ho hge
    simp only [impA, impZ]
    by_cases h2 : (gn : Int) ≤ o
    · have hRx : R = none := by rw [hR1, List.getElem?_eq_none (by omega)]; rfl
      subst hRx
      clear hR1 hfu1
      go_wp2_with fail
      refine ⟨rfl, .tuple #[.int .i64 0, .bool false, .int .i64 1701], by simp [results, Try.results8], rfl, by repeat first | exact L1.out | apply La | apply Ld | apply Ln⟩
    · obtain ⟨i, rfl⟩ := Int.eq_ofNat_of_zero_le ho0
      have hi : i < m.gl.length := by omega
      obtain ⟨g, o, cl, eA, hz, hc, hit⟩ := Rt.at (f := fGl) 3 (fun _ => rfl) R5.out i hi
      obtain ⟨x, hxx⟩ : ∃ x, x = m.gl[i] := ⟨_, rfl⟩
      have hRx : R = some (x.1, x.2.1) := by
        rw [hR1, hxx]
        simp [hi]
      rw [← hxx] at hit
      subst hRx
      clear hR1 hxx
      obtain ⟨x0, x1, x2⟩ := x
      obtain ⟨y0, d0, rfl, e0, y1, d1, rfl, e1, y2, d2, rfl, ⟨P, p, rfl, hP⟩, hnil⟩ := hit
      have e0 : y0 = .int .i64 x0 := e0
      have e1 : y1 = .bool x1 := e1
      subst e0 e1
      have q0 := L1.out.cell_of (hc 0 _ rfl)
      have q1 := L1.out.cell_of (hc 1 _ rfl)
      have q2 := L1.out.cell_of (hc 2 _ rfl)
      simp only [Nat.add_zero] at q0
      have lg := cell_lt q0
      have hl1 : (i : Int) < (gn : Int) := by omega
      rw [eA]
      rw [eA] at c5
      clear hc hz hi hnil hfu1 hP
      go_wp2_with fail
      try go_quiet (fail)
      go_wp2_with fail
      refine ⟨rfl, .tuple #[.int .i64 x0, .bool x1, .int .i64 0], by simp [results, Try.results8], rfl, by repeat first | exact L1.out | apply La | apply Ld | apply Ln⟩
end Go.Proofs.Ytonnmbmdmkmhmaa.ty
