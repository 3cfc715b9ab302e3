/- Over this seat's translation: NewMemory, Pages, Grow, Put of the document's memory. -/
import Derived.Test.YtbbjbgbpjhhcoaaDoorMR
set_option linter.unusedVariables false
set_option linter.unusedSimpArgs false
set_option maxRecDepth 100000
set_option maxHeartbeats 4000000
namespace Go.Proofs.YtbbjbgbpjhhcoaaDoor
open Go.RowKit Go.BY
theorem rpages_any (T : TypeId) (p b q : Nat) (most : Int) (f : Nat → Nat) (w : World) (hm : Hid (Mem T w p b (q * 65536) most f)) :
    Calls Tryd.prog 22 #[.pointer (some ⟨p, 0, none⟩)] w fun e w' => e = .returned (.int .i64 (q : Int)) ∧ w' = w := by
  have hc := hm.out.c0
  have hq : q ≤ 16 := by have := hm.out.2.2.2.2; omega
  go_enter Tryd.func22, Tryd.ntmps22
  go_wp2
  go_ret
  exact ⟨rfl, rfl⟩
theorem rlow_is (x y : Int) (h : x % 4294967296 = y) (w : World) :
    Calls Tryd.prog 36 #[.int .i64 x] w fun e w' => e = .returned (.int .i64 y) ∧ w' = w := by rw [← h]; exact rlow_any x w
theorem rgrow_no (T : TypeId) (p b q : Nat) (most : Int) (f : Nat → Nat) (x : Int) (w : World) (hm : Hid (Mem T w p b (q * 65536) most f)) (h0 : 0 ≤ most ∧ most ≤ 16) (hx : most - q < x % 4294967296) :
    Calls Tryd.prog 18 #[.pointer (some ⟨p, 0, none⟩), .int .i64 x] w fun e w' => e = .returned (.int .i64 4294967295) ∧ w' = w := by
  have hc := hm.out.c0
  have hc1 := hm.out.c1
  have hq : q ≤ 16 := by have := hm.out.2.2.2.2; omega
  go_enter Tryd.func18, Tryd.ntmps18
  go_wp2_with (first | (go_at_call 22; refine (rpages_any T p b q most f _ hm).mono ?_; rintro e w' ⟨rfl, rfl⟩) | (go_at_call 36; refine (rlow_any _ _).mono ?_; rintro e w' ⟨rfl, rfl⟩))
  go_ret
  exact ⟨rfl, rfl⟩
theorem rgrow_yes (T : TypeId) (p b q m : Nat) (most : Int) (f : Nat → Nat) (x : Int) (w : World) (hm : Hid (Mem T w p b (q * 65536) most f)) (h0 : 0 ≤ most ∧ most ≤ 16) (hx : Hid (x % 4294967296 = (m : Int))) (hqm : q + m ≤ most) :
    Calls Tryd.prog 18 #[.pointer (some ⟨p, 0, none⟩), .int .i64 x] w fun e w' => e = .returned (.int .i64 q) ∧ Turned p w w' ∧ Mem T w' p w.heap.size ((q + m) * 65536) most (fun i => if i < q * 65536 then f i else 0) := by
  have hc := hm.out.c0
  have hc1 := hm.out.c1
  have hpl := hm.out.lt.1
  have hbl := hm.out.lt.2
  have hq : q ≤ 16 := by have := hm.out.2.2.2.2; omega
  have hmk := make_bytes (q + m) (by omega)
  simp only [Int.natCast_add] at hmk
  have hC : (madeCells #[Value.int .u8 0] ((q + m) * 65536)).size = (q + m) * 65536 := size_madeCells _ _
  obtain ⟨w2, hw2⟩ : ∃ w2, w2 = (w.alloc (.cells (madeCells #[.int .u8 0] ((q + m) * 65536)) 5)).setRow w.heap.size (splice (madeCells #[.int .u8 0] ((q + m) * 65536)).toList 0 (srcOf f (q * 65536))).toArray := ⟨_, rfl⟩
  have hcp := run_copy_to (P := Tryd.prog) (w.alloc (.cells (madeCells #[.int .u8 0] ((q + m) * 65536)) 5)) 47 47 3 5 Tryd.underlying47 (by kernel_rfl) (some ⟨w.heap.size, 0, none⟩) (some ⟨b, 0, none⟩) ((q + m) * 65536) ((q + m) * 65536) (q * 65536) (q * 65536) w.heap.size 0 (madeCells #[.int .u8 0] ((q + m) * 65536)).toList 5 (by simpa using heap_alloc_new w _) (srcOf f (q * 65536)) (by rw [src_len]; exact (Nat.min_eq_left (by omega)).symm) (fun _ => ⟨rfl, _, rfl, src_at fun i hi => (La (Lz _)).cell_of (hm.out.by_ i hi)⟩) (by rw [src_len]; simp [hC]; omega) (src_one _ _)
  rw [← hw2, src_len] at hcp
  obtain ⟨G1, G2⟩ := grown_row w w2 _ _ f (by omega) hw2
  clear hw2 hC
  have HE := mem_grown hm.out (by omega) (fun i => if i < q * 65536 then f i else 0) (fun i => by show (if i < q * 65536 then f i else 0) < 256; split <;> first | exact hm.out.2.2.2.1 i | decide) G1 G2
  have k0 := G2.cell_of hc
  have k2 := (rowIs_later G2 hm.out.2.1).frozen 0
  replace G1 : Hid True := trivial
  replace G2 : Hid True := trivial
  replace HE : Hid _ := HE
  generalize madeCells #[.int .u8 0] ((q + m) * 65536) = C at *
  go_enter Tryd.func18, Tryd.ntmps18
  go_wp2_with (first | (go_at_call 22; refine (rpages_any T p b q most f _ hm).mono ?_; rintro e w' ⟨rfl, rfl⟩) | (go_at_call 36; refine (rlow_is _ _ hx.out _).mono ?_; rintro e w' ⟨rfl, rfl⟩))
  go_ret
  exact ⟨rfl, HE.out.1, HE.out.2⟩
theorem rput_bad (T : TypeId) (p b n : Nat) (most : Int) (f : Nat → Nat) (at_ : Int) (s : ByteArray) (w : World) (hm : Hid (Mem T w p b n most f)) (ha : -9223372036854775808 ≤ at_ ∧ at_ ≤ 9223372036854775807) (h : at_ < 0 ∨ (n : Int) - at_ < s.size) (hs : s.size ≤ 9223372036854775807) :
    Calls Tryd.prog 20 #[.pointer (some ⟨p, 0, none⟩), .int .i64 at_, .string s] w fun e w' => e = .returned (.int .i64 801) ∧ w' = w := by
  have hc := hm.out.c0
  have hn := hm.out.2.2.2.2
  by_cases h1 : at_ < 0
  · go_enter Tryd.func20, Tryd.ntmps20
    go_wp2
    go_ret
    exact ⟨rfl, rfl⟩
  · have h2 : (n : Int) - at_ < s.size := by omega
    clear h
    go_enter Tryd.func20, Tryd.ntmps20
    go_wp2
    go_ret
    exact ⟨rfl, rfl⟩
theorem rput_ok (T : TypeId) (p b n a : Nat) (most : Int) (f : Nat → Nat) (s : ByteArray) (w : World) (hm : Hid (Mem T w p b n most f)) (h : a + s.size ≤ n) :
    Calls Tryd.prog 20 #[.pointer (some ⟨p, 0, none⟩), .int .i64 (a : Nat), .string s] w fun e w' => e = .returned (.int .i64 0) ∧ Turned b w w' ∧ Mem T w' p b n most (lay f a s) := by
  have hc := hm.out.c0
  have hn := hm.out.2.2.2.2
  obtain ⟨w2, hw2⟩ : ∃ w2, w2 = w.setRow b (splice (srcOf f n) a (Lib.byteCells s.data.toList)).toArray := ⟨_, rfl⟩
  have HE : Hid _ := put_row hm.out h hw2
  by_cases ha : a = n
  · subst ha
    have h0 : s.size = 0 := by omega
    have hcp := run_copy_str (P := Tryd.prog) w 47 9 3 5 Tryd.underlying47 (by kernel_rfl) (some ⟨b, 0, none⟩) 0 0 s b a (srcOf f a) 5 (rowIs_list hm.out.2.2.1) (by omega) (fun h => by omega) (by rw [src_len]; omega)
    rw [← hw2] at hcp
    clear hw2 h0
    go_enter Tryd.func20, Tryd.ntmps20
    go_wp2
    go_ret
    exact ⟨rfl, HE.out.1, HE.out.2⟩
  · have hcp := run_copy_str (P := Tryd.prog) w 47 9 3 5 Tryd.underlying47 (by kernel_rfl) (some ⟨b, a, none⟩) (n - a) (n - a) s b a (srcOf f n) 5 (rowIs_list hm.out.2.2.1) (by omega) (fun h => rfl) (by rw [src_len]; omega)
    rw [← hw2] at hcp
    clear hw2
    go_enter Tryd.func20, Tryd.ntmps20
    go_wp2
    go_ret
    exact ⟨rfl, HE.out.1, HE.out.2⟩
theorem rnew_ok (q : Nat) (m c top : Int) (h : (q : Int) ≤ c ∧ c ≤ 16) (hm : (m = -1 ∧ top = c) ∨ ((q : Int) ≤ m ∧ m ≤ 65536 ∧ top = min c m)) (w : World) :
    Calls Tryd.prog 10 #[.agg #[.int .i64 (q : Int), .int .i64 m], .int .i64 c] w fun e w' => ∃ p b, e = .returned (.tuple #[.pointer (some ⟨p, 0, none⟩), .int .i64 0]) ∧ Later w w' ∧ w.heap.size ≤ p ∧ w.heap.size ≤ b ∧ Mem 49 w' p b (q * 65536) top (fun _ => 0) := by
  have k1 : ¬ c < 0 := by omega
  have k2 : ¬ 16 < c := by omega
  have k3 : ¬ c < (q : Int) := by omega
  have k6 : ¬ 65536 < (q : Int) := by omega
  have k7 : ¬ (q : Int) < 0 := by omega
  have hmk := make_bytes q (by omega)
  have hmn : Hid (∀ (W : World), Mem 49 ((W.alloc (.cells (madeCells #[.int .u8 0] (q * 65536)) 5)).alloc (.cells #[.slice (some ⟨W.heap.size, 0, none⟩) (q * 65536) (q * 65536), .int .i64 top] 49)) (W.heap.size + 1) W.heap.size (q * 65536) top (fun _ => 0)) := fun W => mem_new _ W _ _ (by omega)
  generalize madeCells #[.int .u8 0] (q * 65536) = C at *
  rcases hm with ⟨rfl, rfl⟩ | ⟨hm1, hm2, ht⟩
  · go_enter Tryd.func10, Tryd.ntmps10
    go_wp2
    go_ret2
    exact ⟨w.heap.size + 1 + 1, rfl, (by repeat first | exact Lz _ | apply La | apply Lv | apply Ld), by omega, w.heap.size + 1, by omega, by simpa using hmn.out (w.alloc (.cells #[.int .i64 (q : Int), .int .i64 (-1)] 23))⟩
  · have k4 : ¬ m < 0 := by omega
    have k5 : (0 : Int) ≤ m := by omega
    have k8 : ¬ m < (q : Int) := by omega
    have k9 : ¬ 65536 < m := by omega
    have k10 : (m == -1) = false := by simp; omega
    by_cases hcm : c ≤ m
    · obtain rfl : top = c := by omega
      clear ht
      go_enter Tryd.func10, Tryd.ntmps10
      go_wp2
      go_ret2
      exact ⟨w.heap.size + 1 + 1, rfl, (by repeat first | exact Lz _ | apply La | apply Lv | apply Ld), by omega, w.heap.size + 1, by omega, by simpa using hmn.out (w.alloc (.cells #[.int .i64 (q : Int), .int .i64 m] 23))⟩
    · obtain rfl : top = m := by omega
      clear ht
      go_enter Tryd.func10, Tryd.ntmps10
      go_wp2
      go_ret2
      exact ⟨w.heap.size + 1 + 1, rfl, (by repeat first | exact Lz _ | apply La | apply Lv | apply Ld), by omega, w.heap.size + 1, by omega, by simpa using hmn.out (w.alloc (.cells #[.int .i64 (q : Int), .int .i64 top] 23))⟩
theorem rnew_bad (a m c : Int) (h : ¬ (0 ≤ a ∧ a ≤ 65536 ∧ (m = -1 ∨ (a ≤ m ∧ m ≤ 65536)) ∧ 0 ≤ c ∧ c ≤ 16 ∧ a ≤ c)) (w : World) :
    Calls Tryd.prog 10 #[.agg #[.int .i64 a, .int .i64 m], .int .i64 c] w fun e w' => e = .returned (.tuple #[.pointer none, .int .i64 800]) ∧ Later w w' := by
  rcases (by omega : a < 0 ∨ (¬ a < 0 ∧ 65536 < a) ∨ (¬ a < 0 ∧ ¬ 65536 < a ∧ ((¬ m = -1 ∧ m < a) ∨ (¬ m = -1 ∧ ¬ m < a ∧ 65536 < m) ∨ (m = -1 ∧ (c < 0 ∨ (¬ c < 0 ∧ 16 < c) ∨ (¬ c < 0 ∧ ¬ 16 < c ∧ c < a))) ∨ (¬ m = -1 ∧ ¬ m < a ∧ ¬ 65536 < m ∧ (c < 0 ∨ (¬ c < 0 ∧ 16 < c) ∨ (¬ c < 0 ∧ ¬ 16 < c ∧ c < a)))))) with h1 | ⟨h1, h2⟩ | ⟨h1, h2, ⟨h3, h4⟩ | ⟨h3, h4, h5⟩ | ⟨h3, h4 | ⟨h4, h5⟩ | ⟨h4, h5, h6⟩⟩ | ⟨h3, h4, h5, h6 | ⟨h6, h7⟩ | ⟨h6, h7, h8⟩⟩⟩
  all_goals
    clear h
    try subst h3
    try (have h9 : (m == -1) = false := beq_eq_false_iff_ne.2 h3)
    go_enter Tryd.func10, Tryd.ntmps10
    go_wp2
    go_ret2
    exact ⟨rfl, (by repeat first | exact Lz _ | apply La | apply Lv | apply Ld)⟩
end Go.Proofs.YtbbjbgbpjhhcoaaDoor
