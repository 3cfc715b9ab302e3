/- Over this seat's translation: Grow and Put of package memory. -/
import Derived.Test.YtbbjbgbpjhhcoaaDoorMF
set_option linter.unusedVariables false
set_option linter.unusedSimpArgs false
set_option maxRecDepth 100000
set_option maxHeartbeats 4000000
namespace Go.Proofs.YtbbjbgbpjhhcoaaDoor
open Go.RowKit Go.BY
theorem grow_no (T : TypeId) (p b q : Nat) (most : Int) (f : Nat → Nat) (x : Int) (w : World) (hm : Hid (Mem T w p b (q * 65536) most f)) (h0 : 0 ≤ most ∧ most ≤ 16) (hx : most - q < x % 4294967296) :
    Calls Tryd.prog 17 #[.pointer (some ⟨p, 0, none⟩), .int .i64 x] w fun e w' => e = .returned (.int .i64 4294967295) ∧ w' = w := by
  have hc := hm.out.c0
  have hc1 := hm.out.c1
  have hq : q ≤ 16 := by have := hm.out.2.2.2.2; omega
  go_enter Tryd.func17, Tryd.ntmps17
  go_wp2_with (first | (go_at_call 21; refine (pages_any T p b q most f _ hm).mono ?_; rintro e w' ⟨rfl, rfl⟩) | (go_at_call 38; refine (low_any _ _).mono ?_; rintro e w' ⟨rfl, rfl⟩))
  go_ret
  exact ⟨rfl, rfl⟩
theorem grow_none (T : TypeId) (p b q : Nat) (most : Int) (f : Nat → Nat) (x : Int) (w : World) (hm : Hid (Mem T w p b (q * 65536) most f)) (h0 : 0 ≤ most ∧ most ≤ 16) (hqm : q ≤ most) (hx : x % 4294967296 = 0) :
    Calls Tryd.prog 17 #[.pointer (some ⟨p, 0, none⟩), .int .i64 x] w fun e w' => e = .returned (.int .i64 q) ∧ w' = w := by
  have hc := hm.out.c0
  have hc1 := hm.out.c1
  have hq : q ≤ 16 := by have := hm.out.2.2.2.2; omega
  go_enter Tryd.func17, Tryd.ntmps17
  go_wp2_with (first | (go_at_call 21; refine (pages_any T p b q most f _ hm).mono ?_; rintro e w' ⟨rfl, rfl⟩) | (go_at_call 38; refine (low_any _ _).mono ?_; rintro e w' ⟨rfl, rfl⟩))
  go_ret
  exact ⟨rfl, rfl⟩
theorem low_is (x y : Int) (h : x % 4294967296 = y) (w : World) :
    Calls Tryd.prog 38 #[.int .i64 x] w fun e w' => e = .returned (.int .i64 y) ∧ w' = w := by rw [← h]; exact low_any x w
def srcOf (f : Nat → Nat) (n : Nat) : List Value := (List.range n).map fun i => Value.int .u8 (f i : Nat)
theorem src_len (f : Nat → Nat) (n : Nat) : (srcOf f n).length = n := by simp [srcOf]
theorem src_get (f : Nat → Nat) (n i : Nat) (h : i < n) : (srcOf f n)[i]? = some (.int .u8 (f i : Nat)) := by simp [srcOf, h]
theorem src_one (f : Nat → Nat) (n : Nat) : ∀ v ∈ srcOf f n, v.oneCell' = true := by
  intro v hv
  simp only [srcOf, List.mem_map] at hv
  obtain ⟨i, _, rfl⟩ := hv
  rfl
theorem add_at (b j : Nat) : (⟨b, 0, none⟩ : Addr).add j = ⟨b, j, none⟩ := by unfold Addr.add; split <;> simp_all
theorem src_at {w : World} {b n : Nat} {f : Nat → Nat} (h : ∀ i, i < n → w.cell? ⟨b, i, none⟩ = some (.int .u8 (f i : Nat))) : ∀ j v, (srcOf f n)[j]? = some v → w.cell? ((⟨b, 0, none⟩ : Addr).add j) = some v := by
  intro j v hv
  have hj : j < n := by have := (List.getElem?_eq_some_iff.1 hv).1; rwa [src_len] at this
  rw [src_get f n j hj] at hv
  rw [add_at, h j hj, hv]
theorem grown_row (w w2 : World) (N n : Nat) (f : Nat → Nat) (hn : n ≤ N) (h : w2 = (w.alloc (.cells (madeCells #[.int .u8 0] N) 5)).setRow w.heap.size (splice (madeCells #[.int .u8 0] N).toList 0 (srcOf f n)).toArray) :
    w2.rowIs w.heap.size 5 N (fun i => .int .u8 ((if i < n then f i else 0 : Nat) : Int)) ∧ Later w w2 := by
  subst h
  have hsz : (madeCells #[Value.int .u8 0] N).size = N := size_madeCells _ _
  have hb : (w.alloc (.cells (madeCells #[.int .u8 0] N) 5)).heap[w.heap.size]? = some (.cells (madeCells #[.int .u8 0] N) 5 (0, 0)) := heap_alloc_new w _
  refine ⟨rowIs_of_list _ (setRow_heap _ _ _ _ 5 (0, 0) hb) (by rw [length_splice _ _ _ (by rw [src_len]; simp [hsz]; omega)]; simp [hsz]) (fun i hi => ?_), (La (Lz w)).setRow _ (Nat.le_refl _) hb⟩
  rw [splice_get _ _ _ _ (by rw [src_len]; simp [hsz]; omega), src_len]
  by_cases h : i < n
  · rw [if_pos (by omega), if_pos h]; exact src_get f n i h
  · rw [if_neg (by omega), if_neg h]
    simp [madeCells, hi, Nat.mod_one]
theorem mem_grown {T : TypeId} {w w2 : World} {p b n N : Nat} {most : Int} {f : Nat → Nat} (hm : Mem T w p b n most f) (hN : N ≤ 1048576) (g : Nat → Nat) (hg : ∀ i, g i < 256) (hr : w2.rowIs w.heap.size 5 N (fun i => .int .u8 (g i : Nat))) (hl : Later w w2) :
    Turned p w (w2.setCell ⟨p, 0, none⟩ (.slice (some ⟨w.heap.size, 0, none⟩) N N)) ∧ Mem T (w2.setCell ⟨p, 0, none⟩ (.slice (some ⟨w.heap.size, 0, none⟩) N N)) p w.heap.size N most g := by
  have hlt := hm.lt.1
  refine ⟨(Turned.of_later hm.2.1 hl).set hm.2.1 _ _, by omega, ((rowIs_later hl hm.2.1).set 0 _).congr fun i hi => ?_, hr.setOther (by simp; omega) _, hg, hN⟩
  by_cases h : i = 0
  · rw [if_pos h, if_pos h]
  · rw [if_neg h, if_neg h, if_neg h]
theorem grow_yes (T : TypeId) (p b q m : Nat) (most : Int) (f : Nat → Nat) (x : Int) (w : World) (hm : Hid (Mem T w p b (q * 65536) most f)) (h0 : 0 ≤ most ∧ most ≤ 16) (hx : Hid (x % 4294967296 = (m : Int))) (hm0 : 0 < m) (hqm : q + m ≤ most) :
    Calls Tryd.prog 17 #[.pointer (some ⟨p, 0, none⟩), .int .i64 x] w fun e w' => e = .returned (.int .i64 q) ∧ Turned p w w' ∧ Mem T w' p w.heap.size ((q + m) * 65536) most (fun i => if i < q * 65536 then f i else 0) := by
  have hc := hm.out.c0
  have hc1 := hm.out.c1
  have hpl := hm.out.lt.1
  have hbl := hm.out.lt.2
  have hq : q ≤ 16 := by have := hm.out.2.2.2.2; omega
  have hmk := make_bytes (q + m) (by omega)
  simp only [Int.natCast_add] at hmk
  have hC : (madeCells #[Value.int .u8 0] ((q + m) * 65536)).size = (q + m) * 65536 := size_madeCells _ _
  obtain ⟨w2, hw2⟩ : ∃ w2, w2 = (w.alloc (.cells (madeCells #[.int .u8 0] ((q + m) * 65536)) 5)).setRow w.heap.size (splice (madeCells #[.int .u8 0] ((q + m) * 65536)).toList 0 (srcOf f (q * 65536))).toArray := ⟨_, rfl⟩
  have hcp := run_copy_to (P := Tryd.prog) (w.alloc (.cells (madeCells #[.int .u8 0] ((q + m) * 65536)) 5)) 47 47 3 5 Tryd.underlying47 (by kernel_rfl) (some ⟨w.heap.size, 0, none⟩) (some ⟨b, 0, none⟩) ((q + m) * 65536) ((q + m) * 65536) (q * 65536) (q * 65536) w.heap.size 0 (madeCells #[.int .u8 0] ((q + m) * 65536)).toList 5 (by simpa using heap_alloc_new w _) (srcOf f (q * 65536)) (by rw [src_len]; exact (Nat.min_eq_left (by omega)).symm) (fun _ => ⟨rfl, _, rfl, src_at fun i hi => (La (Lz _)).cell_of (hm.out.by_ i hi)⟩) (by rw [src_len]; simp [hC]; omega) (src_one _ _)
  rw [← hw2, src_len] at hcp
  obtain ⟨G1, G2⟩ := grown_row w w2 _ _ f (by omega) hw2
  clear hw2 hC
  have HE := mem_grown hm.out (by omega) (fun i => if i < q * 65536 then f i else 0) (fun i => by show (if i < q * 65536 then f i else 0) < 256; split <;> first | exact hm.out.2.2.2.1 i | decide) G1 G2
  have k0 := G2.cell_of hc
  have k2 := (rowIs_later G2 hm.out.2.1).frozen 0
  replace G1 : Hid True := trivial
  replace G2 : Hid True := trivial
  replace HE : Hid _ := HE
  generalize madeCells #[.int .u8 0] ((q + m) * 65536) = C at *
  go_enter Tryd.func17, Tryd.ntmps17
  go_wp2_with (first | (go_at_call 21; refine (pages_any T p b q most f _ hm).mono ?_; rintro e w' ⟨rfl, rfl⟩) | (go_at_call 38; refine (low_is _ _ hx.out _).mono ?_; rintro e w' ⟨rfl, rfl⟩))
  go_ret
  exact ⟨rfl, HE.out.1, HE.out.2⟩
/-- bytes of a string laid over -/
def lay (f : Nat → Nat) (a : Nat) (s : ByteArray) : Nat → Nat := fun i => if a ≤ i ∧ i < a + s.size then (s.data.getD (i - a) 0).toNat else f i
theorem lay_lt (f : Nat → Nat) (a : Nat) (s : ByteArray) (h : ∀ i, f i < 256) (i : Nat) : lay f a s i < 256 := by
  unfold lay; split
  · exact UInt8.toNat_lt _
  · exact h i
theorem put_bad (T : TypeId) (p b n : Nat) (most : Int) (f : Nat → Nat) (at_ : Int) (s : ByteArray) (w : World) (hm : Hid (Mem T w p b n most f)) (ha : -9223372036854775808 ≤ at_ ∧ at_ ≤ 9223372036854775807) (h : at_ < 0 ∨ (n : Int) - at_ < s.size) (hs : s.size ≤ 9223372036854775807) :
    Calls Tryd.prog 19 #[.pointer (some ⟨p, 0, none⟩), .int .i64 at_, .string s] w fun e w' => e = .returned (.int .i64 801) ∧ w' = w := by
  have hc := hm.out.c0
  have hn := hm.out.2.2.2.2
  by_cases h1 : at_ < 0
  · go_enter Tryd.func19, Tryd.ntmps19
    go_wp2
    go_ret
    exact ⟨rfl, rfl⟩
  · have h2 : (n : Int) - at_ < s.size := by omega
    clear h
    go_enter Tryd.func19, Tryd.ntmps19
    go_wp2
    go_ret
    exact ⟨rfl, rfl⟩
theorem put_row {T : TypeId} {w w2 : World} {p b n a : Nat} {most : Int} {f : Nat → Nat} {s : ByteArray} (hm : Mem T w p b n most f) (h : a + s.size ≤ n)
    (h2 : w2 = w.setRow b (splice (srcOf f n) a (Lib.byteCells s.data.toList)).toArray) : Turned b w w2 ∧ Mem T w2 p b n most (lay f a s) := by
  have hb := rowIs_list hm.2.2.1
  have hlen : (Lib.byteCells s.data.toList).length = s.size := by rw [Lib.byteCells_length]; simp
  have hfit : a + (Lib.byteCells s.data.toList).length ≤ (srcOf f n).length := by rw [hlen, src_len]; exact h
  have ht : Turned b w w2 := by rw [h2]; exact (Turned.refl hm.2.2.1).setRow hm.2.2.1 _
  refine ⟨ht, hm.1, ht.row hm.2.1 hm.1, ?_, lay_lt f a s hm.2.2.2.1, hm.2.2.2.2⟩
  subst h2
  refine rowIs_of_list _ (setRow_heap _ _ _ _ 5 (0, 0) hb) (by rw [length_splice _ _ _ hfit, src_len]) (fun i hi => ?_)
  rw [splice_get _ _ _ _ hfit, hlen]
  unfold lay
  by_cases hh : a ≤ i ∧ i < a + s.size
  · rw [if_pos hh, if_pos hh]
    have hi2 : i - a < s.data.size := by have : s.data.size = s.size := rfl; omega
    simp [Lib.byteCells]
    exact ⟨s.data[i - a]'hi2, Array.getElem?_eq_getElem hi2, by rw [Array.getElem?_eq_getElem hi2]; rfl⟩
  · rw [if_neg hh, if_neg hh]
    exact src_get f n i hi
theorem put_ok (T : TypeId) (p b n a : Nat) (most : Int) (f : Nat → Nat) (s : ByteArray) (w : World) (hm : Hid (Mem T w p b n most f)) (h : a + s.size ≤ n) :
    Calls Tryd.prog 19 #[.pointer (some ⟨p, 0, none⟩), .int .i64 (a : Nat), .string s] w fun e w' => e = .returned (.int .i64 0) ∧ Turned b w w' ∧ Mem T w' p b n most (lay f a s) := by
  have hc := hm.out.c0
  have hn := hm.out.2.2.2.2
  obtain ⟨w2, hw2⟩ : ∃ w2, w2 = w.setRow b (splice (srcOf f n) a (Lib.byteCells s.data.toList)).toArray := ⟨_, rfl⟩
  have HE : Hid _ := put_row hm.out h hw2
  by_cases ha : a = n
  · subst ha
    have h0 : s.size = 0 := by omega
    have hcp := run_copy_str (P := Tryd.prog) w 47 9 3 5 Tryd.underlying47 (by kernel_rfl) (some ⟨b, 0, none⟩) 0 0 s b a (srcOf f a) 5 (rowIs_list hm.out.2.2.1) (by omega) (fun h => by omega) (by rw [src_len]; omega)
    rw [← hw2] at hcp
    clear hw2 h0
    go_enter Tryd.func19, Tryd.ntmps19
    go_wp2
    go_ret
    exact ⟨rfl, HE.out.1, HE.out.2⟩
  · have hcp := run_copy_str (P := Tryd.prog) w 47 9 3 5 Tryd.underlying47 (by kernel_rfl) (some ⟨b, a, none⟩) (n - a) (n - a) s b a (srcOf f n) 5 (rowIs_list hm.out.2.2.1) (by omega) (fun h => rfl) (by rw [src_len]; omega)
    rw [← hw2] at hcp
    clear hw2
    go_enter Tryd.func19, Tryd.ntmps19
    go_wp2
    go_ret
    exact ⟨rfl, HE.out.1, HE.out.2⟩
end Go.Proofs.YtbbjbgbpjhhcoaaDoor
