/- Over this seat's translation: New, Pages, All, Grow, Put of package memory. -/
import Derived.Test.YtbbjbgbpjhhcoaaDoorMC
set_option linter.unusedVariables false
set_option linter.unusedSimpArgs false
set_option maxRecDepth 100000
set_option maxHeartbeats 4000000
namespace Go.Proofs.YtbbjbgbpjhhcoaaDoor
open Go.RowKit Go.BY
theorem info_u8 : (Tryd.prog.info? 5).map (fun i => (i.zero, i.size, i.bytes)) = some (some (.int .u8 0), 1, 1) := by kernel_rfl
theorem size_ok (a m : Int) (h : 0 ≤ a ∧ a ≤ 65536) (hm : m = -1 ∨ (a ≤ m ∧ m ≤ 65536)) (w : World) :
    Calls Tryd.prog 25 #[.agg #[.int .i64 a, .int .i64 m]] w fun e w' => e = .returned (.bool true) ∧ Later w w' := by
  have k1 : ¬ a < 0 := by omega
  have k2 : ¬ 65536 < a := by omega
  rcases hm with rfl | hm
  · go_enter Tryd.func25, Tryd.ntmps25
    go_wp2
    go_ret
    exact ⟨rfl, (by repeat first | exact Lz _ | apply La | apply Ld)⟩
  · have k3 : (m == -1) = false := by simp; omega
    have k4 : a ≤ m := hm.1
    have k5 : m ≤ 65536 := hm.2
    go_enter Tryd.func25, Tryd.ntmps25
    go_wp2
    go_ret
    exact ⟨rfl, (by repeat first | exact Lz _ | apply La | apply Ld)⟩
theorem mem_new (T : TypeId) (W : World) (N : Nat) (top : Int) (hN : N ≤ 1048576) :
    Mem T ((W.alloc (.cells (madeCells #[.int .u8 0] N) 5)).alloc (.cells #[.slice (some ⟨W.heap.size, 0, none⟩) N N, .int .i64 top] T)) (W.heap.size + 1) W.heap.size N top (fun _ => 0) := by
  have h1 := World.rowIs_made W (.int .u8 0) N 5
  have h2 := World.rowIs_alloc (W.alloc (.cells (madeCells #[.int .u8 0] N) 5)) #[.slice (some ⟨W.heap.size, 0, none⟩) N N, .int .i64 top] T (fun i => if i = 0 then .slice (some ⟨W.heap.size, 0, none⟩) N N else .int .i64 top) (by
    intro i hi
    match i, hi with
    | 0, _ => rfl
    | 1, _ => rfl)
  refine ⟨by omega, ?_, (h1.alloc _).congr fun i hi => rfl, fun i => Nat.zero_lt_succ _, hN⟩
  simpa using h2
theorem make_bytes (q : Nat) (hq : q ≤ 16) : ∀ w' : World, (Instr.makeSlice 47 (.int .i64 ((q : Int) * 65536)) (.int .i64 ((q : Int) * 65536))).run Tryd.prog w' = .ok (.slice (some ⟨w'.heap.size, 0, none⟩) (q * 65536) (q * 65536)) (w'.alloc (.cells (madeCells #[.int .u8 0] (q * 65536)) 5)) := fun w' => by
  have := run_make_row' (P := Tryd.prog) 47 5 (.int .u8 0) 1 Tryd.underlying47 info_u8 rfl .i64 .i64 (q * 65536) (by omega) (by omega) w'
  rw [Int.natCast_mul] at this
  exact this
theorem new_ok (q : Nat) (m c top : Int) (h : (q : Int) ≤ c ∧ c ≤ 16) (hm : (m = -1 ∧ top = c) ∨ ((q : Int) ≤ m ∧ m ≤ 65536 ∧ top = min c m)) (w : World) :
    Calls Tryd.prog 9 #[.agg #[.int .i64 (q : Int), .int .i64 m], .int .i64 c] w fun e w' => ∃ p b, e = .returned (.tuple #[.pointer (some ⟨p, 0, none⟩), .int .i64 0]) ∧ Later w w' ∧ w.heap.size ≤ p ∧ w.heap.size ≤ b ∧ Mem 59 w' p b (q * 65536) top (fun _ => 0) := by
  have k1 : ¬ c < 0 := by omega
  have k2 : ¬ 16 < c := by omega
  have k3 : ¬ c < (q : Int) := by omega
  have hsz : Hid (∀ w', Calls Tryd.prog 25 #[.agg #[.int .i64 (q : Int), .int .i64 m]] w' fun e w2 => e = .returned (.bool true) ∧ Later w' w2) := fun w' => size_ok _ _ (by omega) (by omega) w'
  have hmk := make_bytes q (by omega)
  have hmn : Hid (∀ (W : World), Mem 59 ((W.alloc (.cells (madeCells #[.int .u8 0] (q * 65536)) 5)).alloc (.cells #[.slice (some ⟨W.heap.size, 0, none⟩) (q * 65536) (q * 65536), .int .i64 top] 59)) (W.heap.size + 1) W.heap.size (q * 65536) top (fun _ => 0)) := fun W => mem_new _ W _ _ (by omega)
  generalize madeCells #[.int .u8 0] (q * 65536) = C at *
  rcases hm with ⟨rfl, rfl⟩ | ⟨hm1, hm2, ht⟩
  · go_enter Tryd.func9, Tryd.ntmps9
    go_wp2_with (go_at_call 25; refine (hsz.out _).mono ?_; rintro e w1 ⟨rfl, bs, n, rfl⟩)
    go_ret2
    refine ⟨_, _, rfl, (by repeat first | exact Lz _ | apply La | apply Lv | apply Ld), ?_, ?_, by simpa using hmn.out _⟩
    · simp [World.far_size]; omega
    · simp [World.far_size]; omega
  · have k4 : ¬ m < 0 := by omega
    have k5 : (0 : Int) ≤ m := by omega
    by_cases hcm : c ≤ m
    · obtain rfl : top = c := by omega
      clear ht
      go_enter Tryd.func9, Tryd.ntmps9
      go_wp2_with (go_at_call 25; refine (hsz.out _).mono ?_; rintro e w1 ⟨rfl, bs, n, rfl⟩)
      go_ret2
      refine ⟨_, _, rfl, (by repeat first | exact Lz _ | apply La | apply Lv | apply Ld), ?_, ?_, by simpa using hmn.out _⟩
      · simp [World.far_size]; omega
      · simp [World.far_size]; omega
    · obtain rfl : top = m := by omega
      clear ht
      go_enter Tryd.func9, Tryd.ntmps9
      go_wp2_with (go_at_call 25; refine (hsz.out _).mono ?_; rintro e w1 ⟨rfl, bs, n, rfl⟩)
      go_ret2
      refine ⟨_, _, rfl, (by repeat first | exact Lz _ | apply La | apply Lv | apply Ld), ?_, ?_, by simpa using hmn.out _⟩
      · simp [World.far_size]; omega
      · simp [World.far_size]; omega
theorem new_bad (a m c : Int) (h : ¬ (0 ≤ a ∧ a ≤ 65536 ∧ (m = -1 ∨ (a ≤ m ∧ m ≤ 65536)) ∧ 0 ≤ c ∧ c ≤ 16 ∧ a ≤ c)) (w : World) :
    Calls Tryd.prog 9 #[.agg #[.int .i64 a, .int .i64 m], .int .i64 c] w fun e w' => e = .returned (.tuple #[.pointer none, .int .i64 800]) ∧ Later w w' := by
  by_cases hs : 0 ≤ a ∧ a ≤ 65536 ∧ (m = -1 ∨ (a ≤ m ∧ m ≤ 65536))
  · have hsz : Hid (∀ w', Calls Tryd.prog 25 #[.agg #[.int .i64 a, .int .i64 m]] w' fun e w2 => e = .returned (.bool true) ∧ Later w' w2) := fun w' => size_ok _ _ (by omega) (by omega) w'
    have h3 : c < 0 ∨ (¬ c < 0 ∧ 16 < c) ∨ (¬ c < 0 ∧ ¬ 16 < c ∧ c < a) := by omega
    clear hs h
    rcases h3 with h | ⟨h1, h⟩ | ⟨h1, h2, h⟩
    all_goals
      go_enter Tryd.func9, Tryd.ntmps9
      go_wp2_with (go_at_call 25; refine (hsz.out _).mono ?_; rintro e w1 ⟨rfl, bs, n, rfl⟩)
      go_ret2
      exact ⟨rfl, (by repeat first | exact Lz _ | apply La | apply Lv | apply Ld)⟩
  · have hsz : Hid (∀ w', Calls Tryd.prog 25 #[.agg #[.int .i64 a, .int .i64 m]] w' fun e w2 => e = .returned (.bool false) ∧ Later w' w2) := fun w' => by
      clear h
      have h3 : a < 0 ∨ (¬ a < 0 ∧ 65536 < a) ∨ (¬ a < 0 ∧ ¬ 65536 < a ∧ ¬ m = -1 ∧ ¬ a ≤ m) ∨ (¬ a < 0 ∧ ¬ 65536 < a ∧ ¬ m = -1 ∧ a ≤ m ∧ ¬ m ≤ 65536) := by omega
      clear hs
      rcases h3 with h | ⟨h1, h⟩ | ⟨h1, h2, h4, h⟩ | ⟨h1, h2, h4, h, h5⟩
      all_goals try replace h4 : (m == -1) = false := beq_eq_false_iff_ne.2 h4
      all_goals
        go_enter Tryd.func25, Tryd.ntmps25
        go_wp2
        go_ret
        exact ⟨rfl, (by repeat first | exact Lz _ | apply La | apply Lv | apply Ld)⟩
    clear hs h
    go_enter Tryd.func9, Tryd.ntmps9
    go_wp2_with (go_at_call 25; refine (hsz.out _).mono ?_; rintro e w1 ⟨rfl, bs, n, rfl⟩)
    go_ret2
    exact ⟨rfl, (by repeat first | exact Lz _ | apply La | apply Lv | apply Ld)⟩
theorem pages_any (T : TypeId) (p b q : Nat) (most : Int) (f : Nat → Nat) (w : World) (hm : Hid (Mem T w p b (q * 65536) most f)) :
    Calls Tryd.prog 21 #[.pointer (some ⟨p, 0, none⟩)] w fun e w' => e = .returned (.int .i64 (q : Int)) ∧ w' = w := by
  have hc := hm.out.c0
  have hq : q ≤ 16 := by have := hm.out.2.2.2.2; omega
  go_enter Tryd.func21, Tryd.ntmps21
  go_wp2
  go_ret
  exact ⟨rfl, rfl⟩
/-- bytes as a string -/
def strOf (f : Nat → Nat) (n : Nat) : ByteArray := ⟨((List.range n).map fun i => UInt8.ofNat (f i)).toArray⟩
theorem strOf_size (f : Nat → Nat) (n : Nat) : (strOf f n).size = n := by simp [strOf, ByteArray.size]
theorem all_any (T : TypeId) (p b n : Nat) (most : Int) (f : Nat → Nat) (w : World) (hm : Hid (Mem T w p b n most f)) :
    Calls Tryd.prog 23 #[.pointer (some ⟨p, 0, none⟩)] w fun e w' => e = .returned (.string (strOf f n)) ∧ w' = w := by
  have hc := hm.out.c0
  have hcv : (convert 47 9 (.slice (some ⟨b, 0, none⟩) n n)).run Tryd.prog w = .ok (.string (strOf f n)) w := by
    have := run_convert_bytes_back (P := Tryd.prog) w 47 9 5 ⟨b, 0, none⟩ n ((List.range n).map fun i => UInt8.ofNat (f i)) Tryd.underlying47 Tryd.underlying5 Tryd.underlying9 (by
      intro j hj
      have hj' : j < n := by simpa using hj
      rw [show (⟨b, 0, none⟩ : Addr).add j = ⟨b, j, none⟩ from by unfold Addr.add; split <;> simp_all, hm.out.by_ j hj']
      have := hm.out.2.2.2.1 j
      simp
      omega)
    simpa [strOf] using this
  go_enter Tryd.func23, Tryd.ntmps23
  go_wp2
  go_ret
  exact ⟨rfl, rfl⟩
end Go.Proofs.YtbbjbgbpjhhcoaaDoor
