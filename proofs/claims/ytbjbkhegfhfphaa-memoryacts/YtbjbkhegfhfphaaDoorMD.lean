/- Over this seat's translation: Load and Store of package memory. -/
import Derived.Test.YtbjbkhegfhfphaaDoorMC
set_option linter.unusedVariables false
set_option linter.unusedSimpArgs false
set_option maxRecDepth 100000
set_option maxHeartbeats 4000000
namespace Go.Proofs.YtbjbkhegfhfphaaDoor
open Go.RowKit Go.BY
def ldTab : List (Nat × Bool × Bool) := [(4, false, false), (8, false, true), (4, false, false), (8, false, true), (1, true, false), (1, false, false), (2, true, false), (2, false, false), (1, true, true), (1, false, true), (2, true, true), (2, false, true), (4, true, true), (4, false, true)]
def stTab : List Nat := [4, 8, 4, 8, 1, 2, 1, 2, 4]
def ldAt (k : Nat) : Nat × Bool × Bool := ldTab.getD k (0, false, false)
def stAt (k : Nat) : Nat := stTab.getD k 0
def Tabs (w : World) : Prop := (∀ k, k < 14 → w.cell? ⟨1, 3 * k, none⟩ = some (.int .i64 (ldAt k).1) ∧ w.cell? ⟨1, 3 * k + 1, none⟩ = some (.bool (ldAt k).2.1) ∧ w.cell? ⟨1, 3 * k + 2, none⟩ = some (.bool (ldAt k).2.2)) ∧
  (∀ k, k < 9 → w.cell? ⟨0, k, none⟩ = some (.int .i64 (stAt k)))
theorem Tabs.later {w w' : World} (h : Tabs w) (hl : Later w w') : Tabs w' :=
  ⟨fun k hk => ⟨hl.cell_of (h.1 k hk).1, hl.cell_of (h.1 k hk).2.1, hl.cell_of (h.1 k hk).2.2⟩, fun k hk => hl.cell_of (h.2 k hk)⟩
theorem addr_is (x : Int) (r : Bool) (hr : (x % 4294967296 == x) = r) (w : World) :
    Calls Tryd.prog 26 #[.int .i64 x] w fun e w' => e = .returned (.bool r) ∧ w' = w := by rw [← hr]; exact addr_any x w
theorem load_op (p : Nat) (op at_ off : Int) (h : op < 40 ∨ 53 < op) (w : World) :
    Calls Tryd.prog 15 #[.pointer (some ⟨p, 0, none⟩), .int .i64 op, .int .i64 at_, .int .i64 off] w fun e w' => e = .returned (.tuple #[.int .i64 0, .int .i64 800]) ∧ Later w w' := by
  rcases h with h | h
  · go_enter Tryd.func15, Tryd.ntmps15
    go_wp2
    go_ret2
    exact ⟨rfl, Lz _⟩
  · have h' : ¬ op < 40 := by omega
    go_enter Tryd.func15, Tryd.ntmps15
    go_wp2
    go_ret2
    exact ⟨rfl, Lz _⟩
theorem load_addr (p : Nat) (op at_ off : Int) (h : 40 ≤ op ∧ op ≤ 53) (r1 r2 : Bool) (h1 : (at_ % 4294967296 == at_) = r1) (h2 : (off % 4294967296 == off) = r2) (hr : (r1 && r2) = false) (w : World) :
    Calls Tryd.prog 15 #[.pointer (some ⟨p, 0, none⟩), .int .i64 op, .int .i64 at_, .int .i64 off] w fun e w' => e = .returned (.tuple #[.int .i64 0, .int .i64 800]) ∧ Later w w' := by
  have k1 : ¬ op < 40 := by omega
  have k2 : ¬ 53 < op := by omega
  replace h1 : Hid ((at_ % 4294967296 == at_) = r1) := h1
  replace h2 : Hid ((off % 4294967296 == off) = r2) := h2
  cases r1 <;> cases r2 <;> simp at hr
  all_goals
    go_enter Tryd.func15, Tryd.ntmps15
    go_wp2_with (first | (go_at_call_of 26 at_; refine (addr_is _ _ h1.out _).mono ?_; rintro e w' ⟨rfl, rfl⟩) | (go_at_call_of 26 off; refine (addr_is _ _ h2.out _).mono ?_; rintro e w' ⟨rfl, rfl⟩))
    go_ret2
    exact ⟨rfl, Lz _⟩
theorem ld_facts (k : Nat) (hk : k < 14) : 1 ≤ (ldAt k).1 ∧ (ldAt k).1 ≤ 8 ∧ ((ldAt k).2.1 = true → ((ldAt k).1 = 1 ∨ (ldAt k).1 = 2 ∨ (ldAt k).1 = 4)) := by
  revert k; decide
theorem p8 (x : Nat) (h : x ≤ 8) : 256 ^ x ≤ 18446744073709551616 := Nat.le_trans (Nat.pow_le_pow_right (by decide) h) (by decide)
theorem fits_is (p : Nat) (A : Option Addr) (n cap : Nat) (a o sz : Nat) (r : Bool) (hr : decide (a + o + sz ≤ n) = r) (h1 : a < 4294967296) (h2 : o < 4294967296) (h3 : sz ≤ 8) (hn : n ≤ 1048576) (w : World) (c0 : w.cell? ⟨p, 0, none⟩ = some (.slice A n cap)) :
    Calls Tryd.prog 27 #[.pointer (some ⟨p, 0, none⟩), .int .i64 (a : Nat), .int .i64 (o : Nat), .int .i64 (sz : Nat)] w fun e w' => e = .returned (.bool r) ∧ w' = w := by
  have h := fits_any p A n cap a o sz w c0
  have e : decide ((o : Int) ≤ wrap64 (wrap64 (n - sz) - a)) = r := by
    rw [← hr]
    apply decide_eq_decide.2
    simp only [wrap64]; omega
  rw [e] at h
  exact h
theorem wrap_sum (a o : Nat) (h1 : a < 4294967296) (h2 : o < 4294967296) : IntKind.i64.wrap ((a : Int) + (o : Int)) = ((a + o : Nat) : Int) := by rw [IntKind.wrap_i64]; omega
theorem load_in (T : TypeId) (p b n k a o : Nat) (most : Int) (f : Nat → Nat) (hk : k < 14) (h1 : a < 4294967296) (h2 : o < 4294967296) (w : World) (hT : Hid (Tabs w)) (hm : Hid (Mem T w p b n most f)) (hfit : a + o + (ldAt k).1 ≤ n) :
    Calls Tryd.prog 15 #[.pointer (some ⟨p, 0, none⟩), .int .i64 ((40 + k : Nat) : Int), .int .i64 (a : Nat), .int .i64 (o : Nat)] w fun e w' => e = .returned (.tuple #[.int .i64 (lv (ldAt k).1 (ldAt k).2.1 (ldAt k).2.2 (wd f (a + o) (ldAt k).1)), .int .i64 0]) ∧ Later w w' := by
  have e1 : ((a : Int) % 4294967296 == (a : Int)) = true := by simp; omega
  have e2 : ((o : Int) % 4294967296 == (o : Int)) = true := by simp; omega
  obtain ⟨t0, t1, t2⟩ := hT.out.1 k hk
  obtain ⟨f1, f2, f3⟩ := ld_facts k hk
  have hn := hm.out.2.2.2.2
  have hc := hm.out.c0
  have hw := wd_lt f (a + o) hm.out.2.2.2.1 (ldAt k).1
  have hw8 := p8 _ f2
  replace e1 : Hid (((a : Int) % 4294967296 == (a : Int)) = true) := e1
  replace e2 : Hid (((o : Int) % 4294967296 == (o : Int)) = true) := e2
  have hrd : Hid (∀ w', Later w w' → Calls Tryd.prog 32 #[.pointer (some ⟨p, 0, none⟩), .int .i64 (IntKind.i64.wrap ((a : Int) + (o : Int))), .int .i64 ((ldAt k).1 : Nat)] w' fun e w2 => e = .returned (.int .u64 (wd f (a + o) (ldAt k).1 : Nat)) ∧ w2 = w') := fun w' hl => by
    rw [wrap_sum a o h1 h2]
    exact read_any p b n (a + o) (ldAt k).1 f hm.out.2.2.2.1 f1 f2 hfit (by omega) w' (hm.out.later hl).c0 (hm.out.later hl).by_
  have hre : Hid (∀ w' : World, Calls Tryd.prog 31 #[.agg #[.int .i64 ((ldAt k).1 : Nat), .bool (ldAt k).2.1, .bool (ldAt k).2.2], .int .u64 (wd f (a + o) (ldAt k).1 : Nat)] w' fun e w2 => e = .returned (.int .i64 (lv (ldAt k).1 (ldAt k).2.1 (ldAt k).2.2 (wd f (a + o) (ldAt k).1))) ∧ Later w' w2) := fun w' =>
    result_any _ _ _ _ (by omega) (fun h => ⟨f3 h, hw⟩) w'
  have hft : Hid (∀ w' : World, Later w w' → Calls Tryd.prog 27 #[.pointer (some ⟨p, 0, none⟩), .int .i64 (a : Nat), .int .i64 (o : Nat), .int .i64 ((ldAt k).1 : Nat)] w' fun e w2 => e = .returned (.bool true) ∧ w2 = w') := fun w' hl =>
    fits_is p _ n n a o _ true (by simpa using hfit) h1 h2 f2 hn w' (hm.out.later hl).c0
  clear hT
  generalize wd f (a + o) (ldAt k).1 = X at *
  generalize ldAt k = L at *
  obtain ⟨sz, s, wi⟩ := L
  simp only at *
  generalize lv sz s wi X = R at *
  have hpl := hm.out.lt.1
  clear hm hw hw8 f1 f2 f3 hfit
  have lG := cell_lt t0
  rcases (by omega : k = 0 ∨ k = 1 ∨ k = 2 ∨ k = 3 ∨ k = 4 ∨ k = 5 ∨ k = 6 ∨ k = 7 ∨ k = 8 ∨ k = 9 ∨ k = 10 ∨ k = 11 ∨ k = 12 ∨ k = 13) with rfl | rfl | rfl | rfl | rfl | rfl | rfl | rfl | rfl | rfl | rfl | rfl | rfl | rfl
  all_goals
    clear hk
    simp only [Nat.reduceMul, Nat.reduceAdd] at t0 t1 t2
    go_enter Tryd.func15, Tryd.ntmps15
    go_wp2_with (first | (go_at_call 26; refine (addr_is _ true (by first | exact e1.out | exact e2.out) _).mono ?_; rintro e w' ⟨rfl, rfl⟩) | (go_at_call 27; refine (hft.out _ (by repeat first | exact Lz _ | apply La | apply Ld)).mono ?_; rintro e w' ⟨rfl, rfl⟩))
    refine wp_region_quiet_far (by kernel_rfl) (by kernel_rfl) ?_
    repeat (quiet_step (first | (go_at_call 32; exact Calls.far_of_same (hrd.out _ (by repeat first | exact Lz _ | apply La | apply Lv | apply Ld))) | (go_at_call 31; exact Calls.far_of (hre.out _))))
    refine wpQuiet_nil ?_
    rintro _ ⟨⟨bs, m⟩, rfl⟩
    go_wp2
    go_ret2
    exact ⟨rfl, (by repeat first | exact Lz _ | apply La | apply Lv | apply Ld)⟩
theorem load_out (T : TypeId) (p b n k a o : Nat) (most : Int) (f : Nat → Nat) (hk : k < 14) (h1 : a < 4294967296) (h2 : o < 4294967296) (w : World) (hT : Hid (Tabs w)) (hm : Hid (Mem T w p b n most f)) (hfit : ¬ a + o + (ldAt k).1 ≤ n) :
    Calls Tryd.prog 15 #[.pointer (some ⟨p, 0, none⟩), .int .i64 ((40 + k : Nat) : Int), .int .i64 (a : Nat), .int .i64 (o : Nat)] w fun e w' => e = .returned (.tuple #[.int .i64 0, .int .i64 801]) ∧ Later w w' := by
  have e1 : ((a : Int) % 4294967296 == (a : Int)) = true := by simp; omega
  have e2 : ((o : Int) % 4294967296 == (o : Int)) = true := by simp; omega
  obtain ⟨t0, t1, t2⟩ := hT.out.1 k hk
  obtain ⟨f1, f2, f3⟩ := ld_facts k hk
  have hn := hm.out.2.2.2.2
  replace e1 : Hid (((a : Int) % 4294967296 == (a : Int)) = true) := e1
  replace e2 : Hid (((o : Int) % 4294967296 == (o : Int)) = true) := e2
  have hft : Hid (∀ w' : World, Later w w' → Calls Tryd.prog 27 #[.pointer (some ⟨p, 0, none⟩), .int .i64 (a : Nat), .int .i64 (o : Nat), .int .i64 ((ldAt k).1 : Nat)] w' fun e w2 => e = .returned (.bool false) ∧ w2 = w') := fun w' hl =>
    fits_is p _ n n a o _ false (by simpa using hfit) h1 h2 f2 hn w' (hm.out.later hl).c0
  clear hT
  generalize ldAt k = L at *
  obtain ⟨sz, s, wi⟩ := L
  simp only at *
  clear hm f1 f2 f3 hfit
  have lG := cell_lt t0
  rcases (by omega : k = 0 ∨ k = 1 ∨ k = 2 ∨ k = 3 ∨ k = 4 ∨ k = 5 ∨ k = 6 ∨ k = 7 ∨ k = 8 ∨ k = 9 ∨ k = 10 ∨ k = 11 ∨ k = 12 ∨ k = 13) with rfl | rfl | rfl | rfl | rfl | rfl | rfl | rfl | rfl | rfl | rfl | rfl | rfl | rfl
  all_goals
    clear hk
    simp only [Nat.reduceMul, Nat.reduceAdd] at t0 t1 t2
    go_enter Tryd.func15, Tryd.ntmps15
    go_wp2_with (first | (go_at_call 26; refine (addr_is _ true (by first | exact e1.out | exact e2.out) _).mono ?_; rintro e w' ⟨rfl, rfl⟩) | (go_at_call 27; refine (hft.out _ (by repeat first | exact Lz _ | apply La | apply Ld)).mono ?_; rintro e w' ⟨rfl, rfl⟩))
    go_ret2
    exact ⟨rfl, (by repeat first | exact Lz _ | apply La | apply Lv | apply Ld)⟩
end Go.Proofs.YtbjbkhegfhfphaaDoor
