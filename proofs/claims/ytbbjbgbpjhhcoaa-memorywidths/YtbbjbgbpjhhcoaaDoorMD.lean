/- Over this seat's translation: Load and Store of package memory. -/
import Derived.Test.YtbbjbgbpjhhcoaaDoorMC
set_option linter.unusedVariables false
set_option linter.unusedSimpArgs false
set_option maxRecDepth 100000
set_option maxHeartbeats 4000000
namespace Go.Proofs.YtbbjbgbpjhhcoaaDoor
open Go.RowKit Go.BY
def ldTab : List (Nat × Bool × Bool) := [(4, false, false), (8, false, true), (4, false, false), (8, false, true), (1, true, false), (1, false, false), (2, true, false), (2, false, false), (1, true, true), (1, false, true), (2, true, true), (2, false, true), (4, true, true), (4, false, true)]
def stTab : List Nat := [4, 8, 4, 8, 1, 2, 1, 2, 4]
def ldAt (k : Nat) : Nat × Bool × Bool := ldTab.getD k (0, false, false)
def stAt (k : Nat) : Nat := stTab.getD k 0
def Tabs (w : World) : Prop := Acc w
theorem Tabs.later {w w' : World} (h : Tabs w) (hl : Later w w') : Tabs w' := Acc.later h hl
/-- what a load's row says -/
theorem ld_ac (k : Nat) (hk : k < 14) : (acAt k).1 = (ldAt k).1 ∧ (acAt k).2.2 = (ldAt k).2.1 ∧ wideT (acAt k).2.1 = (ldAt k).2.2 ∧ 124 ≤ (acAt k).2.1 ∧ (acAt k).2.1 ≤ 127 := by revert k; decide
theorem st_ac (k : Nat) (hk : k < 9) : (acAt (14 + k)).1 = stAt k := by revert k; decide
theorem of_load (k : Nat) (hk : k < 14) (w : World) (hT : Hid (Tabs w)) : ∃ ty : Nat, wideT ty = (ldAt k).2.2 ∧ 124 ≤ ty ∧ ty ≤ 127 ∧ ∀ W, Later w W →
    Calls Tryd.prog 28 #[.int .i64 ((40 + k : Nat) : Int)] W fun e w' => e = .returned (.agg #[.int .i64 (ldAt k).1, .int .i64 ty, .bool (ldAt k).2.1]) ∧ Later W w' := by
  obtain ⟨h1, h2, h3, h4, h5⟩ := ld_ac k hk
  refine ⟨(acAt k).2.1, h3, h4, h5, fun W hW => ?_⟩
  rw [← h1, ← h2]
  exact aof_any k (by omega) W (hT.out.later hW)
theorem of_store (k : Nat) (hk : k < 9) (w : World) (hT : Hid (Tabs w)) : ∃ (ty : Nat) (s : Bool), ∀ W, Later w W →
    Calls Tryd.prog 28 #[.int .i64 ((54 + k : Nat) : Int)] W fun e w' => e = .returned (.agg #[.int .i64 (stAt k : Nat), .int .i64 ty, .bool s]) ∧ Later W w' := by
  refine ⟨(acAt (14 + k)).2.1, (acAt (14 + k)).2.2, fun W hW => ?_⟩
  rw [← st_ac k hk, show 54 + k = 40 + (14 + k) by omega]
  exact aof_any (14 + k) (by omega) W (hT.out.later hW)
theorem addr_is (x : Int) (r : Bool) (hr : (x % 4294967296 == x) = r) (w : World) :
    Calls Tryd.prog 27 #[.int .i64 x] w fun e w' => e = .returned (.bool r) ∧ w' = w := by rw [← hr]; exact addr_any x w
theorem load_op (p : Nat) (op at_ off : Int) (h : op < 40 ∨ 53 < op) (w : World) :
    Calls Tryd.prog 15 #[.pointer (some ⟨p, 0, none⟩), .int .i64 op, .int .i64 at_, .int .i64 off] w fun e w' => e = .returned (.tuple #[.int .i64 0, .int .i64 800]) ∧ Later w w' := by
  have h1 : Hid (decide (40 ≤ op ∧ op < 54) = false) := by show _ = _; simp; omega
  go_enter Tryd.func15, Tryd.ntmps15
  go_wp2_with (go_at_call 33; refine (isload_is _ _ h1.out _).mono ?_; rintro e w' ⟨rfl, rfl⟩)
  go_ret2
  exact ⟨rfl, Lz _⟩
theorem load_addr (p : Nat) (op at_ off : Int) (h : 40 ≤ op ∧ op ≤ 53) (r1 r2 : Bool) (h1 : (at_ % 4294967296 == at_) = r1) (h2 : (off % 4294967296 == off) = r2) (hr : (r1 && r2) = false) (w : World) :
    Calls Tryd.prog 15 #[.pointer (some ⟨p, 0, none⟩), .int .i64 op, .int .i64 at_, .int .i64 off] w fun e w' => e = .returned (.tuple #[.int .i64 0, .int .i64 800]) ∧ Later w w' := by
  have k1 : Hid (decide (40 ≤ op ∧ op < 54) = true) := by show _ = _; simp; omega
  replace h1 : Hid ((at_ % 4294967296 == at_) = r1) := h1
  replace h2 : Hid ((off % 4294967296 == off) = r2) := h2
  cases r1 <;> cases r2 <;> simp at hr
  all_goals
    go_enter Tryd.func15, Tryd.ntmps15
    go_wp2_with (first | (go_at_call 33; refine (isload_is _ _ k1.out _).mono ?_; rintro e w' ⟨rfl, rfl⟩) | (go_at_call_of 27 at_; refine (addr_is _ _ h1.out _).mono ?_; rintro e w' ⟨rfl, rfl⟩) | (go_at_call_of 27 off; refine (addr_is _ _ h2.out _).mono ?_; rintro e w' ⟨rfl, rfl⟩))
    go_ret2
    exact ⟨rfl, Lz _⟩
theorem ld_facts (k : Nat) (hk : k < 14) : 1 ≤ (ldAt k).1 ∧ (ldAt k).1 ≤ 8 ∧ ((ldAt k).2.1 = true → ((ldAt k).1 = 1 ∨ (ldAt k).1 = 2 ∨ (ldAt k).1 = 4)) := by
  revert k; decide
theorem p8 (x : Nat) (h : x ≤ 8) : 256 ^ x ≤ 18446744073709551616 := Nat.le_trans (Nat.pow_le_pow_right (by decide) h) (by decide)
theorem fits_is (p : Nat) (A : Option Addr) (n cap : Nat) (a o sz : Nat) (r : Bool) (hr : decide (a + o + sz ≤ n) = r) (h1 : a < 4294967296) (h2 : o < 4294967296) (h3 : sz ≤ 8) (hn : n ≤ 1048576) (w : World) (c0 : w.cell? ⟨p, 0, none⟩ = some (.slice A n cap)) :
    Calls Tryd.prog 29 #[.pointer (some ⟨p, 0, none⟩), .int .i64 (a : Nat), .int .i64 (o : Nat), .int .i64 (sz : Nat)] w fun e w' => e = .returned (.bool r) ∧ w' = w := by
  have h := fits_any p A n cap a o sz w c0
  have e : decide ((o : Int) ≤ wrap64 (wrap64 (n - sz) - a)) = r := by
    rw [← hr]
    apply decide_eq_decide.2
    simp only [wrap64]; omega
  rw [e] at h
  exact h
theorem wrap_sum (a o : Nat) (h1 : a < 4294967296) (h2 : o < 4294967296) : IntKind.i64.wrap ((a : Int) + (o : Int)) = ((a + o : Nat) : Int) := by rw [IntKind.wrap_i64]; omega
theorem load_in (T : TypeId) (p b n k a o : Nat) (most : Int) (f : Nat → Nat) (hk : k < 14) (h1 : a < 4294967296) (h2 : o < 4294967296) (w : World) (hT : Hid (Tabs w)) (hm : Hid (Mem T w p b n most f)) (hfit : a + o + (ldAt k).1 ≤ n) :
    Calls Tryd.prog 15 #[.pointer (some ⟨p, 0, none⟩), .int .i64 ((40 + k : Nat) : Int), .int .i64 (a : Nat), .int .i64 (o : Nat)] w fun e w' => e = .returned (.tuple #[.int .i64 (lv (ldAt k).1 (ldAt k).2.1 (ldAt k).2.2 (wd f (a + o) (ldAt k).1)), .int .i64 0]) ∧ Later w w' := by
  have e1 : ((a : Int) % 4294967296 == (a : Int)) = true := by simp; omega
  have e2 : ((o : Int) % 4294967296 == (o : Int)) = true := by simp; omega
  obtain ⟨ty, y1, y2, y3, hof⟩ := of_load k hk w hT
  have kl : Hid (decide (40 ≤ ((40 + k : Nat) : Int) ∧ ((40 + k : Nat) : Int) < 54) = true) := by show _ = _; simp; omega
  replace hof : Hid _ := hof
  obtain ⟨f1, f2, f3⟩ := ld_facts k hk
  have hn := hm.out.2.2.2.2
  have hc := hm.out.c0
  have hw := wd_lt f (a + o) hm.out.2.2.2.1 (ldAt k).1
  have hw8 := p8 _ f2
  replace e1 : Hid (((a : Int) % 4294967296 == (a : Int)) = true) := e1
  replace e2 : Hid (((o : Int) % 4294967296 == (o : Int)) = true) := e2
  have hrd : Hid (∀ w', Later w w' → Calls Tryd.prog 35 #[.pointer (some ⟨p, 0, none⟩), .int .i64 (IntKind.i64.wrap ((a : Int) + (o : Int))), .int .i64 ((ldAt k).1 : Nat)] w' fun e w2 => e = .returned (.int .u64 (wd f (a + o) (ldAt k).1 : Nat)) ∧ w2 = w') := fun w' hl => by
    rw [wrap_sum a o h1 h2]
    exact read_any p b n (a + o) (ldAt k).1 f hm.out.2.2.2.1 f1 f2 hfit (by omega) w' (hm.out.later hl).c0 (hm.out.later hl).by_
  have hre : Hid (∀ w' : World, Calls Tryd.prog 34 #[.agg #[.int .i64 ((ldAt k).1 : Nat), .int .i64 (ty : Nat), .bool (ldAt k).2.1], .int .u64 (wd f (a + o) (ldAt k).1 : Nat)] w' fun e w2 => e = .returned (.int .i64 (lv (ldAt k).1 (ldAt k).2.1 (ldAt k).2.2 (wd f (a + o) (ldAt k).1))) ∧ Later w' w2) := fun w' => by
    rw [← y1]
    exact result_any _ _ _ _ (by omega) ⟨y2, y3⟩ (fun h => ⟨f3 h, hw⟩) w'
  have hft : Hid (∀ w' : World, Later w w' → Calls Tryd.prog 29 #[.pointer (some ⟨p, 0, none⟩), .int .i64 (a : Nat), .int .i64 (o : Nat), .int .i64 ((ldAt k).1 : Nat)] w' fun e w2 => e = .returned (.bool true) ∧ w2 = w') := fun w' hl =>
    fits_is p _ n n a o _ true (by simpa using hfit) h1 h2 f2 hn w' (hm.out.later hl).c0
  clear hT
  generalize wd f (a + o) (ldAt k).1 = X at *
  generalize ldAt k = L at *
  obtain ⟨sz, s, wi⟩ := L
  simp only at *
  generalize lv sz s wi X = R at *
  have hpl := hm.out.lt.1
  clear hm hw hw8 f1 f2 f3 hfit
  generalize ((40 + k : Nat) : Int) = op at *
  go_enter Tryd.func15, Tryd.ntmps15
  go_wp2_with (first | (go_at_call 33; refine (isload_is _ _ kl.out _).mono ?_; rintro e w' ⟨rfl, rfl⟩) | (go_at_call 28; refine (hof.out _ (by repeat first | exact Lz _ | apply La | apply Ld)).mono ?_; rintro e wa ⟨rfl, la⟩) | (go_at_call 27; refine (addr_is _ true (by first | exact e1.out | exact e2.out) _).mono ?_; rintro e w' ⟨rfl, rfl⟩) | (go_at_call 29; refine (hft.out _ (by repeat first | assumption | exact Lz _ | apply La | apply Ld | refine Later.trans ?_ la)).mono ?_; rintro e w' ⟨rfl, rfl⟩))
  refine wp_region_quiet_far (by kernel_rfl) (by kernel_rfl) ?_
  repeat (quiet_step (first | (go_at_call 35; exact Calls.far_of_same (hrd.out _ (by repeat first | assumption | exact Lz _ | apply La | apply Lv | apply Ld | refine Later.trans la ?_))) | (go_at_call 34; exact Calls.far_of (hre.out _))))
  refine wpQuiet_nil ?_
  rintro _ ⟨⟨bs, m⟩, rfl⟩
  go_wp2
  go_ret2
  exact ⟨rfl, (by repeat first | assumption | exact Lz _ | apply La | apply Lv | apply Ld | refine Later.trans la ?_)⟩
theorem load_out (T : TypeId) (p b n k a o : Nat) (most : Int) (f : Nat → Nat) (hk : k < 14) (h1 : a < 4294967296) (h2 : o < 4294967296) (w : World) (hT : Hid (Tabs w)) (hm : Hid (Mem T w p b n most f)) (hfit : ¬ a + o + (ldAt k).1 ≤ n) :
    Calls Tryd.prog 15 #[.pointer (some ⟨p, 0, none⟩), .int .i64 ((40 + k : Nat) : Int), .int .i64 (a : Nat), .int .i64 (o : Nat)] w fun e w' => e = .returned (.tuple #[.int .i64 0, .int .i64 801]) ∧ Later w w' := by
  have e1 : ((a : Int) % 4294967296 == (a : Int)) = true := by simp; omega
  have e2 : ((o : Int) % 4294967296 == (o : Int)) = true := by simp; omega
  obtain ⟨ty, y1, y2, y3, hof⟩ := of_load k hk w hT
  have kl : Hid (decide (40 ≤ ((40 + k : Nat) : Int) ∧ ((40 + k : Nat) : Int) < 54) = true) := by show _ = _; simp; omega
  replace hof : Hid _ := hof
  obtain ⟨f1, f2, f3⟩ := ld_facts k hk
  have hn := hm.out.2.2.2.2
  replace e1 : Hid (((a : Int) % 4294967296 == (a : Int)) = true) := e1
  replace e2 : Hid (((o : Int) % 4294967296 == (o : Int)) = true) := e2
  have hft : Hid (∀ w' : World, Later w w' → Calls Tryd.prog 29 #[.pointer (some ⟨p, 0, none⟩), .int .i64 (a : Nat), .int .i64 (o : Nat), .int .i64 ((ldAt k).1 : Nat)] w' fun e w2 => e = .returned (.bool false) ∧ w2 = w') := fun w' hl =>
    fits_is p _ n n a o _ false (by simpa using hfit) h1 h2 f2 hn w' (hm.out.later hl).c0
  clear hT
  generalize ldAt k = L at *
  obtain ⟨sz, s, wi⟩ := L
  simp only at *
  clear hm f1 f2 f3 hfit
  generalize ((40 + k : Nat) : Int) = op at *
  go_enter Tryd.func15, Tryd.ntmps15
  go_wp2_with (first | (go_at_call 33; refine (isload_is _ _ kl.out _).mono ?_; rintro e w' ⟨rfl, rfl⟩) | (go_at_call 28; refine (hof.out _ (by repeat first | exact Lz _ | apply La | apply Ld)).mono ?_; rintro e wa ⟨rfl, la⟩) | (go_at_call 27; refine (addr_is _ true (by first | exact e1.out | exact e2.out) _).mono ?_; rintro e w' ⟨rfl, rfl⟩) | (go_at_call 29; refine (hft.out _ (by repeat first | assumption | exact Lz _ | apply La | apply Ld | refine Later.trans ?_ la)).mono ?_; rintro e w' ⟨rfl, rfl⟩))
  go_ret2
  exact ⟨rfl, (by repeat first | assumption | exact Lz _ | apply La | apply Lv | apply Ld | refine Later.trans la ?_)⟩
end Go.Proofs.YtbbjbgbpjhhcoaaDoor
