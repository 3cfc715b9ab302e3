/- Over this seat's translation: Store of package memory. -/
import Derived.Test.YtbbjbgbpjhhcoaaDoorMD
set_option linter.unusedVariables false
set_option linter.unusedSimpArgs false
set_option maxRecDepth 100000
set_option maxHeartbeats 4000000
namespace Go.Proofs.YtbbjbgbpjhhcoaaDoor
open Go.RowKit Go.BY
/-- an int's bits -/
def ux (x : Int) : Nat := (x % 18446744073709551616).toNat
theorem ux_lt (x : Int) : ux x < 18446744073709551616 := by unfold ux; omega
theorem ux_wrap (x : Int) : IntKind.u64.wrap x = ((ux x : Nat) : Int) := by unfold ux; rw [IntKind.wrap_u64]; omega
theorem st_facts (k : Nat) (hk : k < 9) : 1 ≤ stAt k ∧ stAt k ≤ 8 := by revert k; decide
theorem store_op (p : Nat) (op at_ off x : Int) (h : op < 54 ∨ 62 < op) (w : World) :
    Calls Tryd.prog 13 #[.pointer (some ⟨p, 0, none⟩), .int .i64 op, .int .i64 at_, .int .i64 off, .int .i64 x] w fun e w' => e = .returned (.int .i64 800) ∧ w' = w := by
  have h1 : Hid (decide (54 ≤ op ∧ op ≤ 62) = false) := by show _ = _; simp; omega
  go_enter Tryd.func13, Tryd.ntmps13
  go_wp2_with (go_at_call 26; refine (isstore_is _ _ h1.out _).mono ?_; rintro e w' ⟨rfl, rfl⟩)
  go_ret
  exact ⟨rfl, rfl⟩
theorem store_addr (p : Nat) (op at_ off x : Int) (h : 54 ≤ op ∧ op ≤ 62) (r1 r2 : Bool) (h1 : (at_ % 4294967296 == at_) = r1) (h2 : (off % 4294967296 == off) = r2) (hr : (r1 && r2) = false) (w : World) :
    Calls Tryd.prog 13 #[.pointer (some ⟨p, 0, none⟩), .int .i64 op, .int .i64 at_, .int .i64 off, .int .i64 x] w fun e w' => e = .returned (.int .i64 800) ∧ w' = w := by
  have k1 : Hid (decide (54 ≤ op ∧ op ≤ 62) = true) := by show _ = _; simp; omega
  replace h1 : Hid ((at_ % 4294967296 == at_) = r1) := h1
  replace h2 : Hid ((off % 4294967296 == off) = r2) := h2
  cases r1 <;> cases r2 <;> simp at hr
  all_goals
    go_enter Tryd.func13, Tryd.ntmps13
    go_wp2_with (first | (go_at_call 26; refine (isstore_is _ _ k1.out _).mono ?_; rintro e w' ⟨rfl, rfl⟩) | (go_at_call_of 27 at_; refine (addr_is _ _ h1.out _).mono ?_; rintro e w' ⟨rfl, rfl⟩) | (go_at_call_of 27 off; refine (addr_is _ _ h2.out _).mono ?_; rintro e w' ⟨rfl, rfl⟩))
    go_ret
    exact ⟨rfl, rfl⟩
theorem store_out (T : TypeId) (p b n k a o : Nat) (x : Int) (most : Int) (f : Nat → Nat) (hk : k < 9) (h1 : a < 4294967296) (h2 : o < 4294967296) (w : World) (hT : Hid (Tabs w)) (hm : Hid (Mem T w p b n most f)) (hfit : ¬ a + o + stAt k ≤ n) :
    Calls Tryd.prog 13 #[.pointer (some ⟨p, 0, none⟩), .int .i64 ((54 + k : Nat) : Int), .int .i64 (a : Nat), .int .i64 (o : Nat), .int .i64 x] w fun e w' => e = .returned (.int .i64 801) ∧ Later w w' := by
  have e1 : ((a : Int) % 4294967296 == (a : Int)) = true := by simp; omega
  have e2 : ((o : Int) % 4294967296 == (o : Int)) = true := by simp; omega
  obtain ⟨ty, sg, hof⟩ := of_store k hk w hT
  have kl : Hid (decide (54 ≤ ((54 + k : Nat) : Int) ∧ ((54 + k : Nat) : Int) ≤ 62) = true) := by show _ = _; simp; omega
  replace hof : Hid _ := hof
  obtain ⟨f1, f2⟩ := st_facts k hk
  have hn := hm.out.2.2.2.2
  replace e1 : Hid (((a : Int) % 4294967296 == (a : Int)) = true) := e1
  replace e2 : Hid (((o : Int) % 4294967296 == (o : Int)) = true) := e2
  have hft : Hid (∀ w' : World, Later w w' → Calls Tryd.prog 29 #[.pointer (some ⟨p, 0, none⟩), .int .i64 (a : Nat), .int .i64 (o : Nat), .int .i64 (stAt k : Nat)] w' fun e w2 => e = .returned (.bool false) ∧ w2 = w') := fun w' hl =>
    fits_is p _ n n a o _ false (by simpa using hfit) h1 h2 f2 hn w' (hm.out.later hl).c0
  clear hT hm f1 f2 hfit
  generalize stAt k = sz at *
  generalize ((54 + k : Nat) : Int) = op at *
  have hfd : ∀ w : World, (Instr.field 62 (.agg #[.int .i64 (sz : Nat), .int .i64 (ty : Nat), .bool sg]) 0).run Tryd.prog w = .ok (.int .i64 (sz : Nat)) w := fun _ => by kernel_rfl
  go_enter Tryd.func13, Tryd.ntmps13
  go_wp2_with (first | (go_at_call 26; refine (isstore_is _ _ kl.out _).mono ?_; rintro e w' ⟨rfl, rfl⟩) | (go_at_call 28; refine (hof.out _ (by repeat first | exact Lz _ | apply La | apply Ld)).mono ?_; rintro e wa ⟨rfl, la⟩) | (go_at_call 27; refine (addr_is _ true (by first | exact e1.out | exact e2.out) _).mono ?_; rintro e w' ⟨rfl, rfl⟩) | (go_at_call 29; refine (hft.out _ (by repeat first | assumption | exact Lz _ | apply La | apply Ld)).mono ?_; rintro e w' ⟨rfl, rfl⟩))
  go_ret
  exact ⟨rfl, (by repeat first | assumption | exact Lz _ | apply La | apply Ld)⟩
theorem store_in (T : TypeId) (p b n k a o : Nat) (x : Int) (most : Int) (f : Nat → Nat) (hk : k < 9) (h1 : a < 4294967296) (h2 : o < 4294967296) (w : World) (hT : Hid (Tabs w)) (hm : Hid (Mem T w p b n most f)) (hfit : a + o + stAt k ≤ n) :
    Calls Tryd.prog 13 #[.pointer (some ⟨p, 0, none⟩), .int .i64 ((54 + k : Nat) : Int), .int .i64 (a : Nat), .int .i64 (o : Nat), .int .i64 x] w fun e w' => e = .returned (.int .i64 0) ∧ ∃ wa, Later w wa ∧ Turned b wa w' ∧ Mem T w' p b n most (put f (a + o) (stAt k) (ux x)) := by
  have e1 : ((a : Int) % 4294967296 == (a : Int)) = true := by simp; omega
  have e2 : ((o : Int) % 4294967296 == (o : Int)) = true := by simp; omega
  obtain ⟨ty, sg, hof⟩ := of_store k hk w hT
  have kl : Hid (decide (54 ≤ ((54 + k : Nat) : Int) ∧ ((54 + k : Nat) : Int) ≤ 62) = true) := by show _ = _; simp; omega
  replace hof : Hid _ := hof
  obtain ⟨f1, f2⟩ := st_facts k hk
  have hn := hm.out.2.2.2.2
  replace e1 : Hid (((a : Int) % 4294967296 == (a : Int)) = true) := e1
  replace e2 : Hid (((o : Int) % 4294967296 == (o : Int)) = true) := e2
  have hft : Hid (∀ w' : World, Later w w' → Calls Tryd.prog 29 #[.pointer (some ⟨p, 0, none⟩), .int .i64 (a : Nat), .int .i64 (o : Nat), .int .i64 (stAt k : Nat)] w' fun e w2 => e = .returned (.bool true) ∧ w2 = w') := fun w' hl =>
    fits_is p _ n n a o _ true (by simpa using hfit) h1 h2 f2 hn w' (hm.out.later hl).c0
  have hwr : Hid (∀ wa, Later w wa → Calls Tryd.prog 30 #[.pointer (some ⟨p, 0, none⟩), .int .i64 ((a : Int) + (o : Int)), .int .i64 (stAt k : Nat), .int .u64 (IntKind.u64.wrap x)] wa fun e w' => e = .returned (.tuple #[]) ∧ Turned b wa w' ∧ Mem T w' p b n most (put f (a + o) (stAt k) (ux x))) := fun wa la => by
    have := write_any T p b n (a + o) (stAt k) (ux x) most f f2 (ux_lt x) hfit wa (hm.out.later la)
    rw [Int.natCast_add] at this
    rw [ux_wrap x]
    exact this
  clear hT hm f1 f2 hfit
  generalize put f (a + o) (stAt k) (ux x) = g at *
  generalize stAt k = sz at *
  generalize ((54 + k : Nat) : Int) = op at *
  have hfd : ∀ w : World, (Instr.field 62 (.agg #[.int .i64 (sz : Nat), .int .i64 (ty : Nat), .bool sg]) 0).run Tryd.prog w = .ok (.int .i64 (sz : Nat)) w := fun _ => by kernel_rfl
  go_enter Tryd.func13, Tryd.ntmps13
  go_wp2_with (first | (go_at_call 26; refine (isstore_is _ _ kl.out _).mono ?_; rintro e w' ⟨rfl, rfl⟩) | (go_at_call 28; refine (hof.out _ (by repeat first | exact Lz _ | apply La | apply Ld)).mono ?_; rintro e wa ⟨rfl, la⟩) | (go_at_call 27; refine (addr_is _ true (by first | exact e1.out | exact e2.out) _).mono ?_; rintro e w' ⟨rfl, rfl⟩) | (go_at_call 29; refine (hft.out _ (by repeat first | assumption | exact Lz _ | apply La | apply Ld)).mono ?_; rintro e w' ⟨rfl, rfl⟩))
  refine (hwr.out _ (by repeat first | assumption | exact Lz _ | apply La | apply Ld)).mono ?_
  rintro e w2 ⟨rfl, hT2, hM2⟩
  replace hT2 : Hid (Turned b _ w2) := hT2
  replace hM2 : Hid (Mem T w2 p b n most g) := hM2
  go_wp2
  go_ret
  exact ⟨rfl, _, (by repeat first | assumption | exact Lz _ | apply La | apply Ld), hT2.out, hM2.out⟩
end Go.Proofs.YtbbjbgbpjhhcoaaDoor
