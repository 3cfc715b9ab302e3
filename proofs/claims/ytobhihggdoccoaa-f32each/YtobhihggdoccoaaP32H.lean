/- Contracts of package f32n over this seat's translation: Bin; and 'awake'. -/
import Derived.Test.YtobhihggdoccoaaP32G
namespace Go.Proofs.Ytobhihggdoccoaa
open Go.RowKit
open Go.FM (isN fixn qn)
set_option linter.unusedVariables false

theorem fl_nat (c : Bool) : fl c = ((if c then 1 else 0 : Nat) : Int) := by cases c <;> rfl
theorem bin_cmp0 (op a b : Int) (x y : Nat) (hx : Hid (a % 4294967296 = (x : Int))) (hy : Hid (b % 4294967296 = (y : Int))) (hbx : Hid (x < 4294967296)) (hby : Hid (y < 4294967296)) (h : 91 ≤ op ∧ op ≤ 96) (w : World) :
    Calls Try.prog 11 #[.int .i64 op, .int .i64 a, .int .i64 b] w fun e w' => e = .returned (.tuple #[.int .i64 ((if cmpW op x y then 1 else 0 : Nat) : Int), .int .i64 0]) ∧ w' = w := by
  rw [← fl_nat]
  have h4 := h.1
  have h5 := h.2
  have h2 : Hid ((x : Int) < 4294967296) := Int.ofNat_lt.2 hbx.out
  have h3 : Hid ((y : Int) < 4294967296) := Int.ofNat_lt.2 hby.out
  have h6 : Hid (91 ≤ op ∧ op ≤ 96) := h
  clear h
  go_enter Try.func11, Try.ntmps11
  go_wp2_with (first | (first | (go_at_call_of 20 a; refine (low_eq a x hx _).mono ?_; rintro e w' ⟨rfl, rfl⟩) | (go_at_call_of 20 b; refine (low_eq b y hy _).mono ?_; rintro e w' ⟨rfl, rfl⟩)) | (first | (go_at_call_of 23 x; refine (floatOf_any x h2.out _).mono ?_; rintro e w' ⟨rfl, rfl⟩) | (go_at_call_of 23 y; refine (floatOf_any y h3.out _).mono ?_; rintro e w' ⟨rfl, rfl⟩)) | (go_at_call 28; refine (compare_any op x y h6.out _).mono ?_; rintro e w' ⟨rfl, rfl⟩) | (go_at_call 27; refine (flag_any _ _).mono ?_; rintro e w' ⟨rfl, rfl⟩))
  go_ret2
  exact ⟨rfl, rfl⟩
theorem bin_cmp (op a b : Int) (x y : Nat) (hx : Hid (a % 4294967296 = (x : Int))) (hy : Hid (b % 4294967296 = (y : Int))) (hbx : Hid (x < 4294967296)) (hby : Hid (y < 4294967296)) (h : 91 ≤ op ∧ op ≤ 96) (w : World) :
    Calls Try.prog 11 #[.int .i64 op, .int .i64 a, .int .i64 b] w fun e w' => e = .returned (.tuple #[.int .i64 ((if cmpW op x y then 1 else 0 : Nat) : Int), .int .i64 0]) ∧ Later w w' :=
  (bin_cmp0 op a b x y hx hy hbx hby h w).mono fun e w' h => ⟨h.1, by rw [h.2]; exact Later.refl _⟩
theorem bin_146 (a b : Int) (x y R : Nat) (hx : Hid (a % 4294967296 = (x : Int))) (hy : Hid (b % 4294967296 = (y : Int))) (hbx : Hid (x < 4294967296)) (hby : Hid (y < 4294967296)) (hR : arithW 146 x y = R) (w : World) :
    Calls Try.prog 11 #[.int .i64 146, .int .i64 a, .int .i64 b] w fun e w' => e = .returned (.tuple #[.int .i64 ((R : Nat) : Int), .int .i64 0]) ∧ Later w w' := by
  have h1 : Hid (∀ w, Calls Try.prog 29 #[.int .i64 146, .float .f32 x, .float .f32 y] w fun e w' => ∃ b : Nat, e = .returned (.float .f32 b) ∧ Later w w' ∧ (b : Int) < 4294967296 ∧ fixn sf b = R) := by
    intro w
    rw [← hR]
    exact combine_add x y w
  have h2 : Hid ((x : Int) < 4294967296) := Int.ofNat_lt.2 hbx.out
  have h3 : Hid ((y : Int) < 4294967296) := Int.ofNat_lt.2 hby.out
  clear hR
  go_enter Try.func11, Try.ntmps11
  go_wp2_with (first | (first | (go_at_call_of 20 a; refine (low_eq a x hx _).mono ?_; rintro e w' ⟨rfl, rfl⟩) | (go_at_call_of 20 b; refine (low_eq b y hy _).mono ?_; rintro e w' ⟨rfl, rfl⟩)) | (first | (go_at_call_of 23 x; refine (floatOf_any x h2.out _).mono ?_; rintro e w' ⟨rfl, rfl⟩) | (go_at_call_of 23 y; refine (floatOf_any y h3.out _).mono ?_; rintro e w' ⟨rfl, rfl⟩)) | (go_at_call 29; refine (h1.out _).mono ?_; rintro e w' ⟨z, rfl, ⟨bs, n, rfl⟩, hc, hd⟩; have hc : Hid _ := hc; have hd : Hid _ := hd) | (go_at_call 21; refine (bitsOf_any _ hc.out _).mono ?_; rintro e w' ⟨rfl, rfl⟩; rw [hd.out]))
  go_ret2
  exact ⟨rfl, (by repeat (first | exact Later.refl _ | refine Later.alloc ?_ | refine Later.far ?_ | refine Later.drewN ?_ | refine Later.drew ?_))⟩
theorem bin_147 (a b : Int) (x y R : Nat) (hx : Hid (a % 4294967296 = (x : Int))) (hy : Hid (b % 4294967296 = (y : Int))) (hbx : Hid (x < 4294967296)) (hby : Hid (y < 4294967296)) (hR : arithW 147 x y = R) (w : World) :
    Calls Try.prog 11 #[.int .i64 147, .int .i64 a, .int .i64 b] w fun e w' => e = .returned (.tuple #[.int .i64 ((R : Nat) : Int), .int .i64 0]) ∧ Later w w' := by
  have h1 : Hid (∀ w, Calls Try.prog 29 #[.int .i64 147, .float .f32 x, .float .f32 y] w fun e w' => ∃ b : Nat, e = .returned (.float .f32 b) ∧ Later w w' ∧ (b : Int) < 4294967296 ∧ fixn sf b = R) := by
    intro w
    rw [← hR]
    exact combine_sub x y w
  have h2 : Hid ((x : Int) < 4294967296) := Int.ofNat_lt.2 hbx.out
  have h3 : Hid ((y : Int) < 4294967296) := Int.ofNat_lt.2 hby.out
  clear hR
  go_enter Try.func11, Try.ntmps11
  go_wp2_with (first | (first | (go_at_call_of 20 a; refine (low_eq a x hx _).mono ?_; rintro e w' ⟨rfl, rfl⟩) | (go_at_call_of 20 b; refine (low_eq b y hy _).mono ?_; rintro e w' ⟨rfl, rfl⟩)) | (first | (go_at_call_of 23 x; refine (floatOf_any x h2.out _).mono ?_; rintro e w' ⟨rfl, rfl⟩) | (go_at_call_of 23 y; refine (floatOf_any y h3.out _).mono ?_; rintro e w' ⟨rfl, rfl⟩)) | (go_at_call 29; refine (h1.out _).mono ?_; rintro e w' ⟨z, rfl, ⟨bs, n, rfl⟩, hc, hd⟩; have hc : Hid _ := hc; have hd : Hid _ := hd) | (go_at_call 21; refine (bitsOf_any _ hc.out _).mono ?_; rintro e w' ⟨rfl, rfl⟩; rw [hd.out]))
  go_ret2
  exact ⟨rfl, (by repeat (first | exact Later.refl _ | refine Later.alloc ?_ | refine Later.far ?_ | refine Later.drewN ?_ | refine Later.drew ?_))⟩
theorem bin_148 (a b : Int) (x y R : Nat) (hx : Hid (a % 4294967296 = (x : Int))) (hy : Hid (b % 4294967296 = (y : Int))) (hbx : Hid (x < 4294967296)) (hby : Hid (y < 4294967296)) (hR : arithW 148 x y = R) (w : World) :
    Calls Try.prog 11 #[.int .i64 148, .int .i64 a, .int .i64 b] w fun e w' => e = .returned (.tuple #[.int .i64 ((R : Nat) : Int), .int .i64 0]) ∧ Later w w' := by
  have h1 : Hid (∀ w, Calls Try.prog 29 #[.int .i64 148, .float .f32 x, .float .f32 y] w fun e w' => ∃ b : Nat, e = .returned (.float .f32 b) ∧ Later w w' ∧ (b : Int) < 4294967296 ∧ fixn sf b = R) := by
    intro w
    rw [← hR]
    exact combine_mul x y w
  have h2 : Hid ((x : Int) < 4294967296) := Int.ofNat_lt.2 hbx.out
  have h3 : Hid ((y : Int) < 4294967296) := Int.ofNat_lt.2 hby.out
  clear hR
  go_enter Try.func11, Try.ntmps11
  go_wp2_with (first | (first | (go_at_call_of 20 a; refine (low_eq a x hx _).mono ?_; rintro e w' ⟨rfl, rfl⟩) | (go_at_call_of 20 b; refine (low_eq b y hy _).mono ?_; rintro e w' ⟨rfl, rfl⟩)) | (first | (go_at_call_of 23 x; refine (floatOf_any x h2.out _).mono ?_; rintro e w' ⟨rfl, rfl⟩) | (go_at_call_of 23 y; refine (floatOf_any y h3.out _).mono ?_; rintro e w' ⟨rfl, rfl⟩)) | (go_at_call 29; refine (h1.out _).mono ?_; rintro e w' ⟨z, rfl, ⟨bs, n, rfl⟩, hc, hd⟩; have hc : Hid _ := hc; have hd : Hid _ := hd) | (go_at_call 21; refine (bitsOf_any _ hc.out _).mono ?_; rintro e w' ⟨rfl, rfl⟩; rw [hd.out]))
  go_ret2
  exact ⟨rfl, (by repeat (first | exact Later.refl _ | refine Later.alloc ?_ | refine Later.far ?_ | refine Later.drewN ?_ | refine Later.drew ?_))⟩
theorem bin_149 (a b : Int) (x y R : Nat) (hx : Hid (a % 4294967296 = (x : Int))) (hy : Hid (b % 4294967296 = (y : Int))) (hbx : Hid (x < 4294967296)) (hby : Hid (y < 4294967296)) (hR : arithW 149 x y = R) (w : World) :
    Calls Try.prog 11 #[.int .i64 149, .int .i64 a, .int .i64 b] w fun e w' => e = .returned (.tuple #[.int .i64 ((R : Nat) : Int), .int .i64 0]) ∧ Later w w' := by
  have h1 : Hid (∀ w, Calls Try.prog 29 #[.int .i64 149, .float .f32 x, .float .f32 y] w fun e w' => ∃ b : Nat, e = .returned (.float .f32 b) ∧ Later w w' ∧ (b : Int) < 4294967296 ∧ fixn sf b = R) := by
    intro w
    rw [← hR]
    exact combine_div x y w
  have h2 : Hid ((x : Int) < 4294967296) := Int.ofNat_lt.2 hbx.out
  have h3 : Hid ((y : Int) < 4294967296) := Int.ofNat_lt.2 hby.out
  clear hR
  go_enter Try.func11, Try.ntmps11
  go_wp2_with (first | (first | (go_at_call_of 20 a; refine (low_eq a x hx _).mono ?_; rintro e w' ⟨rfl, rfl⟩) | (go_at_call_of 20 b; refine (low_eq b y hy _).mono ?_; rintro e w' ⟨rfl, rfl⟩)) | (first | (go_at_call_of 23 x; refine (floatOf_any x h2.out _).mono ?_; rintro e w' ⟨rfl, rfl⟩) | (go_at_call_of 23 y; refine (floatOf_any y h3.out _).mono ?_; rintro e w' ⟨rfl, rfl⟩)) | (go_at_call 29; refine (h1.out _).mono ?_; rintro e w' ⟨z, rfl, ⟨bs, n, rfl⟩, hc, hd⟩; have hc : Hid _ := hc; have hd : Hid _ := hd) | (go_at_call 21; refine (bitsOf_any _ hc.out _).mono ?_; rintro e w' ⟨rfl, rfl⟩; rw [hd.out]))
  go_ret2
  exact ⟨rfl, (by repeat (first | exact Later.refl _ | refine Later.alloc ?_ | refine Later.far ?_ | refine Later.drewN ?_ | refine Later.drew ?_))⟩
theorem bin_150 (a b : Int) (x y R : Nat) (hx : Hid (a % 4294967296 = (x : Int))) (hy : Hid (b % 4294967296 = (y : Int))) (hbx : Hid (x < 4294967296)) (hby : Hid (y < 4294967296)) (hR : FM.minW sf x y = R) (w : World) :
    Calls Try.prog 11 #[.int .i64 150, .int .i64 a, .int .i64 b] w fun e w' => e = .returned (.tuple #[.int .i64 ((R : Nat) : Int), .int .i64 0]) ∧ Later w w' := by
  have h1 : Hid (∀ w, Calls Try.prog 30 #[.int .i64 (x : Int), .int .i64 (y : Int)] w fun e w' => e = .returned (.int .i64 (R : Nat)) ∧ w' = w) := by
    intro w
    rw [← hR]
    exact least_any x y hbx hby w
  clear hR
  go_enter Try.func11, Try.ntmps11
  go_wp2_with (first | (first | (go_at_call_of 20 a; refine (low_eq a x hx _).mono ?_; rintro e w' ⟨rfl, rfl⟩) | (go_at_call_of 20 b; refine (low_eq b y hy _).mono ?_; rintro e w' ⟨rfl, rfl⟩)) | (go_at_call 30; refine (h1.out _).mono ?_; rintro e w' ⟨rfl, rfl⟩))
  go_ret2
  exact ⟨rfl, (by repeat (first | exact Later.refl _ | refine Later.alloc ?_ | refine Later.far ?_ | refine Later.drewN ?_ | refine Later.drew ?_))⟩
theorem bin_151 (a b : Int) (x y R : Nat) (hx : Hid (a % 4294967296 = (x : Int))) (hy : Hid (b % 4294967296 = (y : Int))) (hbx : Hid (x < 4294967296)) (hby : Hid (y < 4294967296)) (hR : FM.maxW sf x y = R) (w : World) :
    Calls Try.prog 11 #[.int .i64 151, .int .i64 a, .int .i64 b] w fun e w' => e = .returned (.tuple #[.int .i64 ((R : Nat) : Int), .int .i64 0]) ∧ Later w w' := by
  have h1 : Hid (∀ w, Calls Try.prog 31 #[.int .i64 (x : Int), .int .i64 (y : Int)] w fun e w' => e = .returned (.int .i64 (R : Nat)) ∧ w' = w) := by
    intro w
    rw [← hR]
    exact most_any x y hbx hby w
  clear hR
  go_enter Try.func11, Try.ntmps11
  go_wp2_with (first | (first | (go_at_call_of 20 a; refine (low_eq a x hx _).mono ?_; rintro e w' ⟨rfl, rfl⟩) | (go_at_call_of 20 b; refine (low_eq b y hy _).mono ?_; rintro e w' ⟨rfl, rfl⟩)) | (go_at_call 31; refine (h1.out _).mono ?_; rintro e w' ⟨rfl, rfl⟩))
  go_ret2
  exact ⟨rfl, (by repeat (first | exact Later.refl _ | refine Later.alloc ?_ | refine Later.far ?_ | refine Later.drewN ?_ | refine Later.drew ?_))⟩
theorem bin_152 (a b : Int) (x y R : Nat) (hx : Hid (a % 4294967296 = (x : Int))) (hy : Hid (b % 4294967296 = (y : Int))) (hbx : Hid (x < 4294967296)) (hby : Hid (y < 4294967296)) (hR : x % 2147483648 ||| (y &&& 2147483648) = R) (w : World) :
    Calls Try.prog 11 #[.int .i64 152, .int .i64 a, .int .i64 b] w fun e w' => e = .returned (.tuple #[.int .i64 ((R : Nat) : Int), .int .i64 0]) ∧ Later w w' := by
  have h1 := FM.andNot_top x hbx.out
  have h2 : bits .and .i64 (y : Int) 2147483648 = ((y &&& 2147483648 : Nat) : Int) := FM.and_i y 2147483648 hby.out (by decide)
  have h3 : bits .or .i64 ((x % 2147483648 : Nat) : Int) ((y &&& 2147483648 : Nat) : Int) = (R : Int) := by
    rw [← hR]
    exact FM.or_i _ _ (by have := Nat.mod_lt x (show 0 < 2147483648 by decide); omega) (Nat.lt_of_le_of_lt Nat.and_le_right (by decide))
  clear hR
  have h4 : Hid (x % 2147483648 = x % 2147483648) := rfl
  generalize y &&& 2147483648 = u at *
  generalize x % 2147483648 = v at *
  go_enter Try.func11, Try.ntmps11
  go_wp2_with (first | (go_at_call_of 20 a; refine (low_eq a x hx _).mono ?_; rintro e w' ⟨rfl, rfl⟩) | (go_at_call_of 20 b; refine (low_eq b y hy _).mono ?_; rintro e w' ⟨rfl, rfl⟩))
  go_ret2
  exact ⟨rfl, (by repeat (first | exact Later.refl _ | refine Later.alloc ?_ | refine Later.far ?_ | refine Later.drewN ?_ | refine Later.drew ?_))⟩
theorem bin_bad (op a b : Int) (h : ¬ ((91 ≤ op ∧ op ≤ 96) ∨ (146 ≤ op ∧ op ≤ 152))) (w : World) :
    Calls Try.prog 11 #[.int .i64 op, .int .i64 a, .int .i64 b] w fun e w' => e = .returned (.tuple #[.int .i64 0, .int .i64 400]) ∧ Later w w' := by
  have h1 : ¬ op = 150 := by omega
  have h2 : ¬ op = 151 := by omega
  have h3 : ¬ op = 152 := by omega
  have hc : op < 91 ∨ (96 < op ∧ op < 146) ∨ 152 < op := by omega
  clear h
  rcases hc with h | ⟨h, h'⟩ | h
  · have h4 : ¬ (91 ≤ op) := by omega
    have h5 : ¬ (146 ≤ op) := by omega
    go_enter Try.func11, Try.ntmps11
    go_wp2_with (go_at_call 20; refine (low_any _ _).mono ?_; rintro e w' ⟨rfl, rfl⟩)
    go_ret2
    exact ⟨rfl, (by repeat (first | exact Later.refl _ | refine Later.alloc ?_ | refine Later.far ?_ | refine Later.drewN ?_ | refine Later.drew ?_))⟩
  · have h4 : 91 ≤ op := by omega
    have h6 : ¬ (op ≤ 96) := by omega
    have h5 : ¬ (146 ≤ op) := by omega
    go_enter Try.func11, Try.ntmps11
    go_wp2_with (go_at_call 20; refine (low_any _ _).mono ?_; rintro e w' ⟨rfl, rfl⟩)
    go_ret2
    exact ⟨rfl, (by repeat (first | exact Later.refl _ | refine Later.alloc ?_ | refine Later.far ?_ | refine Later.drewN ?_ | refine Later.drew ?_))⟩
  · have h4 : 91 ≤ op := by omega
    have h6 : ¬ (op ≤ 96) := by omega
    have h5 : 146 ≤ op := by omega
    have h7 : ¬ (op ≤ 149) := by omega
    go_enter Try.func11, Try.ntmps11
    go_wp2_with (go_at_call 20; refine (low_any _ _).mono ?_; rintro e w' ⟨rfl, rfl⟩)
    go_ret2
    exact ⟨rfl, (by repeat (first | exact Later.refl _ | refine Later.alloc ?_ | refine Later.far ?_ | refine Later.drewN ?_ | refine Later.drew ?_))⟩
theorem bin_any (op a b : Int) (w : World) :
    Calls Try.prog 11 #[.int .i64 op, .int .i64 a, .int .i64 b] w fun e w' => e = .returned (.tuple #[.int .i64 (binI op a b).1, .int .i64 (binI op a b).2]) ∧ Later w w' := by
  unfold binI
  by_cases h : (91 ≤ op ∧ op ≤ 96) ∨ (146 ≤ op ∧ op ≤ 152)
  · obtain ⟨x, h1, h2, h3⟩ := low_nat a
    obtain ⟨y, g1, g2, g3⟩ := low_nat b
    rw [if_pos h, h3, g3]
    clear h3 g3
    by_cases hc : 91 ≤ op ∧ op ≤ 96
    · have e : binW op x y = if cmpW op x y then 1 else 0 := by unfold binW; rw [if_pos hc.2]
      rw [e]
      exact bin_cmp op a b x y h1 g1 h2 g2 hc w
    · have hd : op = 146 ∨ op = 147 ∨ op = 148 ∨ op = 149 ∨ op = 150 ∨ op = 151 ∨ op = 152 := by omega
      clear h hc
      rcases hd with rfl | rfl | rfl | rfl | rfl | rfl | rfl
      · exact bin_146 a b x y _ h1 g1 h2 g2 (show arithW 146 x y = binW 146 x y by simp [binW]) w
      · exact bin_147 a b x y _ h1 g1 h2 g2 (show arithW 147 x y = binW 147 x y by simp [binW]) w
      · exact bin_148 a b x y _ h1 g1 h2 g2 (show arithW 148 x y = binW 148 x y by simp [binW]) w
      · exact bin_149 a b x y _ h1 g1 h2 g2 (show arithW 149 x y = binW 149 x y by simp [binW]) w
      · exact bin_150 a b x y _ h1 g1 h2 g2 (show FM.minW sf x y = binW 150 x y by simp [binW]) w
      · exact bin_151 a b x y _ h1 g1 h2 g2 (show FM.maxW sf x y = binW 151 x y by simp [binW]) w
      · exact bin_152 a b x y _ h1 g1 h2 g2 (show x % 2147483648 ||| (y &&& 2147483648) = binW 152 x y by simp [binW]) w
  · rw [if_neg h]
    exact bin_bad op a b h w
/-- a comparison leaves the world as it was -/
theorem cmp_eq {op a b p : Int} (hop : 91 ≤ op ∧ op ≤ 96) (h : Hid (binI op a b = (p, 0))) (w : World) :
    Calls Try.prog 11 #[.int .i64 op, .int .i64 a, .int .i64 b] w fun e w' => e = .returned (.tuple #[.int .i64 p, .int .i64 0]) ∧ w' = w := by
  obtain ⟨x, h1, h2, h3⟩ := low_nat a
  obtain ⟨y, g1, g2, g3⟩ := low_nat b
  have e1 : ((if cmpW op x y then 1 else 0 : Nat) : Int) = p := by
    have := h.out
    unfold binI binW at this
    rw [if_pos (Or.inl hop), h3, g3, if_pos hop.2] at this
    exact (Prod.mk.inj this).1
  have := bin_cmp0 op a b x y h1 g1 h2 g2 hop w
  rw [e1] at this
  exact this
theorem bin_eq {op a b p E : Int} (h : Hid (binI op a b = (p, E))) (w : World) :
    Calls Try.prog 11 #[.int .i64 op, .int .i64 a, .int .i64 b] w fun e w' => e = .returned (.tuple #[.int .i64 p, .int .i64 E]) ∧ Later w w' := by
  have := bin_any op a b w
  rw [h.out] at this
  exact this
end Go.Proofs.Ytobhihggdoccoaa
