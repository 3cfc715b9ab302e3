/- Contracts of package f64n over this seat's translation: Un. -/
import Derived.Test.YtdfgcagbpndabaaGreatDoorZP6
import Derived.Test.YtdfgcagbpndabaaGreatDoorZD
import Derived.RowKit3
set_option maxRecDepth 100000
set_option linter.unusedVariables false
namespace Go.Proofs.YtdfgcagbpndabaaGreatDoor.P6
open Go.RowKit
open Go.FM (isN fixn qn sw)
def unW (op : Int) (x : Nat) : Nat :=
  if op = 153 then x % 9223372036854775808 else if op = 154 then x ^^^ 9223372036854775808 else if op = 155 then FM.wholeW df .up x else if op = 156 then FM.wholeW df .down x
  else if op = 157 then FM.wholeW df .zero x else if op = 158 then FM.wholeW df .even x else FM.rootW df x
theorem unW_153 (x : Nat) : unW 153 x = x % 9223372036854775808 := by simp [unW]
theorem unW_154 (x : Nat) : unW 154 x = x ^^^ 9223372036854775808 := by simp [unW]
theorem unW_155 (x : Nat) : unW 155 x = FM.wholeW df .up x := by simp [unW]
theorem unW_156 (x : Nat) : unW 156 x = FM.wholeW df .down x := by simp [unW]
theorem unW_157 (x : Nat) : unW 157 x = FM.wholeW df .zero x := by simp [unW]
theorem unW_158 (x : Nat) : unW 158 x = FM.wholeW df .even x := by simp [unW]
theorem unW_159 (x : Nat) : unW 159 x = FM.rootW df x := by simp [unW]
def unI (op a : Int) : Int × Int := if 153 ≤ op ∧ op ≤ 159 then (sw (unW op (a % 18446744073709551616).toNat), 0) else (0, 500)
theorem low_nat (a : Int) : ∃ x : Nat, a % 18446744073709551616 = (x : Int) ∧ x < 18446744073709551616 ∧ (a % 18446744073709551616).toNat = x := ⟨(a % 18446744073709551616).toNat, by omega, by omega, rfl⟩
theorem un_153 (a : Int) (x : Nat) (hx : Hid (a % 18446744073709551616 = (x : Int))) (hb : Hid (x < 18446744073709551616)) (w : World) :
    RW Tryz.prog 60 #[.int .i64 153, .int .i64 a] w (.tuple #[.int .i64 (sw (unW 153 x)), .int .i64 0]) := by
  rw [unW_153]
  have h1 := FM.andNot_a a x hx.out
  go_enter Tryz.func60, Tryz.ntmps60
  go_wp2
  go_ret2
  exact ⟨rfl, (by repeat first | exact Lz _ | apply La | apply Lv | apply Ln | apply Ld)⟩
theorem un_154 (a : Int) (x : Nat) (hx : Hid (a % 18446744073709551616 = (x : Int))) (hb : Hid (x < 18446744073709551616)) (w : World) :
    RW Tryz.prog 60 #[.int .i64 154, .int .i64 a] w (.tuple #[.int .i64 (sw (unW 154 x)), .int .i64 0]) := by
  rw [unW_154]
  have h1 := FM.xor_a a (-9223372036854775808) x _ hx.out FM.top_mod
  go_enter Tryz.func60, Tryz.ntmps60
  go_wp2
  go_ret2
  exact ⟨rfl, (by repeat first | exact Lz _ | apply La | apply Lv | apply Ln | apply Ld)⟩
theorem un_155 (a : Int) (x : Nat) (hx : Hid (a % 18446744073709551616 = (x : Int))) (hb : Hid (x < 18446744073709551616)) (w : World) :
    RW Tryz.prog 60 #[.int .i64 155, .int .i64 a] w (.tuple #[.int .i64 (sw (unW 155 x)), .int .i64 0]) := by
  obtain ⟨R, hR⟩ : ∃ R, unW 155 x = R := ⟨_, rfl⟩
  rw [hR]
  have h1 : Hid (∀ w, Calls Tryz.prog 97 #[.int .i64 155, .float .f64 x] w fun e w' => ∃ b : Nat, e = .returned (.float .f64 b) ∧ Later w w' ∧ fixn df b = R) := by
    intro w
    rw [unW_155] at hR
    exact reshape_155 x R hb hR w
  clear hR
  go_enter Tryz.func60, Tryz.ntmps60
  go_wp2_with (first | (go_at_call 98; refine (floatOf_eq a x hx _).mono ?_; rintro e w' ⟨rfl, rfl⟩) | (go_at_call 97; refine (h1.out _).mono ?_; rintro e w' ⟨b, rfl, ⟨bs, n, rfl⟩, hd⟩; have hd : Hid _ := hd) | (go_at_call 96; refine (bitsOf_any _ _).mono ?_; rintro e w' ⟨rfl, rfl⟩; rw [hd.out]))
  go_ret2
  exact ⟨rfl, (by repeat first | exact Lz _ | apply La | apply Lv | apply Ln | apply Ld)⟩
theorem un_156 (a : Int) (x : Nat) (hx : Hid (a % 18446744073709551616 = (x : Int))) (hb : Hid (x < 18446744073709551616)) (w : World) :
    RW Tryz.prog 60 #[.int .i64 156, .int .i64 a] w (.tuple #[.int .i64 (sw (unW 156 x)), .int .i64 0]) := by
  obtain ⟨R, hR⟩ : ∃ R, unW 156 x = R := ⟨_, rfl⟩
  rw [hR]
  have h1 : Hid (∀ w, Calls Tryz.prog 97 #[.int .i64 156, .float .f64 x] w fun e w' => ∃ b : Nat, e = .returned (.float .f64 b) ∧ Later w w' ∧ fixn df b = R) := by
    intro w
    rw [unW_156] at hR
    exact reshape_156 x R hb hR w
  clear hR
  go_enter Tryz.func60, Tryz.ntmps60
  go_wp2_with (first | (go_at_call 98; refine (floatOf_eq a x hx _).mono ?_; rintro e w' ⟨rfl, rfl⟩) | (go_at_call 97; refine (h1.out _).mono ?_; rintro e w' ⟨b, rfl, ⟨bs, n, rfl⟩, hd⟩; have hd : Hid _ := hd) | (go_at_call 96; refine (bitsOf_any _ _).mono ?_; rintro e w' ⟨rfl, rfl⟩; rw [hd.out]))
  go_ret2
  exact ⟨rfl, (by repeat first | exact Lz _ | apply La | apply Lv | apply Ln | apply Ld)⟩
theorem un_157 (a : Int) (x : Nat) (hx : Hid (a % 18446744073709551616 = (x : Int))) (hb : Hid (x < 18446744073709551616)) (w : World) :
    RW Tryz.prog 60 #[.int .i64 157, .int .i64 a] w (.tuple #[.int .i64 (sw (unW 157 x)), .int .i64 0]) := by
  obtain ⟨R, hR⟩ : ∃ R, unW 157 x = R := ⟨_, rfl⟩
  rw [hR]
  have h1 : Hid (∀ w, Calls Tryz.prog 97 #[.int .i64 157, .float .f64 x] w fun e w' => ∃ b : Nat, e = .returned (.float .f64 b) ∧ Later w w' ∧ fixn df b = R) := by
    intro w
    rw [unW_157] at hR
    exact reshape_157 x R hb hR w
  clear hR
  go_enter Tryz.func60, Tryz.ntmps60
  go_wp2_with (first | (go_at_call 98; refine (floatOf_eq a x hx _).mono ?_; rintro e w' ⟨rfl, rfl⟩) | (go_at_call 97; refine (h1.out _).mono ?_; rintro e w' ⟨b, rfl, ⟨bs, n, rfl⟩, hd⟩; have hd : Hid _ := hd) | (go_at_call 96; refine (bitsOf_any _ _).mono ?_; rintro e w' ⟨rfl, rfl⟩; rw [hd.out]))
  go_ret2
  exact ⟨rfl, (by repeat first | exact Lz _ | apply La | apply Lv | apply Ln | apply Ld)⟩
theorem un_158 (a : Int) (x : Nat) (hx : Hid (a % 18446744073709551616 = (x : Int))) (hb : Hid (x < 18446744073709551616)) (w : World) :
    RW Tryz.prog 60 #[.int .i64 158, .int .i64 a] w (.tuple #[.int .i64 (sw (unW 158 x)), .int .i64 0]) := by
  obtain ⟨R, hR⟩ : ∃ R, unW 158 x = R := ⟨_, rfl⟩
  rw [hR]
  have h1 : Hid (∀ w, Calls Tryz.prog 97 #[.int .i64 158, .float .f64 x] w fun e w' => ∃ b : Nat, e = .returned (.float .f64 b) ∧ Later w w' ∧ fixn df b = R) := by
    intro w
    rw [unW_158] at hR
    exact reshape_158 x R hb hR w
  clear hR
  go_enter Tryz.func60, Tryz.ntmps60
  go_wp2_with (first | (go_at_call 98; refine (floatOf_eq a x hx _).mono ?_; rintro e w' ⟨rfl, rfl⟩) | (go_at_call 97; refine (h1.out _).mono ?_; rintro e w' ⟨b, rfl, ⟨bs, n, rfl⟩, hd⟩; have hd : Hid _ := hd) | (go_at_call 96; refine (bitsOf_any _ _).mono ?_; rintro e w' ⟨rfl, rfl⟩; rw [hd.out]))
  go_ret2
  exact ⟨rfl, (by repeat first | exact Lz _ | apply La | apply Lv | apply Ln | apply Ld)⟩
theorem un_159 (a : Int) (x : Nat) (hx : Hid (a % 18446744073709551616 = (x : Int))) (hb : Hid (x < 18446744073709551616)) (w : World) :
    RW Tryz.prog 60 #[.int .i64 159, .int .i64 a] w (.tuple #[.int .i64 (sw (unW 159 x)), .int .i64 0]) := by
  obtain ⟨R, hR⟩ : ∃ R, unW 159 x = R := ⟨_, rfl⟩
  rw [hR]
  have h1 : Hid (∀ w, Calls Tryz.prog 97 #[.int .i64 159, .float .f64 x] w fun e w' => ∃ b : Nat, e = .returned (.float .f64 b) ∧ Later w w' ∧ fixn df b = R) := by
    intro w
    rw [unW_159] at hR
    exact reshape_159 x R hb hR w
  clear hR
  go_enter Tryz.func60, Tryz.ntmps60
  go_wp2_with (first | (go_at_call 98; refine (floatOf_eq a x hx _).mono ?_; rintro e w' ⟨rfl, rfl⟩) | (go_at_call 97; refine (h1.out _).mono ?_; rintro e w' ⟨b, rfl, ⟨bs, n, rfl⟩, hd⟩; have hd : Hid _ := hd) | (go_at_call 96; refine (bitsOf_any _ _).mono ?_; rintro e w' ⟨rfl, rfl⟩; rw [hd.out]))
  go_ret2
  exact ⟨rfl, (by repeat first | exact Lz _ | apply La | apply Lv | apply Ln | apply Ld)⟩
theorem un_bad (op a : Int) (h : op < 153 ∨ 159 < op) (w : World) :
    RW Tryz.prog 60 #[.int .i64 op, .int .i64 a] w (.tuple #[.int .i64 0, .int .i64 500]) := by
  have h1 : ¬ op = 153 := by omega
  have h2 : ¬ op = 154 := by omega
  rcases h with h | h
  · have h4 : ¬ (155 ≤ op) := by omega
    go_enter Tryz.func60, Tryz.ntmps60
    go_wp2
    go_ret2
    exact ⟨rfl, (by repeat first | exact Lz _ | apply La | apply Lv | apply Ln | apply Ld)⟩
  · have h4 : 155 ≤ op := by omega
    have h5 : ¬ (op ≤ 159) := by omega
    go_enter Tryz.func60, Tryz.ntmps60
    go_wp2
    go_ret2
    exact ⟨rfl, (by repeat first | exact Lz _ | apply La | apply Lv | apply Ln | apply Ld)⟩
theorem un_any (op a : Int) (w : World) :
    RW Tryz.prog 60 #[.int .i64 op, .int .i64 a] w (.tuple #[.int .i64 (unI op a).1, .int .i64 (unI op a).2]) := by
  unfold unI
  by_cases h : 153 ≤ op ∧ op ≤ 159
  · obtain ⟨x, h1, h2, h3⟩ := low_nat a
    rw [if_pos h, h3]
    have hc : op = 153 ∨ op = 154 ∨ op = 155 ∨ op = 156 ∨ op = 157 ∨ op = 158 ∨ op = 159 := by omega
    rcases hc with rfl | rfl | rfl | rfl | rfl | rfl | rfl
    · exact un_153 a x h1 h2 w
    · exact un_154 a x h1 h2 w
    · exact un_155 a x h1 h2 w
    · exact un_156 a x h1 h2 w
    · exact un_157 a x h1 h2 w
    · exact un_158 a x h1 h2 w
    · exact un_159 a x h1 h2 w
  · rw [if_neg h]
    exact un_bad op a (by omega) w
end Go.Proofs.YtdfgcagbpndabaaGreatDoor.P6
namespace Go.Proofs.YtdfgcagbpndabaaGreatDoor.P6
open Go.RowKit
open Go.FM (isN fixn qn sw)
def binW (op : Int) (x y : Nat) : Nat :=
  if op ≤ 102 then (if cmpW op x y then 1 else 0) else if op ≤ 163 then arithW op x y else if op = 164 then FM.minW df x y else if op = 165 then FM.maxW df x y
  else x % 9223372036854775808 ||| (y &&& 9223372036854775808)
def binI (op a b : Int) : Int × Int := if (97 ≤ op ∧ op ≤ 102) ∨ (160 ≤ op ∧ op ≤ 166) then (sw (binW op (a % 18446744073709551616).toNat (b % 18446744073709551616).toNat), 0) else (0, 500)
theorem sw_one : sw 1 = 1 := FM.sw_small 1 (by decide)
theorem sw_zero : sw 0 = 0 := FM.sw_small 0 (by decide)
theorem fl_nat (c : Bool) : fl c = sw (if c then 1 else 0) := by
  cases c
  · exact sw_zero.symm
  · exact sw_one.symm
theorem bin_cmp0 (op a b : Int) (x y : Nat) (hx : Hid (a % 18446744073709551616 = (x : Int))) (hy : Hid (b % 18446744073709551616 = (y : Int))) (h : 97 ≤ op ∧ op ≤ 102) (w : World) :
    Calls Tryz.prog 64 #[.int .i64 op, .int .i64 a, .int .i64 b] w fun e w' => e = .returned (.tuple #[.int .i64 (sw (if cmpW op x y then 1 else 0)), .int .i64 0]) ∧ w' = w := by
  rw [← fl_nat]
  have h4 := h.1
  have h5 := h.2
  have h6 : Hid (97 ≤ op ∧ op ≤ 102) := h
  clear h
  go_enter Tryz.func64, Tryz.ntmps64
  go_wp2_with (first | (first | (go_at_call_of 98 a; refine (floatOf_eq a x hx _).mono ?_; rintro e w' ⟨rfl, rfl⟩) | (go_at_call_of 98 b; refine (floatOf_eq b y hy _).mono ?_; rintro e w' ⟨rfl, rfl⟩)) | (go_at_call 115; refine (compare_any op x y h6.out _).mono ?_; rintro e w' ⟨rfl, rfl⟩) | (go_at_call 114; refine (flag_any _ _).mono ?_; rintro e w' ⟨rfl, rfl⟩))
  go_ret2
  exact ⟨rfl, rfl⟩
theorem bin_cmp (op a b : Int) (x y : Nat) (hx : Hid (a % 18446744073709551616 = (x : Int))) (hy : Hid (b % 18446744073709551616 = (y : Int))) (h : 97 ≤ op ∧ op ≤ 102) (w : World) :
    Calls Tryz.prog 64 #[.int .i64 op, .int .i64 a, .int .i64 b] w fun e w' => e = .returned (.tuple #[.int .i64 (sw (if cmpW op x y then 1 else 0)), .int .i64 0]) ∧ Later w w' :=
  (bin_cmp0 op a b x y hx hy h w).mono fun e w' h => ⟨h.1, by rw [h.2]; exact Lz _⟩
theorem bin_160 (a b : Int) (x y R : Nat) (hx : Hid (a % 18446744073709551616 = (x : Int))) (hy : Hid (b % 18446744073709551616 = (y : Int))) (hR : arithW 160 x y = R) (w : World) :
    RW Tryz.prog 64 #[.int .i64 160, .int .i64 a, .int .i64 b] w (.tuple #[.int .i64 (sw R), .int .i64 0]) := by
  have h1 : Hid (∀ w, Calls Tryz.prog 116 #[.int .i64 160, .float .f64 x, .float .f64 y] w fun e w' => ∃ b : Nat, e = .returned (.float .f64 b) ∧ Later w w' ∧ fixn df b = R) := by
    intro w
    rw [← hR]
    exact combine_160 x y w
  clear hR
  go_enter Tryz.func64, Tryz.ntmps64
  go_wp2_with (first | (first | (go_at_call_of 98 a; refine (floatOf_eq a x hx _).mono ?_; rintro e w' ⟨rfl, rfl⟩) | (go_at_call_of 98 b; refine (floatOf_eq b y hy _).mono ?_; rintro e w' ⟨rfl, rfl⟩)) | (go_at_call 116; refine (h1.out _).mono ?_; rintro e w' ⟨z, rfl, ⟨bs, n, rfl⟩, hd⟩; have hd : Hid _ := hd) | (go_at_call 96; refine (bitsOf_any _ _).mono ?_; rintro e w' ⟨rfl, rfl⟩; rw [hd.out]))
  go_ret2
  exact ⟨rfl, (by repeat first | exact Lz _ | apply La | apply Lv | apply Ln | apply Ld)⟩
theorem bin_161 (a b : Int) (x y R : Nat) (hx : Hid (a % 18446744073709551616 = (x : Int))) (hy : Hid (b % 18446744073709551616 = (y : Int))) (hR : arithW 161 x y = R) (w : World) :
    RW Tryz.prog 64 #[.int .i64 161, .int .i64 a, .int .i64 b] w (.tuple #[.int .i64 (sw R), .int .i64 0]) := by
  have h1 : Hid (∀ w, Calls Tryz.prog 116 #[.int .i64 161, .float .f64 x, .float .f64 y] w fun e w' => ∃ b : Nat, e = .returned (.float .f64 b) ∧ Later w w' ∧ fixn df b = R) := by
    intro w
    rw [← hR]
    exact combine_161 x y w
  clear hR
  go_enter Tryz.func64, Tryz.ntmps64
  go_wp2_with (first | (first | (go_at_call_of 98 a; refine (floatOf_eq a x hx _).mono ?_; rintro e w' ⟨rfl, rfl⟩) | (go_at_call_of 98 b; refine (floatOf_eq b y hy _).mono ?_; rintro e w' ⟨rfl, rfl⟩)) | (go_at_call 116; refine (h1.out _).mono ?_; rintro e w' ⟨z, rfl, ⟨bs, n, rfl⟩, hd⟩; have hd : Hid _ := hd) | (go_at_call 96; refine (bitsOf_any _ _).mono ?_; rintro e w' ⟨rfl, rfl⟩; rw [hd.out]))
  go_ret2
  exact ⟨rfl, (by repeat first | exact Lz _ | apply La | apply Lv | apply Ln | apply Ld)⟩
theorem bin_162 (a b : Int) (x y R : Nat) (hx : Hid (a % 18446744073709551616 = (x : Int))) (hy : Hid (b % 18446744073709551616 = (y : Int))) (hR : arithW 162 x y = R) (w : World) :
    RW Tryz.prog 64 #[.int .i64 162, .int .i64 a, .int .i64 b] w (.tuple #[.int .i64 (sw R), .int .i64 0]) := by
  have h1 : Hid (∀ w, Calls Tryz.prog 116 #[.int .i64 162, .float .f64 x, .float .f64 y] w fun e w' => ∃ b : Nat, e = .returned (.float .f64 b) ∧ Later w w' ∧ fixn df b = R) := by
    intro w
    rw [← hR]
    exact combine_162 x y w
  clear hR
  go_enter Tryz.func64, Tryz.ntmps64
  go_wp2_with (first | (first | (go_at_call_of 98 a; refine (floatOf_eq a x hx _).mono ?_; rintro e w' ⟨rfl, rfl⟩) | (go_at_call_of 98 b; refine (floatOf_eq b y hy _).mono ?_; rintro e w' ⟨rfl, rfl⟩)) | (go_at_call 116; refine (h1.out _).mono ?_; rintro e w' ⟨z, rfl, ⟨bs, n, rfl⟩, hd⟩; have hd : Hid _ := hd) | (go_at_call 96; refine (bitsOf_any _ _).mono ?_; rintro e w' ⟨rfl, rfl⟩; rw [hd.out]))
  go_ret2
  exact ⟨rfl, (by repeat first | exact Lz _ | apply La | apply Lv | apply Ln | apply Ld)⟩
theorem bin_163 (a b : Int) (x y R : Nat) (hx : Hid (a % 18446744073709551616 = (x : Int))) (hy : Hid (b % 18446744073709551616 = (y : Int))) (hR : arithW 163 x y = R) (w : World) :
    RW Tryz.prog 64 #[.int .i64 163, .int .i64 a, .int .i64 b] w (.tuple #[.int .i64 (sw R), .int .i64 0]) := by
  have h1 : Hid (∀ w, Calls Tryz.prog 116 #[.int .i64 163, .float .f64 x, .float .f64 y] w fun e w' => ∃ b : Nat, e = .returned (.float .f64 b) ∧ Later w w' ∧ fixn df b = R) := by
    intro w
    rw [← hR]
    exact combine_163 x y w
  clear hR
  go_enter Tryz.func64, Tryz.ntmps64
  go_wp2_with (first | (first | (go_at_call_of 98 a; refine (floatOf_eq a x hx _).mono ?_; rintro e w' ⟨rfl, rfl⟩) | (go_at_call_of 98 b; refine (floatOf_eq b y hy _).mono ?_; rintro e w' ⟨rfl, rfl⟩)) | (go_at_call 116; refine (h1.out _).mono ?_; rintro e w' ⟨z, rfl, ⟨bs, n, rfl⟩, hd⟩; have hd : Hid _ := hd) | (go_at_call 96; refine (bitsOf_any _ _).mono ?_; rintro e w' ⟨rfl, rfl⟩; rw [hd.out]))
  go_ret2
  exact ⟨rfl, (by repeat first | exact Lz _ | apply La | apply Lv | apply Ln | apply Ld)⟩
theorem bin_164 (a b : Int) (x y R : Nat) (hx : Hid (a % 18446744073709551616 = (x : Int))) (hy : Hid (b % 18446744073709551616 = (y : Int))) (ha : Hid (sw x = a)) (hb : Hid (sw y = b)) (hR : FM.minW df x y = R) (w : World) :
    RW Tryz.prog 64 #[.int .i64 164, .int .i64 a, .int .i64 b] w (.tuple #[.int .i64 (sw R), .int .i64 0]) := by
  have h1 : Hid (∀ w, Calls Tryz.prog 117 #[.int .i64 a, .int .i64 b] w fun e w' => e = .returned (.int .i64 (sw R)) ∧ w' = w) := by
    intro w
    rw [← hR]
    exact least_any a b x y hx hy ha hb w
  clear hR
  go_enter Tryz.func64, Tryz.ntmps64
  go_wp2_with (go_at_call 117; refine (h1.out _).mono ?_; rintro e w' ⟨rfl, rfl⟩)
  go_ret2
  exact ⟨rfl, (by repeat first | exact Lz _ | apply La | apply Lv | apply Ln | apply Ld)⟩
theorem bin_165 (a b : Int) (x y R : Nat) (hx : Hid (a % 18446744073709551616 = (x : Int))) (hy : Hid (b % 18446744073709551616 = (y : Int))) (ha : Hid (sw x = a)) (hb : Hid (sw y = b)) (hR : FM.maxW df x y = R) (w : World) :
    RW Tryz.prog 64 #[.int .i64 165, .int .i64 a, .int .i64 b] w (.tuple #[.int .i64 (sw R), .int .i64 0]) := by
  have h1 : Hid (∀ w, Calls Tryz.prog 118 #[.int .i64 a, .int .i64 b] w fun e w' => e = .returned (.int .i64 (sw R)) ∧ w' = w) := by
    intro w
    rw [← hR]
    exact most_any a b x y hx hy ha hb w
  clear hR
  go_enter Tryz.func64, Tryz.ntmps64
  go_wp2_with (go_at_call 118; refine (h1.out _).mono ?_; rintro e w' ⟨rfl, rfl⟩)
  go_ret2
  exact ⟨rfl, (by repeat first | exact Lz _ | apply La | apply Lv | apply Ln | apply Ld)⟩
theorem bin_166 (a b : Int) (x y R : Nat) (hx : Hid (a % 18446744073709551616 = (x : Int))) (hy : Hid (b % 18446744073709551616 = (y : Int))) (hbx : Hid (x < 18446744073709551616)) (hR : x % 9223372036854775808 ||| (y &&& 9223372036854775808) = R) (w : World) :
    RW Tryz.prog 64 #[.int .i64 166, .int .i64 a, .int .i64 b] w (.tuple #[.int .i64 (sw R), .int .i64 0]) := by
  have h1 := FM.andNot_a a x hx.out
  have h2 : bits .and .i64 b (-9223372036854775808) = sw (y &&& 9223372036854775808) := FM.and_a b _ y _ hy.out FM.top_mod
  have h3 : bits .or .i64 (sw (x % 9223372036854775808)) (sw (y &&& 9223372036854775808)) = sw R := by
    rw [← hR]
    exact FM.or_a _ _ _ _ (FM.sw_mod _ (by have := Nat.mod_lt x (show 0 < 9223372036854775808 by decide); omega)) (FM.sw_mod _ (Nat.lt_of_le_of_lt Nat.and_le_right (by decide)))
  clear hR
  generalize sw (y &&& 9223372036854775808) = u at *
  generalize sw (x % 9223372036854775808) = v at *
  go_enter Tryz.func64, Tryz.ntmps64
  go_wp2
  go_ret2
  exact ⟨rfl, (by repeat first | exact Lz _ | apply La | apply Lv | apply Ln | apply Ld)⟩
theorem bin_bad (op a b : Int) (h : ¬ ((97 ≤ op ∧ op ≤ 102) ∨ (160 ≤ op ∧ op ≤ 166))) (w : World) :
    RW Tryz.prog 64 #[.int .i64 op, .int .i64 a, .int .i64 b] w (.tuple #[.int .i64 0, .int .i64 500]) := by
  have h1 : ¬ op = 164 := by omega
  have h2 : ¬ op = 165 := by omega
  have h3 : ¬ op = 166 := by omega
  have hc : op < 97 ∨ (102 < op ∧ op < 160) ∨ 166 < op := by omega
  clear h
  rcases hc with h | ⟨h, h'⟩ | h
  · have h4 : ¬ (97 ≤ op) := by omega
    have h5 : ¬ (160 ≤ op) := by omega
    go_enter Tryz.func64, Tryz.ntmps64
    go_wp2
    go_ret2
    exact ⟨rfl, (by repeat first | exact Lz _ | apply La | apply Lv | apply Ln | apply Ld)⟩
  · have h4 : 97 ≤ op := by omega
    have h6 : ¬ (op ≤ 102) := by omega
    have h5 : ¬ (160 ≤ op) := by omega
    go_enter Tryz.func64, Tryz.ntmps64
    go_wp2
    go_ret2
    exact ⟨rfl, (by repeat first | exact Lz _ | apply La | apply Lv | apply Ln | apply Ld)⟩
  · have h4 : 97 ≤ op := by omega
    have h6 : ¬ (op ≤ 102) := by omega
    have h5 : 160 ≤ op := by omega
    have h7 : ¬ (op ≤ 163) := by omega
    go_enter Tryz.func64, Tryz.ntmps64
    go_wp2
    go_ret2
    exact ⟨rfl, (by repeat first | exact Lz _ | apply La | apply Lv | apply Ln | apply Ld)⟩
def in64 (a : Int) : Prop := -9223372036854775808 ≤ a ∧ a ≤ 9223372036854775807
theorem bin_any (op a b : Int) (ho : (op ≠ 164 ∧ op ≠ 165) ∨ (in64 a ∧ in64 b)) (w : World) :
    RW Tryz.prog 64 #[.int .i64 op, .int .i64 a, .int .i64 b] w (.tuple #[.int .i64 (binI op a b).1, .int .i64 (binI op a b).2]) := by
  unfold binI
  by_cases h : (97 ≤ op ∧ op ≤ 102) ∨ (160 ≤ op ∧ op ≤ 166)
  · obtain ⟨x, h1, h2, h3⟩ := low_nat a
    obtain ⟨y, g1, g2, g3⟩ := low_nat b
    rw [if_pos h, h3, g3]
    clear h3 g3
    by_cases hc : 97 ≤ op ∧ op ≤ 102
    · have e : binW op x y = if cmpW op x y then 1 else 0 := by unfold binW; rw [if_pos hc.2]
      rw [e]
      exact bin_cmp op a b x y h1 g1 hc w
    · have hd : op = 160 ∨ op = 161 ∨ op = 162 ∨ op = 163 ∨ op = 164 ∨ op = 165 ∨ op = 166 := by omega
      clear h hc
      rcases hd with rfl | rfl | rfl | rfl | rfl | rfl | rfl
      · exact bin_160 a b x y _ h1 g1 (show arithW 160 x y = binW 160 x y by simp [binW]) w
      · exact bin_161 a b x y _ h1 g1 (show arithW 161 x y = binW 161 x y by simp [binW]) w
      · exact bin_162 a b x y _ h1 g1 (show arithW 162 x y = binW 162 x y by simp [binW]) w
      · exact bin_163 a b x y _ h1 g1 (show arithW 163 x y = binW 163 x y by simp [binW]) w
      · obtain ⟨ra, rb⟩ := ho.resolve_left (by simp)
        exact bin_164 a b x y _ h1 g1 (FM.sw_back a x h1 ra.1 ra.2) (FM.sw_back b y g1 rb.1 rb.2) (show FM.minW df x y = binW 164 x y by simp [binW]) w
      · obtain ⟨ra, rb⟩ := ho.resolve_left (by simp)
        exact bin_165 a b x y _ h1 g1 (FM.sw_back a x h1 ra.1 ra.2) (FM.sw_back b y g1 rb.1 rb.2) (show FM.maxW df x y = binW 165 x y by simp [binW]) w
      · exact bin_166 a b x y _ h1 g1 h2 (show x % 9223372036854775808 ||| (y &&& 9223372036854775808) = binW 166 x y by simp [binW]) w
  · rw [if_neg h]
    exact bin_bad op a b h w
end Go.Proofs.YtdfgcagbpndabaaGreatDoor.P6
namespace Go.Proofs.YtdfgcagbpndabaaGreatDoor.P6
open Go.RowKit
open Go.FM (isN fixn qn sw)
end Go.Proofs.YtdfgcagbpndabaaGreatDoor.P6
namespace Go.Proofs.YtdfgcagbpndabaaGreatDoor.P6
open Go.RowKit
open Go.FM (isN fixn qn sw)
theorem f_add (X Y : Nat) : binW 160 X Y = FM.fixo df (df.add X Y) := by simp [binW, arithW, arithO]
theorem f_sub (X Y : Nat) : binW 161 X Y = FM.fixo df (df.sub X Y) := by simp [binW, arithW, arithO]
theorem f_mul (X Y : Nat) : binW 162 X Y = FM.fixo df (df.mul X Y) := by simp [binW, arithW, arithO]
theorem f_div (X Y : Nat) : binW 163 X Y = FM.fixo df (df.div X Y) := by simp [binW, arithW, arithO]
theorem f_min (X Y : Nat) : binW 164 X Y = FM.minW df X Y := by simp [binW]
theorem f_max (X Y : Nat) : binW 165 X Y = FM.maxW df X Y := by simp [binW]
theorem f_sign (X Y : Nat) : binW 166 X Y = X % 9223372036854775808 ||| (Y &&& 9223372036854775808) := by simp [binW]
end Go.Proofs.YtdfgcagbpndabaaGreatDoor.P6
