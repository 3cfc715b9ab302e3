/- Contracts of package f64n over this seat's translation: Bin. -/
import Derived.Test.YtobhihggdoccoaaP64G
import Derived.Test.YtobhihggdoccoaaP64C
namespace Go.Proofs.Ytobhihggdoccoaa
open Go.RowKit
open Go.FM (isN fixn qn sw)
set_option linter.unusedVariables false

/-- what an operation makes of two floats, by its number -/
def binW (op : Int) (x y : Nat) : Nat :=
  if op ≤ 102 then (if cmpW op x y then 1 else 0) else if op ≤ 163 then arithW op x y else if op = 164 then FM.minW df x y else if op = 165 then FM.maxW df x y
  else x % 9223372036854775808 ||| (y &&& 9223372036854775808)
def binI (op a b : Int) : Int × Int := if (97 ≤ op ∧ op ≤ 102) ∨ (160 ≤ op ∧ op ≤ 166) then (sw (binW op (a % 18446744073709551616).toNat (b % 18446744073709551616).toNat), 0) else (0, 500)
theorem sw_one : sw 1 = 1 := FM.sw_small 1 (by decide)
theorem sw_zero : sw 0 = 0 := FM.sw_small 0 (by decide)
theorem fl_nat (c : Bool) : fl c = sw (if c then 1 else 0) := by
  cases c
  · exact sw_zero.symm
  · exact sw_one.symm
theorem bin_cmp0 (op a b : Int) (x y : Nat) (hx : Hid (a % 18446744073709551616 = (x : Int))) (hy : Hid (b % 18446744073709551616 = (y : Int))) (h : 97 ≤ op ∧ op ≤ 102) (w : World) :
    Calls Try.prog 17 #[.int .i64 op, .int .i64 a, .int .i64 b] w fun e w' => e = .returned (.tuple #[.int .i64 (sw (if cmpW op x y then 1 else 0)), .int .i64 0]) ∧ w' = w := by
  rw [← fl_nat]
  have h4 := h.1
  have h5 := h.2
  have h6 : Hid (97 ≤ op ∧ op ≤ 102) := h
  clear h
  go_enter Try.func17, Try.ntmps17
  go_wp2_with (first | (first | (go_at_call_of 36 a; refine (floatOf_eq a x hx _).mono ?_; rintro e w' ⟨rfl, rfl⟩) | (go_at_call_of 36 b; refine (floatOf_eq b y hy _).mono ?_; rintro e w' ⟨rfl, rfl⟩)) | (go_at_call 39; refine (compare_any op x y h6.out _).mono ?_; rintro e w' ⟨rfl, rfl⟩) | (go_at_call 38; refine (flag_any _ _).mono ?_; rintro e w' ⟨rfl, rfl⟩))
  go_ret2
  exact ⟨rfl, rfl⟩
theorem bin_cmp (op a b : Int) (x y : Nat) (hx : Hid (a % 18446744073709551616 = (x : Int))) (hy : Hid (b % 18446744073709551616 = (y : Int))) (h : 97 ≤ op ∧ op ≤ 102) (w : World) :
    Calls Try.prog 17 #[.int .i64 op, .int .i64 a, .int .i64 b] w fun e w' => e = .returned (.tuple #[.int .i64 (sw (if cmpW op x y then 1 else 0)), .int .i64 0]) ∧ Later w w' :=
  (bin_cmp0 op a b x y hx hy h w).mono fun e w' h => ⟨h.1, by rw [h.2]; exact Later.refl _⟩
theorem bin_160 (a b : Int) (x y R : Nat) (hx : Hid (a % 18446744073709551616 = (x : Int))) (hy : Hid (b % 18446744073709551616 = (y : Int))) (hR : arithW 160 x y = R) (w : World) :
    Calls Try.prog 17 #[.int .i64 160, .int .i64 a, .int .i64 b] w fun e w' => e = .returned (.tuple #[.int .i64 (sw R), .int .i64 0]) ∧ Later w w' := by
  have h1 : Hid (∀ w, Calls Try.prog 40 #[.int .i64 160, .float .f64 x, .float .f64 y] w fun e w' => ∃ b : Nat, e = .returned (.float .f64 b) ∧ Later w w' ∧ fixn df b = R) := by
    intro w
    rw [← hR]
    exact combine_160 x y w
  clear hR
  go_enter Try.func17, Try.ntmps17
  go_wp2_with (first | (first | (go_at_call_of 36 a; refine (floatOf_eq a x hx _).mono ?_; rintro e w' ⟨rfl, rfl⟩) | (go_at_call_of 36 b; refine (floatOf_eq b y hy _).mono ?_; rintro e w' ⟨rfl, rfl⟩)) | (go_at_call 40; refine (h1.out _).mono ?_; rintro e w' ⟨z, rfl, ⟨bs, n, rfl⟩, hd⟩; have hd : Hid _ := hd) | (go_at_call 34; refine (bitsOf_any _ _).mono ?_; rintro e w' ⟨rfl, rfl⟩; rw [hd.out]))
  go_ret2
  exact ⟨rfl, (by repeat (first | exact Later.refl _ | refine Later.alloc ?_ | refine Later.far ?_ | refine Later.drewN ?_ | refine Later.drew ?_))⟩
theorem bin_161 (a b : Int) (x y R : Nat) (hx : Hid (a % 18446744073709551616 = (x : Int))) (hy : Hid (b % 18446744073709551616 = (y : Int))) (hR : arithW 161 x y = R) (w : World) :
    Calls Try.prog 17 #[.int .i64 161, .int .i64 a, .int .i64 b] w fun e w' => e = .returned (.tuple #[.int .i64 (sw R), .int .i64 0]) ∧ Later w w' := by
  have h1 : Hid (∀ w, Calls Try.prog 40 #[.int .i64 161, .float .f64 x, .float .f64 y] w fun e w' => ∃ b : Nat, e = .returned (.float .f64 b) ∧ Later w w' ∧ fixn df b = R) := by
    intro w
    rw [← hR]
    exact combine_161 x y w
  clear hR
  go_enter Try.func17, Try.ntmps17
  go_wp2_with (first | (first | (go_at_call_of 36 a; refine (floatOf_eq a x hx _).mono ?_; rintro e w' ⟨rfl, rfl⟩) | (go_at_call_of 36 b; refine (floatOf_eq b y hy _).mono ?_; rintro e w' ⟨rfl, rfl⟩)) | (go_at_call 40; refine (h1.out _).mono ?_; rintro e w' ⟨z, rfl, ⟨bs, n, rfl⟩, hd⟩; have hd : Hid _ := hd) | (go_at_call 34; refine (bitsOf_any _ _).mono ?_; rintro e w' ⟨rfl, rfl⟩; rw [hd.out]))
  go_ret2
  exact ⟨rfl, (by repeat (first | exact Later.refl _ | refine Later.alloc ?_ | refine Later.far ?_ | refine Later.drewN ?_ | refine Later.drew ?_))⟩
theorem bin_162 (a b : Int) (x y R : Nat) (hx : Hid (a % 18446744073709551616 = (x : Int))) (hy : Hid (b % 18446744073709551616 = (y : Int))) (hR : arithW 162 x y = R) (w : World) :
    Calls Try.prog 17 #[.int .i64 162, .int .i64 a, .int .i64 b] w fun e w' => e = .returned (.tuple #[.int .i64 (sw R), .int .i64 0]) ∧ Later w w' := by
  have h1 : Hid (∀ w, Calls Try.prog 40 #[.int .i64 162, .float .f64 x, .float .f64 y] w fun e w' => ∃ b : Nat, e = .returned (.float .f64 b) ∧ Later w w' ∧ fixn df b = R) := by
    intro w
    rw [← hR]
    exact combine_162 x y w
  clear hR
  go_enter Try.func17, Try.ntmps17
  go_wp2_with (first | (first | (go_at_call_of 36 a; refine (floatOf_eq a x hx _).mono ?_; rintro e w' ⟨rfl, rfl⟩) | (go_at_call_of 36 b; refine (floatOf_eq b y hy _).mono ?_; rintro e w' ⟨rfl, rfl⟩)) | (go_at_call 40; refine (h1.out _).mono ?_; rintro e w' ⟨z, rfl, ⟨bs, n, rfl⟩, hd⟩; have hd : Hid _ := hd) | (go_at_call 34; refine (bitsOf_any _ _).mono ?_; rintro e w' ⟨rfl, rfl⟩; rw [hd.out]))
  go_ret2
  exact ⟨rfl, (by repeat (first | exact Later.refl _ | refine Later.alloc ?_ | refine Later.far ?_ | refine Later.drewN ?_ | refine Later.drew ?_))⟩
theorem bin_163 (a b : Int) (x y R : Nat) (hx : Hid (a % 18446744073709551616 = (x : Int))) (hy : Hid (b % 18446744073709551616 = (y : Int))) (hR : arithW 163 x y = R) (w : World) :
    Calls Try.prog 17 #[.int .i64 163, .int .i64 a, .int .i64 b] w fun e w' => e = .returned (.tuple #[.int .i64 (sw R), .int .i64 0]) ∧ Later w w' := by
  have h1 : Hid (∀ w, Calls Try.prog 40 #[.int .i64 163, .float .f64 x, .float .f64 y] w fun e w' => ∃ b : Nat, e = .returned (.float .f64 b) ∧ Later w w' ∧ fixn df b = R) := by
    intro w
    rw [← hR]
    exact combine_163 x y w
  clear hR
  go_enter Try.func17, Try.ntmps17
  go_wp2_with (first | (first | (go_at_call_of 36 a; refine (floatOf_eq a x hx _).mono ?_; rintro e w' ⟨rfl, rfl⟩) | (go_at_call_of 36 b; refine (floatOf_eq b y hy _).mono ?_; rintro e w' ⟨rfl, rfl⟩)) | (go_at_call 40; refine (h1.out _).mono ?_; rintro e w' ⟨z, rfl, ⟨bs, n, rfl⟩, hd⟩; have hd : Hid _ := hd) | (go_at_call 34; refine (bitsOf_any _ _).mono ?_; rintro e w' ⟨rfl, rfl⟩; rw [hd.out]))
  go_ret2
  exact ⟨rfl, (by repeat (first | exact Later.refl _ | refine Later.alloc ?_ | refine Later.far ?_ | refine Later.drewN ?_ | refine Later.drew ?_))⟩
theorem bin_164 (a b : Int) (x y R : Nat) (hx : Hid (a % 18446744073709551616 = (x : Int))) (hy : Hid (b % 18446744073709551616 = (y : Int))) (ha : Hid (sw x = a)) (hb : Hid (sw y = b)) (hR : FM.minW df x y = R) (w : World) :
    Calls Try.prog 17 #[.int .i64 164, .int .i64 a, .int .i64 b] w fun e w' => e = .returned (.tuple #[.int .i64 (sw R), .int .i64 0]) ∧ Later w w' := by
  have h1 : Hid (∀ w, Calls Try.prog 41 #[.int .i64 a, .int .i64 b] w fun e w' => e = .returned (.int .i64 (sw R)) ∧ w' = w) := by
    intro w
    rw [← hR]
    exact least_any a b x y hx hy ha hb w
  clear hR
  go_enter Try.func17, Try.ntmps17
  go_wp2_with (go_at_call 41; refine (h1.out _).mono ?_; rintro e w' ⟨rfl, rfl⟩)
  go_ret2
  exact ⟨rfl, (by repeat (first | exact Later.refl _ | refine Later.alloc ?_ | refine Later.far ?_ | refine Later.drewN ?_ | refine Later.drew ?_))⟩
theorem bin_165 (a b : Int) (x y R : Nat) (hx : Hid (a % 18446744073709551616 = (x : Int))) (hy : Hid (b % 18446744073709551616 = (y : Int))) (ha : Hid (sw x = a)) (hb : Hid (sw y = b)) (hR : FM.maxW df x y = R) (w : World) :
    Calls Try.prog 17 #[.int .i64 165, .int .i64 a, .int .i64 b] w fun e w' => e = .returned (.tuple #[.int .i64 (sw R), .int .i64 0]) ∧ Later w w' := by
  have h1 : Hid (∀ w, Calls Try.prog 42 #[.int .i64 a, .int .i64 b] w fun e w' => e = .returned (.int .i64 (sw R)) ∧ w' = w) := by
    intro w
    rw [← hR]
    exact most_any a b x y hx hy ha hb w
  clear hR
  go_enter Try.func17, Try.ntmps17
  go_wp2_with (go_at_call 42; refine (h1.out _).mono ?_; rintro e w' ⟨rfl, rfl⟩)
  go_ret2
  exact ⟨rfl, (by repeat (first | exact Later.refl _ | refine Later.alloc ?_ | refine Later.far ?_ | refine Later.drewN ?_ | refine Later.drew ?_))⟩
theorem bin_166 (a b : Int) (x y R : Nat) (hx : Hid (a % 18446744073709551616 = (x : Int))) (hy : Hid (b % 18446744073709551616 = (y : Int))) (hbx : Hid (x < 18446744073709551616)) (hR : x % 9223372036854775808 ||| (y &&& 9223372036854775808) = R) (w : World) :
    Calls Try.prog 17 #[.int .i64 166, .int .i64 a, .int .i64 b] w fun e w' => e = .returned (.tuple #[.int .i64 (sw R), .int .i64 0]) ∧ Later w w' := by
  have h1 := FM.andNot_a a x hx.out
  have h2 : bits .and .i64 b (-9223372036854775808) = sw (y &&& 9223372036854775808) := FM.and_a b _ y _ hy.out FM.top_mod
  have h3 : bits .or .i64 (sw (x % 9223372036854775808)) (sw (y &&& 9223372036854775808)) = sw R := by
    rw [← hR]
    exact FM.or_a _ _ _ _ (FM.sw_mod _ (by have := Nat.mod_lt x (show 0 < 9223372036854775808 by decide); omega)) (FM.sw_mod _ (Nat.lt_of_le_of_lt Nat.and_le_right (by decide)))
  clear hR
  generalize sw (y &&& 9223372036854775808) = u at *
  generalize sw (x % 9223372036854775808) = v at *
  go_enter Try.func17, Try.ntmps17
  go_wp2
  go_ret2
  exact ⟨rfl, (by repeat (first | exact Later.refl _ | refine Later.alloc ?_ | refine Later.far ?_ | refine Later.drewN ?_ | refine Later.drew ?_))⟩
theorem bin_bad (op a b : Int) (h : ¬ ((97 ≤ op ∧ op ≤ 102) ∨ (160 ≤ op ∧ op ≤ 166))) (w : World) :
    Calls Try.prog 17 #[.int .i64 op, .int .i64 a, .int .i64 b] w fun e w' => e = .returned (.tuple #[.int .i64 0, .int .i64 500]) ∧ Later w w' := by
  have h1 : ¬ op = 164 := by omega
  have h2 : ¬ op = 165 := by omega
  have h3 : ¬ op = 166 := by omega
  have hc : op < 97 ∨ (102 < op ∧ op < 160) ∨ 166 < op := by omega
  clear h
  rcases hc with h | ⟨h, h'⟩ | h
  · have h4 : ¬ (97 ≤ op) := by omega
    have h5 : ¬ (160 ≤ op) := by omega
    go_enter Try.func17, Try.ntmps17
    go_wp2
    go_ret2
    exact ⟨rfl, (by repeat (first | exact Later.refl _ | refine Later.alloc ?_ | refine Later.far ?_ | refine Later.drewN ?_ | refine Later.drew ?_))⟩
  · have h4 : 97 ≤ op := by omega
    have h6 : ¬ (op ≤ 102) := by omega
    have h5 : ¬ (160 ≤ op) := by omega
    go_enter Try.func17, Try.ntmps17
    go_wp2
    go_ret2
    exact ⟨rfl, (by repeat (first | exact Later.refl _ | refine Later.alloc ?_ | refine Later.far ?_ | refine Later.drewN ?_ | refine Later.drew ?_))⟩
  · have h4 : 97 ≤ op := by omega
    have h6 : ¬ (op ≤ 102) := by omega
    have h5 : 160 ≤ op := by omega
    have h7 : ¬ (op ≤ 163) := by omega
    go_enter Try.func17, Try.ntmps17
    go_wp2
    go_ret2
    exact ⟨rfl, (by repeat (first | exact Later.refl _ | refine Later.alloc ?_ | refine Later.far ?_ | refine Later.drewN ?_ | refine Later.drew ?_))⟩
/-- an int of 64 bits -/
def in64 (a : Int) : Prop := -9223372036854775808 ≤ a ∧ a ≤ 9223372036854775807
theorem in_sw (x : Nat) : in64 (sw x) := by unfold in64; rw [FM.sw_def]; omega
theorem bin_any (op a b : Int) (ho : (op ≠ 164 ∧ op ≠ 165) ∨ (in64 a ∧ in64 b)) (w : World) :
    Calls Try.prog 17 #[.int .i64 op, .int .i64 a, .int .i64 b] w fun e w' => e = .returned (.tuple #[.int .i64 (binI op a b).1, .int .i64 (binI op a b).2]) ∧ Later w w' := by
  unfold binI
  by_cases h : (97 ≤ op ∧ op ≤ 102) ∨ (160 ≤ op ∧ op ≤ 166)
  · obtain ⟨x, h1, h2, h3⟩ := low_nat a
    obtain ⟨y, g1, g2, g3⟩ := low_nat b
    rw [if_pos h, h3, g3]
    clear h3 g3
    by_cases hc : 97 ≤ op ∧ op ≤ 102
    · have e : binW op x y = if cmpW op x y then 1 else 0 := by unfold binW; rw [if_pos hc.2]
      rw [e]
      exact bin_cmp op a b x y h1 g1 hc w
    · have hd : op = 160 ∨ op = 161 ∨ op = 162 ∨ op = 163 ∨ op = 164 ∨ op = 165 ∨ op = 166 := by omega
      clear h hc
      rcases hd with rfl | rfl | rfl | rfl | rfl | rfl | rfl
      · exact bin_160 a b x y _ h1 g1 (show arithW 160 x y = binW 160 x y by simp [binW]) w
      · exact bin_161 a b x y _ h1 g1 (show arithW 161 x y = binW 161 x y by simp [binW]) w
      · exact bin_162 a b x y _ h1 g1 (show arithW 162 x y = binW 162 x y by simp [binW]) w
      · exact bin_163 a b x y _ h1 g1 (show arithW 163 x y = binW 163 x y by simp [binW]) w
      · obtain ⟨ra, rb⟩ := ho.resolve_left (by simp)
        exact bin_164 a b x y _ h1 g1 (FM.sw_back a x h1 ra.1 ra.2) (FM.sw_back b y g1 rb.1 rb.2) (show FM.minW df x y = binW 164 x y by simp [binW]) w
      · obtain ⟨ra, rb⟩ := ho.resolve_left (by simp)
        exact bin_165 a b x y _ h1 g1 (FM.sw_back a x h1 ra.1 ra.2) (FM.sw_back b y g1 rb.1 rb.2) (show FM.maxW df x y = binW 165 x y by simp [binW]) w
      · exact bin_166 a b x y _ h1 g1 h2 (show x % 9223372036854775808 ||| (y &&& 9223372036854775808) = binW 166 x y by simp [binW]) w
  · rw [if_neg h]
    exact bin_bad op a b h w
/-- a comparison leaves the world as it was -/
theorem cmp_eq {op a b p : Int} (hop : 97 ≤ op ∧ op ≤ 102) (h : Hid (binI op a b = (p, 0))) (w : World) :
    Calls Try.prog 17 #[.int .i64 op, .int .i64 a, .int .i64 b] w fun e w' => e = .returned (.tuple #[.int .i64 p, .int .i64 0]) ∧ w' = w := by
  obtain ⟨x, h1, h2, h3⟩ := low_nat a
  obtain ⟨y, g1, g2, g3⟩ := low_nat b
  have e1 : sw (if cmpW op x y then 1 else 0) = p := by
    have := h.out
    unfold binI binW at this
    rw [if_pos (Or.inl hop), h3, g3, if_pos hop.2] at this
    exact (Prod.mk.inj this).1
  have := bin_cmp0 op a b x y h1 g1 hop w
  rw [e1] at this
  exact this
theorem bin_eq {op a b p E : Int} (ho : (op ≠ 164 ∧ op ≠ 165) ∨ (in64 a ∧ in64 b)) (h : Hid (binI op a b = (p, E))) (w : World) :
    Calls Try.prog 17 #[.int .i64 op, .int .i64 a, .int .i64 b] w fun e w' => e = .returned (.tuple #[.int .i64 p, .int .i64 E]) ∧ Later w w' := by
  have := bin_any op a b ho w
  rw [h.out] at this
  exact this
end Go.Proofs.Ytobhihggdoccoaa
