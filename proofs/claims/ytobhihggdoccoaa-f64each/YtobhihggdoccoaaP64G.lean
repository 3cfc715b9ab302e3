/- Contracts of package f64n over this seat's translation: Un. -/
import Derived.Test.YtobhihggdoccoaaP64E
namespace Go.Proofs.Ytobhihggdoccoaa
open Go.RowKit
open Go.FM (isN fixn qn sw)
set_option linter.unusedVariables false

theorem num_any (n : Int) (w : World) :
    Calls Try.prog 13 #[.int .i64 n] w fun e w' => e = .returned (.int .i64 n) ∧ w' = w := by
  go_enter Try.func13, Try.ntmps13
  go_wp2
  go_ret
  exact ⟨rfl, rfl⟩
/-- what an operation makes of one float, by its number -/
def unW (op : Int) (x : Nat) : Nat :=
  if op = 153 then x % 9223372036854775808 else if op = 154 then x ^^^ 9223372036854775808 else if op = 155 then FM.wholeW df .up x else if op = 156 then FM.wholeW df .down x
  else if op = 157 then FM.wholeW df .zero x else if op = 158 then FM.wholeW df .even x else FM.rootW df x
theorem unW_153 (x : Nat) : unW 153 x = x % 9223372036854775808 := by simp [unW]
theorem unW_154 (x : Nat) : unW 154 x = x ^^^ 9223372036854775808 := by simp [unW]
theorem unW_155 (x : Nat) : unW 155 x = FM.wholeW df .up x := by simp [unW]
theorem unW_156 (x : Nat) : unW 156 x = FM.wholeW df .down x := by simp [unW]
theorem unW_157 (x : Nat) : unW 157 x = FM.wholeW df .zero x := by simp [unW]
theorem unW_158 (x : Nat) : unW 158 x = FM.wholeW df .even x := by simp [unW]
theorem unW_159 (x : Nat) : unW 159 x = FM.rootW df x := by simp [unW]
/-- what Un makes of every number: its value and the error's number -/
def unI (op a : Int) : Int × Int := if 153 ≤ op ∧ op ≤ 159 then (sw (unW op (a % 18446744073709551616).toNat), 0) else (0, 500)
theorem low_nat (a : Int) : ∃ x : Nat, a % 18446744073709551616 = (x : Int) ∧ x < 18446744073709551616 ∧ (a % 18446744073709551616).toNat = x := ⟨(a % 18446744073709551616).toNat, by omega, by omega, rfl⟩
theorem un_153 (a : Int) (x : Nat) (hx : Hid (a % 18446744073709551616 = (x : Int))) (hb : Hid (x < 18446744073709551616)) (w : World) :
    Calls Try.prog 15 #[.int .i64 153, .int .i64 a] w fun e w' => e = .returned (.tuple #[.int .i64 (sw (unW 153 x)), .int .i64 0]) ∧ Later w w' := by
  rw [unW_153]
  have h1 := FM.andNot_a a x hx.out
  go_enter Try.func15, Try.ntmps15
  go_wp2
  go_ret2
  exact ⟨rfl, (by repeat (first | exact Later.refl _ | refine Later.alloc ?_ | refine Later.far ?_ | refine Later.drewN ?_ | refine Later.drew ?_))⟩
theorem un_154 (a : Int) (x : Nat) (hx : Hid (a % 18446744073709551616 = (x : Int))) (hb : Hid (x < 18446744073709551616)) (w : World) :
    Calls Try.prog 15 #[.int .i64 154, .int .i64 a] w fun e w' => e = .returned (.tuple #[.int .i64 (sw (unW 154 x)), .int .i64 0]) ∧ Later w w' := by
  rw [unW_154]
  have h1 := FM.xor_a a (-9223372036854775808) x _ hx.out FM.top_mod
  go_enter Try.func15, Try.ntmps15
  go_wp2
  go_ret2
  exact ⟨rfl, (by repeat (first | exact Later.refl _ | refine Later.alloc ?_ | refine Later.far ?_ | refine Later.drewN ?_ | refine Later.drew ?_))⟩
theorem un_155 (a : Int) (x : Nat) (hx : Hid (a % 18446744073709551616 = (x : Int))) (hb : Hid (x < 18446744073709551616)) (w : World) :
    Calls Try.prog 15 #[.int .i64 155, .int .i64 a] w fun e w' => e = .returned (.tuple #[.int .i64 (sw (unW 155 x)), .int .i64 0]) ∧ Later w w' := by
  obtain ⟨R, hR⟩ : ∃ R, unW 155 x = R := ⟨_, rfl⟩
  rw [hR]
  have h1 : Hid (∀ w, Calls Try.prog 35 #[.int .i64 155, .float .f64 x] w fun e w' => ∃ b : Nat, e = .returned (.float .f64 b) ∧ Later w w' ∧ fixn df b = R) := by
    intro w
    rw [unW_155] at hR
    exact reshape_155 x R hb hR w
  clear hR
  go_enter Try.func15, Try.ntmps15
  go_wp2_with (first | (go_at_call 36; refine (floatOf_eq a x hx _).mono ?_; rintro e w' ⟨rfl, rfl⟩) | (go_at_call 35; refine (h1.out _).mono ?_; rintro e w' ⟨b, rfl, ⟨bs, n, rfl⟩, hd⟩; have hd : Hid _ := hd) | (go_at_call 34; refine (bitsOf_any _ _).mono ?_; rintro e w' ⟨rfl, rfl⟩; rw [hd.out]))
  go_ret2
  exact ⟨rfl, (by repeat (first | exact Later.refl _ | refine Later.alloc ?_ | refine Later.far ?_ | refine Later.drewN ?_ | refine Later.drew ?_))⟩
theorem un_156 (a : Int) (x : Nat) (hx : Hid (a % 18446744073709551616 = (x : Int))) (hb : Hid (x < 18446744073709551616)) (w : World) :
    Calls Try.prog 15 #[.int .i64 156, .int .i64 a] w fun e w' => e = .returned (.tuple #[.int .i64 (sw (unW 156 x)), .int .i64 0]) ∧ Later w w' := by
  obtain ⟨R, hR⟩ : ∃ R, unW 156 x = R := ⟨_, rfl⟩
  rw [hR]
  have h1 : Hid (∀ w, Calls Try.prog 35 #[.int .i64 156, .float .f64 x] w fun e w' => ∃ b : Nat, e = .returned (.float .f64 b) ∧ Later w w' ∧ fixn df b = R) := by
    intro w
    rw [unW_156] at hR
    exact reshape_156 x R hb hR w
  clear hR
  go_enter Try.func15, Try.ntmps15
  go_wp2_with (first | (go_at_call 36; refine (floatOf_eq a x hx _).mono ?_; rintro e w' ⟨rfl, rfl⟩) | (go_at_call 35; refine (h1.out _).mono ?_; rintro e w' ⟨b, rfl, ⟨bs, n, rfl⟩, hd⟩; have hd : Hid _ := hd) | (go_at_call 34; refine (bitsOf_any _ _).mono ?_; rintro e w' ⟨rfl, rfl⟩; rw [hd.out]))
  go_ret2
  exact ⟨rfl, (by repeat (first | exact Later.refl _ | refine Later.alloc ?_ | refine Later.far ?_ | refine Later.drewN ?_ | refine Later.drew ?_))⟩
theorem un_157 (a : Int) (x : Nat) (hx : Hid (a % 18446744073709551616 = (x : Int))) (hb : Hid (x < 18446744073709551616)) (w : World) :
    Calls Try.prog 15 #[.int .i64 157, .int .i64 a] w fun e w' => e = .returned (.tuple #[.int .i64 (sw (unW 157 x)), .int .i64 0]) ∧ Later w w' := by
  obtain ⟨R, hR⟩ : ∃ R, unW 157 x = R := ⟨_, rfl⟩
  rw [hR]
  have h1 : Hid (∀ w, Calls Try.prog 35 #[.int .i64 157, .float .f64 x] w fun e w' => ∃ b : Nat, e = .returned (.float .f64 b) ∧ Later w w' ∧ fixn df b = R) := by
    intro w
    rw [unW_157] at hR
    exact reshape_157 x R hb hR w
  clear hR
  go_enter Try.func15, Try.ntmps15
  go_wp2_with (first | (go_at_call 36; refine (floatOf_eq a x hx _).mono ?_; rintro e w' ⟨rfl, rfl⟩) | (go_at_call 35; refine (h1.out _).mono ?_; rintro e w' ⟨b, rfl, ⟨bs, n, rfl⟩, hd⟩; have hd : Hid _ := hd) | (go_at_call 34; refine (bitsOf_any _ _).mono ?_; rintro e w' ⟨rfl, rfl⟩; rw [hd.out]))
  go_ret2
  exact ⟨rfl, (by repeat (first | exact Later.refl _ | refine Later.alloc ?_ | refine Later.far ?_ | refine Later.drewN ?_ | refine Later.drew ?_))⟩
theorem un_158 (a : Int) (x : Nat) (hx : Hid (a % 18446744073709551616 = (x : Int))) (hb : Hid (x < 18446744073709551616)) (w : World) :
    Calls Try.prog 15 #[.int .i64 158, .int .i64 a] w fun e w' => e = .returned (.tuple #[.int .i64 (sw (unW 158 x)), .int .i64 0]) ∧ Later w w' := by
  obtain ⟨R, hR⟩ : ∃ R, unW 158 x = R := ⟨_, rfl⟩
  rw [hR]
  have h1 : Hid (∀ w, Calls Try.prog 35 #[.int .i64 158, .float .f64 x] w fun e w' => ∃ b : Nat, e = .returned (.float .f64 b) ∧ Later w w' ∧ fixn df b = R) := by
    intro w
    rw [unW_158] at hR
    exact reshape_158 x R hb hR w
  clear hR
  go_enter Try.func15, Try.ntmps15
  go_wp2_with (first | (go_at_call 36; refine (floatOf_eq a x hx _).mono ?_; rintro e w' ⟨rfl, rfl⟩) | (go_at_call 35; refine (h1.out _).mono ?_; rintro e w' ⟨b, rfl, ⟨bs, n, rfl⟩, hd⟩; have hd : Hid _ := hd) | (go_at_call 34; refine (bitsOf_any _ _).mono ?_; rintro e w' ⟨rfl, rfl⟩; rw [hd.out]))
  go_ret2
  exact ⟨rfl, (by repeat (first | exact Later.refl _ | refine Later.alloc ?_ | refine Later.far ?_ | refine Later.drewN ?_ | refine Later.drew ?_))⟩
theorem un_159 (a : Int) (x : Nat) (hx : Hid (a % 18446744073709551616 = (x : Int))) (hb : Hid (x < 18446744073709551616)) (w : World) :
    Calls Try.prog 15 #[.int .i64 159, .int .i64 a] w fun e w' => e = .returned (.tuple #[.int .i64 (sw (unW 159 x)), .int .i64 0]) ∧ Later w w' := by
  obtain ⟨R, hR⟩ : ∃ R, unW 159 x = R := ⟨_, rfl⟩
  rw [hR]
  have h1 : Hid (∀ w, Calls Try.prog 35 #[.int .i64 159, .float .f64 x] w fun e w' => ∃ b : Nat, e = .returned (.float .f64 b) ∧ Later w w' ∧ fixn df b = R) := by
    intro w
    rw [unW_159] at hR
    exact reshape_159 x R hb hR w
  clear hR
  go_enter Try.func15, Try.ntmps15
  go_wp2_with (first | (go_at_call 36; refine (floatOf_eq a x hx _).mono ?_; rintro e w' ⟨rfl, rfl⟩) | (go_at_call 35; refine (h1.out _).mono ?_; rintro e w' ⟨b, rfl, ⟨bs, n, rfl⟩, hd⟩; have hd : Hid _ := hd) | (go_at_call 34; refine (bitsOf_any _ _).mono ?_; rintro e w' ⟨rfl, rfl⟩; rw [hd.out]))
  go_ret2
  exact ⟨rfl, (by repeat (first | exact Later.refl _ | refine Later.alloc ?_ | refine Later.far ?_ | refine Later.drewN ?_ | refine Later.drew ?_))⟩
theorem un_bad (op a : Int) (h : op < 153 ∨ 159 < op) (w : World) :
    Calls Try.prog 15 #[.int .i64 op, .int .i64 a] w fun e w' => e = .returned (.tuple #[.int .i64 0, .int .i64 500]) ∧ Later w w' := by
  have h1 : ¬ op = 153 := by omega
  have h2 : ¬ op = 154 := by omega
  rcases h with h | h
  · have h4 : ¬ (155 ≤ op) := by omega
    go_enter Try.func15, Try.ntmps15
    go_wp2
    go_ret2
    exact ⟨rfl, (by repeat (first | exact Later.refl _ | refine Later.alloc ?_ | refine Later.far ?_ | refine Later.drewN ?_ | refine Later.drew ?_))⟩
  · have h4 : 155 ≤ op := by omega
    have h5 : ¬ (op ≤ 159) := by omega
    go_enter Try.func15, Try.ntmps15
    go_wp2
    go_ret2
    exact ⟨rfl, (by repeat (first | exact Later.refl _ | refine Later.alloc ?_ | refine Later.far ?_ | refine Later.drewN ?_ | refine Later.drew ?_))⟩
theorem un_any (op a : Int) (w : World) :
    Calls Try.prog 15 #[.int .i64 op, .int .i64 a] w fun e w' => e = .returned (.tuple #[.int .i64 (unI op a).1, .int .i64 (unI op a).2]) ∧ Later w w' := by
  unfold unI
  by_cases h : 153 ≤ op ∧ op ≤ 159
  · obtain ⟨x, h1, h2, h3⟩ := low_nat a
    rw [if_pos h, h3]
    have hc : op = 153 ∨ op = 154 ∨ op = 155 ∨ op = 156 ∨ op = 157 ∨ op = 158 ∨ op = 159 := by omega
    rcases hc with rfl | rfl | rfl | rfl | rfl | rfl | rfl
    · exact un_153 a x h1 h2 w
    · exact un_154 a x h1 h2 w
    · exact un_155 a x h1 h2 w
    · exact un_156 a x h1 h2 w
    · exact un_157 a x h1 h2 w
    · exact un_158 a x h1 h2 w
    · exact un_159 a x h1 h2 w
  · rw [if_neg h]
    exact un_bad op a (by omega) w
theorem un_eq {op a p E : Int} (h : Hid (unI op a = (p, E))) (w : World) :
    Calls Try.prog 15 #[.int .i64 op, .int .i64 a] w fun e w' => e = .returned (.tuple #[.int .i64 p, .int .i64 E]) ∧ Later w w' := by
  have := un_any op a w
  rw [h.out] at this
  exact this
end Go.Proofs.Ytobhihggdoccoaa
