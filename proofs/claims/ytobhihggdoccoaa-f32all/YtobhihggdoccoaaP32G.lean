/- Contracts of package f32n over this seat's translation: Un and Bin. -/
import Derived.Test.YtobhihggdoccoaaP32F
namespace Go.Proofs.Ytobhihggdoccoaa
open Go.RowKit
open Go.FM (isN fixn qn)
set_option linter.unusedVariables false

/-- what Un makes of every number: its value and the error's number -/
def unI (op a : Int) : Int × Int := if 139 ≤ op ∧ op ≤ 145 then ((unW op (a % 4294967296).toNat : Nat), 0) else (0, 400)
/-- what an operation makes of two floats, by its number -/
def binW (op : Int) (x y : Nat) : Nat :=
  if op ≤ 96 then (if cmpW op x y then 1 else 0) else if op ≤ 149 then arithW op x y else if op = 150 then FM.minW sf x y else if op = 151 then FM.maxW sf x y
  else x % 2147483648 ||| (y &&& 2147483648)
def binI (op a b : Int) : Int × Int := if (91 ≤ op ∧ op ≤ 96) ∨ (146 ≤ op ∧ op ≤ 152) then ((binW op (a % 4294967296).toNat (b % 4294967296).toNat : Nat), 0) else (0, 400)
theorem low_nat (a : Int) : ∃ x : Nat, a % 4294967296 = (x : Int) ∧ x < 4294967296 ∧ (a % 4294967296).toNat = x := ⟨(a % 4294967296).toNat, by omega, by omega, rfl⟩
theorem un_139 (a : Int) (x : Nat) (hx : Hid (a % 4294967296 = (x : Int))) (hb : Hid (x < 4294967296)) (w : World) :
    Calls Try.prog 9 #[.int .i64 139, .int .i64 a] w fun e w' => e = .returned (.tuple #[.int .i64 ((unW 139 x : Nat) : Int), .int .i64 0]) ∧ Later w w' := by
  rw [unW_139]
  have h1 := FM.andNot_top x hb.out
  go_enter Try.func9, Try.ntmps9
  go_wp2_with (go_at_call 20; refine (low_eq a x hx _).mono ?_; rintro e w' ⟨rfl, rfl⟩)
  go_ret2
  exact ⟨rfl, (by repeat (first | exact Later.refl _ | refine Later.alloc ?_ | refine Later.far ?_ | refine Later.drewN ?_ | refine Later.drew ?_))⟩
theorem un_140 (a : Int) (x : Nat) (hx : Hid (a % 4294967296 = (x : Int))) (hb : Hid (x < 4294967296)) (w : World) :
    Calls Try.prog 9 #[.int .i64 140, .int .i64 a] w fun e w' => e = .returned (.tuple #[.int .i64 ((unW 140 x : Nat) : Int), .int .i64 0]) ∧ Later w w' := by
  rw [unW_140]
  have h1 : bits .xor .i64 (x : Int) 2147483648 = ((x ^^^ 2147483648 : Nat) : Int) := FM.xor_i x 2147483648 hb.out (by decide)
  go_enter Try.func9, Try.ntmps9
  go_wp2_with (go_at_call 20; refine (low_eq a x hx _).mono ?_; rintro e w' ⟨rfl, rfl⟩)
  go_ret2
  exact ⟨rfl, (by repeat (first | exact Later.refl _ | refine Later.alloc ?_ | refine Later.far ?_ | refine Later.drewN ?_ | refine Later.drew ?_))⟩
theorem un_141 (a : Int) (x : Nat) (hx : Hid (a % 4294967296 = (x : Int))) (hb : Hid (x < 4294967296)) (w : World) :
    Calls Try.prog 9 #[.int .i64 141, .int .i64 a] w fun e w' => e = .returned (.tuple #[.int .i64 ((unW 141 x : Nat) : Int), .int .i64 0]) ∧ Later w w' := by
  obtain ⟨R, hR⟩ : ∃ R, unW 141 x = R := ⟨_, rfl⟩
  rw [hR]
  have h1 : Hid (∀ w, Calls Try.prog 22 #[.int .i64 141, .float .f32 x] w fun e w' => ∃ b : Nat, e = .returned (.float .f32 b) ∧ Later w w' ∧ (b : Int) < 4294967296 ∧ fixn sf b = R) := by
    intro w
    rw [← hR]
    exact reshape_141 x hb.out w
  have h2 : Hid ((x : Int) < 4294967296) := Int.ofNat_lt.2 hb.out
  clear hR
  go_enter Try.func9, Try.ntmps9
  go_wp2_with (first | (go_at_call 20; refine (low_eq a x hx _).mono ?_; rintro e w' ⟨rfl, rfl⟩) | (go_at_call 23; refine (floatOf_any x h2.out _).mono ?_; rintro e w' ⟨rfl, rfl⟩) | (go_at_call 22; refine (h1.out _).mono ?_; rintro e w' ⟨b, rfl, ⟨bs, n, rfl⟩, hc, hd⟩; have hc : Hid _ := hc; have hd : Hid _ := hd) | (go_at_call 21; refine (bitsOf_any _ hc.out _).mono ?_; rintro e w' ⟨rfl, rfl⟩; rw [hd.out]))
  go_ret2
  exact ⟨rfl, (by repeat (first | exact Later.refl _ | refine Later.alloc ?_ | refine Later.far ?_ | refine Later.drewN ?_ | refine Later.drew ?_))⟩
theorem un_142 (a : Int) (x : Nat) (hx : Hid (a % 4294967296 = (x : Int))) (hb : Hid (x < 4294967296)) (w : World) :
    Calls Try.prog 9 #[.int .i64 142, .int .i64 a] w fun e w' => e = .returned (.tuple #[.int .i64 ((unW 142 x : Nat) : Int), .int .i64 0]) ∧ Later w w' := by
  obtain ⟨R, hR⟩ : ∃ R, unW 142 x = R := ⟨_, rfl⟩
  rw [hR]
  have h1 : Hid (∀ w, Calls Try.prog 22 #[.int .i64 142, .float .f32 x] w fun e w' => ∃ b : Nat, e = .returned (.float .f32 b) ∧ Later w w' ∧ (b : Int) < 4294967296 ∧ fixn sf b = R) := by
    intro w
    rw [← hR]
    exact reshape_142 x hb.out w
  have h2 : Hid ((x : Int) < 4294967296) := Int.ofNat_lt.2 hb.out
  clear hR
  go_enter Try.func9, Try.ntmps9
  go_wp2_with (first | (go_at_call 20; refine (low_eq a x hx _).mono ?_; rintro e w' ⟨rfl, rfl⟩) | (go_at_call 23; refine (floatOf_any x h2.out _).mono ?_; rintro e w' ⟨rfl, rfl⟩) | (go_at_call 22; refine (h1.out _).mono ?_; rintro e w' ⟨b, rfl, ⟨bs, n, rfl⟩, hc, hd⟩; have hc : Hid _ := hc; have hd : Hid _ := hd) | (go_at_call 21; refine (bitsOf_any _ hc.out _).mono ?_; rintro e w' ⟨rfl, rfl⟩; rw [hd.out]))
  go_ret2
  exact ⟨rfl, (by repeat (first | exact Later.refl _ | refine Later.alloc ?_ | refine Later.far ?_ | refine Later.drewN ?_ | refine Later.drew ?_))⟩
theorem un_143 (a : Int) (x : Nat) (hx : Hid (a % 4294967296 = (x : Int))) (hb : Hid (x < 4294967296)) (w : World) :
    Calls Try.prog 9 #[.int .i64 143, .int .i64 a] w fun e w' => e = .returned (.tuple #[.int .i64 ((unW 143 x : Nat) : Int), .int .i64 0]) ∧ Later w w' := by
  obtain ⟨R, hR⟩ : ∃ R, unW 143 x = R := ⟨_, rfl⟩
  rw [hR]
  have h1 : Hid (∀ w, Calls Try.prog 22 #[.int .i64 143, .float .f32 x] w fun e w' => ∃ b : Nat, e = .returned (.float .f32 b) ∧ Later w w' ∧ (b : Int) < 4294967296 ∧ fixn sf b = R) := by
    intro w
    rw [← hR]
    exact reshape_143 x hb.out w
  have h2 : Hid ((x : Int) < 4294967296) := Int.ofNat_lt.2 hb.out
  clear hR
  go_enter Try.func9, Try.ntmps9
  go_wp2_with (first | (go_at_call 20; refine (low_eq a x hx _).mono ?_; rintro e w' ⟨rfl, rfl⟩) | (go_at_call 23; refine (floatOf_any x h2.out _).mono ?_; rintro e w' ⟨rfl, rfl⟩) | (go_at_call 22; refine (h1.out _).mono ?_; rintro e w' ⟨b, rfl, ⟨bs, n, rfl⟩, hc, hd⟩; have hc : Hid _ := hc; have hd : Hid _ := hd) | (go_at_call 21; refine (bitsOf_any _ hc.out _).mono ?_; rintro e w' ⟨rfl, rfl⟩; rw [hd.out]))
  go_ret2
  exact ⟨rfl, (by repeat (first | exact Later.refl _ | refine Later.alloc ?_ | refine Later.far ?_ | refine Later.drewN ?_ | refine Later.drew ?_))⟩
theorem un_144 (a : Int) (x : Nat) (hx : Hid (a % 4294967296 = (x : Int))) (hb : Hid (x < 4294967296)) (w : World) :
    Calls Try.prog 9 #[.int .i64 144, .int .i64 a] w fun e w' => e = .returned (.tuple #[.int .i64 ((unW 144 x : Nat) : Int), .int .i64 0]) ∧ Later w w' := by
  obtain ⟨R, hR⟩ : ∃ R, unW 144 x = R := ⟨_, rfl⟩
  rw [hR]
  have h1 : Hid (∀ w, Calls Try.prog 22 #[.int .i64 144, .float .f32 x] w fun e w' => ∃ b : Nat, e = .returned (.float .f32 b) ∧ Later w w' ∧ (b : Int) < 4294967296 ∧ fixn sf b = R) := by
    intro w
    rw [← hR]
    exact reshape_144 x hb.out w
  have h2 : Hid ((x : Int) < 4294967296) := Int.ofNat_lt.2 hb.out
  clear hR
  go_enter Try.func9, Try.ntmps9
  go_wp2_with (first | (go_at_call 20; refine (low_eq a x hx _).mono ?_; rintro e w' ⟨rfl, rfl⟩) | (go_at_call 23; refine (floatOf_any x h2.out _).mono ?_; rintro e w' ⟨rfl, rfl⟩) | (go_at_call 22; refine (h1.out _).mono ?_; rintro e w' ⟨b, rfl, ⟨bs, n, rfl⟩, hc, hd⟩; have hc : Hid _ := hc; have hd : Hid _ := hd) | (go_at_call 21; refine (bitsOf_any _ hc.out _).mono ?_; rintro e w' ⟨rfl, rfl⟩; rw [hd.out]))
  go_ret2
  exact ⟨rfl, (by repeat (first | exact Later.refl _ | refine Later.alloc ?_ | refine Later.far ?_ | refine Later.drewN ?_ | refine Later.drew ?_))⟩
theorem un_145 (a : Int) (x : Nat) (hx : Hid (a % 4294967296 = (x : Int))) (hb : Hid (x < 4294967296)) (w : World) :
    Calls Try.prog 9 #[.int .i64 145, .int .i64 a] w fun e w' => e = .returned (.tuple #[.int .i64 ((unW 145 x : Nat) : Int), .int .i64 0]) ∧ Later w w' := by
  obtain ⟨R, hR⟩ : ∃ R, unW 145 x = R := ⟨_, rfl⟩
  rw [hR]
  have h1 : Hid (∀ w, Calls Try.prog 22 #[.int .i64 145, .float .f32 x] w fun e w' => ∃ b : Nat, e = .returned (.float .f32 b) ∧ Later w w' ∧ (b : Int) < 4294967296 ∧ fixn sf b = R) := by
    intro w
    rw [← hR]
    rw [unW_145]; exact reshape_145 x _ hb.out rfl w
  have h2 : Hid ((x : Int) < 4294967296) := Int.ofNat_lt.2 hb.out
  clear hR
  go_enter Try.func9, Try.ntmps9
  go_wp2_with (first | (go_at_call 20; refine (low_eq a x hx _).mono ?_; rintro e w' ⟨rfl, rfl⟩) | (go_at_call 23; refine (floatOf_any x h2.out _).mono ?_; rintro e w' ⟨rfl, rfl⟩) | (go_at_call 22; refine (h1.out _).mono ?_; rintro e w' ⟨b, rfl, ⟨bs, n, rfl⟩, hc, hd⟩; have hc : Hid _ := hc; have hd : Hid _ := hd) | (go_at_call 21; refine (bitsOf_any _ hc.out _).mono ?_; rintro e w' ⟨rfl, rfl⟩; rw [hd.out]))
  go_ret2
  exact ⟨rfl, (by repeat (first | exact Later.refl _ | refine Later.alloc ?_ | refine Later.far ?_ | refine Later.drewN ?_ | refine Later.drew ?_))⟩
theorem un_bad (op a : Int) (h : op < 139 ∨ 145 < op) (w : World) :
    Calls Try.prog 9 #[.int .i64 op, .int .i64 a] w fun e w' => e = .returned (.tuple #[.int .i64 0, .int .i64 400]) ∧ Later w w' := by
  have h1 : ¬ op = 139 := by omega
  have h2 : ¬ op = 140 := by omega
  have h3 : Hid (∀ a : Int, ∃ x : Nat, a % 4294967296 = (x : Int) ∧ x < 4294967296 ∧ (a % 4294967296).toNat = x) := low_nat
  rcases h with h | h
  · have h4 : ¬ (141 ≤ op) := by omega
    go_enter Try.func9, Try.ntmps9
    go_wp2_with (go_at_call 20; refine (low_any a _).mono ?_; rintro e w' ⟨rfl, rfl⟩)
    go_ret2
    exact ⟨rfl, (by repeat (first | exact Later.refl _ | refine Later.alloc ?_ | refine Later.far ?_ | refine Later.drewN ?_ | refine Later.drew ?_))⟩
  · have h4 : 141 ≤ op := by omega
    have h5 : ¬ (op ≤ 145) := by omega
    go_enter Try.func9, Try.ntmps9
    go_wp2_with (go_at_call 20; refine (low_any a _).mono ?_; rintro e w' ⟨rfl, rfl⟩)
    go_ret2
    exact ⟨rfl, (by repeat (first | exact Later.refl _ | refine Later.alloc ?_ | refine Later.far ?_ | refine Later.drewN ?_ | refine Later.drew ?_))⟩
theorem un_any (op a : Int) (w : World) :
    Calls Try.prog 9 #[.int .i64 op, .int .i64 a] w fun e w' => e = .returned (.tuple #[.int .i64 (unI op a).1, .int .i64 (unI op a).2]) ∧ Later w w' := by
  unfold unI
  by_cases h : 139 ≤ op ∧ op ≤ 145
  · obtain ⟨x, h1, h2, h3⟩ := low_nat a
    rw [if_pos h, h3]
    have hc : op = 139 ∨ op = 140 ∨ op = 141 ∨ op = 142 ∨ op = 143 ∨ op = 144 ∨ op = 145 := by omega
    rcases hc with rfl | rfl | rfl | rfl | rfl | rfl | rfl
    · exact un_139 a x h1 h2 w
    · exact un_140 a x h1 h2 w
    · exact un_141 a x h1 h2 w
    · exact un_142 a x h1 h2 w
    · exact un_143 a x h1 h2 w
    · exact un_144 a x h1 h2 w
    · exact un_145 a x h1 h2 w
  · rw [if_neg h]
    exact un_bad op a (by omega) w
theorem un_eq {op a p E : Int} (h : Hid (unI op a = (p, E))) (w : World) :
    Calls Try.prog 9 #[.int .i64 op, .int .i64 a] w fun e w' => e = .returned (.tuple #[.int .i64 p, .int .i64 E]) ∧ Later w w' := by
  have := un_any op a w
  rw [h.out] at this
  exact this
end Go.Proofs.Ytobhihggdoccoaa
