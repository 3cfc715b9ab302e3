/- Contracts of package convn over this seat's translation: Of. -/
import Derived.Test.YtibfjlibkaejnaaQ6B
import Derived.Test.YtibfjlibkaejnaaCDem
namespace Go.Proofs.Ytibfjlibkaejnaa
open Go.RowKit
open Go.FM (isN fixn qn sw otherW fromW cutI tval small Bnd wholeW ofI)
set_option linter.unusedVariables false

theorem low32 (a : Int) : ∃ q : Nat, a % 4294967296 = (q : Int) ∧ q < 4294967296 ∧ (a % 4294967296).toNat = q := ⟨(a % 4294967296).toNat, by omega, by omega, rfl⟩
theorem low64 (a : Int) : ∃ x : Nat, a % 18446744073709551616 = (x : Int) ∧ x < 18446744073709551616 ∧ (a % 18446744073709551616).toNat = x := ⟨(a % 18446744073709551616).toNat, by omega, by omega, rfl⟩
theorem fix_from (f : Ieee.Format) (v : Int) : fixn f (fromW f v) = fromW f v := by unfold fixn; rw [if_neg (FM.from_num f v)]
theorem fixn_num (f : Ieee.Format) (x : Nat) (h : ¬ isN f x) : fixn f x = x := by unfold fixn; rw [if_neg h]
theorem near32 (v : Int) : floatOfInt .f32 v = fromW Ieee.single v := rfl
theorem near64 (v : Int) : floatOfInt .f64 v = fromW Ieee.double v := rfl
theorem of167 (a : Int) (w : World) :
    Calls Try.prog 9 #[.int .i64 167, .int .i64 a] w fun e w' => e = .returned (.tuple #[.int .i64 (a % 4294967296), .int .i64 0]) ∧ Later w w' := by
  go_enter Try.func9, Try.ntmps9
  go_wp2_with (go_at_call 13; refine (low_any _ _).mono ?_; rintro e w' ⟨rfl, rfl⟩)
  go_ret2
  exact ⟨rfl, (by repeat (first | exact Later.refl _ | refine Later.alloc ?_ | refine Later.far ?_ | refine Later.drewN ?_ | refine Later.drew ?_))⟩
theorem of173 (a : Int) (w : World) :
    Calls Try.prog 9 #[.int .i64 173, .int .i64 a] w fun e w' => e = .returned (.tuple #[.int .i64 (a % 4294967296), .int .i64 0]) ∧ Later w w' := by
  go_enter Try.func9, Try.ntmps9
  go_wp2_with (go_at_call 13; refine (low_any _ _).mono ?_; rintro e w' ⟨rfl, rfl⟩)
  go_ret2
  exact ⟨rfl, (by repeat (first | exact Later.refl _ | refine Later.alloc ?_ | refine Later.far ?_ | refine Later.drewN ?_ | refine Later.drew ?_))⟩
theorem of188 (a : Int) (w : World) :
    Calls Try.prog 9 #[.int .i64 188, .int .i64 a] w fun e w' => e = .returned (.tuple #[.int .i64 (a % 4294967296), .int .i64 0]) ∧ Later w w' := by
  go_enter Try.func9, Try.ntmps9
  go_wp2_with (go_at_call 13; refine (low_any _ _).mono ?_; rintro e w' ⟨rfl, rfl⟩)
  go_ret2
  exact ⟨rfl, (by repeat (first | exact Later.refl _ | refine Later.alloc ?_ | refine Later.far ?_ | refine Later.drewN ?_ | refine Later.drew ?_))⟩
theorem of190 (a : Int) (w : World) :
    Calls Try.prog 9 #[.int .i64 190, .int .i64 a] w fun e w' => e = .returned (.tuple #[.int .i64 (a % 4294967296), .int .i64 0]) ∧ Later w w' := by
  go_enter Try.func9, Try.ntmps9
  go_wp2_with (go_at_call 13; refine (low_any _ _).mono ?_; rintro e w' ⟨rfl, rfl⟩)
  go_ret2
  exact ⟨rfl, (by repeat (first | exact Later.refl _ | refine Later.alloc ?_ | refine Later.far ?_ | refine Later.drewN ?_ | refine Later.drew ?_))⟩
theorem of172 (a : Int) (w : World) :
    Calls Try.prog 9 #[.int .i64 172, .int .i64 a] w fun e w' => e = .returned (.tuple #[.int .i64 (FM.s32 a), .int .i64 0]) ∧ Later w w' := by
  go_enter Try.func9, Try.ntmps9
  go_wp2_with (go_at_call 14; refine (sign_any _ _).mono ?_; rintro e w' ⟨rfl, rfl⟩)
  go_ret2
  exact ⟨rfl, (by repeat (first | exact Later.refl _ | refine Later.alloc ?_ | refine Later.far ?_ | refine Later.drewN ?_ | refine Later.drew ?_))⟩
theorem of189 (a : Int) (w : World) :
    Calls Try.prog 9 #[.int .i64 189, .int .i64 a] w fun e w' => e = .returned (.tuple #[.int .i64 a, .int .i64 0]) ∧ Later w w' := by
  go_enter Try.func9, Try.ntmps9
  go_wp2
  go_ret2
  exact ⟨rfl, (by repeat (first | exact Later.refl _ | refine Later.alloc ?_ | refine Later.far ?_ | refine Later.drewN ?_ | refine Later.drew ?_))⟩
theorem of191 (a : Int) (w : World) :
    Calls Try.prog 9 #[.int .i64 191, .int .i64 a] w fun e w' => e = .returned (.tuple #[.int .i64 a, .int .i64 0]) ∧ Later w w' := by
  go_enter Try.func9, Try.ntmps9
  go_wp2
  go_ret2
  exact ⟨rfl, (by repeat (first | exact Later.refl _ | refine Later.alloc ?_ | refine Later.far ?_ | refine Later.drewN ?_ | refine Later.drew ?_))⟩
theorem of168 (a : Int) (q : Nat) (hq : Hid (a % 4294967296 = (q : Int))) (hl : Hid (q < 4294967296)) (w : World) :
    Calls Try.prog 9 #[.int .i64 168, .int .i64 a] w fun e w' => e = .returned (.tuple #[.int .i64 (FM.truncI Ieee.single q 32 true).1, .int .i64 (FM.truncI Ieee.single q 32 true).2]) ∧ Later w w' := by
  rw [FM.trunc_wide q 32 true hl.out]
  have hT : Hid (∀ D : Nat, D < 18446744073709551616 ∧ fixn Ieee.double D = otherW Ieee.single Ieee.double q ∧ (isN Ieee.double D ↔ isN Ieee.single q) → FM.truncI Ieee.double D 32 true = FM.truncI Ieee.double (otherW Ieee.single Ieee.double q) 32 true) := by
    rintro D ⟨h1, h2, h3⟩
    by_cases hn : isN Ieee.double D
    · rw [FM.trunc_nan _ _ _ _ hn, FM.other_nan _ _ q (h3.1 hn), FM.trunc_nan _ _ _ _ (FM.qn_nan _ (by decide))]
    · rw [← h2, fixn_num _ D hn]
  generalize FM.truncI Ieee.double (otherW Ieee.single Ieee.double q) 32 true = P at *
  go_enter Try.func9, Try.ntmps9
  go_wp2_with fail
  refine (wide_any a q hq hl _).mono ?_
  rintro e w' ⟨D, rfl, ⟨bs, n, rfl⟩, hD⟩
  have hc := cutSigned32_any D hD.out.1
  rw [hT.out D hD.out] at hc
  have hc : Hid _ := hc
  go_wp2_with (go_at_call 15; refine (hc.out _).mono ?_; rintro e w' ⟨rfl, rfl⟩)
  go_ret2
  exact ⟨rfl, (by repeat (first | exact Later.refl _ | refine Later.alloc ?_ | refine Later.far ?_ | refine Later.drewN ?_ | refine Later.drew ?_))⟩
theorem of169 (a : Int) (q : Nat) (hq : Hid (a % 4294967296 = (q : Int))) (hl : Hid (q < 4294967296)) (w : World) :
    Calls Try.prog 9 #[.int .i64 169, .int .i64 a] w fun e w' => e = .returned (.tuple #[.int .i64 (FM.truncI Ieee.single q 32 false).1, .int .i64 (FM.truncI Ieee.single q 32 false).2]) ∧ Later w w' := by
  rw [FM.trunc_wide q 32 false hl.out]
  have hT : Hid (∀ D : Nat, D < 18446744073709551616 ∧ fixn Ieee.double D = otherW Ieee.single Ieee.double q ∧ (isN Ieee.double D ↔ isN Ieee.single q) → FM.truncI Ieee.double D 32 false = FM.truncI Ieee.double (otherW Ieee.single Ieee.double q) 32 false) := by
    rintro D ⟨h1, h2, h3⟩
    by_cases hn : isN Ieee.double D
    · rw [FM.trunc_nan _ _ _ _ hn, FM.other_nan _ _ q (h3.1 hn), FM.trunc_nan _ _ _ _ (FM.qn_nan _ (by decide))]
    · rw [← h2, fixn_num _ D hn]
  generalize FM.truncI Ieee.double (otherW Ieee.single Ieee.double q) 32 false = P at *
  go_enter Try.func9, Try.ntmps9
  go_wp2_with fail
  refine (wide_any a q hq hl _).mono ?_
  rintro e w' ⟨D, rfl, ⟨bs, n, rfl⟩, hD⟩
  have hc := cutUnsigned32_any D hD.out.1
  rw [hT.out D hD.out] at hc
  have hc : Hid _ := hc
  go_wp2_with (go_at_call 17; refine (hc.out _).mono ?_; rintro e w' ⟨rfl, rfl⟩)
  go_ret2
  exact ⟨rfl, (by repeat (first | exact Later.refl _ | refine Later.alloc ?_ | refine Later.far ?_ | refine Later.drewN ?_ | refine Later.drew ?_))⟩
theorem of174 (a : Int) (q : Nat) (hq : Hid (a % 4294967296 = (q : Int))) (hl : Hid (q < 4294967296)) (w : World) :
    Calls Try.prog 9 #[.int .i64 174, .int .i64 a] w fun e w' => e = .returned (.tuple #[.int .i64 (FM.truncI Ieee.single q 64 true).1, .int .i64 (FM.truncI Ieee.single q 64 true).2]) ∧ Later w w' := by
  rw [FM.trunc_wide q 64 true hl.out]
  have hT : Hid (∀ D : Nat, D < 18446744073709551616 ∧ fixn Ieee.double D = otherW Ieee.single Ieee.double q ∧ (isN Ieee.double D ↔ isN Ieee.single q) → FM.truncI Ieee.double D 64 true = FM.truncI Ieee.double (otherW Ieee.single Ieee.double q) 64 true) := by
    rintro D ⟨h1, h2, h3⟩
    by_cases hn : isN Ieee.double D
    · rw [FM.trunc_nan _ _ _ _ hn, FM.other_nan _ _ q (h3.1 hn), FM.trunc_nan _ _ _ _ (FM.qn_nan _ (by decide))]
    · rw [← h2, fixn_num _ D hn]
  generalize FM.truncI Ieee.double (otherW Ieee.single Ieee.double q) 64 true = P at *
  go_enter Try.func9, Try.ntmps9
  go_wp2_with fail
  refine (wide_any a q hq hl _).mono ?_
  rintro e w' ⟨D, rfl, ⟨bs, n, rfl⟩, hD⟩
  have hc := cutSigned64_any D hD.out.1
  rw [hT.out D hD.out] at hc
  have hc : Hid _ := hc
  go_wp2_with (go_at_call 19; refine (hc.out _).mono ?_; rintro e w' ⟨rfl, rfl⟩)
  go_ret2
  exact ⟨rfl, (by repeat (first | exact Later.refl _ | refine Later.alloc ?_ | refine Later.far ?_ | refine Later.drewN ?_ | refine Later.drew ?_))⟩
theorem of175 (a : Int) (q : Nat) (hq : Hid (a % 4294967296 = (q : Int))) (hl : Hid (q < 4294967296)) (w : World) :
    Calls Try.prog 9 #[.int .i64 175, .int .i64 a] w fun e w' => e = .returned (.tuple #[.int .i64 (FM.truncI Ieee.single q 64 false).1, .int .i64 (FM.truncI Ieee.single q 64 false).2]) ∧ Later w w' := by
  rw [FM.trunc_wide q 64 false hl.out]
  have hT : Hid (∀ D : Nat, D < 18446744073709551616 ∧ fixn Ieee.double D = otherW Ieee.single Ieee.double q ∧ (isN Ieee.double D ↔ isN Ieee.single q) → FM.truncI Ieee.double D 64 false = FM.truncI Ieee.double (otherW Ieee.single Ieee.double q) 64 false) := by
    rintro D ⟨h1, h2, h3⟩
    by_cases hn : isN Ieee.double D
    · rw [FM.trunc_nan _ _ _ _ hn, FM.other_nan _ _ q (h3.1 hn), FM.trunc_nan _ _ _ _ (FM.qn_nan _ (by decide))]
    · rw [← h2, fixn_num _ D hn]
  generalize FM.truncI Ieee.double (otherW Ieee.single Ieee.double q) 64 false = P at *
  go_enter Try.func9, Try.ntmps9
  go_wp2_with fail
  refine (wide_any a q hq hl _).mono ?_
  rintro e w' ⟨D, rfl, ⟨bs, n, rfl⟩, hD⟩
  have hc := cutUnsigned64_any D hD.out.1
  rw [hT.out D hD.out] at hc
  have hc : Hid _ := hc
  go_wp2_with (go_at_call 20; refine (hc.out _).mono ?_; rintro e w' ⟨rfl, rfl⟩)
  go_ret2
  exact ⟨rfl, (by repeat (first | exact Later.refl _ | refine Later.alloc ?_ | refine Later.far ?_ | refine Later.drewN ?_ | refine Later.drew ?_))⟩
theorem of170 (a : Int) (x : Nat) (hx : Hid (a % 18446744073709551616 = (x : Int))) (hl : Hid (x < 18446744073709551616)) (w : World) :
    Calls Try.prog 9 #[.int .i64 170, .int .i64 a] w fun e w' => e = .returned (.tuple #[.int .i64 (FM.truncI Ieee.double x 32 true).1, .int .i64 (FM.truncI Ieee.double x 32 true).2]) ∧ Later w w' := by
  have hc : Hid _ := cutSigned32_any x hl
  generalize FM.truncI Ieee.double x 32 true = P at *
  go_enter Try.func9, Try.ntmps9
  go_wp2_with (first | (go_at_call 18; refine (float64Of_eq a x hx _).mono ?_; rintro e w' ⟨rfl, rfl⟩) | (go_at_call 15; refine (hc.out _).mono ?_; rintro e w' ⟨rfl, rfl⟩))
  go_ret2
  exact ⟨rfl, (by repeat (first | exact Later.refl _ | refine Later.alloc ?_ | refine Later.far ?_ | refine Later.drewN ?_ | refine Later.drew ?_))⟩
theorem of171 (a : Int) (x : Nat) (hx : Hid (a % 18446744073709551616 = (x : Int))) (hl : Hid (x < 18446744073709551616)) (w : World) :
    Calls Try.prog 9 #[.int .i64 171, .int .i64 a] w fun e w' => e = .returned (.tuple #[.int .i64 (FM.truncI Ieee.double x 32 false).1, .int .i64 (FM.truncI Ieee.double x 32 false).2]) ∧ Later w w' := by
  have hc : Hid _ := cutUnsigned32_any x hl
  generalize FM.truncI Ieee.double x 32 false = P at *
  go_enter Try.func9, Try.ntmps9
  go_wp2_with (first | (go_at_call 18; refine (float64Of_eq a x hx _).mono ?_; rintro e w' ⟨rfl, rfl⟩) | (go_at_call 17; refine (hc.out _).mono ?_; rintro e w' ⟨rfl, rfl⟩))
  go_ret2
  exact ⟨rfl, (by repeat (first | exact Later.refl _ | refine Later.alloc ?_ | refine Later.far ?_ | refine Later.drewN ?_ | refine Later.drew ?_))⟩
theorem of176 (a : Int) (x : Nat) (hx : Hid (a % 18446744073709551616 = (x : Int))) (hl : Hid (x < 18446744073709551616)) (w : World) :
    Calls Try.prog 9 #[.int .i64 176, .int .i64 a] w fun e w' => e = .returned (.tuple #[.int .i64 (FM.truncI Ieee.double x 64 true).1, .int .i64 (FM.truncI Ieee.double x 64 true).2]) ∧ Later w w' := by
  have hc : Hid _ := cutSigned64_any x hl
  generalize FM.truncI Ieee.double x 64 true = P at *
  go_enter Try.func9, Try.ntmps9
  go_wp2_with (first | (go_at_call 18; refine (float64Of_eq a x hx _).mono ?_; rintro e w' ⟨rfl, rfl⟩) | (go_at_call 19; refine (hc.out _).mono ?_; rintro e w' ⟨rfl, rfl⟩))
  go_ret2
  exact ⟨rfl, (by repeat (first | exact Later.refl _ | refine Later.alloc ?_ | refine Later.far ?_ | refine Later.drewN ?_ | refine Later.drew ?_))⟩
theorem of177 (a : Int) (x : Nat) (hx : Hid (a % 18446744073709551616 = (x : Int))) (hl : Hid (x < 18446744073709551616)) (w : World) :
    Calls Try.prog 9 #[.int .i64 177, .int .i64 a] w fun e w' => e = .returned (.tuple #[.int .i64 (FM.truncI Ieee.double x 64 false).1, .int .i64 (FM.truncI Ieee.double x 64 false).2]) ∧ Later w w' := by
  have hc : Hid _ := cutUnsigned64_any x hl
  generalize FM.truncI Ieee.double x 64 false = P at *
  go_enter Try.func9, Try.ntmps9
  go_wp2_with (first | (go_at_call 18; refine (float64Of_eq a x hx _).mono ?_; rintro e w' ⟨rfl, rfl⟩) | (go_at_call 20; refine (hc.out _).mono ?_; rintro e w' ⟨rfl, rfl⟩))
  go_ret2
  exact ⟨rfl, (by repeat (first | exact Later.refl _ | refine Later.alloc ?_ | refine Later.far ?_ | refine Later.drewN ?_ | refine Later.drew ?_))⟩
theorem of178 (a : Int) (w : World) :
    Calls Try.prog 9 #[.int .i64 178, .int .i64 a] w fun e w' => e = .returned (.tuple #[.int .i64 ((fromW Ieee.single (FM.s32 a) : Nat) : Int), .int .i64 0]) ∧ Later w w' := by
  have hn := near32 (FM.s32 a)
  have hf : Hid (fixn Ieee.single (fromW Ieee.single (FM.s32 a)) = fromW Ieee.single (FM.s32 a)) := fix_from _ _
  have hb : Hid (fromW Ieee.single (FM.s32 a) < 4294967296) := FM.from_lt32 _
  generalize fromW Ieee.single (FM.s32 a) = y at *
  go_enter Try.func9, Try.ntmps9
  go_wp2_with (first | (go_at_call 14; refine (sign_any _ _).mono ?_; rintro e w' ⟨rfl, rfl⟩) | (go_at_call 21; refine (bits32_any _ hb _).mono ?_; rintro e w' ⟨rfl, rfl⟩; rw [hf.out]))
  go_ret2
  exact ⟨rfl, (by repeat (first | exact Later.refl _ | refine Later.alloc ?_ | refine Later.far ?_ | refine Later.drewN ?_ | refine Later.drew ?_))⟩
theorem of179 (a : Int) (w : World) :
    Calls Try.prog 9 #[.int .i64 179, .int .i64 a] w fun e w' => e = .returned (.tuple #[.int .i64 ((fromW Ieee.single (a % 4294967296) : Nat) : Int), .int .i64 0]) ∧ Later w w' := by
  have hn := near32 (a % 4294967296)
  have hf : Hid (fixn Ieee.single (fromW Ieee.single (a % 4294967296)) = fromW Ieee.single (a % 4294967296)) := fix_from _ _
  have hb : Hid (fromW Ieee.single (a % 4294967296) < 4294967296) := FM.from_lt32 _
  generalize fromW Ieee.single (a % 4294967296) = y at *
  go_enter Try.func9, Try.ntmps9
  go_wp2_with (first | (go_at_call 13; refine (low_any _ _).mono ?_; rintro e w' ⟨rfl, rfl⟩) | (go_at_call 21; refine (bits32_any _ hb _).mono ?_; rintro e w' ⟨rfl, rfl⟩; rw [hf.out]))
  go_ret2
  exact ⟨rfl, (by repeat (first | exact Later.refl _ | refine Later.alloc ?_ | refine Later.far ?_ | refine Later.drewN ?_ | refine Later.drew ?_))⟩
theorem of180 (a : Int) (w : World) :
    Calls Try.prog 9 #[.int .i64 180, .int .i64 a] w fun e w' => e = .returned (.tuple #[.int .i64 ((fromW Ieee.single a : Nat) : Int), .int .i64 0]) ∧ Later w w' := by
  have hn := near32 a
  have hf : Hid (fixn Ieee.single (fromW Ieee.single a) = fromW Ieee.single a) := fix_from _ _
  have hb : Hid (fromW Ieee.single a < 4294967296) := FM.from_lt32 _
  generalize fromW Ieee.single a = y at *
  go_enter Try.func9, Try.ntmps9
  go_wp2_with ((go_at_call 21; refine (bits32_any _ hb _).mono ?_; rintro e w' ⟨rfl, rfl⟩; rw [hf.out]))
  go_ret2
  exact ⟨rfl, (by repeat (first | exact Later.refl _ | refine Later.alloc ?_ | refine Later.far ?_ | refine Later.drewN ?_ | refine Later.drew ?_))⟩
theorem of183 (a : Int) (w : World) :
    Calls Try.prog 9 #[.int .i64 183, .int .i64 a] w fun e w' => e = .returned (.tuple #[.int .i64 (sw (fromW Ieee.double (FM.s32 a))), .int .i64 0]) ∧ Later w w' := by
  have hn := near64 (FM.s32 a)
  have hf : Hid (fixn Ieee.double (fromW Ieee.double (FM.s32 a)) = fromW Ieee.double (FM.s32 a)) := fix_from _ _
  generalize fromW Ieee.double (FM.s32 a) = y at *
  go_enter Try.func9, Try.ntmps9
  go_wp2_with (first | (go_at_call 14; refine (sign_any _ _).mono ?_; rintro e w' ⟨rfl, rfl⟩) | (go_at_call 23; refine (bits64_any _ _).mono ?_; rintro e w' ⟨rfl, rfl⟩; rw [hf.out]))
  go_ret2
  exact ⟨rfl, (by repeat (first | exact Later.refl _ | refine Later.alloc ?_ | refine Later.far ?_ | refine Later.drewN ?_ | refine Later.drew ?_))⟩
theorem of184 (a : Int) (w : World) :
    Calls Try.prog 9 #[.int .i64 184, .int .i64 a] w fun e w' => e = .returned (.tuple #[.int .i64 (sw (fromW Ieee.double (a % 4294967296))), .int .i64 0]) ∧ Later w w' := by
  have hn := near64 (a % 4294967296)
  have hf : Hid (fixn Ieee.double (fromW Ieee.double (a % 4294967296)) = fromW Ieee.double (a % 4294967296)) := fix_from _ _
  generalize fromW Ieee.double (a % 4294967296) = y at *
  go_enter Try.func9, Try.ntmps9
  go_wp2_with (first | (go_at_call 13; refine (low_any _ _).mono ?_; rintro e w' ⟨rfl, rfl⟩) | (go_at_call 23; refine (bits64_any _ _).mono ?_; rintro e w' ⟨rfl, rfl⟩; rw [hf.out]))
  go_ret2
  exact ⟨rfl, (by repeat (first | exact Later.refl _ | refine Later.alloc ?_ | refine Later.far ?_ | refine Later.drewN ?_ | refine Later.drew ?_))⟩
theorem of185 (a : Int) (w : World) :
    Calls Try.prog 9 #[.int .i64 185, .int .i64 a] w fun e w' => e = .returned (.tuple #[.int .i64 (sw (fromW Ieee.double a)), .int .i64 0]) ∧ Later w w' := by
  have hn := near64 a
  have hf : Hid (fixn Ieee.double (fromW Ieee.double a) = fromW Ieee.double a) := fix_from _ _
  generalize fromW Ieee.double a = y at *
  go_enter Try.func9, Try.ntmps9
  go_wp2_with ((go_at_call 23; refine (bits64_any _ _).mono ?_; rintro e w' ⟨rfl, rfl⟩; rw [hf.out]))
  go_ret2
  exact ⟨rfl, (by repeat (first | exact Later.refl _ | refine Later.alloc ?_ | refine Later.far ?_ | refine Later.drewN ?_ | refine Later.drew ?_))⟩
theorem of181 (a : Int) (x : Nat) (hx : Hid (a % 18446744073709551616 = (x : Int))) (hl : Hid (x < 18446744073709551616)) (w : World) :
    Calls Try.prog 9 #[.int .i64 181, .int .i64 a] w fun e w' => e = .returned (.tuple #[.int .i64 ((fromW Ieee.single (x : Int) : Nat) : Int), .int .i64 0]) ∧ Later w w' := by
  have hn := near32 (x : Int)
  have hf : Hid (fixn Ieee.single (fromW Ieee.single (x : Int)) = fromW Ieee.single (x : Int)) := fix_from _ _
  have hu : IntKind.u64.wrap a = (x : Int) := by rw [IntKind.wrap_u64]; exact hx.out
  have hb : Hid (fromW Ieee.single (x : Int) < 4294967296) := FM.from_lt32 _
  generalize fromW Ieee.single (x : Int) = y at *
  go_enter Try.func9, Try.ntmps9
  go_wp2_with ((go_at_call 21; refine (bits32_any _ hb _).mono ?_; rintro e w' ⟨rfl, rfl⟩; rw [hf.out]))
  go_ret2
  exact ⟨rfl, (by repeat (first | exact Later.refl _ | refine Later.alloc ?_ | refine Later.far ?_ | refine Later.drewN ?_ | refine Later.drew ?_))⟩
theorem of186 (a : Int) (x : Nat) (hx : Hid (a % 18446744073709551616 = (x : Int))) (hl : Hid (x < 18446744073709551616)) (w : World) :
    Calls Try.prog 9 #[.int .i64 186, .int .i64 a] w fun e w' => e = .returned (.tuple #[.int .i64 (sw (fromW Ieee.double (x : Int))), .int .i64 0]) ∧ Later w w' := by
  have hn := near64 (x : Int)
  have hf : Hid (fixn Ieee.double (fromW Ieee.double (x : Int)) = fromW Ieee.double (x : Int)) := fix_from _ _
  have hu : IntKind.u64.wrap a = (x : Int) := by rw [IntKind.wrap_u64]; exact hx.out
  generalize fromW Ieee.double (x : Int) = y at *
  go_enter Try.func9, Try.ntmps9
  go_wp2_with ((go_at_call 23; refine (bits64_any _ _).mono ?_; rintro e w' ⟨rfl, rfl⟩; rw [hf.out]))
  go_ret2
  exact ⟨rfl, (by repeat (first | exact Later.refl _ | refine Later.alloc ?_ | refine Later.far ?_ | refine Later.drewN ?_ | refine Later.drew ?_))⟩
theorem of187 (a : Int) (q : Nat) (hq : Hid (a % 4294967296 = (q : Int))) (hl : Hid (q < 4294967296)) (w : World) :
    Calls Try.prog 9 #[.int .i64 187, .int .i64 a] w fun e w' => e = .returned (.tuple #[.int .i64 (sw (otherW Ieee.single Ieee.double q)), .int .i64 0]) ∧ Later w w' := by
  go_enter Try.func9, Try.ntmps9
  go_wp2_with fail
  refine (wide_any a q hq hl _).mono ?_
  rintro e w' ⟨D, rfl, ⟨bs, n, rfl⟩, hD⟩
  have hf : Hid (fixn Ieee.double D = otherW Ieee.single Ieee.double q) := hD.out.2.1
  go_wp2_with (go_at_call 23; refine (bits64_any _ _).mono ?_; rintro e w' ⟨rfl, rfl⟩; rw [hf.out])
  go_ret2
  exact ⟨rfl, (by repeat (first | exact Later.refl _ | refine Later.alloc ?_ | refine Later.far ?_ | refine Later.drewN ?_ | refine Later.drew ?_))⟩
theorem qn32 : qn Ieee.single = 2143289344 := by decide +kernel
theorem demote_nan (x : Nat) (hn : isN Ieee.double x) (w : World) :
    Calls Try.prog 22 #[.float .f64 x] w fun e w' => e = .returned (.int .i64 ((otherW Ieee.double Ieee.single x : Nat) : Int)) ∧ Later w w' := by
  rw [FM.other_nan _ _ x hn, qn32]
  have h1 := neq_nan64 x hn
  clear hn
  go_enter Try.func22, Try.ntmps22
  go_wp2
  go_ret
  exact ⟨rfl, Later.refl _⟩
theorem demote_high (x : Nat) (o : Ordering) (hn : ¬ isN Ieee.double x) (h1 : FloatKind.f64.format.order x 5183643170835005440 = some o) (ho : o = .gt ∨ o = .eq) (w : World) :
    Calls Try.prog 22 #[.float .f64 x] w fun e w' => e = .returned (.int .i64 2139095040) ∧ Later w w' := by
  have h3 := neq_num64 x hn
  clear hn
  rcases ho with rfl | rfl
  all_goals
    go_enter Try.func22, Try.ntmps22
    go_wp2
    go_ret
    exact ⟨rfl, Later.refl _⟩
theorem demote_low (x : Nat) (o : Ordering) (hn : ¬ isN Ieee.double x) (h1 : FloatKind.f64.format.order x 5183643170835005440 = some .lt) (h2 : FloatKind.f64.format.order x 14407015207689781248 = some o) (ho : o = .lt ∨ o = .eq) (w : World) :
    Calls Try.prog 22 #[.float .f64 x] w fun e w' => e = .returned (.int .i64 4286578688) ∧ Later w w' := by
  have h3 := neq_num64 x hn
  clear hn
  rcases ho with rfl | rfl
  all_goals
    go_enter Try.func22, Try.ntmps22
    go_wp2
    go_ret
    exact ⟨rfl, Later.refl _⟩
theorem demote_in (x : Nat) (hn : ¬ isN Ieee.double x) (h1 : FloatKind.f64.format.order x 5183643170835005440 = some .lt) (h2 : FloatKind.f64.format.order x 14407015207689781248 = some .gt) (hs : small x) (w : World) :
    Calls Try.prog 22 #[.float .f64 x] w fun e w' => e = .returned (.int .i64 ((otherW Ieee.double Ieee.single x : Nat) : Int)) ∧ Later w w' := by
  have h3 := neq_num64 x hn
  have h5 := run_narrow x _ (narrow_ok x hn hs)
  have h4 := other_num x hn
  have hb : Hid (otherW Ieee.double Ieee.single x < 4294967296) := h4.2
  have hf : Hid (fixn Ieee.single (otherW Ieee.double Ieee.single x) = otherW Ieee.double Ieee.single x) := fixn_num _ _ h4.1
  clear h4 hs hn
  generalize otherW Ieee.double Ieee.single x = y at *
  go_enter Try.func22, Try.ntmps22
  go_wp2_with (go_at_call 21; refine (bits32_any _ hb _).mono ?_; rintro e w' ⟨rfl, rfl⟩; rw [hf.out])
  go_ret
  exact ⟨rfl, (by repeat (first | exact Later.refl _ | refine Later.alloc ?_ | refine Later.far ?_ | refine Later.drewN ?_ | refine Later.drew ?_))⟩
theorem demote_any (x : Nat) (hx : Hid (x < 18446744073709551616)) (w : World) :
    Calls Try.prog 22 #[.float .f64 x] w fun e w' => e = .returned (.int .i64 ((otherW Ieee.double Ieee.single x : Nat) : Int)) ∧ Later w w' := by
  by_cases hn : isN Ieee.double x
  · exact demote_nan x hn w
  · rcases FM.dem_ways x hx.out hn with ⟨o, ho, h1, h2⟩ | ⟨h1, o, ho, h2, h3⟩ | ⟨h1, h2, h3⟩
    · rw [h2]; exact demote_high x o hn h1 ho w
    · rw [h3]; exact demote_low x o hn h1 h2 ho w
    · exact demote_in x hn h1 h2 h3 w
theorem of182 (a : Int) (x : Nat) (hx : Hid (a % 18446744073709551616 = (x : Int))) (hl : Hid (x < 18446744073709551616)) (w : World) :
    Calls Try.prog 9 #[.int .i64 182, .int .i64 a] w fun e w' => e = .returned (.tuple #[.int .i64 ((otherW Ieee.double Ieee.single x : Nat) : Int), .int .i64 0]) ∧ Later w w' := by
  have hc : Hid _ := demote_any x hl
  generalize otherW Ieee.double Ieee.single x = y at *
  go_enter Try.func9, Try.ntmps9
  go_wp2_with (go_at_call 18; refine (float64Of_eq a x hx _).mono ?_; rintro e w' ⟨rfl, rfl⟩)
  refine (hc.out _).mono ?_
  rintro e w' ⟨rfl, ⟨bs, n, rfl⟩⟩
  go_wp2
  go_ret2
  exact ⟨rfl, (by repeat (first | exact Later.refl _ | refine Later.alloc ?_ | refine Later.far ?_ | refine Later.drewN ?_ | refine Later.drew ?_))⟩
theorem of_bad (op a : Int) (h : op < 167 ∨ 191 < op) (w : World) :
    Calls Try.prog 9 #[.int .i64 op, .int .i64 a] w fun e w' => e = .returned (.tuple #[.int .i64 0, .int .i64 600]) ∧ Later w w' := by
  have h167 : ¬ op = 167 := by omega
  have h168 : ¬ op = 168 := by omega
  have h169 : ¬ op = 169 := by omega
  have h170 : ¬ op = 170 := by omega
  have h171 : ¬ op = 171 := by omega
  have h172 : ¬ op = 172 := by omega
  have h173 : ¬ op = 173 := by omega
  have h174 : ¬ op = 174 := by omega
  have h175 : ¬ op = 175 := by omega
  have h176 : ¬ op = 176 := by omega
  have h177 : ¬ op = 177 := by omega
  have h178 : ¬ op = 178 := by omega
  have h179 : ¬ op = 179 := by omega
  have h180 : ¬ op = 180 := by omega
  have h181 : ¬ op = 181 := by omega
  have h182 : ¬ op = 182 := by omega
  have h183 : ¬ op = 183 := by omega
  have h184 : ¬ op = 184 := by omega
  have h185 : ¬ op = 185 := by omega
  have h186 : ¬ op = 186 := by omega
  have h187 : ¬ op = 187 := by omega
  have h188 : ¬ op = 188 := by omega
  have h189 : ¬ op = 189 := by omega
  have h190 : ¬ op = 190 := by omega
  have h191 : ¬ op = 191 := by omega
  clear h
  go_enter Try.func9, Try.ntmps9
  go_wp2
  go_ret2
  exact ⟨rfl, (by repeat (first | exact Later.refl _ | refine Later.alloc ?_ | refine Later.far ?_ | refine Later.drewN ?_ | refine Later.drew ?_))⟩
/-- what Of makes of every number  -/
theorem of_any (op a : Int) (w : World) :
    Calls Try.prog 9 #[.int .i64 op, .int .i64 a] w fun e w' => e = .returned (.tuple #[.int .i64 (ofI op a).1, .int .i64 (ofI op a).2]) ∧ Later w w' := by
  by_cases hb : op < 167 ∨ 191 < op
  · rw [FM.of_bad op a hb]; exact of_bad op a hb w
  obtain ⟨q, q1, q2, q3⟩ := low32 a
  obtain ⟨x, x1, x2, x3⟩ := low64 a
  have hc : op = 167 ∨ op = 168 ∨ op = 169 ∨ op = 170 ∨ op = 171 ∨ op = 172 ∨ op = 173 ∨ op = 174 ∨ op = 175 ∨ op = 176 ∨ op = 177 ∨ op = 178 ∨ op = 179 ∨ op = 180 ∨ op = 181 ∨ op = 182 ∨ op = 183 ∨ op = 184 ∨ op = 185 ∨ op = 186 ∨ op = 187 ∨ op = 188 ∨ op = 189 ∨ op = 190 ∨ op = 191 := by omega
  clear hb
  rcases hc with rfl | rfl | rfl | rfl | rfl | rfl | rfl | rfl | rfl | rfl | rfl | rfl | rfl | rfl | rfl | rfl | rfl | rfl | rfl | rfl | rfl | rfl | rfl | rfl | rfl
  · rw [FM.of_167]; exact of167 a w
  · rw [FM.of_168, q3]; exact of168 a q q1 q2 w
  · rw [FM.of_169, q3]; exact of169 a q q1 q2 w
  · rw [FM.of_170, x3]; exact of170 a x x1 x2 w
  · rw [FM.of_171, x3]; exact of171 a x x1 x2 w
  · rw [FM.of_172]; exact of172 a w
  · rw [FM.of_173]; exact of173 a w
  · rw [FM.of_174, q3]; exact of174 a q q1 q2 w
  · rw [FM.of_175, q3]; exact of175 a q q1 q2 w
  · rw [FM.of_176, x3]; exact of176 a x x1 x2 w
  · rw [FM.of_177, x3]; exact of177 a x x1 x2 w
  · rw [FM.of_178]; exact of178 a w
  · rw [FM.of_179]; exact of179 a w
  · rw [FM.of_180]; exact of180 a w
  · rw [FM.of_181, x1]; exact of181 a x x1 x2 w
  · rw [FM.of_182, x3]; exact of182 a x x1 x2 w
  · rw [FM.of_183]; exact of183 a w
  · rw [FM.of_184]; exact of184 a w
  · rw [FM.of_185]; exact of185 a w
  · rw [FM.of_186, x1]; exact of186 a x x1 x2 w
  · rw [FM.of_187, q3]; exact of187 a q q1 q2 w
  · rw [FM.of_188]; exact of188 a w
  · rw [FM.of_189]; exact of189 a w
  · rw [FM.of_190]; exact of190 a w
  · rw [FM.of_191]; exact of191 a w
theorem of_eq {op a p E : Int} (hs : op ≠ 182 ∨ small (a % 18446744073709551616).toNat) (h : Hid (ofI op a = (p, E))) (w : World) :
    Calls Try.prog 9 #[.int .i64 op, .int .i64 a] w fun e w' => e = .returned (.tuple #[.int .i64 p, .int .i64 E]) ∧ Later w w' := by
  have := of_any op a w
  rw [h.out] at this
  exact this
theorem of_all {op a p E : Int} (h : Hid (ofI op a = (p, E))) (w : World) :
    Calls Try.prog 9 #[.int .i64 op, .int .i64 a] w fun e w' => e = .returned (.tuple #[.int .i64 p, .int .i64 E]) ∧ Later w w' := by
  have := of_any op a w
  rw [h.out] at this
  exact this
end Go.Proofs.Ytibfjlibkaejnaa
