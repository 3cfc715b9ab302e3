/- Contracts of package f32n over this seat's translation: whole numbers and roots. -/
import Derived.Test.YtobhihggdoccoaaP32D
namespace Go.Proofs.Ytobhihggdoccoaa
open Go.RowKit
open Go.FM (isN fixn qn)
set_option linter.unusedVariables false

/-- no number, wider and narrower: what is drawn -/
def wcut (w : World) (x : Nat) : Nat := (Question.nanConv .f64 x).cut (w.tape w.drawn (.nanConv .f64 x))
def ncut (w : World) (x : Nat) : Nat := (Question.nanConv .f32 x).cut (w.tape w.drawn (.nanConv .f32 x))
theorem wcut_nan (w : World) (x : Nat) : isN df (wcut w x) ∧ wcut w x < 18446744073709551616 := FM.conv_nan .f64 x _
theorem ncut_nan (w : World) (x : Nat) : isN sf (ncut w x) ∧ ncut w x < 4294967296 := FM.conv_nan .f32 x _
theorem run_wide_nan (x : Nat) (h : isN sf x) (w : World) : (convert 37 52 (.float .f32 x)).run Try.prog w = .ok (.float .f64 (wcut w x)) w.drew :=
  FM.run_conv_nan 37 52 .f32 .f64 x w (by kernel_rfl) (by kernel_rfl) (by decide) _ _ (FM.read_nan sf hsf x h)
theorem run_narrow_nan (x : Nat) (h : isN df x) (w : World) : (convert 52 37 (.float .f64 x)).run Try.prog w = .ok (.float .f32 (ncut w x)) w.drew :=
  FM.run_conv_nan 52 37 .f64 .f32 x w (by kernel_rfl) (by kernel_rfl) (by decide) _ _ (FM.read_nan df hdf x h)
theorem run_wide (x D : Nat) (h : floatToFloatBits .f32 x .f64 = some D) (w : World) : (convert 37 52 (.float .f32 x)).run Try.prog w = .ok (.float .f64 D) w :=
  run_convert_float_float w 37 52 .f32 .f64 x D (by kernel_rfl) (by kernel_rfl) h
theorem run_narrow (D z : Nat) (h : floatToFloatBits .f64 D .f32 = some z) (w : World) : (convert 52 37 (.float .f64 D)).run Try.prog w = .ok (.float .f32 z) w :=
  run_convert_float_float w 52 37 .f64 .f32 D z (by kernel_rfl) (by kernel_rfl) h
theorem wide_bits (x D m : Nat) (s : Bool) (p : Int) (h : sf.read x = .number s m p) (hD : df.write (.number s m p) = D) (hi : (df.read D).isInfinity = false) : floatToFloatBits .f32 x .f64 = some D := by
  unfold floatToFloatBits
  rw [if_neg (by decide), show FloatKind.f32.decode x = .number s m p from h]
  show (if (df.read (df.write (.number s m p))).isInfinity = true then none else some (df.write (.number s m p))) = some D
  rw [hD, hi]; rfl
theorem narrow_bits (D z m : Nat) (s : Bool) (p : Int) (h : df.read D = .number s m p) (hz : sf.write (.number s m p) = z) (hi : (sf.read z).isInfinity = false) : floatToFloatBits .f64 D .f32 = some z := by
  unfold floatToFloatBits
  rw [if_neg (by decide), show FloatKind.f64.decode D = .number s m p from h]
  show (if (sf.read (sf.write (.number s m p))).isInfinity = true then none else some (sf.write (.number s m p))) = some z
  rw [hz, hi]; rfl
theorem ceil_num (D E : Nat) (hn : (df.read D).isNaN = false) (hE : df.write ((df.read D).integral .up) = E) (w : World) :
    Calls Try.prog 44 #[.float .f64 D] w fun e w' => e = .returned (.float .f64 E) ∧ w' = w := by
  have h := run_ceil D hn
  rw [hE] at h
  go_enter Try.func44, Try.ntmps44
  go_wp2
  go_ret
  exact ⟨rfl, rfl⟩
theorem ceil_nan (D : Nat) (hD : Hid (D < 18446744073709551616)) (hn : isN df D) (w : World) :
    Calls Try.prog 44 #[.float .f64 D] w fun e w' => ∃ E, e = .returned (.float .f64 E) ∧ Later w w' ∧ isN df E := by
  obtain ⟨E, n, h, h1, h2⟩ := run_ceil_nan D hD.out hn w
  go_enter Try.func44, Try.ntmps44
  go_wp2
  go_ret
  exact ⟨E, rfl, (Later.refl _).drewN, h1⟩
theorem floor_num (D E : Nat) (hn : (df.read D).isNaN = false) (hE : df.write ((df.read D).integral .down) = E) (w : World) :
    Calls Try.prog 45 #[.float .f64 D] w fun e w' => e = .returned (.float .f64 E) ∧ w' = w := by
  have h := run_floor D hn
  rw [hE] at h
  go_enter Try.func45, Try.ntmps45
  go_wp2
  go_ret
  exact ⟨rfl, rfl⟩
theorem floor_nan (D : Nat) (hD : Hid (D < 18446744073709551616)) (hn : isN df D) (w : World) :
    Calls Try.prog 45 #[.float .f64 D] w fun e w' => ∃ E, e = .returned (.float .f64 E) ∧ Later w w' ∧ isN df E := by
  obtain ⟨E, n, h, h1, h2⟩ := run_floor_nan D hD.out hn w
  go_enter Try.func45, Try.ntmps45
  go_wp2
  go_ret
  exact ⟨E, rfl, (Later.refl _).drewN, h1⟩
theorem trunc_num (D E : Nat) (hn : (df.read D).isNaN = false) (hE : df.write ((df.read D).integral .zero) = E) (w : World) :
    Calls Try.prog 46 #[.float .f64 D] w fun e w' => e = .returned (.float .f64 E) ∧ w' = w := by
  have h := run_trunc D hn
  rw [hE] at h
  go_enter Try.func46, Try.ntmps46
  go_wp2
  go_ret
  exact ⟨rfl, rfl⟩
theorem trunc_nan (D : Nat) (hD : Hid (D < 18446744073709551616)) (hn : isN df D) (w : World) :
    Calls Try.prog 46 #[.float .f64 D] w fun e w' => ∃ E, e = .returned (.float .f64 E) ∧ Later w w' ∧ isN df E := by
  obtain ⟨E, n, h, h1, h2⟩ := run_trunc_nan D hD.out hn w
  go_enter Try.func46, Try.ntmps46
  go_wp2
  go_ret
  exact ⟨E, rfl, (Later.refl _).drewN, h1⟩
theorem sqrt_num (D E : Nat) (h : df.sqrt D = some E) (w : World) :
    Calls Try.prog 48 #[.float .f64 D] w fun e w' => e = .returned (.float .f64 E) ∧ w' = w := by
  have h := run_sqrt D E h
  go_enter Try.func48, Try.ntmps48
  go_wp2
  go_ret
  exact ⟨rfl, rfl⟩
theorem sqrt_nan (D : Nat) (h : df.sqrt D = none) (w : World) :
    Calls Try.prog 48 #[.float .f64 D] w fun e w' => ∃ E, e = .returned (.float .f64 E) ∧ Later w w' ∧ isN df E := by
  obtain ⟨E, h, h1, h2⟩ := run_sqrt_nan D h w
  go_enter Try.func48, Try.ntmps48
  go_wp2
  go_ret
  exact ⟨E, rfl, (Later.refl _).drew, h1⟩
theorem reshape_ceil (x D E z : Nat) (h1 : floatToFloatBits .f32 x .f64 = some D) (hn : (df.read D).isNaN = false) (hE : df.write ((df.read D).integral .up) = E) (h2 : floatToFloatBits .f64 E .f32 = some z) (w : World) :
    Calls Try.prog 22 #[.int .i64 141, .float .f32 x] w fun e w' => e = .returned (.float .f32 z) ∧ w' = w := by
  have c1 := run_wide x D h1
  have c2 := run_narrow E z h2
  have c3 : Hid (∀ w, Calls Try.prog 44 #[.float .f64 D] w fun e w' => e = .returned (.float .f64 E) ∧ w' = w) := ceil_num D E hn hE
  clear hn hE h1 h2
  go_enter Try.func22, Try.ntmps22
  go_wp2_with (go_at_call 44; refine (c3.out _).mono ?_; rintro e w' ⟨rfl, rfl⟩)
  go_ret
  exact ⟨rfl, rfl⟩
theorem reshape_ceil_nan (x : Nat) (h : isN sf x) (w : World) :
    Calls Try.prog 22 #[.int .i64 141, .float .f32 x] w fun e w' => ∃ z, e = .returned (.float .f32 z) ∧ Later w w' ∧ isN sf z ∧ z < 4294967296 := by
  have c1 := run_wide_nan x h w
  obtain ⟨d1, d2⟩ := wcut_nan w x
  have c2 := run_narrow_nan
  have c3 : Hid (∀ w', Calls Try.prog 44 #[.float .f64 (wcut w x)] w' fun e w2 => ∃ E, e = .returned (.float .f64 E) ∧ Later w' w2 ∧ isN df E) := ceil_nan (wcut w x) d2 d1
  clear d2
  go_enter Try.func22, Try.ntmps22
  go_wp2_with (go_at_call 44; refine (c3.out _).mono ?_; rintro e w' ⟨E, rfl, ⟨bs, n, rfl⟩, hE⟩)
  go_ret
  exact ⟨_, rfl, (by repeat (first | exact Later.refl _ | refine Later.alloc ?_ | refine Later.far ?_ | refine Later.drewN ?_ | refine Later.drew ?_)), (ncut_nan _ _).1, (ncut_nan _ _).2⟩
theorem reshape_floor (x D E z : Nat) (h1 : floatToFloatBits .f32 x .f64 = some D) (hn : (df.read D).isNaN = false) (hE : df.write ((df.read D).integral .down) = E) (h2 : floatToFloatBits .f64 E .f32 = some z) (w : World) :
    Calls Try.prog 22 #[.int .i64 142, .float .f32 x] w fun e w' => e = .returned (.float .f32 z) ∧ w' = w := by
  have c1 := run_wide x D h1
  have c2 := run_narrow E z h2
  have c3 : Hid (∀ w, Calls Try.prog 45 #[.float .f64 D] w fun e w' => e = .returned (.float .f64 E) ∧ w' = w) := floor_num D E hn hE
  clear hn hE h1 h2
  go_enter Try.func22, Try.ntmps22
  go_wp2_with (go_at_call 45; refine (c3.out _).mono ?_; rintro e w' ⟨rfl, rfl⟩)
  go_ret
  exact ⟨rfl, rfl⟩
theorem reshape_floor_nan (x : Nat) (h : isN sf x) (w : World) :
    Calls Try.prog 22 #[.int .i64 142, .float .f32 x] w fun e w' => ∃ z, e = .returned (.float .f32 z) ∧ Later w w' ∧ isN sf z ∧ z < 4294967296 := by
  have c1 := run_wide_nan x h w
  obtain ⟨d1, d2⟩ := wcut_nan w x
  have c2 := run_narrow_nan
  have c3 : Hid (∀ w', Calls Try.prog 45 #[.float .f64 (wcut w x)] w' fun e w2 => ∃ E, e = .returned (.float .f64 E) ∧ Later w' w2 ∧ isN df E) := floor_nan (wcut w x) d2 d1
  clear d2
  go_enter Try.func22, Try.ntmps22
  go_wp2_with (go_at_call 45; refine (c3.out _).mono ?_; rintro e w' ⟨E, rfl, ⟨bs, n, rfl⟩, hE⟩)
  go_ret
  exact ⟨_, rfl, (by repeat (first | exact Later.refl _ | refine Later.alloc ?_ | refine Later.far ?_ | refine Later.drewN ?_ | refine Later.drew ?_)), (ncut_nan _ _).1, (ncut_nan _ _).2⟩
theorem reshape_trunc (x D E z : Nat) (h1 : floatToFloatBits .f32 x .f64 = some D) (hn : (df.read D).isNaN = false) (hE : df.write ((df.read D).integral .zero) = E) (h2 : floatToFloatBits .f64 E .f32 = some z) (w : World) :
    Calls Try.prog 22 #[.int .i64 143, .float .f32 x] w fun e w' => e = .returned (.float .f32 z) ∧ w' = w := by
  have c1 := run_wide x D h1
  have c2 := run_narrow E z h2
  have c3 : Hid (∀ w, Calls Try.prog 46 #[.float .f64 D] w fun e w' => e = .returned (.float .f64 E) ∧ w' = w) := trunc_num D E hn hE
  clear hn hE h1 h2
  go_enter Try.func22, Try.ntmps22
  go_wp2_with (go_at_call 46; refine (c3.out _).mono ?_; rintro e w' ⟨rfl, rfl⟩)
  go_ret
  exact ⟨rfl, rfl⟩
theorem reshape_trunc_nan (x : Nat) (h : isN sf x) (w : World) :
    Calls Try.prog 22 #[.int .i64 143, .float .f32 x] w fun e w' => ∃ z, e = .returned (.float .f32 z) ∧ Later w w' ∧ isN sf z ∧ z < 4294967296 := by
  have c1 := run_wide_nan x h w
  obtain ⟨d1, d2⟩ := wcut_nan w x
  have c2 := run_narrow_nan
  have c3 : Hid (∀ w', Calls Try.prog 46 #[.float .f64 (wcut w x)] w' fun e w2 => ∃ E, e = .returned (.float .f64 E) ∧ Later w' w2 ∧ isN df E) := trunc_nan (wcut w x) d2 d1
  clear d2
  go_enter Try.func22, Try.ntmps22
  go_wp2_with (go_at_call 46; refine (c3.out _).mono ?_; rintro e w' ⟨E, rfl, ⟨bs, n, rfl⟩, hE⟩)
  go_ret
  exact ⟨_, rfl, (by repeat (first | exact Later.refl _ | refine Later.alloc ?_ | refine Later.far ?_ | refine Later.drewN ?_ | refine Later.drew ?_)), (ncut_nan _ _).1, (ncut_nan _ _).2⟩
theorem reshape_sqrt (x D E z : Nat) (h1 : floatToFloatBits .f32 x .f64 = some D) (hq : df.sqrt D = some E) (h2 : floatToFloatBits .f64 E .f32 = some z) (w : World) :
    Calls Try.prog 22 #[.int .i64 145, .float .f32 x] w fun e w' => e = .returned (.float .f32 z) ∧ w' = w := by
  have c1 := run_wide x D h1
  have c2 := run_narrow E z h2
  have c3 : Hid (∀ w, Calls Try.prog 48 #[.float .f64 D] w fun e w' => e = .returned (.float .f64 E) ∧ w' = w) := sqrt_num D E hq
  clear hq h1 h2
  go_enter Try.func22, Try.ntmps22
  go_wp2_with (go_at_call 48; refine (c3.out _).mono ?_; rintro e w' ⟨rfl, rfl⟩)
  go_ret
  exact ⟨rfl, rfl⟩
theorem reshape_sqrt_nan (x : Nat) (h : isN sf x) (w : World) :
    Calls Try.prog 22 #[.int .i64 145, .float .f32 x] w fun e w' => ∃ z, e = .returned (.float .f32 z) ∧ Later w w' ∧ isN sf z ∧ z < 4294967296 := by
  have c1 := run_wide_nan x h w
  obtain ⟨d1, d2⟩ := wcut_nan w x
  have d3 : df.sqrt (wcut w x) = none := by
    unfold Ieee.Format.sqrt; rw [FM.read_nan df hdf _ d1]; rfl
  have c2 := run_narrow_nan
  have c3 : Hid (∀ w', Calls Try.prog 48 #[.float .f64 (wcut w x)] w' fun e w2 => ∃ E, e = .returned (.float .f64 E) ∧ Later w' w2 ∧ isN df E) := sqrt_nan (wcut w x) d3
  clear d2 d1 d3
  go_enter Try.func22, Try.ntmps22
  go_wp2_with (go_at_call 48; refine (c3.out _).mono ?_; rintro e w' ⟨E, rfl, ⟨bs, n, rfl⟩, hE⟩)
  go_ret
  exact ⟨_, rfl, (by repeat (first | exact Later.refl _ | refine Later.alloc ?_ | refine Later.far ?_ | refine Later.drewN ?_ | refine Later.drew ?_)), (ncut_nan _ _).1, (ncut_nan _ _).2⟩
theorem reshape_sqrt_neg (x D : Nat) (h1 : floatToFloatBits .f32 x .f64 = some D) (hq : df.sqrt D = none) (w : World) :
    Calls Try.prog 22 #[.int .i64 145, .float .f32 x] w fun e w' => ∃ z, e = .returned (.float .f32 z) ∧ Later w w' ∧ isN sf z ∧ z < 4294967296 := by
  have c1 := run_wide x D h1
  have c2 := run_narrow_nan
  have c3 : Hid (∀ w', Calls Try.prog 48 #[.float .f64 D] w' fun e w2 => ∃ E, e = .returned (.float .f64 E) ∧ Later w' w2 ∧ isN df E) := sqrt_nan D hq
  clear h1 hq
  go_enter Try.func22, Try.ntmps22
  go_wp2_with (go_at_call 48; refine (c3.out _).mono ?_; rintro e w' ⟨E, rfl, ⟨bs, n, rfl⟩, hE⟩)
  go_ret
  exact ⟨_, rfl, (by repeat (first | exact Later.refl _ | refine Later.alloc ?_ | refine Later.far ?_ | refine Later.drewN ?_ | refine Later.drew ?_)), (ncut_nan _ _).1, (ncut_nan _ _).2⟩
theorem reshape_even (x D E z : Nat) (h1 : floatToFloatBits .f32 x .f64 = some D) (hn : (df.read D).isNaN = false) (hE : df.write ((df.read D).integral .even) = E) (h2 : floatToFloatBits .f64 E .f32 = some z) (w : World) :
    Calls Try.prog 22 #[.int .i64 144, .float .f32 x] w fun e w' => e = .returned (.float .f32 z) ∧ w' = w := by
  have c1 := run_wide x D h1
  have c2 := run_narrow E z h2
  have c3 := run_even D hn
  rw [hE] at c3
  clear hn hE h1 h2
  go_enter Try.func22, Try.ntmps22
  go_wp2
  go_ret
  exact ⟨rfl, rfl⟩
theorem reshape_even_nan (x : Nat) (h : isN sf x) (w : World) :
    Calls Try.prog 22 #[.int .i64 144, .float .f32 x] w fun e w' => ∃ z, e = .returned (.float .f32 z) ∧ Later w w' ∧ isN sf z ∧ z < 4294967296 := by
  have c1 := run_wide_nan x h w
  obtain ⟨d1, d2⟩ := wcut_nan w x
  have c2 := run_narrow_nan
  obtain ⟨E, n, c3, c4, c5⟩ := run_even_nan (wcut w x) d2 d1 w.drew
  clear d2 c5
  go_enter Try.func22, Try.ntmps22
  go_wp2
  go_ret
  exact ⟨_, rfl, (by repeat (first | exact Later.refl _ | refine Later.alloc ?_ | refine Later.far ?_ | refine Later.drewN ?_ | refine Later.drew ?_)), (ncut_nan _ _).1, (ncut_nan _ _).2⟩
end Go.Proofs.Ytobhihggdoccoaa
