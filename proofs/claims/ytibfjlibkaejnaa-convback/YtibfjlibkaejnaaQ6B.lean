/- Contracts of package convn over this seat's translation: truncations. -/
import Derived.Test.YtibfjlibkaejnaaQ6A
namespace Go.Proofs.Ytibfjlibkaejnaa
open Go.RowKit
open Go.FM (isN fixn qn sw otherW fromW cutI tval small Bnd wholeW)
set_option linter.unusedVariables false

theorem arm1 {α : Type} (x : Nat) (h1 : Nat → α) (h2 : Array Value → α) : Extern.MathFloor.toIntegral.match_2 (motive := fun _ => α) #[Value.float .f64 x] h1 h2 = h1 x := rfl
theorem run_trunc (D : Nat) (hn : (Ieee.double.read D).isNaN = false) (w : World) : (callFunc 49 #[.float .f64 D]).run Try.prog w = .ok (.value (.float .f64 (Ieee.double.write ((Ieee.double.read D).integral .zero)))) w := by
  rw [run_callFunc_extern (e := Extern.MathFloor.toIntegral "math.archTrunc" .zero) Try.func49 (by kernel_rfl) (by kernel_rfl) (by kernel_rfl) (by kernel_rfl)]
  have hd : FloatKind.f64.decode D = Ieee.double.read D := rfl
  cases h : Ieee.double.read D with
  | nan s t => rw [h] at hn; cases hn
  | number s m p => rw [h] at hd; rw [Extern.MathFloor.toIntegral.eq_1, arm1, hd]; rfl
  | infinity s => rw [h] at hd; rw [Extern.MathFloor.toIntegral.eq_1, arm1, hd]; rfl
theorem trunc_num (D E : Nat) (hn : ¬ isN Ieee.double D) (hE : wholeW Ieee.double .zero D = E) (w : World) :
    Calls Try.prog 42 #[.float .f64 D] w fun e w' => e = .returned (.float .f64 E) ∧ w' = w := by
  have hn2 : (Ieee.double.read D).isNaN = false := by
    unfold isN at hn
    rcases Nat.lt_or_ge (FM.rg Ieee.double D) Ieee.double.infRung with h1 | h1
    · rw [FM.read_num Ieee.double D h1]; rfl
    · rw [FM.read_inf Ieee.double hdf D (by omega)]; rfl
  have h := run_trunc D hn2
  rw [show Ieee.double.write ((Ieee.double.read D).integral .zero) = E from by rw [← hE]; unfold wholeW; rw [if_neg hn]] at h
  clear hE hn hn2
  go_enter Try.func42, Try.ntmps42
  go_wp2
  go_ret
  exact ⟨rfl, rfl⟩
theorem tval_zero : tval Ieee.double 0 = some 0 := by decide +kernel
theorem cut_nan (x L H : Nat) (h : isN Ieee.double x) (w : World) :
    Calls Try.prog 31 #[.float .f64 x, .float .f64 L, .float .f64 H] w fun r w' => r = .returned (.tuple #[.float .f64 0, .int .i64 600]) ∧ w' = w := by
  have h1 := neq_nan64 x h
  go_enter Try.func31, Try.ntmps31
  go_wp2
  go_ret2
  exact ⟨rfl, rfl⟩
theorem cut_below (x E L H : Nat) (h : ¬ isN Ieee.double x) (hE : wholeW Ieee.double .zero x = E) (h1 : FloatKind.f64.format.order E L = some .lt) (w : World) :
    Calls Try.prog 31 #[.float .f64 x, .float .f64 L, .float .f64 H] w fun r w' => r = .returned (.tuple #[.float .f64 0, .int .i64 601]) ∧ w' = w := by
  have h2 := neq_num64 x h
  have c : Hid (∀ w, Calls Try.prog 42 #[.float .f64 x] w fun e w' => e = .returned (.float .f64 E) ∧ w' = w) := trunc_num x E h hE
  clear hE h
  go_enter Try.func31, Try.ntmps31
  go_wp2_with (go_at_call 42; refine (c.out _).mono ?_; rintro e w' ⟨rfl, rfl⟩)
  go_ret2
  exact ⟨rfl, rfl⟩
theorem cut_above (x E L H : Nat) (o : Ordering) (h : ¬ isN Ieee.double x) (hE : wholeW Ieee.double .zero x = E) (h1 : FloatKind.f64.format.order E L = some o) (ho : o = .gt ∨ o = .eq) (u : Ordering) (h2 : FloatKind.f64.format.order E H = some u) (hu : u = .gt ∨ u = .eq) (w : World) :
    Calls Try.prog 31 #[.float .f64 x, .float .f64 L, .float .f64 H] w fun r w' => r = .returned (.tuple #[.float .f64 0, .int .i64 601]) ∧ w' = w := by
  have h3 := neq_num64 x h
  have c : Hid (∀ w, Calls Try.prog 42 #[.float .f64 x] w fun e w' => e = .returned (.float .f64 E) ∧ w' = w) := trunc_num x E h hE
  clear hE h
  rcases ho with rfl | rfl
  all_goals
    rcases hu with rfl | rfl
    all_goals
      go_enter Try.func31, Try.ntmps31
      go_wp2_with (go_at_call 42; refine (c.out _).mono ?_; rintro e w' ⟨rfl, rfl⟩)
      go_ret2
      exact ⟨rfl, rfl⟩
theorem cut_in (x E L H : Nat) (o : Ordering) (h : ¬ isN Ieee.double x) (hE : wholeW Ieee.double .zero x = E) (h1 : FloatKind.f64.format.order E L = some o) (ho : o = .gt ∨ o = .eq) (h2 : FloatKind.f64.format.order E H = some .lt) (w : World) :
    Calls Try.prog 31 #[.float .f64 x, .float .f64 L, .float .f64 H] w fun r w' => r = .returned (.tuple #[.float .f64 E, .int .i64 0]) ∧ w' = w := by
  have h3 := neq_num64 x h
  have c : Hid (∀ w, Calls Try.prog 42 #[.float .f64 x] w fun e w' => e = .returned (.float .f64 E) ∧ w' = w) := trunc_num x E h hE
  clear hE h
  rcases ho with rfl | rfl
  all_goals
    go_enter Try.func31, Try.ntmps31
    go_wp2_with (go_at_call 42; refine (c.out _).mono ?_; rintro e w' ⟨rfl, rfl⟩)
    go_ret2
    exact ⟨rfl, rfl⟩
theorem cmp_ge {a b : Int} (h : b ≤ a) : compare a b = .gt ∨ compare a b = .eq := by
  rcases Int.lt_or_eq_of_le h with g | g
  · exact Or.inl (FM.cmp_gt g)
  · exact Or.inr (FM.cmp_eq g.symm)
/-- what 'cut' makes of every float -/
theorem cut_any (x L H : Nat) (l e : Int) (hx : Hid (x < 18446744073709551616)) (hL : Hid (Bnd L l)) (hH : Hid (Bnd H e)) (w : World) :
    Calls Try.prog 31 #[.float .f64 x, .float .f64 L, .float .f64 H] w fun r w' => ∃ z : Nat, r = .returned (.tuple #[.float .f64 z, .int .i64 (cutI x l e).2]) ∧ w' = w ∧ Hid (tval Ieee.double z = some (cutI x l e).1) := by
  by_cases hn : isN Ieee.double x
  · rw [FM.cutI_nan x l e hn]
    refine (cut_nan x L H hn w).mono ?_
    rintro r w' ⟨rfl, rfl⟩
    exact ⟨0, rfl, rfl, tval_zero⟩
  · have hn' := hn
    unfold isN at hn'
    rcases Nat.lt_or_ge (FM.rg Ieee.double x) Ieee.double.infRung with h1 | h1
    · obtain ⟨v, g1, g2, g3, g4⟩ := FM.whole_fin x hx.out h1
      have o1 := FM.order_whole x L v l hx.out h1 g1 hL.out
      have o2 := FM.order_whole x H v e hx.out h1 g1 hH.out
      clear g3 g4
      by_cases hl : v < l
      · rw [FM.cut_out x l e v hn g1 (by omega)]
        refine (cut_below x _ L H hn rfl (o1.trans (by rw [FM.cmp_lt hl])) w).mono ?_
        rintro r w' ⟨rfl, rfl⟩
        exact ⟨0, rfl, rfl, tval_zero⟩
      · by_cases he : v < e
        · rw [FM.cut_in x l e v hn g1 ⟨by omega, he⟩]
          refine (cut_in x _ L H _ hn rfl o1 (cmp_ge (by omega)) (o2.trans (by rw [FM.cmp_lt he])) w).mono ?_
          rintro r w' ⟨rfl, rfl⟩
          exact ⟨_, rfl, rfl, g2⟩
        · rw [FM.cut_out x l e v hn g1 (by omega)]
          refine (cut_above x _ L H _ hn rfl o1 (cmp_ge (by omega)) _ o2 (cmp_ge (by omega)) w).mono ?_
          rintro r w' ⟨rfl, rfl⟩
          exact ⟨0, rfl, rfl, tval_zero⟩
    · have h2 : FM.rg Ieee.double x = Ieee.double.infRung := by omega
      have hE := FM.whole_infinite x hx.out h2
      have o1 := FM.order_inf x L l h2 hL.out
      have o2 := FM.order_inf x H e h2 hH.out
      rw [FM.cut_none x l e hn (FM.tval_inf Ieee.double hdf x h2)]
      cases hs : FM.sg Ieee.double x
      · rw [hs] at o1 o2
        refine (cut_above x x L H .gt hn hE o1 (Or.inl rfl) .gt o2 (Or.inl rfl) w).mono ?_
        rintro r w' ⟨rfl, rfl⟩
        exact ⟨0, rfl, rfl, tval_zero⟩
      · rw [hs] at o1
        refine (cut_below x x L H hn hE o1 w).mono ?_
        rintro r w' ⟨rfl, rfl⟩
        exact ⟨0, rfl, rfl, tval_zero⟩
theorem run_int (z : Nat) (v : Int) (h : tval Ieee.double z = some v) (h1 : -9223372036854775808 ≤ v) (h2 : v ≤ 9223372036854775807) (w : World) : (convert 34 3 (.float .f64 z)).run Try.prog w = .ok (.int .i64 v) w := by
  refine run_convert_float_int w 34 3 .f64 .i64 z v (by kernel_rfl) (by kernel_rfl) ?_
  unfold floatToIntVal
  rw [show (FloatKind.f64.decode z).toInt .zero = some v from h]
  show (if _ then some v else none) = some v
  rw [if_pos ⟨h1, h2⟩]
theorem run_uint (z : Nat) (v : Int) (h : tval Ieee.double z = some v) (h1 : 0 ≤ v) (h2 : v ≤ 18446744073709551615) (w : World) : (convert 34 38 (.float .f64 z)).run Try.prog w = .ok (.int .u64 v) w := by
  refine run_convert_float_int w 34 38 .f64 .u64 z v (by kernel_rfl) (by kernel_rfl) ?_
  unfold floatToIntVal
  rw [show (FloatKind.f64.decode z).toInt .zero = some v from h]
  show (if _ then some v else none) = some v
  rw [if_pos ⟨h1, h2⟩]
theorem cutSigned32_any (x : Nat) (hx : Hid (x < 18446744073709551616)) (w : World) :
    Calls Try.prog 15 #[.float .f64 x] w fun r w' => r = .returned (.tuple #[.int .i64 (FM.truncI Ieee.double x 32 true).1, .int .i64 (FM.truncI Ieee.double x 32 true).2]) ∧ w' = w := by
  rw [FM.cut_trunc x 32 true (-2147483648) 2147483648 (FM.fits_32s)]
  have hr := FM.cut_range x (-2147483648) 2147483648 (by decide) (by decide)
  have hc : Hid (∀ w, Calls Try.prog 31 #[.float .f64 x, .float .f64 13970166044103278592, .float .f64 4746794007248502784] w fun r w' => ∃ z : Nat, r = .returned (.tuple #[.float .f64 z, .int .i64 (cutI x (-2147483648) 2147483648).2]) ∧ w' = w ∧ Hid (tval Ieee.double z = some (cutI x (-2147483648) 2147483648).1)) := cut_any x 13970166044103278592 4746794007248502784 (-2147483648) 2147483648 hx FM.bnd_m31 FM.bnd_31
  generalize (cutI x (-2147483648) 2147483648).1 = V at *
  generalize (cutI x (-2147483648) 2147483648).2 = C at *
  obtain ⟨r1, r2⟩ := hr
  have hb : FM.bitsI 32 V = V % 4294967296 := by
    rw [FM.bits_32]
  rw [hb]
  clear hb
  go_enter Try.func15, Try.ntmps15
  go_wp2_with fail
  refine (hc.out _).mono ?_
  rintro r w' ⟨z, rfl, rfl, hz⟩
  have g1 := run_int z V hz.out (by omega) (by omega)
  clear r1 r2
  go_wp2_with (go_at_call 13; refine (low_any _ _).mono ?_; rintro e w' ⟨rfl, rfl⟩)
  go_ret2
  exact ⟨rfl, rfl⟩
theorem cutUnsigned32_any (x : Nat) (hx : Hid (x < 18446744073709551616)) (w : World) :
    Calls Try.prog 17 #[.float .f64 x] w fun r w' => r = .returned (.tuple #[.int .i64 (FM.truncI Ieee.double x 32 false).1, .int .i64 (FM.truncI Ieee.double x 32 false).2]) ∧ w' = w := by
  rw [FM.cut_trunc x 32 false (0) 4294967296 (FM.fits_32u)]
  have hr := FM.cut_range x (0) 4294967296 (by decide) (by decide)
  have hc : Hid (∀ w, Calls Try.prog 31 #[.float .f64 x, .float .f64 0, .float .f64 4751297606875873280] w fun r w' => ∃ z : Nat, r = .returned (.tuple #[.float .f64 z, .int .i64 (cutI x (0) 4294967296).2]) ∧ w' = w ∧ Hid (tval Ieee.double z = some (cutI x (0) 4294967296).1)) := cut_any x 0 4751297606875873280 (0) 4294967296 hx FM.bnd_zero FM.bnd_32
  generalize (cutI x (0) 4294967296).1 = V at *
  generalize (cutI x (0) 4294967296).2 = C at *
  obtain ⟨r1, r2⟩ := hr
  have hb : FM.bitsI 32 V = V := by
    rw [FM.bits_32]; omega
  rw [hb]
  clear hb
  go_enter Try.func17, Try.ntmps17
  go_wp2_with fail
  refine (hc.out _).mono ?_
  rintro r w' ⟨z, rfl, rfl, hz⟩
  have g1 := run_int z V hz.out (by omega) (by omega)
  clear r1 r2
  go_wp2
  go_ret2
  exact ⟨rfl, rfl⟩
theorem cutSigned64_any (x : Nat) (hx : Hid (x < 18446744073709551616)) (w : World) :
    Calls Try.prog 19 #[.float .f64 x] w fun r w' => r = .returned (.tuple #[.int .i64 (FM.truncI Ieee.double x 64 true).1, .int .i64 (FM.truncI Ieee.double x 64 true).2]) ∧ w' = w := by
  rw [FM.cut_trunc x 64 true (-9223372036854775808) 9223372036854775808 (FM.fits_64s)]
  have hr := FM.cut_range x (-9223372036854775808) 9223372036854775808 (by decide) (by decide)
  have hc : Hid (∀ w, Calls Try.prog 31 #[.float .f64 x, .float .f64 14114281232179134464, .float .f64 4890909195324358656] w fun r w' => ∃ z : Nat, r = .returned (.tuple #[.float .f64 z, .int .i64 (cutI x (-9223372036854775808) 9223372036854775808).2]) ∧ w' = w ∧ Hid (tval Ieee.double z = some (cutI x (-9223372036854775808) 9223372036854775808).1)) := cut_any x 14114281232179134464 4890909195324358656 (-9223372036854775808) 9223372036854775808 hx FM.bnd_m63 FM.bnd_63
  generalize (cutI x (-9223372036854775808) 9223372036854775808).1 = V at *
  generalize (cutI x (-9223372036854775808) 9223372036854775808).2 = C at *
  obtain ⟨r1, r2⟩ := hr
  have hb : FM.bitsI 64 V = V := by
    rw [FM.bits_64]; omega
  rw [hb]
  clear hb
  go_enter Try.func19, Try.ntmps19
  go_wp2_with fail
  refine (hc.out _).mono ?_
  rintro r w' ⟨z, rfl, rfl, hz⟩
  have g1 := run_int z V hz.out (by omega) (by omega)
  clear r1 r2
  go_wp2
  go_ret2
  exact ⟨rfl, rfl⟩
theorem cutUnsigned64_any (x : Nat) (hx : Hid (x < 18446744073709551616)) (w : World) :
    Calls Try.prog 20 #[.float .f64 x] w fun r w' => r = .returned (.tuple #[.int .i64 (FM.truncI Ieee.double x 64 false).1, .int .i64 (FM.truncI Ieee.double x 64 false).2]) ∧ w' = w := by
  rw [FM.cut_trunc x 64 false (0) 18446744073709551616 (FM.fits_64u)]
  have hr := FM.cut_range x (0) 18446744073709551616 (by decide) (by decide)
  have hc : Hid (∀ w, Calls Try.prog 31 #[.float .f64 x, .float .f64 0, .float .f64 4895412794951729152] w fun r w' => ∃ z : Nat, r = .returned (.tuple #[.float .f64 z, .int .i64 (cutI x (0) 18446744073709551616).2]) ∧ w' = w ∧ Hid (tval Ieee.double z = some (cutI x (0) 18446744073709551616).1)) := cut_any x 0 4895412794951729152 (0) 18446744073709551616 hx FM.bnd_zero FM.bnd_64
  generalize (cutI x (0) 18446744073709551616).1 = V at *
  generalize (cutI x (0) 18446744073709551616).2 = C at *
  obtain ⟨r1, r2⟩ := hr
  have hb : FM.bitsI 64 V = wrap64 V := by
    rw [FM.bits_64]; simp only [wrap64]
  rw [hb]
  clear hb
  go_enter Try.func20, Try.ntmps20
  go_wp2_with fail
  refine (hc.out _).mono ?_
  rintro r w' ⟨z, rfl, rfl, hz⟩
  have g1 := run_uint z V hz.out (by omega) (by omega)
  clear r1 r2
  go_wp2
  go_ret2
  exact ⟨rfl, rfl⟩
end Go.Proofs.Ytibfjlibkaejnaa
