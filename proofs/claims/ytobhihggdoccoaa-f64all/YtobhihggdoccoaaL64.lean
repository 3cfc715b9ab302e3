/- Over this seat's translation: 'awake'. -/
import Derived.Test.YtobhihggdoccoaaP64H
import Derived.Test.YtobhihggdoccoaaFLaw2
namespace Go.Proofs.Ytobhihggdoccoaa
open Go.RowKit
open Go.FM (isN fixn qn sw)
set_option linter.unusedVariables false

theorem later_grown {w w' : World} (h : Later w w') : Grown w w' := h.grown
set_option maxRecDepth 100000 in
theorem awake_any (w : World) :
    Calls Try.prog 19 #[] w fun e w' => e = .returned (.bool true) ∧ Later w w' := by
  have r1 : Hid (binI 160 4607182418800017408 4607182418800017408 = (4611686018427387904, 0)) := by show _ = _; decide +kernel
  have r2 : Hid (binI 163 0 0 = (9221120237041090560, 0)) := by show _ = _; decide +kernel
  have r3 : Hid (unI 159 4616189618054758400 = (4611686018427387904, 0)) := by show _ = _; decide +kernel
  have r4 : Hid (binI 99 4607182418800017408 4611686018427387904 = (1, 0)) := by show _ = _; decide +kernel
  have r5 : Hid (unI 1 0 = (0, 500)) := by show _ = _; decide +kernel
  go_enter Try.func19, Try.ntmps19
  go_wp2_with fail
  refine (bin_eq (Or.inl (by decide)) r1.out _).mono ?_
  rintro e w' ⟨rfl, bs1, n1, rfl⟩
  go_wp2_with fail
  refine (bin_eq (Or.inl (by decide)) r2.out _).mono ?_
  rintro e w' ⟨rfl, bs2, n2, rfl⟩
  go_wp2_with fail
  refine (un_eq r3.out _).mono ?_
  rintro e w' ⟨rfl, bs3, n3, rfl⟩
  go_wp2_with fail
  refine (bin_eq (Or.inl (by decide)) r4.out _).mono ?_
  rintro e w' ⟨rfl, bs4, n4, rfl⟩
  go_wp2_with fail
  refine (un_eq r5.out _).mono ?_
  rintro e w' ⟨rfl, bs5, n5, rfl⟩
  go_wp2_with (go_at_call 13; refine (num_any _ _).mono ?_; rintro e w' ⟨rfl, rfl⟩)
  go_ret
  exact ⟨rfl, (by repeat (first | exact Later.refl _ | refine Later.alloc ?_ | refine Later.far ?_ | refine Later.drewN ?_ | refine Later.drew ?_))⟩
end Go.Proofs.Ytobhihggdoccoaa
