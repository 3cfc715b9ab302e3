/- Over this seat's translation: 'awake'; what the statements' rules need of Un and Bin. -/
import Derived.Test.YtobhihggdoccoaaP32H
import Derived.Test.YtobhihggdoccoaaFLaw2
namespace Go.Proofs.Ytobhihggdoccoaa
open Go.RowKit
open Go.FM (isN fixn qn)
set_option linter.unusedVariables false

theorem later_grown {w w' : World} (h : Later w w') : Grown w w' := h.grown
set_option maxRecDepth 100000 in
theorem awake_any (w : World) :
    Calls Try.prog 14 #[] w fun e w' => e = .returned (.bool true) ∧ Later w w' := by
  have r1 : Hid (binI 146 1065353216 1065353216 = (1073741824, 0)) := by show _ = _; decide +kernel
  have r2 : Hid (binI 149 0 0 = (2143289344, 0)) := by show _ = _; decide +kernel
  have r3 : Hid (unI 145 1082130432 = (1073741824, 0)) := by show _ = _; decide +kernel
  have r4 : Hid (binI 93 1065353216 1073741824 = (1, 0)) := by show _ = _; decide +kernel
  have r5 : Hid (unI 1 0 = (0, 400)) := by show _ = _; decide +kernel
  go_enter Try.func14, Try.ntmps14
  go_wp2_with fail
  refine (bin_eq r1.out _).mono ?_
  rintro e w' ⟨rfl, bs1, n1, rfl⟩
  go_wp2_with fail
  refine (bin_eq r2.out _).mono ?_
  rintro e w' ⟨rfl, bs2, n2, rfl⟩
  go_wp2_with fail
  refine (un_eq r3.out _).mono ?_
  rintro e w' ⟨rfl, bs3, n3, rfl⟩
  go_wp2_with fail
  refine (bin_eq r4.out _).mono ?_
  rintro e w' ⟨rfl, bs4, n4, rfl⟩
  go_wp2_with fail
  refine (un_eq r5.out _).mono ?_
  rintro e w' ⟨rfl, bs5, n5, rfl⟩
  go_wp2_with (go_at_call 13; refine (num_any _ _).mono ?_; rintro e w' ⟨rfl, rfl⟩)
  go_ret
  exact ⟨rfl, by repeat (first | exact Later.refl _ | refine Later.alloc ?_ | refine Later.far ?_ | refine Later.drewN ?_ | refine Later.drew ?_)⟩
end Go.Proofs.Ytobhihggdoccoaa
