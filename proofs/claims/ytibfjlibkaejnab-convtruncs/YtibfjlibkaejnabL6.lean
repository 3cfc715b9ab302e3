/- Over this seat's translation: 'awake' of package peloruslaw6. -/
import Derived.Test.YtibfjlibkaejnabQ6C
namespace Go.Proofs.Ytibfjlibkaejnab
open Go.RowKit
open Go.FM (isN fixn qn sw otherW fromW cutI tval small ofI)
set_option linter.unusedVariables false

theorem later_grown {w w' : World} (h : Later w w') : Grown w w' := h.grown
set_option maxRecDepth 100000 in
theorem awake_any (w : World) :
    Calls Try.prog 5 #[] w fun e w' => e = .returned (.bool true) ∧ Later w w' := by
  have r1 : Hid (ofI 167 (-1) = (4294967295, 0)) := by show _ = _; decide +kernel
  have r2 : Hid (ofI 183 3 = (4613937818241073152, 0)) := by show _ = _; decide +kernel
  have r3 : Hid (ofI 168 2143289344 = (0, 600)) := by show _ = _; decide +kernel
  have r4 : Hid (ofI 170 4886405595696988160 = (0, 601)) := by show _ = _; decide +kernel
  have r5 : Hid (ofI 100 1 = (0, 600)) := by show _ = _; decide +kernel
  go_enter Try.func5, Try.ntmps5
  go_wp2_with fail
  refine (of_eq (Or.inl (by decide)) r1.out _).mono ?_
  rintro e w' ⟨rfl, bs1, n1, rfl⟩
  go_wp2_with fail
  refine (of_eq (Or.inl (by decide)) r2.out _).mono ?_
  rintro e w' ⟨rfl, bs2, n2, rfl⟩
  go_wp2_with fail
  refine (of_eq (Or.inl (by decide)) r3.out _).mono ?_
  rintro e w' ⟨rfl, bs3, n3, rfl⟩
  go_wp2_with fail
  refine (of_eq (Or.inl (by decide)) r4.out _).mono ?_
  rintro e w' ⟨rfl, bs4, n4, rfl⟩
  go_wp2_with fail
  refine (of_eq (Or.inl (by decide)) r5.out _).mono ?_
  rintro e w' ⟨rfl, bs5, n5, rfl⟩
  go_wp2_with (go_at_call 7; refine (num_any _ _).mono ?_; rintro e w' ⟨rfl, rfl⟩)
  go_ret
  exact ⟨rfl, (by repeat (first | exact Later.refl _ | refine Later.alloc ?_ | refine Later.far ?_ | refine Later.drewN ?_ | refine Later.drew ?_))⟩
end Go.Proofs.Ytibfjlibkaejnab
