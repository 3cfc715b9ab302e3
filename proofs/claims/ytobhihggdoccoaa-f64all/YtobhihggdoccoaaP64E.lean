/- Contracts of package f64n over this seat's translation: whole numbers and roots. -/
import Derived.Test.YtobhihggdoccoaaP64D
namespace Go.Proofs.Ytobhihggdoccoaa
open Go.RowKit
open Go.FM (isN fixn qn sw)
set_option linter.unusedVariables false

theorem ceil_num (D E : Nat) (hn : (df.read D).isNaN = false) (hE : df.write ((df.read D).integral .up) = E) (w : World) :
    Calls Try.prog 44 #[.float .f64 D] w fun e w' => e = .returned (.float .f64 E) ∧ w' = w := by
  have h := run_ceil D hn
  rw [hE] at h
  go_enter Try.func44, Try.ntmps44
  go_wp2
  go_ret
  exact ⟨rfl, rfl⟩
theorem ceil_nan (D : Nat) (hD : Hid (D < 18446744073709551616)) (hn : isN df D) (w : World) :
    Calls Try.prog 44 #[.float .f64 D] w fun e w' => ∃ E, e = .returned (.float .f64 E) ∧ Later w w' ∧ isN df E := by
  obtain ⟨E, n, h, h1, h2⟩ := run_ceil_nan D hD.out hn w
  go_enter Try.func44, Try.ntmps44
  go_wp2
  go_ret
  exact ⟨E, rfl, (Later.refl _).drewN, h1⟩
theorem floor_num (D E : Nat) (hn : (df.read D).isNaN = false) (hE : df.write ((df.read D).integral .down) = E) (w : World) :
    Calls Try.prog 45 #[.float .f64 D] w fun e w' => e = .returned (.float .f64 E) ∧ w' = w := by
  have h := run_floor D hn
  rw [hE] at h
  go_enter Try.func45, Try.ntmps45
  go_wp2
  go_ret
  exact ⟨rfl, rfl⟩
theorem floor_nan (D : Nat) (hD : Hid (D < 18446744073709551616)) (hn : isN df D) (w : World) :
    Calls Try.prog 45 #[.float .f64 D] w fun e w' => ∃ E, e = .returned (.float .f64 E) ∧ Later w w' ∧ isN df E := by
  obtain ⟨E, n, h, h1, h2⟩ := run_floor_nan D hD.out hn w
  go_enter Try.func45, Try.ntmps45
  go_wp2
  go_ret
  exact ⟨E, rfl, (Later.refl _).drewN, h1⟩
theorem trunc_num (D E : Nat) (hn : (df.read D).isNaN = false) (hE : df.write ((df.read D).integral .zero) = E) (w : World) :
    Calls Try.prog 46 #[.float .f64 D] w fun e w' => e = .returned (.float .f64 E) ∧ w' = w := by
  have h := run_trunc D hn
  rw [hE] at h
  go_enter Try.func46, Try.ntmps46
  go_wp2
  go_ret
  exact ⟨rfl, rfl⟩
theorem trunc_nan (D : Nat) (hD : Hid (D < 18446744073709551616)) (hn : isN df D) (w : World) :
    Calls Try.prog 46 #[.float .f64 D] w fun e w' => ∃ E, e = .returned (.float .f64 E) ∧ Later w w' ∧ isN df E := by
  obtain ⟨E, n, h, h1, h2⟩ := run_trunc_nan D hD.out hn w
  go_enter Try.func46, Try.ntmps46
  go_wp2
  go_ret
  exact ⟨E, rfl, (Later.refl _).drewN, h1⟩
theorem sqrt_num (D E : Nat) (h : df.sqrt D = some E) (w : World) :
    Calls Try.prog 48 #[.float .f64 D] w fun e w' => e = .returned (.float .f64 E) ∧ w' = w := by
  have h := run_sqrt D E h
  go_enter Try.func48, Try.ntmps48
  go_wp2
  go_ret
  exact ⟨rfl, rfl⟩
theorem sqrt_nan (D : Nat) (h : df.sqrt D = none) (w : World) :
    Calls Try.prog 48 #[.float .f64 D] w fun e w' => ∃ E, e = .returned (.float .f64 E) ∧ Later w w' ∧ isN df E := by
  obtain ⟨E, h, h1, h2⟩ := run_sqrt_nan D h w
  go_enter Try.func48, Try.ntmps48
  go_wp2
  go_ret
  exact ⟨E, rfl, (Later.refl _).drew, h1⟩
theorem whole_ok (way : Ieee.Toward) (x : Nat) (h : ¬ isN df x) : fixn df (FM.wholeW df way x) = FM.wholeW df way x ∧ (df.read x).isNaN = false ∧ df.write ((df.read x).integral way) = FM.wholeW df way x := by
  have e : FM.wholeW df way x = df.write ((df.read x).integral way) := by unfold FM.wholeW; rw [if_neg h]
  rw [e]
  refine ⟨FM.fixn_ok df _ (FM.rg_write df _ ?_), ?_, rfl⟩
  · unfold isN at h
    rcases Nat.lt_or_ge (FM.rg df x) df.infRung with h1 | h1
    · rw [FM.read_num df x h1]; rfl
    · rw [FM.read_inf df hdf x (by omega)]; rfl
  · unfold isN at h
    rcases Nat.lt_or_ge (FM.rg df x) df.infRung with h1 | h1
    · rw [FM.read_num df x h1]; rfl
    · rw [FM.read_inf df hdf x (by omega)]; rfl
theorem whole_nan (way : Ieee.Toward) (x : Nat) (h : isN df x) : FM.wholeW df way x = qn df := by unfold FM.wholeW; rw [if_pos h]
theorem root_nan (x : Nat) (h : isN df x) : FM.rootW df x = qn df := by
  have e : df.sqrt x = none := by
    unfold Ieee.Format.sqrt; rw [FM.read_nan df hdf x h]; unfold Ieee.Datum.root; dsimp only; exact Option.map_none _
  unfold FM.rootW FM.fixo; rw [e, Option.getD_none]
theorem root_some (x R : Nat) (h : df.sqrt x = some R) : FM.rootW df x = R ∧ fixn df R = R := ⟨by unfold FM.rootW FM.fixo; rw [h, Option.getD_some], FM.sqrt_ok df h⟩
theorem root_none (x : Nat) (h : df.sqrt x = none) : FM.rootW df x = qn df := by unfold FM.rootW FM.fixo; rw [h, Option.getD_none]
theorem reshape_155 (x R : Nat) (hx : Hid (x < 18446744073709551616)) (hR : FM.wholeW df .up x = R) (w : World) :
    Calls Try.prog 35 #[.int .i64 155, .float .f64 x] w fun e w' => ∃ b : Nat, e = .returned (.float .f64 b) ∧ Later w w' ∧ fixn df b = R := by
  by_cases hn : isN df x
  · have hq : qn df = R := by rw [← hR, whole_nan _ x hn]
    clear hR
    have c3 : Hid (∀ w, Calls Try.prog 44 #[.float .f64 x] w fun e w' => ∃ E, e = .returned (.float .f64 E) ∧ Later w w' ∧ isN df E) := ceil_nan x hx hn
    go_enter Try.func35, Try.ntmps35
    go_wp2_with (go_at_call 44; refine (c3.out _).mono ?_; rintro e w' ⟨E, rfl, ⟨bs, n, rfl⟩, hE⟩)
    go_ret
    exact ⟨_, rfl, (by repeat (first | exact Later.refl _ | refine Later.alloc ?_ | refine Later.far ?_ | refine Later.drewN ?_ | refine Later.drew ?_)), by rw [FM.fixn_nan df _ hE, hq]⟩
  · obtain ⟨h1, h2, h3⟩ := whole_ok .up x hn
    rw [hR] at h1 h3
    clear hR
    have c3 : Hid (∀ w, Calls Try.prog 44 #[.float .f64 x] w fun e w' => e = .returned (.float .f64 R) ∧ w' = w) := ceil_num x R h2 h3
    clear h2 h3
    go_enter Try.func35, Try.ntmps35
    go_wp2_with (go_at_call 44; refine (c3.out _).mono ?_; rintro e w' ⟨rfl, rfl⟩)
    go_ret
    exact ⟨_, rfl, (by repeat (first | exact Later.refl _ | refine Later.alloc ?_ | refine Later.far ?_ | refine Later.drewN ?_ | refine Later.drew ?_)), h1⟩
theorem reshape_156 (x R : Nat) (hx : Hid (x < 18446744073709551616)) (hR : FM.wholeW df .down x = R) (w : World) :
    Calls Try.prog 35 #[.int .i64 156, .float .f64 x] w fun e w' => ∃ b : Nat, e = .returned (.float .f64 b) ∧ Later w w' ∧ fixn df b = R := by
  by_cases hn : isN df x
  · have hq : qn df = R := by rw [← hR, whole_nan _ x hn]
    clear hR
    have c3 : Hid (∀ w, Calls Try.prog 45 #[.float .f64 x] w fun e w' => ∃ E, e = .returned (.float .f64 E) ∧ Later w w' ∧ isN df E) := floor_nan x hx hn
    go_enter Try.func35, Try.ntmps35
    go_wp2_with (go_at_call 45; refine (c3.out _).mono ?_; rintro e w' ⟨E, rfl, ⟨bs, n, rfl⟩, hE⟩)
    go_ret
    exact ⟨_, rfl, (by repeat (first | exact Later.refl _ | refine Later.alloc ?_ | refine Later.far ?_ | refine Later.drewN ?_ | refine Later.drew ?_)), by rw [FM.fixn_nan df _ hE, hq]⟩
  · obtain ⟨h1, h2, h3⟩ := whole_ok .down x hn
    rw [hR] at h1 h3
    clear hR
    have c3 : Hid (∀ w, Calls Try.prog 45 #[.float .f64 x] w fun e w' => e = .returned (.float .f64 R) ∧ w' = w) := floor_num x R h2 h3
    clear h2 h3
    go_enter Try.func35, Try.ntmps35
    go_wp2_with (go_at_call 45; refine (c3.out _).mono ?_; rintro e w' ⟨rfl, rfl⟩)
    go_ret
    exact ⟨_, rfl, (by repeat (first | exact Later.refl _ | refine Later.alloc ?_ | refine Later.far ?_ | refine Later.drewN ?_ | refine Later.drew ?_)), h1⟩
theorem reshape_157 (x R : Nat) (hx : Hid (x < 18446744073709551616)) (hR : FM.wholeW df .zero x = R) (w : World) :
    Calls Try.prog 35 #[.int .i64 157, .float .f64 x] w fun e w' => ∃ b : Nat, e = .returned (.float .f64 b) ∧ Later w w' ∧ fixn df b = R := by
  by_cases hn : isN df x
  · have hq : qn df = R := by rw [← hR, whole_nan _ x hn]
    clear hR
    have c3 : Hid (∀ w, Calls Try.prog 46 #[.float .f64 x] w fun e w' => ∃ E, e = .returned (.float .f64 E) ∧ Later w w' ∧ isN df E) := trunc_nan x hx hn
    go_enter Try.func35, Try.ntmps35
    go_wp2_with (go_at_call 46; refine (c3.out _).mono ?_; rintro e w' ⟨E, rfl, ⟨bs, n, rfl⟩, hE⟩)
    go_ret
    exact ⟨_, rfl, (by repeat (first | exact Later.refl _ | refine Later.alloc ?_ | refine Later.far ?_ | refine Later.drewN ?_ | refine Later.drew ?_)), by rw [FM.fixn_nan df _ hE, hq]⟩
  · obtain ⟨h1, h2, h3⟩ := whole_ok .zero x hn
    rw [hR] at h1 h3
    clear hR
    have c3 : Hid (∀ w, Calls Try.prog 46 #[.float .f64 x] w fun e w' => e = .returned (.float .f64 R) ∧ w' = w) := trunc_num x R h2 h3
    clear h2 h3
    go_enter Try.func35, Try.ntmps35
    go_wp2_with (go_at_call 46; refine (c3.out _).mono ?_; rintro e w' ⟨rfl, rfl⟩)
    go_ret
    exact ⟨_, rfl, (by repeat (first | exact Later.refl _ | refine Later.alloc ?_ | refine Later.far ?_ | refine Later.drewN ?_ | refine Later.drew ?_)), h1⟩
theorem reshape_158 (x R : Nat) (hx : Hid (x < 18446744073709551616)) (hR : FM.wholeW df .even x = R) (w : World) :
    Calls Try.prog 35 #[.int .i64 158, .float .f64 x] w fun e w' => ∃ b : Nat, e = .returned (.float .f64 b) ∧ Later w w' ∧ fixn df b = R := by
  by_cases hn : isN df x
  · have hq : qn df = R := by rw [← hR, whole_nan _ x hn]
    clear hR
    obtain ⟨E, n, c3, c4, c5⟩ := run_even_nan x hx.out hn w
    clear c5
    have c4 : Hid _ := c4
    go_enter Try.func35, Try.ntmps35
    go_wp2
    go_ret
    exact ⟨_, rfl, (by repeat (first | exact Later.refl _ | refine Later.alloc ?_ | refine Later.far ?_ | refine Later.drewN ?_ | refine Later.drew ?_)), by rw [FM.fixn_nan df _ c4.out, hq]⟩
  · obtain ⟨h1, h2, h3⟩ := whole_ok .even x hn
    rw [hR] at h1 h3
    clear hR
    have c3 := run_even x h2
    rw [h3] at c3
    clear h2 h3
    go_enter Try.func35, Try.ntmps35
    go_wp2
    go_ret
    exact ⟨_, rfl, (by repeat (first | exact Later.refl _ | refine Later.alloc ?_ | refine Later.far ?_ | refine Later.drewN ?_ | refine Later.drew ?_)), h1⟩
theorem reshape_159 (x R : Nat) (hx : Hid (x < 18446744073709551616)) (hR : FM.rootW df x = R) (w : World) :
    Calls Try.prog 35 #[.int .i64 159, .float .f64 x] w fun e w' => ∃ b : Nat, e = .returned (.float .f64 b) ∧ Later w w' ∧ fixn df b = R := by
  cases ho : df.sqrt x with
  | none =>
    have hq : qn df = R := by rw [← hR, root_none x ho]
    clear hR
    have c3 : Hid (∀ w, Calls Try.prog 48 #[.float .f64 x] w fun e w' => ∃ E, e = .returned (.float .f64 E) ∧ Later w w' ∧ isN df E) := sqrt_nan x ho
    clear ho
    go_enter Try.func35, Try.ntmps35
    go_wp2_with (go_at_call 48; refine (c3.out _).mono ?_; rintro e w' ⟨E, rfl, ⟨bs, n, rfl⟩, hE⟩)
    go_ret
    exact ⟨_, rfl, (by repeat (first | exact Later.refl _ | refine Later.alloc ?_ | refine Later.far ?_ | refine Later.drewN ?_ | refine Later.drew ?_)), by rw [FM.fixn_nan df _ hE, hq]⟩
  | some r =>
    obtain ⟨h1, h2⟩ := root_some x r ho
    have hq : r = R := by rw [← hR, h1]
    clear hR h1
    have c3 : Hid (∀ w, Calls Try.prog 48 #[.float .f64 x] w fun e w' => e = .returned (.float .f64 r) ∧ w' = w) := sqrt_num x r ho
    clear ho
    go_enter Try.func35, Try.ntmps35
    go_wp2_with (go_at_call 48; refine (c3.out _).mono ?_; rintro e w' ⟨rfl, rfl⟩)
    go_ret
    exact ⟨_, rfl, (by repeat (first | exact Later.refl _ | refine Later.alloc ?_ | refine Later.far ?_ | refine Later.drewN ?_ | refine Later.drew ?_)), by rw [← hq]; exact h2⟩
end Go.Proofs.Ytobhihggdoccoaa
