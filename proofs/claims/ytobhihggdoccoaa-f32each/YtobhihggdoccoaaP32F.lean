/- Contracts of package f32n over this seat's translation: what Un and Bin make of every number. -/
import Derived.Test.YtobhihggdoccoaaP32E
namespace Go.Proofs.Ytobhihggdoccoaa
open Go.RowKit
open Go.FM (isN fixn qn)
set_option linter.unusedVariables false

theorem num_any (n : Int) (w : World) :
    Calls Try.prog 13 #[.int .i64 n] w fun e w' => e = .returned (.int .i64 n) ∧ w' = w := by
  go_enter Try.func13, Try.ntmps13
  go_wp2
  go_ret
  exact ⟨rfl, rfl⟩
theorem low_any (x : Int) (w : World) :
    Calls Try.prog 20 #[.int .i64 x] w fun e w' => e = .returned (.int .i64 (x % 4294967296)) ∧ w' = w := by
  go_enter Try.func20, Try.ntmps20
  go_wp2
  go_ret
  exact ⟨rfl, rfl⟩
theorem low_eq (a : Int) (x : Nat) (h : Hid (a % 4294967296 = (x : Int))) (w : World) :
    Calls Try.prog 20 #[.int .i64 a] w fun e w' => e = .returned (.int .i64 (x : Int)) ∧ w' = w := by
  have := low_any a w
  rw [h.out] at this
  exact this
/-- what an operation makes of one float, by its number -/
def unW (op : Int) (x : Nat) : Nat :=
  if op = 139 then x % 2147483648 else if op = 140 then x ^^^ 2147483648 else if op = 141 then FM.wholeW sf .up x else if op = 142 then FM.wholeW sf .down x
  else if op = 143 then FM.wholeW sf .zero x else if op = 144 then FM.wholeW sf .even x else FM.rootW sf x
theorem unW_139 (x : Nat) : unW 139 x = x % 2147483648 := by simp [unW]
theorem unW_140 (x : Nat) : unW 140 x = x ^^^ 2147483648 := by simp [unW]
theorem unW_141 (x : Nat) : unW 141 x = FM.wholeW sf .up x := by simp [unW]
theorem unW_142 (x : Nat) : unW 142 x = FM.wholeW sf .down x := by simp [unW]
theorem unW_143 (x : Nat) : unW 143 x = FM.wholeW sf .zero x := by simp [unW]
theorem unW_144 (x : Nat) : unW 144 x = FM.wholeW sf .even x := by simp [unW]
theorem unW_145 (x : Nat) : unW 145 x = FM.rootW sf x := by simp [unW]
theorem inf_cases (x : Nat) (hx : x < 4294967296) (h : FM.rg sf x = sf.infRung) : x = 2139095040 ∨ x = 4286578688 := by
  obtain ⟨s, r, e, h1, h2, h3⟩ := FM.parts32 x hx
  rw [h] at h3
  rw [e, FM.word32, ← h3, FM.inf32]
  cases s
  · left; rfl
  · right; rfl
theorem whole_fin (way : Ieee.Toward) (x : Nat) (h : FM.rg sf x < sf.infRung) : ∃ D E, floatToFloatBits .f32 x .f64 = some D ∧ (df.read D).isNaN = false ∧ df.write ((df.read D).integral way) = E ∧ floatToFloatBits .f64 E .f32 = some (FM.wholeW sf way x) := by
  have hr := FM.read_num sf x h
  obtain ⟨D, E, hD, ⟨m, p, hR, hE⟩, m2, p2, hR2, hz, hi⟩ := FM.whole_by_wide way (FM.sg sf x) (FM.rg sf x) h
  refine ⟨D, E, wide_bits x D _ _ _ hr hD (by rw [hR]; rfl), by rw [hR]; rfl, by rw [hR]; exact hE, ?_⟩
  refine narrow_bits E _ m2 (FM.sg sf x) p2 hR2 ?_ ?_
  · unfold FM.wholeW; rw [if_neg (by unfold isN; omega), hr]; exact hz
  · unfold FM.wholeW; rw [if_neg (by unfold isN; omega), hr, ← hz]; exact hi
theorem whole_inf (way : Ieee.Toward) (x : Nat) (hx : x < 4294967296) (h : FM.rg sf x = sf.infRung) : ∃ D E, floatToFloatBits .f32 x .f64 = some D ∧ (df.read D).isNaN = false ∧ df.write ((df.read D).integral way) = E ∧ floatToFloatBits .f64 E .f32 = some (FM.wholeW sf way x) := by
  rcases inf_cases x hx h with rfl | rfl
  · refine ⟨9218868437227405312, 9218868437227405312, by decide +kernel, by decide +kernel, ?_, ?_⟩
    · rw [show df.read 9218868437227405312 = .infinity false from by decide +kernel]; cases way <;> decide +kernel
    · rw [show FM.wholeW sf way 2139095040 = 2139095040 from by cases way <;> decide +kernel]; decide +kernel
  · refine ⟨18442240474082181120, 18442240474082181120, by decide +kernel, by decide +kernel, ?_, ?_⟩
    · rw [show df.read 18442240474082181120 = .infinity true from by decide +kernel]; cases way <;> decide +kernel
    · rw [show FM.wholeW sf way 4286578688 = 4286578688 from by cases way <;> decide +kernel]; decide +kernel
theorem whole_ok (way : Ieee.Toward) (x : Nat) (h : ¬ isN sf x) : fixn sf (FM.wholeW sf way x) = FM.wholeW sf way x ∧ FM.wholeW sf way x < 4294967296 := by
  have e : FM.wholeW sf way x = sf.write ((sf.read x).integral way) := by unfold FM.wholeW; rw [if_neg h]
  rw [e]
  refine ⟨FM.fixn_ok sf _ (FM.rg_write sf _ ?_), Ieee.Format.write_lt sf _⟩
  unfold isN at h
  rcases Nat.lt_or_ge (FM.rg sf x) sf.infRung with h1 | h1
  · rw [FM.read_num sf x h1]; rfl
  · rw [FM.read_inf sf hsf x (by omega)]; rfl
theorem whole_nan (way : Ieee.Toward) (x : Nat) (h : isN sf x) : FM.wholeW sf way x = qn sf := by unfold FM.wholeW; rw [if_pos h]
theorem reshape_141 (x : Nat) (hx : x < 4294967296) (w : World) :
    Calls Try.prog 22 #[.int .i64 141, .float .f32 x] w fun e w' => ∃ b : Nat, e = .returned (.float .f32 b) ∧ Later w w' ∧ (b : Int) < 4294967296 ∧ fixn sf b = unW 141 x := by
  rw [unW_141]
  by_cases h : isN sf x
  · refine (reshape_ceil_nan x h w).mono ?_
    rintro e w' ⟨z, rfl, hl, hz, hb⟩
    exact ⟨z, rfl, hl, Int.ofNat_lt.2 hb, by rw [FM.fixn_nan sf z hz, whole_nan _ x h]⟩
  · have h2 : ∃ D E, floatToFloatBits .f32 x .f64 = some D ∧ (df.read D).isNaN = false ∧ df.write ((df.read D).integral .up) = E ∧ floatToFloatBits .f64 E .f32 = some (FM.wholeW sf .up x) := by
      rcases Nat.lt_or_ge (FM.rg sf x) sf.infRung with h1 | h1
      · exact whole_fin _ x h1
      · exact whole_inf _ x hx (by unfold isN at h; omega)
    obtain ⟨D, E, h3, h4, h5, h6⟩ := h2
    refine (reshape_ceil x D E _ h3 h4 h5 h6 w).mono ?_
    rintro e w' ⟨rfl, rfl⟩
    exact ⟨_, rfl, Later.refl _, Int.ofNat_lt.2 (whole_ok _ x h).2, (whole_ok _ x h).1⟩
theorem reshape_142 (x : Nat) (hx : x < 4294967296) (w : World) :
    Calls Try.prog 22 #[.int .i64 142, .float .f32 x] w fun e w' => ∃ b : Nat, e = .returned (.float .f32 b) ∧ Later w w' ∧ (b : Int) < 4294967296 ∧ fixn sf b = unW 142 x := by
  rw [unW_142]
  by_cases h : isN sf x
  · refine (reshape_floor_nan x h w).mono ?_
    rintro e w' ⟨z, rfl, hl, hz, hb⟩
    exact ⟨z, rfl, hl, Int.ofNat_lt.2 hb, by rw [FM.fixn_nan sf z hz, whole_nan _ x h]⟩
  · have h2 : ∃ D E, floatToFloatBits .f32 x .f64 = some D ∧ (df.read D).isNaN = false ∧ df.write ((df.read D).integral .down) = E ∧ floatToFloatBits .f64 E .f32 = some (FM.wholeW sf .down x) := by
      rcases Nat.lt_or_ge (FM.rg sf x) sf.infRung with h1 | h1
      · exact whole_fin _ x h1
      · exact whole_inf _ x hx (by unfold isN at h; omega)
    obtain ⟨D, E, h3, h4, h5, h6⟩ := h2
    refine (reshape_floor x D E _ h3 h4 h5 h6 w).mono ?_
    rintro e w' ⟨rfl, rfl⟩
    exact ⟨_, rfl, Later.refl _, Int.ofNat_lt.2 (whole_ok _ x h).2, (whole_ok _ x h).1⟩
theorem reshape_143 (x : Nat) (hx : x < 4294967296) (w : World) :
    Calls Try.prog 22 #[.int .i64 143, .float .f32 x] w fun e w' => ∃ b : Nat, e = .returned (.float .f32 b) ∧ Later w w' ∧ (b : Int) < 4294967296 ∧ fixn sf b = unW 143 x := by
  rw [unW_143]
  by_cases h : isN sf x
  · refine (reshape_trunc_nan x h w).mono ?_
    rintro e w' ⟨z, rfl, hl, hz, hb⟩
    exact ⟨z, rfl, hl, Int.ofNat_lt.2 hb, by rw [FM.fixn_nan sf z hz, whole_nan _ x h]⟩
  · have h2 : ∃ D E, floatToFloatBits .f32 x .f64 = some D ∧ (df.read D).isNaN = false ∧ df.write ((df.read D).integral .zero) = E ∧ floatToFloatBits .f64 E .f32 = some (FM.wholeW sf .zero x) := by
      rcases Nat.lt_or_ge (FM.rg sf x) sf.infRung with h1 | h1
      · exact whole_fin _ x h1
      · exact whole_inf _ x hx (by unfold isN at h; omega)
    obtain ⟨D, E, h3, h4, h5, h6⟩ := h2
    refine (reshape_trunc x D E _ h3 h4 h5 h6 w).mono ?_
    rintro e w' ⟨rfl, rfl⟩
    exact ⟨_, rfl, Later.refl _, Int.ofNat_lt.2 (whole_ok _ x h).2, (whole_ok _ x h).1⟩
theorem reshape_144 (x : Nat) (hx : x < 4294967296) (w : World) :
    Calls Try.prog 22 #[.int .i64 144, .float .f32 x] w fun e w' => ∃ b : Nat, e = .returned (.float .f32 b) ∧ Later w w' ∧ (b : Int) < 4294967296 ∧ fixn sf b = unW 144 x := by
  rw [unW_144]
  by_cases h : isN sf x
  · refine (reshape_even_nan x h w).mono ?_
    rintro e w' ⟨z, rfl, hl, hz, hb⟩
    exact ⟨z, rfl, hl, Int.ofNat_lt.2 hb, by rw [FM.fixn_nan sf z hz, whole_nan _ x h]⟩
  · have h2 : ∃ D E, floatToFloatBits .f32 x .f64 = some D ∧ (df.read D).isNaN = false ∧ df.write ((df.read D).integral .even) = E ∧ floatToFloatBits .f64 E .f32 = some (FM.wholeW sf .even x) := by
      rcases Nat.lt_or_ge (FM.rg sf x) sf.infRung with h1 | h1
      · exact whole_fin _ x h1
      · exact whole_inf _ x hx (by unfold isN at h; omega)
    obtain ⟨D, E, h3, h4, h5, h6⟩ := h2
    refine (reshape_even x D E _ h3 h4 h5 h6 w).mono ?_
    rintro e w' ⟨rfl, rfl⟩
    exact ⟨_, rfl, Later.refl _, Int.ofNat_lt.2 (whole_ok _ x h).2, (whole_ok _ x h).1⟩
/-- a root, in the narrow format -/
theorem root_cases (x : Nat) (hx : x < 4294967296) (h : ¬ isN sf x) : (∃ D E, floatToFloatBits .f32 x .f64 = some D ∧ df.sqrt D = some E ∧ floatToFloatBits .f64 E .f32 = some (FM.rootW sf x) ∧ fixn sf (FM.rootW sf x) = FM.rootW sf x ∧ FM.rootW sf x < 4294967296) ∨
    (∃ D, floatToFloatBits .f32 x .f64 = some D ∧ df.sqrt D = none ∧ FM.rootW sf x = qn sf) := by
  rcases Nat.lt_or_ge (FM.rg sf x) sf.infRung with h1 | h1
  · rcases Nat.eq_zero_or_pos (FM.rg sf x) with h0 | h0
    · obtain ⟨s, r, e, h3, h4, h5⟩ := FM.parts32 x hx
      rw [h0] at h5
      rw [← h5, FM.word32] at e
      left
      cases s
      · have e' : x = 0 := e
        subst e'
        exact ⟨0, 0, by decide +kernel, by decide +kernel, by decide +kernel, by decide +kernel, by decide +kernel⟩
      · have e' : x = 2147483648 := e
        subst e'
        exact ⟨9223372036854775808, 9223372036854775808, by decide +kernel, by decide +kernel, by decide +kernel, by decide +kernel, by decide +kernel⟩
    · have hr := FM.read_num sf x h1
      cases hs : FM.sg sf x with
      | false =>
        left
        rw [hs] at hr
        obtain ⟨D, m', p', W, E, m2, p2, z, g1, g2, g3, g4, g5, g6, g7, g8⟩ := FM.root_by_wide (FM.rg sf x) h0 h1
        have hz : sf.sqrt x = some z := by
          unfold Ieee.Format.sqrt; rw [hr]; exact g7
        have hz' : FM.rootW sf x = z := by unfold FM.rootW; rw [hz]; rfl
        rw [hz']
        refine ⟨D, E, wide_bits x D _ _ _ hr g1 (by rw [g2]; rfl), ?_, narrow_bits E z m2 false p2 g5 g6 g8, FM.sqrt_ok sf hz, Ieee.Format.sqrt_lt sf hz⟩
        show ((df.read D).root 54).map df.write = some E
        rw [g2, g3, ← g4]; rfl
      | true =>
        right
        rw [hs] at hr
        have hm0 : FM.mag sf (FM.rg sf x) ≠ 0 := by rw [Ne, FM.mag_zero]; omega
        have hz : FM.rootW sf x = qn sf := by
          unfold FM.rootW Ieee.Format.sqrt; rw [hr]; unfold Ieee.Datum.root; dsimp only; rw [if_neg hm0, if_pos rfl]; rfl
        have hm : FM.mag sf (FM.rg sf x) < 16777216 := FM.mag_single (FM.rg sf x)
        have hp : FM.plc sf (FM.rg sf x) ≤ 104 := FM.plc_single (FM.rg sf x) h1
        have hp0 := FM.plc_ge sf (FM.rg sf x)
        rw [FM.least_single] at hp0
        obtain ⟨v1, i1⟩ := FM.wide_exact (FM.mag sf (FM.rg sf x)) (FM.plc sf (FM.rg sf x)) (by omega) (by omega) (by omega)
        have hR := FM.read_wide true _ i1
        have hD : df.write (.number true (FM.mag sf (FM.rg sf x)) (FM.plc sf (FM.rg sf x))) = df.word true (FM.near df (FM.mag sf (FM.rg sf x)) (FM.plc sf (FM.rg sf x))) := FM.nearest_near _ _ _ _
        refine ⟨_, wide_bits x _ _ _ _ hr hD (by rw [hR]; rfl), ?_, hz⟩
        show ((df.read _).root 54).map df.write = none
        rw [hR]
        have hm1 : FM.mag df (FM.near df (FM.mag sf (FM.rg sf x)) (FM.plc sf (FM.rg sf x))) ≠ 0 := by
          rw [Ne, FM.mag_zero]
          intro hh
          rw [hh, FM.val_zero] at v1
          rcases Nat.mul_eq_zero.1 v1.symm with h6 | h6
          · exact hm0 h6
          · have := Nat.two_pow_pos (FM.plc sf (FM.rg sf x) + 1074).toNat
            omega
        unfold Ieee.Datum.root; dsimp only; rw [if_neg hm1, if_pos rfl]; rfl
  · rcases inf_cases x hx (by unfold isN at h; omega) with rfl | rfl
    · left
      exact ⟨9218868437227405312, 9218868437227405312, by decide +kernel, by decide +kernel, by decide +kernel, by decide +kernel, by decide +kernel⟩
    · right
      exact ⟨18442240474082181120, by decide +kernel, by decide +kernel, by decide +kernel⟩
theorem root_nan (x : Nat) (h : isN sf x) : FM.rootW sf x = qn sf := by
  have e : sf.sqrt x = none := by
    unfold Ieee.Format.sqrt; rw [FM.read_nan sf hsf x h]; unfold Ieee.Datum.root; dsimp only; exact Option.map_none _
  unfold FM.rootW FM.fixo; rw [e, Option.getD_none]
theorem root_all (x R : Nat) (hx : x < 4294967296) (hR : FM.rootW sf x = R) : (isN sf x ∧ R = qn sf) ∨ (∃ D E, floatToFloatBits .f32 x .f64 = some D ∧ df.sqrt D = some E ∧ floatToFloatBits .f64 E .f32 = some R ∧ fixn sf R = R ∧ R < 4294967296) ∨
    (∃ D, floatToFloatBits .f32 x .f64 = some D ∧ df.sqrt D = none ∧ R = qn sf) := by
  subst hR
  by_cases h : isN sf x
  · exact Or.inl ⟨h, root_nan x h⟩
  · exact Or.inr (root_cases x hx h)
theorem reshape_145 (x R : Nat) (hx : x < 4294967296) (hR : FM.rootW sf x = R) (w : World) :
    Calls Try.prog 22 #[.int .i64 145, .float .f32 x] w fun e w' => ∃ b : Nat, e = .returned (.float .f32 b) ∧ Later w w' ∧ (b : Int) < 4294967296 ∧ fixn sf b = R := by
  rcases root_all x R hx hR with ⟨h, h0⟩ | ⟨D, E, h1, h2, h3, h4, h5⟩ | ⟨D, h1, h2, h3⟩
  · clear hR
    refine (reshape_sqrt_nan x h w).mono ?_
    rintro e w' ⟨z, rfl, hl, hz, hb⟩
    exact ⟨z, rfl, hl, Int.ofNat_lt.2 hb, by rw [FM.fixn_nan sf z hz, h0]⟩
  · clear hR
    refine (reshape_sqrt x D E _ h1 h2 h3 w).mono ?_
    rintro e w' ⟨rfl, rfl⟩
    exact ⟨R, rfl, Later.refl _, Int.ofNat_lt.2 h5, h4⟩
  · clear hR
    refine (reshape_sqrt_neg x D h1 h2 w).mono ?_
    rintro e w' ⟨z, rfl, hl, hz, hb⟩
    exact ⟨z, rfl, hl, Int.ofNat_lt.2 hb, by rw [FM.fixn_nan sf z hz, h3]⟩
end Go.Proofs.Ytobhihggdoccoaa
