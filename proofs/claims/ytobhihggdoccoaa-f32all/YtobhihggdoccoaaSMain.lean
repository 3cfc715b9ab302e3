/- Over this seat's translation: the document's sums, products, quotients, roots and whole numbers of all floats are the model's. -/
import Derived.Test.YtobhihggdoccoaaSOk3
import Derived.Test.YtobhihggdoccoaaSUn
import Derived.Test.YtobhihggdoccoaaFGlue
import Derived.Test.YtobhihggdoccoaaFLaw2
import Derived.Test.YtobhihggdoccoaaFBits
namespace Go.Proofs.Ytobhihggdoccoaa.S
open Go.RowKit
open Go.FM (W64 two bl lost isN qn)
set_option linter.unusedVariables false

theorem fixo_none' : ((FM.fixo ff none : Nat) : Int) = 2143289344 := by decide +kernel
theorem fixo_some (z : Nat) : FM.fixo ff (some z) = z := rfl
theorem inf_word (s : Bool) : sgn s + 2139095040 = ((ff.word s ff.infRung : Nat) : Int) := by cases s <;> decide +kernel
theorem zero_word (s : Bool) : sgn s = ((ff.word s 0 : Nat) : Int) := by cases s <;> decide +kernel
theorem near0 (s : Bool) (e : Int) : ff.nearest s 0 e = ff.word s 0 := by rw [FM.nearest_near, FM.near_zero]
theorem plc_top (r : Nat) (h : r < ff.infRung) : FM.plc ff r ≤ 3000 := by
  unfold FM.plc
  rw [ff_inf] at h
  rw [ff_bin, ff_least]
  split <;> omega
theorem fb : ff.fractionBits ≤ 52 := by decide
/-- a datum, and a float taken apart -/
abbrev RelD (d : Ieee.Datum) (s i1 n1 : Bool) (m i : Int) : Prop :=
  match d with
  | .number s' M I => s' = s ∧ i1 = false ∧ n1 = false ∧ m = (M : Int) ∧ I = i ∧ M < 16777216 ∧ (-3000 ≤ I ∧ I ≤ 3000) ∧ (I = -149 ∨ 8388608 ≤ M) ∧ -149 ≤ I
  | .infinity s' => s' = s ∧ i1 = true ∧ n1 = false
  | .nan s' _ => s' = s ∧ i1 = false ∧ n1 = true
theorem apart_ex (x : Nat) (hx : x < 4294967296) : ∃ (i1 n1 : Bool) (m i : Int), RelD (ff.read x) (FM.sg ff x) i1 n1 m i ∧ (n1 = true ↔ isN ff x) ∧
    Hid (∀ w : World, Calls Try.prog 52 #[fm, .int .u64 (x : Nat)] w fun e w' => e = .returned (fv (FM.sg ff x) i1 n1 m i) ∧ Later w w') := by
  rcases Nat.lt_trichotomy (FM.rg ff x) ff.infRung with h | h | h
  · refine ⟨false, false, (FM.mag ff (FM.rg ff x) : Nat), FM.plc ff (FM.rg ff x), ?_, ?_, apart_fin x hx h⟩
    · rw [FM.read_num ff x h]
      have h1 := FM.mag_lt ff (FM.rg ff x)
      have h2 := plc_top _ h
      have h3 := FM.plc_ge ff (FM.rg ff x)
      have h4 := FM.mag_ge ff (FM.rg ff x)
      rw [ff_bin] at h1 h4
      rw [ff_least] at h3 h4
      exact ⟨rfl, rfl, rfl, rfl, rfl, by omega, ⟨by omega, h2⟩, h4, h3⟩
    · refine ⟨fun h' => (by cases h'), fun h' => ?_⟩
      unfold isN at h'; omega
  · refine ⟨true, false, 0, 0, ?_, ?_, apart_inf x hx h⟩
    · rw [FM.read_inf ff hff x h]; exact ⟨rfl, rfl, rfl⟩
    · refine ⟨fun h' => (by cases h'), fun h' => ?_⟩
      unfold isN at h'; omega
  · refine ⟨false, true, _, 0, ?_, ⟨fun _ => h, fun _ => rfl⟩, apart_nan x hx h⟩
    rw [FM.read_nan ff hff x h]; exact ⟨rfl, rfl, rfl⟩
theorem sum_nl (s : Bool) (q : Nat) (b : Ieee.Datum) : Ieee.Datum.sum (.nan s q) b = none := by cases b <;> rfl
theorem sum_nr (s : Bool) (q : Nat) (a : Ieee.Datum) : Ieee.Datum.sum a (.nan s q) = none := by cases a <;> rfl
theorem product_nl (s : Bool) (q : Nat) (b : Ieee.Datum) : Ieee.Datum.product (.nan s q) b = none := by cases b <;> rfl
theorem product_nr (s : Bool) (q : Nat) (a : Ieee.Datum) : Ieee.Datum.product a (.nan s q) = none := by cases a <;> rfl
theorem quotient_nl (d : Nat) (s : Bool) (q : Nat) (b : Ieee.Datum) : Ieee.Datum.quotient d (.nan s q) b = none := by cases b <;> rfl
theorem quotient_nr (d : Nat) (s : Bool) (q : Nat) (a : Ieee.Datum) : Ieee.Datum.quotient d a (.nan s q) = none := by cases a <;> rfl
theorem nz {M : Nat} (h : M ≠ 0) : (((M : Nat) : Int) == 0) = false := beq_eq_false_iff_ne.2 (by omega)
theorem nz2 {M : Nat} (h : M ≠ 0) : ¬ ((M : Nat) : Int) = 0 := by omega
theorem sum_all (a b : Ieee.Datum) (s t i1 n1 i2 n2 : Bool) (m n i j : Int) (ha : RelD a s i1 n1 m i) (hb : RelD b t i2 n2 n j) (w : World) :
    Calls Try.prog 56 #[fm, fv s i1 n1 m i, fv t i2 n2 n j] w fun e w' => e = .returned (.int .u64 ((FM.fixo ff ((a.sum b).map ff.write) : Nat) : Int)) ∧ Later w w' := by
  cases a with
  | nan s' q =>
    obtain ⟨rfl, rfl, rfl⟩ := ha
    rw [sum_nl, Option.map_none, fixo_none']
    exact sum_nan1 _ _ _ _ _ _ _ _ _ w
  | infinity s' =>
    obtain ⟨rfl, rfl, rfl⟩ := ha
    cases b with
    | nan t' q =>
      obtain ⟨rfl, rfl, rfl⟩ := hb
      rw [sum_nr, Option.map_none, fixo_none']
      exact sum_nan2 _ _ _ _ _ _ _ _ w
    | infinity t' =>
      obtain ⟨rfl, rfl, rfl⟩ := hb
      by_cases h : s' = t'
      · subst h
        have e : Ieee.Datum.sum (.infinity s') (.infinity s') = some (.infinity s') := if_pos rfl
        rw [e]
        have := sum_inf1 s' m n i j w
        rw [inf_word] at this
        exact this
      · have h2 : t' = !s' := by revert h; cases s' <;> cases t' <;> simp
        subst h2
        have e : Ieee.Datum.sum (.infinity s') (.infinity (!s')) = none := if_neg h
        rw [e, Option.map_none, fixo_none']
        exact sum_nan3 s' m n i j w
    | number t' M I =>
      obtain ⟨rfl, rfl, rfl, rfl, rfl, -⟩ := hb
      have := sum_inf2 s' t' m (M : Int) i I w
      rw [inf_word] at this
      exact this
  | number s' M I =>
    obtain ⟨rfl, rfl, rfl, rfl, rfl, b1, b2, b3, b4⟩ := ha
    cases b with
    | nan t' q =>
      obtain ⟨rfl, rfl, rfl⟩ := hb
      rw [sum_nr, Option.map_none, fixo_none']
      exact sum_nan2 _ _ _ _ _ _ _ _ w
    | infinity t' =>
      obtain ⟨rfl, rfl, rfl⟩ := hb
      have := sum_inf3 t' s' (M : Int) n I j w
      rw [inf_word] at this
      exact this
    | number t' N J =>
      obtain ⟨rfl, rfl, rfl, rfl, rfl, c1, c2, c3, c4⟩ := hb
      obtain ⟨z, hz⟩ : ∃ z, (Ieee.Datum.sum (.number s' M I) (.number t' N J)).map ff.write = some z := ⟨_, rfl⟩
      rw [hz]
      exact sum_fin0 s' t' _ _ _ _ z (add_ok s' t' M N z I J b1 c1 b2 c2 b3 c3 b4 c4 hz) w
theorem product_all (a b : Ieee.Datum) (s t i1 n1 i2 n2 : Bool) (m n i j : Int) (ha : RelD a s i1 n1 m i) (hb : RelD b t i2 n2 n j) (w : World) :
    Calls Try.prog 57 #[fm, fv s i1 n1 m i, fv t i2 n2 n j] w fun e w' => e = .returned (.int .u64 ((FM.fixo ff ((a.product b).map ff.write) : Nat) : Int)) ∧ Later w w' := by
  cases a with
  | nan s' q =>
    obtain ⟨rfl, rfl, rfl⟩ := ha
    rw [product_nl, Option.map_none, fixo_none']
    exact product_nan1 _ _ _ _ _ _ _ _ _ w
  | infinity s' =>
    obtain ⟨rfl, rfl, rfl⟩ := ha
    cases b with
    | nan t' q =>
      obtain ⟨rfl, rfl, rfl⟩ := hb
      rw [product_nr, Option.map_none, fixo_none']
      exact product_nan2 _ _ _ _ _ _ _ w
    | infinity t' =>
      obtain ⟨rfl, rfl, rfl⟩ := hb
      have := product_inf1 s' t' m n i j _ (xor_ne s' t') w
      rw [inf_word] at this
      exact this
    | number t' M I =>
      obtain ⟨rfl, rfl, rfl, rfl, rfl, -⟩ := hb
      by_cases h : M = 0
      · subst h
        rw [show Ieee.Datum.product (.infinity s') (.number t' 0 I) = none from rfl, Option.map_none, fixo_none']
        exact product_nan3 s' t' m i I w
      · rw [show Ieee.Datum.product (.infinity s') (.number t' M I) = some (.infinity (s' ^^ t')) from if_neg h]
        have := product_inf2 s' t' m (M : Int) i I _ (xor_ne s' t') (nz h) w
        rw [inf_word] at this
        exact this
  | number s' M I =>
    obtain ⟨rfl, rfl, rfl, rfl, rfl, b1, b2, b3, b4⟩ := ha
    cases b with
    | nan t' q =>
      obtain ⟨rfl, rfl, rfl⟩ := hb
      rw [product_nr, Option.map_none, fixo_none']
      exact product_nan2 _ _ _ _ _ _ _ w
    | infinity t' =>
      obtain ⟨rfl, rfl, rfl⟩ := hb
      by_cases h : M = 0
      · subst h
        rw [show Ieee.Datum.product (.number s' 0 I) (.infinity t') = none from rfl, Option.map_none, fixo_none']
        exact product_nan4 s' t' n I j w
      · rw [show Ieee.Datum.product (.number s' M I) (.infinity t') = some (.infinity (t' ^^ s')) from if_neg h, Bool.xor_comm]
        have := product_inf3 s' t' (M : Int) n I j _ (xor_ne s' t') (nz h) w
        rw [inf_word] at this
        exact this
    | number t' N J =>
      obtain ⟨rfl, rfl, rfl, rfl, rfl, c1, c2, c3, c4⟩ := hb
      exact product_ok s' t' M N I J b1 c1 b2 c2 w
theorem quotient_all (x y : Nat) (s t i1 n1 i2 n2 : Bool) (m n i j : Int) (ha : RelD (ff.read x) s i1 n1 m i) (hb : RelD (ff.read y) t i2 n2 n j) (w : World) :
    Calls Try.prog 58 #[fm, fv s i1 n1 m i, fv t i2 n2 n j] w fun e w' => e = .returned (.int .u64 ((FM.fixo ff (ff.div x y) : Nat) : Int)) ∧ Later w w' := by
  have hd : ff.div x y = ((ff.read x).quotient (ff.fractionBits + 2) (ff.read y)).map ff.write := rfl
  cases hxa : ff.read x with
  | nan s' q =>
    rw [hxa] at ha hd
    obtain ⟨rfl, rfl, rfl⟩ := ha
    rw [hd, quotient_nl, Option.map_none, fixo_none']
    exact quo_nan1 _ _ _ _ _ _ _ _ _ w
  | infinity s' =>
    rw [hxa] at ha hd
    obtain ⟨rfl, rfl, rfl⟩ := ha
    cases hyb : ff.read y with
    | nan t' q =>
      rw [hyb] at hb hd
      obtain ⟨rfl, rfl, rfl⟩ := hb
      rw [hd, quotient_nr, Option.map_none, fixo_none']
      exact quo_nan2 _ _ _ _ _ _ _ w
    | infinity t' =>
      rw [hyb] at hb hd
      obtain ⟨rfl, rfl, rfl⟩ := hb
      rw [hd, show Ieee.Datum.quotient (ff.fractionBits + 2) (.infinity s') (.infinity t') = none from rfl, Option.map_none, fixo_none']
      exact quo_nan3 _ _ _ _ _ _ w
    | number t' M I =>
      rw [hyb] at hb hd
      obtain ⟨rfl, rfl, rfl, rfl, rfl, -⟩ := hb
      rw [hd, show Ieee.Datum.quotient (ff.fractionBits + 2) (.infinity s') (.number t' M I) = some (.infinity (s' ^^ t')) from rfl]
      have := quo_inf1 s' t' m (M : Int) i I _ (xor_ne s' t') w
      rw [inf_word] at this
      exact this
  | number s' M I =>
    rw [hxa] at ha hd
    obtain ⟨rfl, rfl, rfl, rfl, rfl, b1, b2, b3, b4⟩ := ha
    cases hyb : ff.read y with
    | nan t' q =>
      rw [hyb] at hb hd
      obtain ⟨rfl, rfl, rfl⟩ := hb
      rw [hd, quotient_nr, Option.map_none, fixo_none']
      exact quo_nan2 _ _ _ _ _ _ _ w
    | infinity t' =>
      rw [hyb] at hb hd
      obtain ⟨rfl, rfl, rfl⟩ := hb
      have e : ff.div x y = some (ff.word (s' ^^ t') 0) := by
        rw [hd, show Ieee.Datum.quotient (ff.fractionBits + 2) (.number s' M I) (.infinity t') = some (.number (s' ^^ t') 0 0) from rfl, Option.map_some]
        show some (ff.nearest _ 0 0) = _
        rw [near0]
      rw [e, fixo_some]
      have := quo_zero1 s' t' (M : Int) n I j _ (xor_ne s' t') w
      rw [zero_word] at this
      exact this
    | number t' N J =>
      rw [hyb] at hb hd
      obtain ⟨rfl, rfl, rfl, rfl, rfl, c1, c2, c3, c4⟩ := hb
      by_cases hN : N = 0
      · subst hN
        by_cases hM : M = 0
        · subst hM
          rw [hd, show Ieee.Datum.quotient (ff.fractionBits + 2) (.number s' 0 I) (.number t' 0 J) = none from rfl, Option.map_none, fixo_none']
          exact quo_nan4 s' t' I J w
        · have e : Ieee.Datum.quotient (ff.fractionBits + 2) (.number s' M I) (.number t' 0 J) = some (.infinity (s' ^^ t')) := by
            unfold Ieee.Datum.quotient
            dsimp only
            rw [if_pos rfl, if_neg hM]
          rw [hd, e]
          have := quo_inf2 s' t' (M : Int) I J _ (xor_ne s' t') (nz hM) (nz2 hM) w
          rw [inf_word] at this
          exact this
      · by_cases hM : M = 0
        · subst hM
          obtain ⟨E, e⟩ : ∃ E, Ieee.Datum.quotient (ff.fractionBits + 2) (.number s' 0 I) (.number t' N J) = some (.number (s' ^^ t') 0 E) := by
            unfold Ieee.Datum.quotient
            dsimp only
            rw [if_neg hN, Nat.zero_shiftLeft, Nat.zero_div, Nat.zero_mod]
            exact ⟨_, rfl⟩
          have e2 : ff.div x y = some (ff.word (s' ^^ t') 0) := by
            rw [hd, e, Option.map_some]
            show some (ff.nearest _ 0 E) = _
            rw [near0]
          rw [e2, fixo_some]
          have := quo_zero2 s' t' (N : Int) I J _ (xor_ne s' t') (nz hN) (nz2 hN) w
          rw [zero_word] at this
          exact this
        · have e := FM.glue_div ff x y M N s' t' I J hxa hyb hM hN (by rw [ff_bin]; omega) (by rw [ff_bin]; omega) fb
          rw [e, fixo_some]
          exact quotient_ok s' t' M N I J hM hN b1 c1 b2 c2 w
theorem root_all (x : Nat) (s i1 n1 : Bool) (m i : Int) (ha : RelD (ff.read x) s i1 n1 m i) (w : World) :
    Calls Try.prog 51 #[fm, fv s i1 n1 m i] w fun e w' => e = .returned (.int .u64 ((FM.rootW ff x : Nat) : Int)) ∧ Later w w' := by
  unfold FM.rootW
  have hd : ff.sqrt x = ((ff.read x).root (ff.fractionBits + 2)).map ff.write := rfl
  cases hxa : ff.read x with
  | nan s' q =>
    rw [hxa] at ha hd
    obtain ⟨rfl, rfl, rfl⟩ := ha
    rw [hd, show Ieee.Datum.root (ff.fractionBits + 2) (.nan s' q) = none from rfl, Option.map_none, fixo_none']
    exact root_nan1 _ _ _ _ w
  | infinity s' =>
    rw [hxa] at ha hd
    obtain ⟨rfl, rfl, rfl⟩ := ha
    cases s'
    · rw [hd, show Ieee.Datum.root (ff.fractionBits + 2) (.infinity false) = some (.infinity false) from rfl]
      have := root_inf0 m i w
      rw [inf_word] at this
      exact this
    · rw [hd, show Ieee.Datum.root (ff.fractionBits + 2) (.infinity true) = none from rfl, Option.map_none, fixo_none']
      exact root_nan2 _ _ w
  | number s' M I =>
    rw [hxa] at ha hd
    obtain ⟨rfl, rfl, rfl, rfl, rfl, b1, b2, b3, b4⟩ := ha
    by_cases hM : M = 0
    · subst hM
      have e : ff.sqrt x = some (ff.word s' 0) := by
        rw [hd, show Ieee.Datum.root (ff.fractionBits + 2) (.number s' 0 I) = some (.number s' 0 I) from rfl, Option.map_some]
        show some (ff.nearest _ 0 I) = _
        rw [near0]
      rw [e, fixo_some]
      cases s'
      · have := root_nil_false I w
        rw [zero_word] at this
        exact this
      · have := root_nil_true I w
        rw [zero_word] at this
        exact this
    · cases s'
      · obtain ⟨z, hz⟩ : ∃ z, ff.sqrt x = some z := by
          rw [hd]
          unfold Ieee.Datum.root
          dsimp only
          rw [if_neg hM, if_neg (by decide)]
          exact ⟨_, rfl⟩
        rw [hz, fixo_some]
        exact root_ok x M z I hxa hM b1 b2 hz w
      · have e : Ieee.Datum.root (ff.fractionBits + 2) (.number true M I) = none := by
          unfold Ieee.Datum.root
          dsimp only
          rw [if_neg hM, if_pos rfl]
        rw [hd, e, Option.map_none, fixo_none']
        exact root_nan3 _ _ (nz hM) (nz2 hM) w
theorem whole_up_all (x : Nat) (hx : x < 4294967296) (w : World) :
    Calls Try.prog 53 #[fm, .int .i64 0, .int .u64 (x : Nat)] w fun e w' => e = .returned (.int .u64 ((FM.wholeW ff .up x : Nat) : Int)) ∧ Later w w' := by
  have hx2 : x < 2 * ff.signWeight := by rw [ff_sw]; omega
  rcases Nat.lt_trichotomy (FM.rg ff x) ff.infRung with h | h | h
  · have ha : Hid (∀ w : World, _) := apart_fin x hx h
    by_cases hm : FM.mag ff (FM.rg ff x) = 0
    · rw [FM.glue_stay ff _ x hx2 h (Or.inl hm)]
      rw [hm] at ha
      exact whole_nil 0 _ _ _ ha w
    by_cases hp : 0 ≤ FM.plc ff (FM.rg ff x)
    · rw [FM.glue_stay ff _ x hx2 h (Or.inr hp)]
      exact whole_int 0 _ _ _ _ ha (nz hm) (nz2 hm) hp w
    · have h1 := FM.mag_lt ff (FM.rg ff x)
      have h3 := FM.plc_ge ff (FM.rg ff x)
      rw [ff_bin] at h1
      rw [ff_least] at h3
      have := whole_up_ok x _ _ _ ha hm (by omega) ⟨by omega, by omega⟩ w
      have e : FM.wholeW ff .up x = ff.nearest (FM.sg ff x) (Ieee.Toward.up.cut (FM.sg ff x) (FM.mag ff (FM.rg ff x) <<< (FM.plc ff (FM.rg ff x)).toNat) (-(FM.plc ff (FM.rg ff x))).toNat) 0 := by
        unfold FM.wholeW
        rw [if_neg (by unfold isN; omega), FM.read_num ff x h]
        rfl
      rw [e]
      exact this
  · have ha : Hid (∀ w : World, _) := apart_inf x hx h
    have e : FM.wholeW ff .up x = x := by
      unfold FM.wholeW
      rw [if_neg (by unfold isN; omega), FM.read_inf ff hff x h]
      show ff.word (FM.sg ff x) ff.infRung = x
      rw [← h]
      exact FM.word_parts ff x hx2
    rw [e]
    exact whole_inf0 0 _ _ _ _ ha w
  · have ha : Hid (∀ w : World, _) := apart_nan x hx h
    have e : ((FM.wholeW ff .up x : Nat) : Int) = 2143289344 := by
      unfold FM.wholeW
      rw [if_pos h]
      exact fixo_none'
    rw [e]
    exact whole_nan0 0 _ _ _ _ _ ha w
theorem whole_down_all (x : Nat) (hx : x < 4294967296) (w : World) :
    Calls Try.prog 53 #[fm, .int .i64 1, .int .u64 (x : Nat)] w fun e w' => e = .returned (.int .u64 ((FM.wholeW ff .down x : Nat) : Int)) ∧ Later w w' := by
  have hx2 : x < 2 * ff.signWeight := by rw [ff_sw]; omega
  rcases Nat.lt_trichotomy (FM.rg ff x) ff.infRung with h | h | h
  · have ha : Hid (∀ w : World, _) := apart_fin x hx h
    by_cases hm : FM.mag ff (FM.rg ff x) = 0
    · rw [FM.glue_stay ff _ x hx2 h (Or.inl hm)]
      rw [hm] at ha
      exact whole_nil 1 _ _ _ ha w
    by_cases hp : 0 ≤ FM.plc ff (FM.rg ff x)
    · rw [FM.glue_stay ff _ x hx2 h (Or.inr hp)]
      exact whole_int 1 _ _ _ _ ha (nz hm) (nz2 hm) hp w
    · have h1 := FM.mag_lt ff (FM.rg ff x)
      have h3 := FM.plc_ge ff (FM.rg ff x)
      rw [ff_bin] at h1
      rw [ff_least] at h3
      have := whole_down_ok x _ _ _ ha hm (by omega) ⟨by omega, by omega⟩ w
      have e : FM.wholeW ff .down x = ff.nearest (FM.sg ff x) (Ieee.Toward.down.cut (FM.sg ff x) (FM.mag ff (FM.rg ff x) <<< (FM.plc ff (FM.rg ff x)).toNat) (-(FM.plc ff (FM.rg ff x))).toNat) 0 := by
        unfold FM.wholeW
        rw [if_neg (by unfold isN; omega), FM.read_num ff x h]
        rfl
      rw [e]
      exact this
  · have ha : Hid (∀ w : World, _) := apart_inf x hx h
    have e : FM.wholeW ff .down x = x := by
      unfold FM.wholeW
      rw [if_neg (by unfold isN; omega), FM.read_inf ff hff x h]
      show ff.word (FM.sg ff x) ff.infRung = x
      rw [← h]
      exact FM.word_parts ff x hx2
    rw [e]
    exact whole_inf0 1 _ _ _ _ ha w
  · have ha : Hid (∀ w : World, _) := apart_nan x hx h
    have e : ((FM.wholeW ff .down x : Nat) : Int) = 2143289344 := by
      unfold FM.wholeW
      rw [if_pos h]
      exact fixo_none'
    rw [e]
    exact whole_nan0 1 _ _ _ _ _ ha w
theorem whole_zero_all (x : Nat) (hx : x < 4294967296) (w : World) :
    Calls Try.prog 53 #[fm, .int .i64 2, .int .u64 (x : Nat)] w fun e w' => e = .returned (.int .u64 ((FM.wholeW ff .zero x : Nat) : Int)) ∧ Later w w' := by
  have hx2 : x < 2 * ff.signWeight := by rw [ff_sw]; omega
  rcases Nat.lt_trichotomy (FM.rg ff x) ff.infRung with h | h | h
  · have ha : Hid (∀ w : World, _) := apart_fin x hx h
    by_cases hm : FM.mag ff (FM.rg ff x) = 0
    · rw [FM.glue_stay ff _ x hx2 h (Or.inl hm)]
      rw [hm] at ha
      exact whole_nil 2 _ _ _ ha w
    by_cases hp : 0 ≤ FM.plc ff (FM.rg ff x)
    · rw [FM.glue_stay ff _ x hx2 h (Or.inr hp)]
      exact whole_int 2 _ _ _ _ ha (nz hm) (nz2 hm) hp w
    · have h1 := FM.mag_lt ff (FM.rg ff x)
      have h3 := FM.plc_ge ff (FM.rg ff x)
      rw [ff_bin] at h1
      rw [ff_least] at h3
      have := whole_zero_ok x _ _ _ ha hm (by omega) ⟨by omega, by omega⟩ w
      have e : FM.wholeW ff .zero x = ff.nearest (FM.sg ff x) (Ieee.Toward.zero.cut (FM.sg ff x) (FM.mag ff (FM.rg ff x) <<< (FM.plc ff (FM.rg ff x)).toNat) (-(FM.plc ff (FM.rg ff x))).toNat) 0 := by
        unfold FM.wholeW
        rw [if_neg (by unfold isN; omega), FM.read_num ff x h]
        rfl
      rw [e]
      exact this
  · have ha : Hid (∀ w : World, _) := apart_inf x hx h
    have e : FM.wholeW ff .zero x = x := by
      unfold FM.wholeW
      rw [if_neg (by unfold isN; omega), FM.read_inf ff hff x h]
      show ff.word (FM.sg ff x) ff.infRung = x
      rw [← h]
      exact FM.word_parts ff x hx2
    rw [e]
    exact whole_inf0 2 _ _ _ _ ha w
  · have ha : Hid (∀ w : World, _) := apart_nan x hx h
    have e : ((FM.wholeW ff .zero x : Nat) : Int) = 2143289344 := by
      unfold FM.wholeW
      rw [if_pos h]
      exact fixo_none'
    rw [e]
    exact whole_nan0 2 _ _ _ _ _ ha w
theorem whole_even_all (x : Nat) (hx : x < 4294967296) (w : World) :
    Calls Try.prog 53 #[fm, .int .i64 3, .int .u64 (x : Nat)] w fun e w' => e = .returned (.int .u64 ((FM.wholeW ff .even x : Nat) : Int)) ∧ Later w w' := by
  have hx2 : x < 2 * ff.signWeight := by rw [ff_sw]; omega
  rcases Nat.lt_trichotomy (FM.rg ff x) ff.infRung with h | h | h
  · have ha : Hid (∀ w : World, _) := apart_fin x hx h
    by_cases hm : FM.mag ff (FM.rg ff x) = 0
    · rw [FM.glue_stay ff _ x hx2 h (Or.inl hm)]
      rw [hm] at ha
      exact whole_nil 3 _ _ _ ha w
    by_cases hp : 0 ≤ FM.plc ff (FM.rg ff x)
    · rw [FM.glue_stay ff _ x hx2 h (Or.inr hp)]
      exact whole_int 3 _ _ _ _ ha (nz hm) (nz2 hm) hp w
    · have h1 := FM.mag_lt ff (FM.rg ff x)
      have h3 := FM.plc_ge ff (FM.rg ff x)
      rw [ff_bin] at h1
      rw [ff_least] at h3
      have := whole_even_ok x _ _ _ ha hm (by omega) ⟨by omega, by omega⟩ w
      have e : FM.wholeW ff .even x = ff.nearest (FM.sg ff x) (Ieee.Toward.even.cut (FM.sg ff x) (FM.mag ff (FM.rg ff x) <<< (FM.plc ff (FM.rg ff x)).toNat) (-(FM.plc ff (FM.rg ff x))).toNat) 0 := by
        unfold FM.wholeW
        rw [if_neg (by unfold isN; omega), FM.read_num ff x h]
        rfl
      rw [e]
      exact this
  · have ha : Hid (∀ w : World, _) := apart_inf x hx h
    have e : FM.wholeW ff .even x = x := by
      unfold FM.wholeW
      rw [if_neg (by unfold isN; omega), FM.read_inf ff hff x h]
      show ff.word (FM.sg ff x) ff.infRung = x
      rw [← h]
      exact FM.word_parts ff x hx2
    rw [e]
    exact whole_inf0 3 _ _ _ _ ha w
  · have ha : Hid (∀ w : World, _) := apart_nan x hx h
    have e : ((FM.wholeW ff .even x : Nat) : Int) = 2143289344 := by
      unfold FM.wholeW
      rw [if_pos h]
      exact fixo_none'
    rw [e]
    exact whole_nan0 3 _ _ _ _ _ ha w
theorem andNot_sg (x : Nat) (hx : x < 4294967296) : bits .andNot .u64 (x : Int) 2147483648 = ((x % 2147483648 : Nat) : Int) := by
  show IntKind.u64.wrap ((BitVec.ofInt 64 (x : Int) &&& ~~~BitVec.ofInt 64 ((2147483648 : Nat) : Int)).toNat : Int) = _
  have e : (BitVec.ofInt 64 (x : Int) &&& ~~~BitVec.ofInt 64 ((2147483648 : Nat) : Int)).toNat = x % 2147483648 := by
    apply Nat.eq_of_testBit_eq
    intro i
    have h1 : BitVec.ofInt 64 ((2147483648 : Nat) : Int) = BitVec.twoPow 64 31 := by decide
    rw [BitVec.toNat_and, Nat.testBit_and, FM.ofInt_u x (by simp only [W64]; omega), h1, show (2147483648 : Nat) = 2 ^ 31 from by decide, Nat.testBit_mod_two_pow]
    rcases Nat.lt_or_ge i 32 with h | h
    · rw [BitVec.testBit_toNat, BitVec.getLsbD_not, BitVec.getLsbD_twoPow]
      have h3 : i < 64 := by omega
      by_cases h2 : i = 31
      · subst h2; simp
      · have : i < 31 := by omega
        simp [this, h3, show ¬ 31 = i from by omega]
    · have : x.testBit i = false := Nat.testBit_lt_two_pow (Nat.lt_of_lt_of_le hx (by rw [show (4294967296 : Nat) = 2 ^ 32 from by decide]; exact Nat.pow_le_pow_right (by decide) h))
      rw [this]; simp
  rw [e, IntKind.wrap_u64]; omega
/-- what the document makes of one float, by its number -/
def unF (k : Int) (x : Nat) : Nat :=
  if k = 0 then x % 2147483648 else if k = 1 then x ^^^ 2147483648 else if k = 2 then FM.wholeW ff .up x else if k = 3 then FM.wholeW ff .down x
  else if k = 4 then FM.wholeW ff .zero x else if k = 5 then FM.wholeW ff .even x else FM.rootW ff x
theorem un_ok (k : Int) (x : Nat) (hk : 0 ≤ k ∧ k ≤ 6) (hx : x < 4294967296) (w : World) :
    Calls Try.prog 25 #[fm, .int .i64 k, .int .u64 (x : Nat)] w fun e w' => e = .returned (.int .u64 ((unF k x : Nat) : Int)) ∧ Later w w' := by
  have hc : k = 0 ∨ k = 1 ∨ k = 2 ∨ k = 3 ∨ k = 4 ∨ k = 5 ∨ k = 6 := by omega
  rcases hc with rfl | rfl | rfl | rfl | rfl | rfl | rfl
  · rw [show unF 0 x = x % 2147483648 from by simp [unF]]
    exact un_abs _ _ (andNot_sg x hx) w
  · rw [show unF 1 x = x ^^^ 2147483648 from by simp [unF]]
    exact un_neg _ _ (FM.xor_u x 2147483648 (by simp only [W64]; omega) (by decide)) w
  · rw [show unF 2 x = FM.wholeW ff .up x from by simp [unF]]
    exact un_whole2 _ _ (whole_up_all x hx) w
  · rw [show unF 3 x = FM.wholeW ff .down x from by simp [unF]]
    exact un_whole3 _ _ (whole_down_all x hx) w
  · rw [show unF 4 x = FM.wholeW ff .zero x from by simp [unF]]
    exact un_whole4 _ _ (whole_zero_all x hx) w
  · rw [show unF 5 x = FM.wholeW ff .even x from by simp [unF]]
    exact un_whole5 _ _ (whole_even_all x hx) w
  · rw [show unF 6 x = FM.rootW ff x from by simp [unF]]
    obtain ⟨i1, n1, m, i, h1, h2, h3⟩ := apart_ex x hx
    exact un_root _ _ _ _ _ _ _ h3 (root_all x _ _ _ _ _ h1) w
end Go.Proofs.Ytobhihggdoccoaa.S
