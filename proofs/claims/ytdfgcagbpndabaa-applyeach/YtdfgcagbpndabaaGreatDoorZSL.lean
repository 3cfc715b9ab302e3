/- Over this seat's translation: the document's operations on all floats are the model's; its Un and Bin make of every input what the package's make. -/
import Derived.Test.YtdfgcagbpndabaaGreatDoorZSI2
import Derived.Test.YtdfgcagbpndabaaGreatDoorZD
import Derived.Test.YtdfgcagbpndabaaGreatDoorZC
import Derived.Test.YtdfgcagbpndabaaGreatDoorZSJ
import Derived.Test.YtdfgcagbpndabaaGreatDoorZSK
import Derived.Test.YtdfgcagbpndabaaGreatDoorZSK2
import Derived.Test.YtdfgcagbpndabaaGreatDoorZSA
import Derived.Test.YtdfgcagbpndabaaGreatDoorZB
import Derived.Test.YtdfgcagbpndabaaGreatDoorZA
import Derived.WalkLawsBesides
import Derived.RegionCalls
import Derived.Deep.RegionWith
import Derived.Test.YtdfgcagbpndabaaGreatDoorZP3G
set_option linter.unusedVariables false
set_option maxHeartbeats 4000000
set_option maxRecDepth 100000
namespace Go.Proofs.YtdfgcagbpndabaaGreatDoor.S
open Go.Proofs.YtdfgcagbpndabaaGreatDoor.P3
open Go.RowKit
open Go.FM (W64 two bl lost isN qn)
theorem fixo_none' : ((FM.fixo ff none : Nat) : Int) = 2143289344 := by decide +kernel
theorem fixo_some (z : Nat) : FM.fixo ff (some z) = z := rfl
theorem inf_word (s : Bool) : sgn s + 2139095040 = ((ff.word s ff.infRung : Nat) : Int) := by cases s <;> decide +kernel
theorem zero_word (s : Bool) : sgn s = ((ff.word s 0 : Nat) : Int) := by cases s <;> decide +kernel
theorem near0 (s : Bool) (e : Int) : ff.nearest s 0 e = ff.word s 0 := by rw [FM.nearest_near, FM.near_zero]
theorem plc_top (r : Nat) (h : r < ff.infRung) : FM.plc ff r ≤ 3000 := by
  unfold FM.plc
  rw [ff_inf] at h
  rw [ff_bin, ff_least]
  split <;> omega
theorem fb : ff.fractionBits ≤ 52 := by decide
abbrev RelD (d : Ieee.Datum) (s i1 n1 : Bool) (m i : Int) : Prop :=
  match d with
  | .number s' M I => s' = s ∧ i1 = false ∧ n1 = false ∧ m = (M : Int) ∧ I = i ∧ M < 16777216 ∧ (-3000 ≤ I ∧ I ≤ 3000) ∧ (I = -149 ∨ 8388608 ≤ M) ∧ -149 ≤ I
  | .infinity s' => s' = s ∧ i1 = true ∧ n1 = false
  | .nan s' _ => s' = s ∧ i1 = false ∧ n1 = true
theorem apart_ex (x : Nat) (hx : x < 4294967296) : ∃ (i1 n1 : Bool) (m i : Int), RelD (ff.read x) (FM.sg ff x) i1 n1 m i ∧ (n1 = true ↔ isN ff x) ∧
    RL Tryz.prog 119 #[fm, .int .u64 (x : Nat)] (fv (FM.sg ff x) i1 n1 m i) := by
  rcases Nat.lt_trichotomy (FM.rg ff x) ff.infRung with h | h | h
  · refine ⟨false, false, (FM.mag ff (FM.rg ff x) : Nat), FM.plc ff (FM.rg ff x), ?_, ?_, apart_fin x hx h⟩
    · rw [FM.read_num ff x h]
      have h1 := FM.mag_lt ff (FM.rg ff x)
      have h2 := plc_top _ h
      have h3 := FM.plc_ge ff (FM.rg ff x)
      have h4 := FM.mag_ge ff (FM.rg ff x)
      rw [ff_bin] at h1 h4
      rw [ff_least] at h3 h4
      exact ⟨rfl, rfl, rfl, rfl, rfl, by omega, ⟨by omega, h2⟩, h4, h3⟩
    · refine ⟨fun h' => (by cases h'), fun h' => ?_⟩
      unfold isN at h'; omega
  · refine ⟨true, false, 0, 0, ?_, ?_, apart_inf x hx h⟩
    · rw [FM.read_inf ff hff x h]; exact ⟨rfl, rfl, rfl⟩
    · refine ⟨fun h' => (by cases h'), fun h' => ?_⟩
      unfold isN at h'; omega
  · refine ⟨false, true, _, 0, ?_, ⟨fun _ => h, fun _ => rfl⟩, apart_nan x hx h⟩
    rw [FM.read_nan ff hff x h]; exact ⟨rfl, rfl, rfl⟩
theorem sum_nl (s : Bool) (q : Nat) (b : Ieee.Datum) : Ieee.Datum.sum (.nan s q) b = none := by cases b <;> rfl
theorem sum_nr (s : Bool) (q : Nat) (a : Ieee.Datum) : Ieee.Datum.sum a (.nan s q) = none := by cases a <;> rfl
theorem product_nl (s : Bool) (q : Nat) (b : Ieee.Datum) : Ieee.Datum.product (.nan s q) b = none := by cases b <;> rfl
theorem product_nr (s : Bool) (q : Nat) (a : Ieee.Datum) : Ieee.Datum.product a (.nan s q) = none := by cases a <;> rfl
theorem quotient_nl (d : Nat) (s : Bool) (q : Nat) (b : Ieee.Datum) : Ieee.Datum.quotient d (.nan s q) b = none := by cases b <;> rfl
theorem quotient_nr (d : Nat) (s : Bool) (q : Nat) (a : Ieee.Datum) : Ieee.Datum.quotient d a (.nan s q) = none := by cases a <;> rfl
theorem nz {M : Nat} (h : M ≠ 0) : (((M : Nat) : Int) == 0) = false := beq_eq_false_iff_ne.2 (by omega)
theorem nz2 {M : Nat} (h : M ≠ 0) : ¬ ((M : Nat) : Int) = 0 := by omega
theorem sum_all (a b : Ieee.Datum) (s t i1 n1 i2 n2 : Bool) (m n i j : Int) (ha : RelD a s i1 n1 m i) (hb : RelD b t i2 n2 n j) (w : World) :
    RW Tryz.prog 131 #[fm, fv s i1 n1 m i, fv t i2 n2 n j] w (.int .u64 ((FM.fixo ff ((a.sum b).map ff.write) : Nat) : Int)) := by
  cases a with
  | nan s' q =>
    obtain ⟨rfl, rfl, rfl⟩ := ha
    rw [sum_nl, Option.map_none, fixo_none']
    exact sum_nan1 _ _ _ _ _ _ _ _ _ w
  | infinity s' =>
    obtain ⟨rfl, rfl, rfl⟩ := ha
    cases b with
    | nan t' q =>
      obtain ⟨rfl, rfl, rfl⟩ := hb
      rw [sum_nr, Option.map_none, fixo_none']
      exact sum_nan2 _ _ _ _ _ _ _ _ w
    | infinity t' =>
      obtain ⟨rfl, rfl, rfl⟩ := hb
      by_cases h : s' = t'
      · subst h
        have e : Ieee.Datum.sum (.infinity s') (.infinity s') = some (.infinity s') := if_pos rfl
        rw [e]
        have := sum_inf1 s' m n i j w
        rw [inf_word] at this
        exact this
      · have h2 : t' = !s' := by revert h; cases s' <;> cases t' <;> simp
        subst h2
        have e : Ieee.Datum.sum (.infinity s') (.infinity (!s')) = none := if_neg h
        rw [e, Option.map_none, fixo_none']
        exact sum_nan3 s' m n i j w
    | number t' M I =>
      obtain ⟨rfl, rfl, rfl, rfl, rfl, -⟩ := hb
      have := sum_inf2 s' t' m (M : Int) i I w
      rw [inf_word] at this
      exact this
  | number s' M I =>
    obtain ⟨rfl, rfl, rfl, rfl, rfl, b1, b2, b3, b4⟩ := ha
    cases b with
    | nan t' q =>
      obtain ⟨rfl, rfl, rfl⟩ := hb
      rw [sum_nr, Option.map_none, fixo_none']
      exact sum_nan2 _ _ _ _ _ _ _ _ w
    | infinity t' =>
      obtain ⟨rfl, rfl, rfl⟩ := hb
      have := sum_inf3 t' s' (M : Int) n I j w
      rw [inf_word] at this
      exact this
    | number t' N J =>
      obtain ⟨rfl, rfl, rfl, rfl, rfl, c1, c2, c3, c4⟩ := hb
      obtain ⟨z, hz⟩ : ∃ z, (Ieee.Datum.sum (.number s' M I) (.number t' N J)).map ff.write = some z := ⟨_, rfl⟩
      rw [hz]
      exact sum_fin0 s' t' _ _ _ _ z (add_ok s' t' M N z I J b1 c1 b2 c2 b3 c3 b4 c4 hz) w
theorem product_all (a b : Ieee.Datum) (s t i1 n1 i2 n2 : Bool) (m n i j : Int) (ha : RelD a s i1 n1 m i) (hb : RelD b t i2 n2 n j) (w : World) :
    RW Tryz.prog 132 #[fm, fv s i1 n1 m i, fv t i2 n2 n j] w (.int .u64 ((FM.fixo ff ((a.product b).map ff.write) : Nat) : Int)) := by
  cases a with
  | nan s' q =>
    obtain ⟨rfl, rfl, rfl⟩ := ha
    rw [product_nl, Option.map_none, fixo_none']
    exact product_nan1 _ _ _ _ _ _ _ _ _ w
  | infinity s' =>
    obtain ⟨rfl, rfl, rfl⟩ := ha
    cases b with
    | nan t' q =>
      obtain ⟨rfl, rfl, rfl⟩ := hb
      rw [product_nr, Option.map_none, fixo_none']
      exact product_nan2 _ _ _ _ _ _ _ w
    | infinity t' =>
      obtain ⟨rfl, rfl, rfl⟩ := hb
      have := product_inf1 s' t' m n i j _ (xor_ne s' t') w
      rw [inf_word] at this
      exact this
    | number t' M I =>
      obtain ⟨rfl, rfl, rfl, rfl, rfl, -⟩ := hb
      by_cases h : M = 0
      · subst h
        rw [show Ieee.Datum.product (.infinity s') (.number t' 0 I) = none from rfl, Option.map_none, fixo_none']
        exact product_nan3 s' t' m i I w
      · rw [show Ieee.Datum.product (.infinity s') (.number t' M I) = some (.infinity (s' ^^ t')) from if_neg h]
        have := product_inf2 s' t' m (M : Int) i I _ (xor_ne s' t') (nz h) w
        rw [inf_word] at this
        exact this
  | number s' M I =>
    obtain ⟨rfl, rfl, rfl, rfl, rfl, b1, b2, b3, b4⟩ := ha
    cases b with
    | nan t' q =>
      obtain ⟨rfl, rfl, rfl⟩ := hb
      rw [product_nr, Option.map_none, fixo_none']
      exact product_nan2 _ _ _ _ _ _ _ w
    | infinity t' =>
      obtain ⟨rfl, rfl, rfl⟩ := hb
      by_cases h : M = 0
      · subst h
        rw [show Ieee.Datum.product (.number s' 0 I) (.infinity t') = none from rfl, Option.map_none, fixo_none']
        exact product_nan4 s' t' n I j w
      · rw [show Ieee.Datum.product (.number s' M I) (.infinity t') = some (.infinity (t' ^^ s')) from if_neg h, Bool.xor_comm]
        have := product_inf3 s' t' (M : Int) n I j _ (xor_ne s' t') (nz h) w
        rw [inf_word] at this
        exact this
    | number t' N J =>
      obtain ⟨rfl, rfl, rfl, rfl, rfl, c1, c2, c3, c4⟩ := hb
      exact product_ok s' t' M N I J b1 c1 b2 c2 w
theorem quotient_all (x y : Nat) (s t i1 n1 i2 n2 : Bool) (m n i j : Int) (ha : RelD (ff.read x) s i1 n1 m i) (hb : RelD (ff.read y) t i2 n2 n j) (w : World) :
    RW Tryz.prog 133 #[fm, fv s i1 n1 m i, fv t i2 n2 n j] w (.int .u64 ((FM.fixo ff (ff.div x y) : Nat) : Int)) := by
  have hd : ff.div x y = ((ff.read x).quotient (ff.fractionBits + 2) (ff.read y)).map ff.write := rfl
  cases hxa : ff.read x with
  | nan s' q =>
    rw [hxa] at ha hd
    obtain ⟨rfl, rfl, rfl⟩ := ha
    rw [hd, quotient_nl, Option.map_none, fixo_none']
    exact quo_nan1 _ _ _ _ _ _ _ _ _ w
  | infinity s' =>
    rw [hxa] at ha hd
    obtain ⟨rfl, rfl, rfl⟩ := ha
    cases hyb : ff.read y with
    | nan t' q =>
      rw [hyb] at hb hd
      obtain ⟨rfl, rfl, rfl⟩ := hb
      rw [hd, quotient_nr, Option.map_none, fixo_none']
      exact quo_nan2 _ _ _ _ _ _ _ w
    | infinity t' =>
      rw [hyb] at hb hd
      obtain ⟨rfl, rfl, rfl⟩ := hb
      rw [hd, show Ieee.Datum.quotient (ff.fractionBits + 2) (.infinity s') (.infinity t') = none from rfl, Option.map_none, fixo_none']
      exact quo_nan3 _ _ _ _ _ _ w
    | number t' M I =>
      rw [hyb] at hb hd
      obtain ⟨rfl, rfl, rfl, rfl, rfl, -⟩ := hb
      rw [hd, show Ieee.Datum.quotient (ff.fractionBits + 2) (.infinity s') (.number t' M I) = some (.infinity (s' ^^ t')) from rfl]
      have := quo_inf1 s' t' m (M : Int) i I _ (xor_ne s' t') w
      rw [inf_word] at this
      exact this
  | number s' M I =>
    rw [hxa] at ha hd
    obtain ⟨rfl, rfl, rfl, rfl, rfl, b1, b2, b3, b4⟩ := ha
    cases hyb : ff.read y with
    | nan t' q =>
      rw [hyb] at hb hd
      obtain ⟨rfl, rfl, rfl⟩ := hb
      rw [hd, quotient_nr, Option.map_none, fixo_none']
      exact quo_nan2 _ _ _ _ _ _ _ w
    | infinity t' =>
      rw [hyb] at hb hd
      obtain ⟨rfl, rfl, rfl⟩ := hb
      have e : ff.div x y = some (ff.word (s' ^^ t') 0) := by
        rw [hd, show Ieee.Datum.quotient (ff.fractionBits + 2) (.number s' M I) (.infinity t') = some (.number (s' ^^ t') 0 0) from rfl, Option.map_some]
        show some (ff.nearest _ 0 0) = _
        rw [near0]
      rw [e, fixo_some]
      have := quo_zero1 s' t' (M : Int) n I j _ (xor_ne s' t') w
      rw [zero_word] at this
      exact this
    | number t' N J =>
      rw [hyb] at hb hd
      obtain ⟨rfl, rfl, rfl, rfl, rfl, c1, c2, c3, c4⟩ := hb
      by_cases hN : N = 0
      · subst hN
        by_cases hM : M = 0
        · subst hM
          rw [hd, show Ieee.Datum.quotient (ff.fractionBits + 2) (.number s' 0 I) (.number t' 0 J) = none from rfl, Option.map_none, fixo_none']
          exact quo_nan4 s' t' I J w
        · have e : Ieee.Datum.quotient (ff.fractionBits + 2) (.number s' M I) (.number t' 0 J) = some (.infinity (s' ^^ t')) := by
            unfold Ieee.Datum.quotient
            dsimp only
            rw [if_pos rfl, if_neg hM]
          rw [hd, e]
          have := quo_inf2 s' t' (M : Int) I J _ (xor_ne s' t') (nz hM) (nz2 hM) w
          rw [inf_word] at this
          exact this
      · by_cases hM : M = 0
        · subst hM
          obtain ⟨E, e⟩ : ∃ E, Ieee.Datum.quotient (ff.fractionBits + 2) (.number s' 0 I) (.number t' N J) = some (.number (s' ^^ t') 0 E) := by
            unfold Ieee.Datum.quotient
            dsimp only
            rw [if_neg hN, Nat.zero_shiftLeft, Nat.zero_div, Nat.zero_mod]
            exact ⟨_, rfl⟩
          have e2 : ff.div x y = some (ff.word (s' ^^ t') 0) := by
            rw [hd, e, Option.map_some]
            show some (ff.nearest _ 0 E) = _
            rw [near0]
          rw [e2, fixo_some]
          have := quo_zero2 s' t' (N : Int) I J _ (xor_ne s' t') (nz hN) (nz2 hN) w
          rw [zero_word] at this
          exact this
        · have e := FM.glue_div ff x y M N s' t' I J hxa hyb hM hN (by rw [ff_bin]; omega) (by rw [ff_bin]; omega) fb
          rw [e, fixo_some]
          exact quotient_ok s' t' M N I J hM hN b1 c1 b2 c2 w
theorem root_all (x : Nat) (s i1 n1 : Bool) (m i : Int) (ha : RelD (ff.read x) s i1 n1 m i) (w : World) :
    RW Tryz.prog 128 #[fm, fv s i1 n1 m i] w (.int .u64 ((FM.rootW ff x : Nat) : Int)) := by
  unfold FM.rootW
  have hd : ff.sqrt x = ((ff.read x).root (ff.fractionBits + 2)).map ff.write := rfl
  cases hxa : ff.read x with
  | nan s' q =>
    rw [hxa] at ha hd
    obtain ⟨rfl, rfl, rfl⟩ := ha
    rw [hd, show Ieee.Datum.root (ff.fractionBits + 2) (.nan s' q) = none from rfl, Option.map_none, fixo_none']
    exact root_nan1 _ _ _ _ w
  | infinity s' =>
    rw [hxa] at ha hd
    obtain ⟨rfl, rfl, rfl⟩ := ha
    cases s'
    · rw [hd, show Ieee.Datum.root (ff.fractionBits + 2) (.infinity false) = some (.infinity false) from rfl]
      have := root_inf0 m i w
      rw [inf_word] at this
      exact this
    · rw [hd, show Ieee.Datum.root (ff.fractionBits + 2) (.infinity true) = none from rfl, Option.map_none, fixo_none']
      exact root_nan2 _ _ w
  | number s' M I =>
    rw [hxa] at ha hd
    obtain ⟨rfl, rfl, rfl, rfl, rfl, b1, b2, b3, b4⟩ := ha
    by_cases hM : M = 0
    · subst hM
      have e : ff.sqrt x = some (ff.word s' 0) := by
        rw [hd, show Ieee.Datum.root (ff.fractionBits + 2) (.number s' 0 I) = some (.number s' 0 I) from rfl, Option.map_some]
        show some (ff.nearest _ 0 I) = _
        rw [near0]
      rw [e, fixo_some]
      cases s'
      · have := root_nil_false I w
        rw [zero_word] at this
        exact this
      · have := root_nil_true I w
        rw [zero_word] at this
        exact this
    · cases s'
      · obtain ⟨z, hz⟩ : ∃ z, ff.sqrt x = some z := by
          rw [hd]
          unfold Ieee.Datum.root
          dsimp only
          rw [if_neg hM, if_neg (by decide)]
          exact ⟨_, rfl⟩
        rw [hz, fixo_some]
        exact root_ok x M z I hxa hM b1 b2 hz w
      · have e : Ieee.Datum.root (ff.fractionBits + 2) (.number true M I) = none := by
          unfold Ieee.Datum.root
          dsimp only
          rw [if_neg hM, if_pos rfl]
        rw [hd, e, Option.map_none, fixo_none']
        exact root_nan3 _ _ (nz hM) (nz2 hM) w
theorem whole_up_all (x : Nat) (hx : x < 4294967296) (w : World) :
    RW Tryz.prog 129 #[fm, .int .i64 0, .int .u64 (x : Nat)] w (.int .u64 ((FM.wholeW ff .up x : Nat) : Int)) := by
  have hx2 : x < 2 * ff.signWeight := by rw [ff_sw]; omega
  rcases Nat.lt_trichotomy (FM.rg ff x) ff.infRung with h | h | h
  · have ha : Hid (∀ w : World, _) := apart_fin x hx h
    by_cases hm : FM.mag ff (FM.rg ff x) = 0
    · rw [FM.glue_stay ff _ x hx2 h (Or.inl hm)]
      rw [hm] at ha
      exact whole_nil 0 _ _ _ ha w
    by_cases hp : 0 ≤ FM.plc ff (FM.rg ff x)
    · rw [FM.glue_stay ff _ x hx2 h (Or.inr hp)]
      exact whole_int 0 _ _ _ _ ha (nz hm) (nz2 hm) hp w
    · have h1 := FM.mag_lt ff (FM.rg ff x)
      have h3 := FM.plc_ge ff (FM.rg ff x)
      rw [ff_bin] at h1
      rw [ff_least] at h3
      have := whole_up_ok x _ _ _ ha hm (by omega) ⟨by omega, by omega⟩ w
      have e : FM.wholeW ff .up x = ff.nearest (FM.sg ff x) (Ieee.Toward.up.cut (FM.sg ff x) (FM.mag ff (FM.rg ff x) <<< (FM.plc ff (FM.rg ff x)).toNat) (-(FM.plc ff (FM.rg ff x))).toNat) 0 := by
        unfold FM.wholeW
        rw [if_neg (by unfold isN; omega), FM.read_num ff x h]
        rfl
      rw [e]
      exact this
  · have ha : Hid (∀ w : World, _) := apart_inf x hx h
    have e : FM.wholeW ff .up x = x := by
      unfold FM.wholeW
      rw [if_neg (by unfold isN; omega), FM.read_inf ff hff x h]
      show ff.word (FM.sg ff x) ff.infRung = x
      rw [← h]
      exact FM.word_parts ff x hx2
    rw [e]
    exact whole_inf0 0 _ _ _ _ ha w
  · have ha : Hid (∀ w : World, _) := apart_nan x hx h
    have e : ((FM.wholeW ff .up x : Nat) : Int) = 2143289344 := by
      unfold FM.wholeW
      rw [if_pos h]
      exact fixo_none'
    rw [e]
    exact whole_nan0 0 _ _ _ _ _ ha w
theorem whole_down_all (x : Nat) (hx : x < 4294967296) (w : World) :
    RW Tryz.prog 129 #[fm, .int .i64 1, .int .u64 (x : Nat)] w (.int .u64 ((FM.wholeW ff .down x : Nat) : Int)) := by
  have hx2 : x < 2 * ff.signWeight := by rw [ff_sw]; omega
  rcases Nat.lt_trichotomy (FM.rg ff x) ff.infRung with h | h | h
  · have ha : Hid (∀ w : World, _) := apart_fin x hx h
    by_cases hm : FM.mag ff (FM.rg ff x) = 0
    · rw [FM.glue_stay ff _ x hx2 h (Or.inl hm)]
      rw [hm] at ha
      exact whole_nil 1 _ _ _ ha w
    by_cases hp : 0 ≤ FM.plc ff (FM.rg ff x)
    · rw [FM.glue_stay ff _ x hx2 h (Or.inr hp)]
      exact whole_int 1 _ _ _ _ ha (nz hm) (nz2 hm) hp w
    · have h1 := FM.mag_lt ff (FM.rg ff x)
      have h3 := FM.plc_ge ff (FM.rg ff x)
      rw [ff_bin] at h1
      rw [ff_least] at h3
      have := whole_down_ok x _ _ _ ha hm (by omega) ⟨by omega, by omega⟩ w
      have e : FM.wholeW ff .down x = ff.nearest (FM.sg ff x) (Ieee.Toward.down.cut (FM.sg ff x) (FM.mag ff (FM.rg ff x) <<< (FM.plc ff (FM.rg ff x)).toNat) (-(FM.plc ff (FM.rg ff x))).toNat) 0 := by
        unfold FM.wholeW
        rw [if_neg (by unfold isN; omega), FM.read_num ff x h]
        rfl
      rw [e]
      exact this
  · have ha : Hid (∀ w : World, _) := apart_inf x hx h
    have e : FM.wholeW ff .down x = x := by
      unfold FM.wholeW
      rw [if_neg (by unfold isN; omega), FM.read_inf ff hff x h]
      show ff.word (FM.sg ff x) ff.infRung = x
      rw [← h]
      exact FM.word_parts ff x hx2
    rw [e]
    exact whole_inf0 1 _ _ _ _ ha w
  · have ha : Hid (∀ w : World, _) := apart_nan x hx h
    have e : ((FM.wholeW ff .down x : Nat) : Int) = 2143289344 := by
      unfold FM.wholeW
      rw [if_pos h]
      exact fixo_none'
    rw [e]
    exact whole_nan0 1 _ _ _ _ _ ha w
theorem whole_zero_all (x : Nat) (hx : x < 4294967296) (w : World) :
    RW Tryz.prog 129 #[fm, .int .i64 2, .int .u64 (x : Nat)] w (.int .u64 ((FM.wholeW ff .zero x : Nat) : Int)) := by
  have hx2 : x < 2 * ff.signWeight := by rw [ff_sw]; omega
  rcases Nat.lt_trichotomy (FM.rg ff x) ff.infRung with h | h | h
  · have ha : Hid (∀ w : World, _) := apart_fin x hx h
    by_cases hm : FM.mag ff (FM.rg ff x) = 0
    · rw [FM.glue_stay ff _ x hx2 h (Or.inl hm)]
      rw [hm] at ha
      exact whole_nil 2 _ _ _ ha w
    by_cases hp : 0 ≤ FM.plc ff (FM.rg ff x)
    · rw [FM.glue_stay ff _ x hx2 h (Or.inr hp)]
      exact whole_int 2 _ _ _ _ ha (nz hm) (nz2 hm) hp w
    · have h1 := FM.mag_lt ff (FM.rg ff x)
      have h3 := FM.plc_ge ff (FM.rg ff x)
      rw [ff_bin] at h1
      rw [ff_least] at h3
      have := whole_zero_ok x _ _ _ ha hm (by omega) ⟨by omega, by omega⟩ w
      have e : FM.wholeW ff .zero x = ff.nearest (FM.sg ff x) (Ieee.Toward.zero.cut (FM.sg ff x) (FM.mag ff (FM.rg ff x) <<< (FM.plc ff (FM.rg ff x)).toNat) (-(FM.plc ff (FM.rg ff x))).toNat) 0 := by
        unfold FM.wholeW
        rw [if_neg (by unfold isN; omega), FM.read_num ff x h]
        rfl
      rw [e]
      exact this
  · have ha : Hid (∀ w : World, _) := apart_inf x hx h
    have e : FM.wholeW ff .zero x = x := by
      unfold FM.wholeW
      rw [if_neg (by unfold isN; omega), FM.read_inf ff hff x h]
      show ff.word (FM.sg ff x) ff.infRung = x
      rw [← h]
      exact FM.word_parts ff x hx2
    rw [e]
    exact whole_inf0 2 _ _ _ _ ha w
  · have ha : Hid (∀ w : World, _) := apart_nan x hx h
    have e : ((FM.wholeW ff .zero x : Nat) : Int) = 2143289344 := by
      unfold FM.wholeW
      rw [if_pos h]
      exact fixo_none'
    rw [e]
    exact whole_nan0 2 _ _ _ _ _ ha w
theorem whole_even_all (x : Nat) (hx : x < 4294967296) (w : World) :
    RW Tryz.prog 129 #[fm, .int .i64 3, .int .u64 (x : Nat)] w (.int .u64 ((FM.wholeW ff .even x : Nat) : Int)) := by
  have hx2 : x < 2 * ff.signWeight := by rw [ff_sw]; omega
  rcases Nat.lt_trichotomy (FM.rg ff x) ff.infRung with h | h | h
  · have ha : Hid (∀ w : World, _) := apart_fin x hx h
    by_cases hm : FM.mag ff (FM.rg ff x) = 0
    · rw [FM.glue_stay ff _ x hx2 h (Or.inl hm)]
      rw [hm] at ha
      exact whole_nil 3 _ _ _ ha w
    by_cases hp : 0 ≤ FM.plc ff (FM.rg ff x)
    · rw [FM.glue_stay ff _ x hx2 h (Or.inr hp)]
      exact whole_int 3 _ _ _ _ ha (nz hm) (nz2 hm) hp w
    · have h1 := FM.mag_lt ff (FM.rg ff x)
      have h3 := FM.plc_ge ff (FM.rg ff x)
      rw [ff_bin] at h1
      rw [ff_least] at h3
      have := whole_even_ok x _ _ _ ha hm (by omega) ⟨by omega, by omega⟩ w
      have e : FM.wholeW ff .even x = ff.nearest (FM.sg ff x) (Ieee.Toward.even.cut (FM.sg ff x) (FM.mag ff (FM.rg ff x) <<< (FM.plc ff (FM.rg ff x)).toNat) (-(FM.plc ff (FM.rg ff x))).toNat) 0 := by
        unfold FM.wholeW
        rw [if_neg (by unfold isN; omega), FM.read_num ff x h]
        rfl
      rw [e]
      exact this
  · have ha : Hid (∀ w : World, _) := apart_inf x hx h
    have e : FM.wholeW ff .even x = x := by
      unfold FM.wholeW
      rw [if_neg (by unfold isN; omega), FM.read_inf ff hff x h]
      show ff.word (FM.sg ff x) ff.infRung = x
      rw [← h]
      exact FM.word_parts ff x hx2
    rw [e]
    exact whole_inf0 3 _ _ _ _ ha w
  · have ha : Hid (∀ w : World, _) := apart_nan x hx h
    have e : ((FM.wholeW ff .even x : Nat) : Int) = 2143289344 := by
      unfold FM.wholeW
      rw [if_pos h]
      exact fixo_none'
    rw [e]
    exact whole_nan0 3 _ _ _ _ _ ha w
theorem andNot_sg (x : Nat) (hx : x < 4294967296) : bits .andNot .u64 (x : Int) 2147483648 = ((x % 2147483648 : Nat) : Int) := by
  show IntKind.u64.wrap ((BitVec.ofInt 64 (x : Int) &&& ~~~BitVec.ofInt 64 ((2147483648 : Nat) : Int)).toNat : Int) = _
  have e : (BitVec.ofInt 64 (x : Int) &&& ~~~BitVec.ofInt 64 ((2147483648 : Nat) : Int)).toNat = x % 2147483648 := by
    apply Nat.eq_of_testBit_eq
    intro i
    have h1 : BitVec.ofInt 64 ((2147483648 : Nat) : Int) = BitVec.twoPow 64 31 := by decide
    rw [BitVec.toNat_and, Nat.testBit_and, FM.ofInt_u x (by simp only [W64]; omega), h1, show (2147483648 : Nat) = 2 ^ 31 from by decide, Nat.testBit_mod_two_pow]
    rcases Nat.lt_or_ge i 32 with h | h
    · rw [BitVec.testBit_toNat, BitVec.getLsbD_not, BitVec.getLsbD_twoPow]
      have h3 : i < 64 := by omega
      by_cases h2 : i = 31
      · subst h2; simp
      · have : i < 31 := by omega
        simp [this, h3, show ¬ 31 = i from by omega]
    · have : x.testBit i = false := Nat.testBit_lt_two_pow (Nat.lt_of_lt_of_le hx (by rw [show (4294967296 : Nat) = 2 ^ 32 from by decide]; exact Nat.pow_le_pow_right (by decide) h))
      rw [this]; simp
  rw [e, IntKind.wrap_u64]; omega
def unF (k : Int) (x : Nat) : Nat :=
  if k = 0 then x % 2147483648 else if k = 1 then x ^^^ 2147483648 else if k = 2 then FM.wholeW ff .up x else if k = 3 then FM.wholeW ff .down x
  else if k = 4 then FM.wholeW ff .zero x else if k = 5 then FM.wholeW ff .even x else FM.rootW ff x
theorem un_ok (k : Int) (x : Nat) (hk : 0 ≤ k ∧ k ≤ 6) (hx : x < 4294967296) (w : World) :
    RW Tryz.prog 80 #[fm, .int .i64 k, .int .u64 (x : Nat)] w (.int .u64 ((unF k x : Nat) : Int)) := by
  have hc : k = 0 ∨ k = 1 ∨ k = 2 ∨ k = 3 ∨ k = 4 ∨ k = 5 ∨ k = 6 := by omega
  rcases hc with rfl | rfl | rfl | rfl | rfl | rfl | rfl
  · rw [show unF 0 x = x % 2147483648 from by simp [unF]]
    exact un_abs _ _ (andNot_sg x hx) w
  · rw [show unF 1 x = x ^^^ 2147483648 from by simp [unF]]
    exact un_neg _ _ (FM.xor_u x 2147483648 (by simp only [W64]; omega) (by decide)) w
  · rw [show unF 2 x = FM.wholeW ff .up x from by simp [unF]]
    exact un_whole2 _ _ (whole_up_all x hx) w
  · rw [show unF 3 x = FM.wholeW ff .down x from by simp [unF]]
    exact un_whole3 _ _ (whole_down_all x hx) w
  · rw [show unF 4 x = FM.wholeW ff .zero x from by simp [unF]]
    exact un_whole4 _ _ (whole_zero_all x hx) w
  · rw [show unF 5 x = FM.wholeW ff .even x from by simp [unF]]
    exact un_whole5 _ _ (whole_even_all x hx) w
  · rw [show unF 6 x = FM.rootW ff x from by simp [unF]]
    obtain ⟨i1, n1, m, i, h1, h2, h3⟩ := apart_ex x hx
    exact un_root _ _ _ _ _ _ _ h3 (root_all x _ _ _ _ _ h1) w
end Go.Proofs.YtdfgcagbpndabaaGreatDoor.S
namespace Go.Proofs.YtdfgcagbpndabaaGreatDoor.S
open Go.Proofs.YtdfgcagbpndabaaGreatDoor.P3
open Go.RowKit
open Go.FM (W64 two bl lost isN qn)
def lw (x y : Nat) : Bool := lessF (FM.sg ff x) (FM.sg ff y) (FM.rg ff x : Nat) (FM.rg ff y : Nat)
def Lf (u v : Int) : Bool := lw u.toNat v.toNat
def Pr (u : Int) : Prop := ∃ X : Nat, u = (X : Int) ∧ X < 4294967296
theorem rg_mask (x : Nat) (hx : x < 4294967296) : bits .and .u64 (x : Int) 2147483647 = ((FM.rg ff x : Nat) : Int) := by
  have := FM.mask_u x 31 (by simp only [W64]; omega) (by decide)
  rw [show ((2 ^ 31 - 1 : Nat) : Int) = 2147483647 from by decide] at this
  rw [this]
  unfold FM.rg
  rw [ff_sw]
theorem less_ok : Hid (∀ (u v : Int) (w : World), Pr u → Pr v → Calls Tryz.prog 130 #[fm, .int .u64 u, .int .u64 v] w fun e w' => e = .returned (.bool (Lf u v)) ∧ Later w w') := by
  intro u v w ⟨x, hu, hx⟩ ⟨y, hv, hy⟩
  subst hu
  subst hv
  obtain ⟨i1, n1, m, i, h1, h2, h3⟩ := apart_ex x hx
  obtain ⟨i2, n2, n, j, g1, g2, g3⟩ := apart_ex y hy
  exact less_all _ _ _ _ _ _ _ _ _ _ _ _ _ _ _ h3 g3 (rg_mask x hx) (rg_mask y hy) rfl w
theorem lessF_key (s t : Bool) (r q : Nat) : lessF s t (r : Int) (q : Int) = decide (FM.key s r < FM.key t q) := by
  unfold lessF FM.key
  by_cases h : (r : Int) = 0 ∧ (q : Int) = 0
  · rw [if_pos h]
    symm
    rw [decide_eq_false_iff_not]
    cases s <;> cases t <;> simp only [if_true, if_false, Bool.false_eq_true] <;> omega
  · rw [if_neg h]
    cases s <;> cases t
    · rw [if_neg (by decide), if_neg (by decide), if_neg (by decide), if_neg (by decide)]
    · rw [if_pos (by decide), if_neg (by decide), if_pos rfl]
      symm
      rw [decide_eq_false_iff_not]; omega
    · rw [if_pos (by decide), if_pos rfl, if_neg (by decide)]
      symm
      rw [decide_eq_true_iff]; omega
    · rw [if_neg (by decide), if_pos rfl, if_pos rfl, if_pos rfl]
      exact decide_eq_decide.2 (by omega)
theorem lw_key (x y : Nat) : lw x y = decide (FM.key (FM.sg ff x) (FM.rg ff x) < FM.key (FM.sg ff y) (FM.rg ff y)) := lessF_key _ _ _ _
theorem lw_not (x y : Nat) (h : lw x y = true) : lw y x = false := by
  rw [lw_key] at h ⊢
  rw [decide_eq_true_iff] at h
  rw [decide_eq_false_iff_not]; omega
theorem order_lw (x y : Nat) (hx : ¬ isN ff x) (hy : ¬ isN ff y) :
    (lw x y = true ∧ lw y x = false ∧ ff.order x y = some .lt) ∨ (lw x y = false ∧ lw y x = true ∧ ff.order x y = some .gt) ∨ (lw x y = false ∧ lw y x = false ∧ ff.order x y = some .eq) := by
  have ho := FM.order_key ff hff x y (by unfold isN at hx; omega) (by unfold isN at hy; omega)
  rw [lw_key, lw_key, ho]
  generalize FM.key (FM.sg ff x) (FM.rg ff x) = a
  generalize FM.key (FM.sg ff y) (FM.rg ff y) = b
  rcases Int.lt_trichotomy a b with h | h | h
  · left
    exact ⟨decide_eq_true h, decide_eq_false (by omega), by rw [FM.cmp_lt h]⟩
  · right; right
    exact ⟨decide_eq_false (by omega), decide_eq_false (by omega), by rw [FM.cmp_eq h]⟩
  · right; left
    exact ⟨decide_eq_false (by omega), decide_eq_true h, by rw [FM.cmp_gt h]⟩
def cmpO (k : Int) (o : Option Ordering) : Bool :=
  if k = 0 then o == some .eq else if k = 1 then o != some .eq else if k = 2 then o == some .lt else if k = 3 then o == some .gt
  else if k = 4 then o == some .lt || o == some .eq else o == some .gt || o == some .eq
theorem order_nan (x y : Nat) (h : isN ff x ∨ isN ff y) : ff.order x y = none := by
  rcases h with h | h
  · exact FM.order_nan_l ff hff x y h
  · exact FM.order_nan_r ff hff x y h
theorem nan_or {n1 n2 : Bool} {x y : Nat} (h2 : n1 = true ↔ isN ff x) (g2 : n2 = true ↔ isN ff y) : ((n1 || n2) = true ∧ (isN ff x ∨ isN ff y)) ∨ ((n1 || n2) = false ∧ ¬ isN ff x ∧ ¬ isN ff y) := by
  cases n1
  · cases n2
    · right
      exact ⟨rfl, fun h => Bool.noConfusion (h2.2 h), fun h => Bool.noConfusion (g2.2 h)⟩
    · left
      exact ⟨rfl, Or.inr (g2.1 rfl)⟩
  · left
    exact ⟨by cases n2 <;> rfl, Or.inl (h2.1 rfl)⟩
theorem cmpF_ok (k : Int) (hk : 0 ≤ k ∧ k ≤ 5) (n : Bool) (x y : Nat) (h : (n = true ∧ (isN ff x ∨ isN ff y)) ∨ (n = false ∧ ¬ isN ff x ∧ ¬ isN ff y)) : cmpF k n (lw x y) (lw y x) = cmpO k (ff.order x y) := by
  have hc : k = 0 ∨ k = 1 ∨ k = 2 ∨ k = 3 ∨ k = 4 ∨ k = 5 := by omega
  rcases h with ⟨rfl, h⟩ | ⟨rfl, hx, hy⟩
  · rw [order_nan x y h]
    generalize lw x y = l
    generalize lw y x = g
    rcases hc with rfl | rfl | rfl | rfl | rfl | rfl <;> rfl
  · rcases order_lw x y hx hy with ⟨e1, e2, e3⟩ | ⟨e1, e2, e3⟩ | ⟨e1, e2, e3⟩
    all_goals
      rw [e1, e2, e3]
      rcases hc with rfl | rfl | rfl | rfl | rfl | rfl <;> rfl
theorem truth_any : Hid (∀ (b : Bool) (w : World), Calls Tryz.prog 72 #[.bool b] w fun e w' => e = .returned (.int .i64 (tr b)) ∧ w' = w) := by
  intro b w
  cases b
  all_goals
    go_enter Tryz.func72, Tryz.ntmps72
    go_wp2
    go_ret
    exact ⟨rfl, rfl⟩
theorem cmp_ok (k : Int) (x y : Nat) (hk : 0 ≤ k ∧ k ≤ 5) (hx : x < 4294967296) (hy : y < 4294967296) (w : World) :
    RW Tryz.prog 81 #[fm, .int .i64 k, .int .u64 (x : Nat), .int .u64 (y : Nat)] w (.int .i64 (tr (cmpO k (ff.order x y)))) := by
  obtain ⟨i1, n1, m, i, h1, h2, h3⟩ := apart_ex x hx
  obtain ⟨i2, n2, n, j, g1, g2, g3⟩ := apart_ex y hy
  rw [← cmpF_ok k hk _ x y (nan_or h2 g2)]
  exact cmp_all _ _ _ _ _ _ _ _ _ _ _ _ _ _ h3 g3 Lf Pr ⟨x, rfl, hx⟩ ⟨y, rfl, hy⟩ less_ok truth_any hk (fun h => lw_not x y h) rfl w
theorem extF_ok (most n : Bool) (x y : Nat) (h : (n = true ∧ (isN ff x ∨ isN ff y)) ∨ (n = false ∧ ¬ isN ff x ∧ ¬ isN ff y)) :
    extF most n (lw x y) (lw y x) 2143289344 x y ((x &&& y : Nat) : Int) ((x ||| y : Nat) : Int) = (((if most then FM.maxW ff x y else FM.minW ff x y) : Nat) : Int) := by
  unfold FM.maxW FM.minW
  rcases h with ⟨rfl, h⟩ | ⟨rfl, hx, hy⟩
  · rw [order_nan x y h]
    cases most
    · exact fixo_none'.symm
    · exact fixo_none'.symm
  · rcases order_lw x y hx hy with ⟨e1, e2, e3⟩ | ⟨e1, e2, e3⟩ | ⟨e1, e2, e3⟩
    all_goals
      rw [e1, e2, e3]
      cases most <;> rfl
theorem ext_ok (most : Bool) (x y : Nat) (hx : x < 4294967296) (hy : y < 4294967296) (w : World) :
    RW Tryz.prog 134 #[fm, .bool most, .int .u64 (x : Nat), .int .u64 (y : Nat)] w (.int .u64 (((if most then FM.maxW ff x y else FM.minW ff x y) : Nat) : Int)) := by
  obtain ⟨i1, n1, m, i, h1, h2, h3⟩ := apart_ex x hx
  obtain ⟨i2, n2, n, j, g1, g2, g3⟩ := apart_ex y hy
  rw [← extF_ok most _ x y (nan_or h2 g2)]
  exact ext_all _ _ _ _ _ _ _ _ _ _ _ _ _ _ _ _ h3 g3 Lf Pr ⟨x, rfl, hx⟩ ⟨y, rfl, hy⟩ less_ok (FM.and_u x y (by simp only [W64]; omega) (by simp only [W64]; omega)) (FM.or_u x y (by simp only [W64]; omega) (by simp only [W64]; omega)) (fun h => lw_not x y h) rfl w
theorem RelD_opp {d : Ieee.Datum} {s i1 n1 : Bool} {m i : Int} (h : RelD d s i1 n1 m i) : RelD d.opposite (!s) i1 n1 m i := by
  cases d with
  | nan s' q => obtain ⟨h1, h2⟩ := h; exact ⟨by rw [h1], h2⟩
  | infinity s' => obtain ⟨h1, h2⟩ := h; exact ⟨by rw [h1], h2⟩
  | number s' M I => obtain ⟨h1, h2⟩ := h; exact ⟨by rw [h1], h2⟩
def binG (k : Int) (x y : Nat) : Nat :=
  if k = 0 then FM.fixo ff (ff.add x y) else if k = 1 then FM.fixo ff (ff.sub x y) else if k = 2 then FM.fixo ff (ff.mul x y) else if k = 3 then FM.fixo ff (ff.div x y)
  else if k = 4 then FM.minW ff x y else if k = 5 then FM.maxW ff x y else x % 2147483648 ||| (y &&& 2147483648)
theorem bin_ok (k : Int) (x y : Nat) (hk : 0 ≤ k ∧ k ≤ 6) (hx : x < 4294967296) (hy : y < 4294967296) (w : World) :
    RW Tryz.prog 82 #[fm, .int .i64 k, .int .u64 (x : Nat), .int .u64 (y : Nat)] w (.int .u64 ((binG k x y : Nat) : Int)) := by
  obtain ⟨i1, n1, m, i, h1, h2, h3⟩ := apart_ex x hx
  obtain ⟨i2, n2, n, j, g1, g2, g3⟩ := apart_ex y hy
  by_cases hk1 : k = 1
  · subst hk1
    have e : binG 1 x y = FM.fixo ff (ff.sub x y) := by simp [binG]
    rw [e]
    exact bin_1w _ _ _ _ _ _ _ _ _ _ _ _ _ h3 g3 (sum_all (ff.read x) (ff.read y).opposite _ _ _ _ _ _ _ _ _ _ h1 (RelD_opp g1)) w
  · have hm : x % 2147483648 < W64 := by simp only [W64]; omega
    have hl : y &&& 2147483648 < W64 := Nat.lt_of_le_of_lt Nat.and_le_right (by decide)
    have hr : Hid (binF k ((FM.fixo ff (ff.add x y) : Nat) : Int) ((FM.fixo ff (ff.mul x y) : Nat) : Int) ((FM.fixo ff (ff.div x y) : Nat) : Int) ((FM.minW ff x y : Nat) : Int) ((FM.maxW ff x y : Nat) : Int) ((x % 2147483648 ||| (y &&& 2147483648) : Nat) : Int) = ((binG k x y : Nat) : Int)) := by
      show _ = _
      unfold binF binG
      by_cases e0 : k = 0
      · rw [if_pos e0, if_pos e0]
      rw [if_neg e0, if_neg e0, if_neg hk1]
      by_cases e2 : k = 2
      · rw [if_pos e2, if_pos e2]
      rw [if_neg e2, if_neg e2]
      by_cases e3 : k = 3
      · rw [if_pos e3, if_pos e3]
      rw [if_neg e3, if_neg e3]
      by_cases e4 : k = 4
      · rw [if_pos e4, if_pos e4]
      rw [if_neg e4, if_neg e4]
      by_cases e5 : k = 5
      · rw [if_pos e5, if_pos e5]
      rw [if_neg e5, if_neg e5]
    exact bin_all _ _ _ _ _ _ _ _ _ _ _ _ _ _ _ _ _ _ _ _ h3 g3 (sum_all (ff.read x) (ff.read y) _ _ _ _ _ _ _ _ _ _ h1 g1) (product_all (ff.read x) (ff.read y) _ _ _ _ _ _ _ _ _ _ h1 g1) (quotient_all x y _ _ _ _ _ _ _ _ _ _ h1 g1)
      (ext_ok false x y hx hy) (ext_ok true x y hx hy) _ _ (andNot_sg x hx) (FM.and_u y 2147483648 (by simp only [W64]; omega) (by decide)) (FM.or_u _ _ hm hl) ⟨hk, hk1⟩ hr w
end Go.Proofs.YtdfgcagbpndabaaGreatDoor.S
namespace Go.Proofs.YtdfgcagbpndabaaGreatDoor.S
open Go.Proofs.YtdfgcagbpndabaaGreatDoor.P3
open Go.RowKit
theorem rlow_anyF (x : Int) (w : World) :
    Calls Tryz.prog 65 #[.int .i64 x] w fun e w' => e = .returned (.int .i64 (x % 4294967296)) ∧ w' = w := by
  have h := FM.and32 x
  go_enter Tryz.func65, Tryz.ntmps65
  go_wp2
  go_ret
  exact ⟨rfl, rfl⟩
theorem un_w (op a k x z zi : Int) (h1 : ¬ op < 139) (h2 : ¬ 145 < op) (hk : IntKind.i64.wrap (op - 139) = k) (hxx : a % 4294967296 = x) (hux : IntKind.u64.wrap x = x) (hc : RL Tryz.prog 80 #[fm, .int .i64 k, .int .u64 x] (.int .u64 z)) (hz : IntKind.i64.wrap z = zi) (w : World) :
    RW Tryz.prog 41 #[.int .i64 op, .int .i64 a] w (.tuple #[.int .i64 zi, .int .i64 0]) := by
  go_enter Tryz.func41, Tryz.ntmps41
  go_wp2_with fail
  refine (single_any _).mono ?_
  rintro e w' ⟨rfl, bs1, n1, rfl⟩
  go_wp2_with fail
  refine (rlow_anyF a _).mono ?_
  rintro e w' ⟨rfl, rfl⟩
  rw [hxx]
  go_wp2_with fail
  refine (hc.out _).mono ?_
  rintro e w' ⟨rfl, bs2, n2, rfl⟩
  go_wp2
  go_ret2
  exact ⟨rfl, (by repeat first | exact Lz _ | apply La | apply Lv | apply Ln | apply Ld)⟩
theorem un_bad (op a : Int) (h : op < 139 ∨ 145 < op) (w : World) :
    RW Tryz.prog 41 #[.int .i64 op, .int .i64 a] w (.tuple #[.int .i64 0, .int .i64 400]) := by
  rcases h with h | h
  · go_enter Tryz.func41, Tryz.ntmps41
    go_wp2
    go_ret2
    exact ⟨rfl, (by repeat first | exact Lz _ | apply La | apply Lv | apply Ln | apply Ld)⟩
  · have h' : ¬ op < 139 := by omega
    go_enter Tryz.func41, Tryz.ntmps41
    go_wp2
    go_ret2
    exact ⟨rfl, (by repeat first | exact Lz _ | apply La | apply Lv | apply Ln | apply Ld)⟩
theorem cmp_w (op a b k x y z : Int) (h1 : 91 ≤ op) (h2 : op ≤ 96) (hk : IntKind.i64.wrap (op - 91) = k) (hxx : a % 4294967296 = x) (hux : IntKind.u64.wrap x = x) (hxy : b % 4294967296 = y) (huy : IntKind.u64.wrap y = y) (hc : RL Tryz.prog 81 #[fm, .int .i64 k, .int .u64 x, .int .u64 y] (.int .i64 z)) (w : World) :
    RW Tryz.prog 42 #[.int .i64 op, .int .i64 a, .int .i64 b] w (.tuple #[.int .i64 z, .int .i64 0]) := by
  go_enter Tryz.func42, Tryz.ntmps42
  go_wp2_with fail
  refine (rlow_anyF a _).mono ?_
  rintro e w' ⟨rfl, rfl⟩
  rw [hxx]
  go_wp2_with fail
  refine (rlow_anyF b _).mono ?_
  rintro e w' ⟨rfl, rfl⟩
  rw [hxy]
  go_wp2_with fail
  refine (single_any _).mono ?_
  rintro e w' ⟨rfl, bs3, n3, rfl⟩
  go_wp2_with fail
  refine (hc.out _).mono ?_
  rintro e w' ⟨rfl, bs4, n4, rfl⟩
  go_wp2
  go_ret2
  exact ⟨rfl, (by repeat first | exact Lz _ | apply La | apply Lv | apply Ln | apply Ld)⟩
theorem bin_w (op a b k x y z zi : Int) (h0 : 91 ≤ op) (h1 : ¬ op ≤ 96) (h2 : 146 ≤ op) (h3 : op ≤ 152) (hk : IntKind.i64.wrap (op - 146) = k) (hxx : a % 4294967296 = x) (hux : IntKind.u64.wrap x = x) (hxy : b % 4294967296 = y) (huy : IntKind.u64.wrap y = y) (hc : RL Tryz.prog 82 #[fm, .int .i64 k, .int .u64 x, .int .u64 y] (.int .u64 z)) (hz : IntKind.i64.wrap z = zi) (w : World) :
    RW Tryz.prog 42 #[.int .i64 op, .int .i64 a, .int .i64 b] w (.tuple #[.int .i64 zi, .int .i64 0]) := by
  go_enter Tryz.func42, Tryz.ntmps42
  go_wp2_with fail
  refine (rlow_anyF a _).mono ?_
  rintro e w' ⟨rfl, rfl⟩
  rw [hxx]
  go_wp2_with fail
  refine (rlow_anyF b _).mono ?_
  rintro e w' ⟨rfl, rfl⟩
  rw [hxy]
  go_wp2_with fail
  refine (single_any _).mono ?_
  rintro e w' ⟨rfl, bs5, n5, rfl⟩
  go_wp2_with fail
  refine (hc.out _).mono ?_
  rintro e w' ⟨rfl, bs6, n6, rfl⟩
  go_wp2
  go_ret2
  exact ⟨rfl, (by repeat first | exact Lz _ | apply La | apply Lv | apply Ln | apply Ld)⟩
theorem bin_bad (op a b : Int) (h : ¬ ((91 ≤ op ∧ op ≤ 96) ∨ (146 ≤ op ∧ op ≤ 152))) (w : World) :
    RW Tryz.prog 42 #[.int .i64 op, .int .i64 a, .int .i64 b] w (.tuple #[.int .i64 0, .int .i64 400]) := by
  have hc : op < 91 ∨ (96 < op ∧ op < 146) ∨ 152 < op := by omega
  clear h
  rcases hc with h | ⟨h, h'⟩ | h
  · have h4 : ¬ (91 ≤ op) := by omega
    have h5 : ¬ (146 ≤ op) := by omega
    go_enter Tryz.func42, Tryz.ntmps42
    go_wp2_with (go_at_call 65; refine (rlow_anyF _ _).mono ?_; rintro e w' ⟨rfl, rfl⟩)
    go_ret2
    exact ⟨rfl, (by repeat first | exact Lz _ | apply La | apply Lv | apply Ln | apply Ld)⟩
  · have h4 : 91 ≤ op := by omega
    have h6 : ¬ (op ≤ 96) := by omega
    have h5 : ¬ (146 ≤ op) := by omega
    go_enter Tryz.func42, Tryz.ntmps42
    go_wp2_with (go_at_call 65; refine (rlow_anyF _ _).mono ?_; rintro e w' ⟨rfl, rfl⟩)
    go_ret2
    exact ⟨rfl, (by repeat first | exact Lz _ | apply La | apply Lv | apply Ln | apply Ld)⟩
  · have h4 : 91 ≤ op := by omega
    have h6 : ¬ (op ≤ 96) := by omega
    have h5 : 146 ≤ op := by omega
    have h7 : ¬ (op ≤ 152) := by omega
    go_enter Tryz.func42, Tryz.ntmps42
    go_wp2_with (go_at_call 65; refine (rlow_anyF _ _).mono ?_; rintro e w' ⟨rfl, rfl⟩)
    go_ret2
    exact ⟨rfl, (by repeat first | exact Lz _ | apply La | apply Lv | apply Ln | apply Ld)⟩
end Go.Proofs.YtdfgcagbpndabaaGreatDoor.S
namespace Go.Proofs.YtdfgcagbpndabaaGreatDoor.S
open Go.Proofs.YtdfgcagbpndabaaGreatDoor.P3
open Go.RowKit
open Go.FM (isN fixn qn)
theorem qn_lt : qn ff < 4294967296 := by decide +kernel
theorem fixo_lt {o : Option Nat} (h : ∀ r, o = some r → r < 4294967296) : FM.fixo ff o < 4294967296 := by
  cases o with
  | none => exact qn_lt
  | some r => exact h r rfl
theorem whole_lt (way : Ieee.Toward) (x : Nat) : FM.wholeW ff way x < 4294967296 := by
  unfold FM.wholeW
  split
  · exact qn_lt
  · exact Ieee.Format.write_lt ff _
theorem unF_lt (k : Int) (x : Nat) (hx : x < 4294967296) : unF k x < 4294967296 := by
  unfold unF
  split
  · omega
  split
  · exact Nat.xor_lt_two_pow (n := 32) hx (by decide)
  split
  · exact whole_lt _ x
  split
  · exact whole_lt _ x
  split
  · exact whole_lt _ x
  split
  · exact whole_lt _ x
  · exact fixo_lt (fun r h => Ieee.Format.sqrt_lt ff h)
theorem min_lt (x y : Nat) (hx : x < 4294967296) (hy : y < 4294967296) : FM.minW ff x y < 4294967296 ∧ FM.maxW ff x y < 4294967296 := by
  unfold FM.minW FM.maxW
  constructor
  · split
    · exact hx
    split
    · exact hy
    split
    · exact Nat.or_lt_two_pow (n := 32) hx hy
    · exact qn_lt
  · split
    · exact hx
    split
    · exact hy
    split
    · exact Nat.lt_of_le_of_lt Nat.and_le_left hx
    · exact qn_lt
theorem binG_lt (k : Int) (x y : Nat) (hx : x < 4294967296) (hy : y < 4294967296) : binG k x y < 4294967296 := by
  unfold binG
  split
  · exact fixo_lt (fun r h => Ieee.Format.add_lt ff h)
  split
  · exact fixo_lt (fun r h => Ieee.Format.sub_lt ff h)
  split
  · exact fixo_lt (fun r h => Ieee.Format.mul_lt ff h)
  split
  · exact fixo_lt (fun r h => Ieee.Format.div_lt ff h)
  split
  · exact (min_lt x y hx hy).1
  split
  · exact (min_lt x y hx hy).2
  · exact Nat.or_lt_two_pow (n := 32) (by omega) (Nat.lt_of_le_of_lt Nat.and_le_right (by decide))
theorem wrap_nat (z : Nat) (h : z < 4294967296) : IntKind.i64.wrap (z : Int) = (z : Int) := by rw [IntKind.wrap_i64]; omega
theorem u_139 (x : Nat) : unW 139 x = unF 0 x := by rw [unW_139]; simp [unF]
theorem u_140 (x : Nat) : unW 140 x = unF 1 x := by rw [unW_140]; simp [unF]
theorem u_141 (x : Nat) : unW 141 x = unF 2 x := by rw [unW_141]; simp [unF]
theorem u_142 (x : Nat) : unW 142 x = unF 3 x := by rw [unW_142]; simp [unF]
theorem u_143 (x : Nat) : unW 143 x = unF 4 x := by rw [unW_143]; simp [unF]
theorem u_144 (x : Nat) : unW 144 x = unF 5 x := by rw [unW_144]; simp [unF]
theorem u_145 (x : Nat) : unW 145 x = unF 6 x := by rw [unW_145]; simp [unF]
theorem un_same (op : Int) (x : Nat) (h : 139 ≤ op ∧ op ≤ 145) : unW op x = unF (op - 139) x := by
  have hc : op = 139 ∨ op = 140 ∨ op = 141 ∨ op = 142 ∨ op = 143 ∨ op = 144 ∨ op = 145 := by omega
  rcases hc with rfl | rfl | rfl | rfl | rfl | rfl | rfl
  · exact u_139 x
  · exact u_140 x
  · exact u_141 x
  · exact u_142 x
  · exact u_143 x
  · exact u_144 x
  · exact u_145 x
theorem b_146 (x y : Nat) : binW 146 x y = binG 0 x y := by rw [f_add]; simp [binG]
theorem b_147 (x y : Nat) : binW 147 x y = binG 1 x y := by rw [f_sub]; simp [binG]
theorem b_148 (x y : Nat) : binW 148 x y = binG 2 x y := by rw [f_mul]; simp [binG]
theorem b_149 (x y : Nat) : binW 149 x y = binG 3 x y := by rw [f_div]; simp [binG]
theorem b_150 (x y : Nat) : binW 150 x y = binG 4 x y := by rw [f_min]; simp [binG]
theorem b_151 (x y : Nat) : binW 151 x y = binG 5 x y := by rw [f_max]; simp [binG]
theorem b_152 (x y : Nat) : binW 152 x y = binG 6 x y := by rw [f_sign]; simp [binG]
theorem bin_same (op : Int) (x y : Nat) (h : 146 ≤ op ∧ op ≤ 152) : binW op x y = binG (op - 146) x y := by
  have hc : op = 146 ∨ op = 147 ∨ op = 148 ∨ op = 149 ∨ op = 150 ∨ op = 151 ∨ op = 152 := by omega
  rcases hc with rfl | rfl | rfl | rfl | rfl | rfl | rfl
  · exact b_146 x y
  · exact b_147 x y
  · exact b_148 x y
  · exact b_149 x y
  · exact b_150 x y
  · exact b_151 x y
  · exact b_152 x y
theorem cmp_same (op : Int) (x y : Nat) (h : 91 ≤ op ∧ op ≤ 96) : cmpW op x y = cmpO (op - 91) (ff.order x y) := by
  have hc : op = 91 ∨ op = 92 ∨ op = 93 ∨ op = 94 ∨ op = 95 ∨ op = 96 := by omega
  unfold cmpW cmpO
  rcases hc with rfl | rfl | rfl | rfl | rfl | rfl
  · rw [if_pos (by decide), if_pos (by decide)]; rfl
  · rw [if_neg (by decide), if_pos (by decide), if_neg (by decide), if_pos (by decide)]; rfl
  · rw [if_neg (by decide), if_neg (by decide), if_pos (by decide), if_neg (by decide), if_neg (by decide), if_pos (by decide)]; rfl
  · rw [if_neg (by decide), if_neg (by decide), if_neg (by decide), if_pos (by decide), if_neg (by decide), if_neg (by decide), if_neg (by decide), if_pos (by decide)]; rfl
  · rw [if_neg (by decide), if_neg (by decide), if_neg (by decide), if_neg (by decide), if_pos (by decide), if_neg (by decide), if_neg (by decide), if_neg (by decide), if_neg (by decide), if_pos (by decide)]; rfl
  · rw [if_neg (by decide), if_neg (by decide), if_neg (by decide), if_neg (by decide), if_neg (by decide), if_neg (by decide), if_neg (by decide), if_neg (by decide), if_neg (by decide), if_neg (by decide)]; rfl
theorem tr_nat (c : Bool) : tr c = (((if c then 1 else 0) : Nat) : Int) := by
  cases c
  · rfl
  · rfl
theorem run_any (op a : Int) (w : World) :
    RW Tryz.prog 41 #[.int .i64 op, .int .i64 a] w (.tuple #[.int .i64 (unI op a).1, .int .i64 (unI op a).2]) := by
  unfold unI
  by_cases h : 139 ≤ op ∧ op ≤ 145
  · obtain ⟨x, h1, h2, h3⟩ := low_nat a
    rw [if_pos h, h3, un_same op x h]
    exact un_w op a (op - 139) x _ _ (by omega) (by omega) (by rw [IntKind.wrap_i64]; omega) h1 (by rw [IntKind.wrap_u64]; omega) (un_ok (op - 139) x ⟨by omega, by omega⟩ h2) (wrap_nat _ (unF_lt _ x h2)) w
  · rw [if_neg h]
    exact un_bad op a (by omega) w
theorem rbin_any (op a b : Int) (w : World) :
    RW Tryz.prog 42 #[.int .i64 op, .int .i64 a, .int .i64 b] w (.tuple #[.int .i64 (binI op a b).1, .int .i64 (binI op a b).2]) := by
  unfold binI
  by_cases h : (91 ≤ op ∧ op ≤ 96) ∨ (146 ≤ op ∧ op ≤ 152)
  · obtain ⟨x, h1, h2, h3⟩ := low_nat a
    obtain ⟨y, g1, g2, g3⟩ := low_nat b
    rw [if_pos h, h3, g3]
    by_cases hc : 91 ≤ op ∧ op ≤ 96
    · have e : binW op x y = if cmpW op x y then 1 else 0 := by unfold binW; rw [if_pos hc.2]
      rw [e, cmp_same op x y hc]
      have := cmp_w op a b (op - 91) x y _ (by omega) (by omega) (by rw [IntKind.wrap_i64]; omega) h1 (by rw [IntKind.wrap_u64]; omega) g1 (by rw [IntKind.wrap_u64]; omega) (cmp_ok (op - 91) x y ⟨by omega, by omega⟩ h2 g2) w
      rw [tr_nat] at this
      exact this
    · have hd : 146 ≤ op ∧ op ≤ 152 := by omega
      rw [bin_same op x y hd]
      exact bin_w op a b (op - 146) x y _ _ (by omega) (by omega) (by omega) (by omega) (by rw [IntKind.wrap_i64]; omega) h1 (by rw [IntKind.wrap_u64]; omega) g1 (by rw [IntKind.wrap_u64]; omega) (bin_ok (op - 146) x y ⟨by omega, by omega⟩ h2 g2) (wrap_nat _ (binG_lt _ x y h2 g2)) w
  · rw [if_neg h]
    exact bin_bad op a b h w
end Go.Proofs.YtdfgcagbpndabaaGreatDoor.S
