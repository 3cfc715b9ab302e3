/- Plain mathematics of floats: whole numbers and roots by way of the wider format come out as in the narrow one. -/
import Derived.Test.YtdfgcagbpndabaaGreatDoorZB
import Derived.Laws.FloatArith
set_option linter.unusedVariables false
namespace Go.FM
open Ieee
theorem near_congr (f : Format) {M N : Nat} {e j : Int} (l : Int) (he : l ≤ e) (hj : l ≤ j) (h : M * 2 ^ (e - l).toNat = N * 2 ^ (j - l).toNat) : near f M e = near f N j := by
  have h1 := near_scale f M (e - l).toNat l
  have h2 := near_scale f N (j - l).toNat l
  rw [show l + ((e - l).toNat : Int) = e from by omega] at h1
  rw [show l + ((j - l).toNat : Int) = j from by omega] at h2
  rw [← h1, ← h2, h]
def addsOne (way : Toward) (neg : Bool) (low rest gap : Nat) : Bool :=
  match way with
  | .even => gap < 2 * rest || (gap == 2 * rest && low % 2 == 1)
  | .down => neg && rest != 0
  | .up => !neg && rest != 0
  | .zero => false
def pcut (way : Toward) (neg : Bool) (n d : Nat) : Nat := n / 2 ^ d + (addsOne way neg (n / 2 ^ d) (n % 2 ^ d) (2 ^ d)).toNat
theorem cut_def (way : Toward) (neg : Bool) (n d : Nat) : way.cut neg n d = pcut way neg n (min d (n.log2 + 2)) := by
  unfold Toward.cut pcut addsOne
  rw [Nat.shiftLeft_eq, Nat.one_mul]
  cases way <;> rfl
theorem pcut_far (way : Toward) (neg : Bool) (n d c : Nat) (h : n.log2 + 2 ≤ d) (hc : n.log2 + 2 ≤ c) : pcut way neg n d = pcut way neg n c := by
  have h1 : n < 2 ^ (n.log2 + 1) := Nat.lt_log2_self
  have key : ∀ d, n.log2 + 2 ≤ d → 2 * n < 2 ^ d := by
    intro d hd
    have : 2 ^ (n.log2 + 1) * 2 ≤ 2 ^ d := by rw [← Nat.pow_succ]; exact Nat.pow_le_pow_right (by decide) hd
    omega
  have k1 := key d h
  have k2 := key c hc
  unfold pcut
  rw [Nat.div_eq_of_lt (by omega), Nat.mod_eq_of_lt (by omega), Nat.div_eq_of_lt (by omega), Nat.mod_eq_of_lt (by omega)]
  congr 2
  unfold addsOne
  cases way
  · have a1 : decide (2 ^ d < 2 * n) = false := by simp; omega
    have a2 : decide (2 ^ c < 2 * n) = false := by simp; omega
    simp only [a1, a2]; simp
  all_goals rfl
theorem cut_pcut (way : Toward) (neg : Bool) (n d : Nat) : way.cut neg n d = pcut way neg n d := by
  rw [cut_def]
  rcases Nat.le_total d (n.log2 + 2) with h | h
  · rw [Nat.min_eq_left h]
  · rw [Nat.min_eq_right h]; exact pcut_far way neg n _ _ (Nat.le_refl _) h
theorem pcut_scale (way : Toward) (neg : Bool) (n k d : Nat) : pcut way neg (n * 2 ^ k) (d + k) = pcut way neg n d := by
  have hk : 0 < 2 ^ k := Nat.two_pow_pos k
  unfold pcut
  rw [Nat.pow_add, Nat.mul_div_mul_right _ _ hk, Nat.mul_mod_mul_right]
  congr 2
  have hz : (n % 2 ^ d * 2 ^ k != 0) = (n % 2 ^ d != 0) := by
    rw [Bool.eq_iff_iff]; simp only [bne_iff_ne, ne_eq, Nat.mul_eq_zero]; omega
  unfold addsOne
  cases way
  · have e1 : (2 ^ d * 2 ^ k < 2 * (n % 2 ^ d * 2 ^ k)) ↔ (2 ^ d < 2 * (n % 2 ^ d)) := by
      rw [← Nat.mul_assoc]; exact Nat.mul_lt_mul_right hk
    have e2 : (2 ^ d * 2 ^ k = 2 * (n % 2 ^ d * 2 ^ k)) ↔ (2 ^ d = 2 * (n % 2 ^ d)) := by
      rw [← Nat.mul_assoc]; exact Nat.mul_left_inj (by omega)
    rw [Bool.eq_iff_iff]
    simp only [Bool.or_eq_true, Bool.and_eq_true, decide_eq_true_eq, beq_iff_eq, e1, e2]
  · simp only [hz]
  · simp only [hz]
  · rfl
theorem pcut_zero (way : Toward) (neg : Bool) (n : Nat) : pcut way neg n 0 = n := by
  unfold pcut addsOne
  rw [Nat.pow_zero, Nat.mod_one, Nat.div_one]
  cases way <;> simp
theorem pcut_le (way : Toward) (neg : Bool) (n d : Nat) : pcut way neg n d ≤ n / 2 ^ d + 1 := by
  unfold pcut
  have : (addsOne way neg (n / 2 ^ d) (n % 2 ^ d) (2 ^ d)).toNat ≤ 1 := Bool.toNat_le _
  omega
theorem cut_canon (way : Toward) (s : Bool) (m : Nat) (p l : Int) (hl : l ≤ 0) (hp : l ≤ p) : way.cut s (m <<< p.toNat) (-p).toNat = pcut way s (m * 2 ^ (p - l).toNat) (-l).toNat := by
  rw [cut_pcut, Nat.shiftLeft_eq]
  rcases Int.le_total 0 p with h | h
  · rw [show (-p).toNat = 0 from by omega, pcut_zero]
    have := pcut_scale way s (m * 2 ^ p.toNat) (-l).toNat 0
    rw [Nat.zero_add, pcut_zero, Nat.mul_assoc, ← Nat.pow_add, show p.toNat + (-l).toNat = (p - l).toNat from by omega] at this
    exact this.symm
  · rw [show p.toNat = 0 from by omega, Nat.pow_zero, Nat.mul_one]
    have := pcut_scale way s m (p - l).toNat (-p).toNat
    rw [show (-p).toNat + (p - l).toNat = (-l).toNat from by omega] at this
    exact this.symm
theorem cut_congr (way : Toward) (s : Bool) {m n : Nat} {p j : Int} (l : Int) (hl : l ≤ 0) (hp : l ≤ p) (hj : l ≤ j) (h : m * 2 ^ (p - l).toNat = n * 2 ^ (j - l).toNat) :
    way.cut s (m <<< p.toNat) (-p).toNat = way.cut s (n <<< j.toNat) (-j).toNat := by
  rw [cut_canon way s m p l hl hp, cut_canon way s n j l hl hj, h]
theorem cut_form (way : Toward) (s : Bool) (m B : Nat) (p : Int) (hm : m < 2 * B) (hB : 2 ≤ B) : ∃ c k : Nat, way.cut s (m <<< p.toNat) (-p).toNat = c * 2 ^ k ∧ c < 2 * B ∧ (k : Int) ≤ max p 0 := by
  rw [cut_pcut, Nat.shiftLeft_eq]
  rcases Int.le_total 0 p with h | h
  · refine ⟨m, p.toNat, ?_, hm, by omega⟩
    rw [show (-p).toNat = 0 from by omega, pcut_zero]
  · rw [show p.toNat = 0 from by omega, Nat.pow_zero, Nat.mul_one]
    refine ⟨_, 0, (Nat.mul_one _).symm, ?_, by omega⟩
    have h1 := pcut_le way s m (-p).toNat
    rcases Nat.eq_zero_or_pos (-p).toNat with h2 | h2
    · rw [h2, pcut_zero]; exact hm
    · have : 2 ^ 1 ≤ 2 ^ (-p).toNat := Nat.pow_le_pow_right (by decide) h2
      have h3 : m / 2 ^ (-p).toNat ≤ m / 2 := Nat.div_le_div_left this (by decide)
      omega
theorem val_inf_single : ∃ N, N = 277 ∧ val Ieee.single Ieee.single.infRung = 2 ^ N := by
  obtain ⟨b, hb⟩ : ∃ b, b = 253 := ⟨_, rfl⟩
  have := val_at Ieee.single b (2 * 2 ^ 23) (Or.inr (by show 2 ^ 23 ≤ 2 * 2 ^ 23; omega)) (Nat.le_refl _)
  rw [show b * Ieee.single.binade + 2 * 2 ^ 23 = Ieee.single.infRung from by subst hb; decide +kernel] at this
  refine ⟨24 + b, by omega, ?_⟩
  rw [this, show 2 * 2 ^ 23 = 2 ^ 24 from by decide, ← Nat.pow_add]
theorem val_inf_double : ∃ N, N = 2098 ∧ val Ieee.double Ieee.double.infRung = 2 ^ N := by
  obtain ⟨b, hb⟩ : ∃ b, b = 2045 := ⟨_, rfl⟩
  have := val_at Ieee.double b (2 * 2 ^ 52) (Or.inr (by show 2 ^ 52 ≤ 2 * 2 ^ 52; omega)) (Nat.le_refl _)
  rw [show b * Ieee.double.binade + 2 * 2 ^ 52 = Ieee.double.infRung from by subst hb; decide +kernel] at this
  refine ⟨53 + b, by omega, ?_⟩
  rw [this, show 2 * 2 ^ 52 = 2 ^ 53 from by decide, ← Nat.pow_add]
theorem least_single : Ieee.single.leastPlace = -149 := by decide +kernel
theorem least_double : Ieee.double.leastPlace = -1074 := by decide +kernel
theorem plc_single (r : Nat) (h : r < Ieee.single.infRung) : plc Ieee.single r ≤ 104 := by
  unfold plc
  rw [least_single]
  split
  · omega
  · have hb : Ieee.single.binade = 8388608 := by decide +kernel
    have hi : Ieee.single.infRung = 2139095040 := by decide +kernel
    rw [hb]; omega
theorem mag_single (r : Nat) : mag Ieee.single r < 16777216 := mag_lt Ieee.single r
theorem pow_lt_of {m a b : Nat} (hm : m < 2 ^ a) (c : Nat) (h : a + b ≤ c) : m * 2 ^ b < 2 ^ c :=
  Nat.lt_of_lt_of_le (Nat.mul_lt_mul_of_pos_right hm (Nat.two_pow_pos b)) (by rw [← Nat.pow_add]; exact Nat.pow_le_pow_right (by decide) h)
theorem wide_exact (c : Nat) (p : Int) (hc : c < 2 ^ 53) (hp : -1074 ≤ p) (hp1 : p ≤ 900) :
    val Ieee.double (near Ieee.double c p) = c * 2 ^ (p + 1074).toNat ∧ near Ieee.double c p < Ieee.double.infRung := by
  obtain ⟨N, hN, hv⟩ := val_inf_double
  have h := val_near Ieee.double c p (by show c < 2 * 2 ^ 52; rw [show 2 * 2 ^ 52 = 2 ^ 53 from by decide]; exact hc) (by rw [least_double]; exact hp)
    (by rw [least_double, hv]; exact pow_lt_of hc _ (by omega))
  rw [least_double, show p - -1074 = p + 1074 from by omega] at h
  exact h
theorem narrow_exact (c : Nat) (p : Int) (hc : c < 2 ^ 24) (hp : -149 ≤ p) (hp1 : p ≤ 104) :
    val Ieee.single (near Ieee.single c p) = c * 2 ^ (p + 149).toNat ∧ near Ieee.single c p < Ieee.single.infRung := by
  obtain ⟨N, hN, hv⟩ := val_inf_single
  have h := val_near Ieee.single c p (by show c < 2 * 2 ^ 23; rw [show 2 * 2 ^ 23 = 2 ^ 24 from by decide]; exact hc) (by rw [least_single]; exact hp)
    (by rw [least_single, hv]; exact pow_lt_of hc _ (by omega))
  rw [least_single, show p - -149 = p + 149 from by omega] at h
  exact h
theorem sw_double : Ieee.double.infRung < Ieee.double.signWeight := Ieee.Format.infRung_lt _
theorem sw_single : Ieee.single.infRung < Ieee.single.signWeight := Ieee.Format.infRung_lt _
theorem read_wide (s : Bool) (r : Nat) (h : r < Ieee.double.infRung) : Ieee.double.read (Ieee.double.word s r) = .number s (mag Ieee.double r) (plc Ieee.double r) := by
  have h2 := sw_double
  rw [read_num Ieee.double _ (by rw [rg_word Ieee.double s r (by omega)]; exact h), rg_word Ieee.double s r (by omega), sg_word Ieee.double s r (by omega)]
theorem val_wide (r : Nat) : val Ieee.double r = mag Ieee.double r * 2 ^ (plc Ieee.double r + 1074).toNat := by
  rw [val_mag, least_double]; rfl
theorem whole_by_wide (way : Toward) (s : Bool) (r : Nat) (h : r < Ieee.single.infRung) :
    ∃ D E, Ieee.double.write (.number s (mag Ieee.single r) (plc Ieee.single r)) = D ∧ (∃ m p, Ieee.double.read D = .number s m p ∧ Ieee.double.write (Datum.integral way (.number s m p)) = E) ∧
      ∃ m p, Ieee.double.read E = .number s m p ∧ Ieee.single.write (.number s m p) = Ieee.single.write (Datum.integral way (.number s (mag Ieee.single r) (plc Ieee.single r))) ∧
      (Ieee.single.read (Ieee.single.write (.number s m p))).isInfinity = false := by
  have hm := mag_single r
  have hp := plc_single r h
  have hp0 := plc_ge Ieee.single r
  rw [least_single] at hp0
  generalize mag Ieee.single r = m at *
  generalize plc Ieee.single r = p at *
  obtain ⟨v1, i1⟩ := wide_exact m p (by omega) (by omega) (by omega)
  refine ⟨_, _, rfl, ⟨mag Ieee.double (near Ieee.double m p), plc Ieee.double (near Ieee.double m p), ?_, rfl⟩, ?_⟩
  · show Ieee.double.read (Ieee.double.nearest s m p) = _
    rw [nearest_near, read_wide s _ i1]
  · have q0 := plc_ge Ieee.double (near Ieee.double m p)
    rw [least_double] at q0
    rw [val_wide] at v1
    generalize near Ieee.double m p = rD at *
    have ec : way.cut s (mag Ieee.double rD <<< (plc Ieee.double rD).toNat) (-plc Ieee.double rD).toNat = way.cut s (m <<< p.toNat) (-p).toNat := by
      refine cut_congr way s (-1074) (by omega) (by omega) (by omega) ?_
      rw [show plc Ieee.double rD - -1074 = plc Ieee.double rD + 1074 from by omega, show p - -1074 = p + 1074 from by omega]; exact v1
    show ∃ m' p', Ieee.double.read (Ieee.double.nearest s (way.cut s (mag Ieee.double rD <<< (plc Ieee.double rD).toNat) (-plc Ieee.double rD).toNat) 0) = _ ∧ Ieee.single.nearest s m' p' = Ieee.single.nearest s (way.cut s (m <<< p.toNat) (-p).toNat) 0 ∧ _
    rw [ec]
    obtain ⟨c, k, e1, e2, e3⟩ := cut_form way s m 8388608 p (by omega) (by omega)
    rw [e1]
    have hk : (k : Int) ≤ 104 := by omega
    have hc : c < 2 ^ 24 := by omega
    obtain ⟨v2, i2⟩ := wide_exact c k (by omega) (by omega) (by omega)
    have n1 : near Ieee.double (c * 2 ^ k) 0 = near Ieee.double c k := by rw [near_scale, Int.zero_add]
    have n2 : near Ieee.single (c * 2 ^ k) 0 = near Ieee.single c k := by rw [near_scale, Int.zero_add]
    obtain ⟨v3, i3⟩ := narrow_exact c k hc (by omega) hk
    have q1 := plc_ge Ieee.double (near Ieee.double c k)
    rw [least_double] at q1
    have n3 : near Ieee.single (mag Ieee.double (near Ieee.double c k)) (plc Ieee.double (near Ieee.double c k)) = near Ieee.single c k := by
      refine near_congr Ieee.single (-1074) (by omega) (by omega) ?_
      rw [val_wide] at v2
      rw [show plc Ieee.double (near Ieee.double c k) - -1074 = plc Ieee.double (near Ieee.double c k) + 1074 from by omega, show (k : Int) - -1074 = k + 1074 from by omega]; exact v2
    refine ⟨mag Ieee.double (near Ieee.double c k), plc Ieee.double (near Ieee.double c k), ?_, ?_, ?_⟩
    · rw [nearest_near, n1, read_wide s _ i2]
    · rw [nearest_near, nearest_near, n2, n3]
    · show (Ieee.single.read (Ieee.single.nearest s _ _)).isInfinity = false
      have h2 := sw_single
      rw [nearest_near, n3, read_num Ieee.single _ (by rw [rg_word Ieee.single s _ (by omega)]; exact i3)]
      rfl
theorem dvd_gap {a b c : Nat} (ha : c ∣ a) (hb : c ∣ b) (h : a < b) : a + c ≤ b := by
  obtain ⟨x, rfl⟩ := ha
  obtain ⟨y, rfl⟩ := hb
  have : x < y := Nat.lt_of_mul_lt_mul_left h
  have := Nat.mul_le_mul_left c this
  rw [Nat.mul_succ] at this
  exact this
theorem root_gap (n w G : Nat) (h : IsRoot n w) (hn : 2 ^ 58 ∣ n) (hG : 2 ^ 58 ∣ G * G) (hG1 : G < 2 ^ 55 + 4) :
    (rs n w < 2 * G → rs n w + 4 < 2 * G) ∧ (2 * G < rs n w → 2 * G + 4 < rs n w) := by
  obtain ⟨h1, h2⟩ := h
  constructor
  · intro hl
    rcases Nat.lt_or_ge (rs n w + 4) (2 * G) with h3 | h3
    · exact h3
    · exfalso
      have a1 : w < G := by unfold rs at hl; split at hl <;> omega
      have a2 : (w + 1) * (w + 1) ≤ G * G := Nat.mul_le_mul a1 a1
      have a3 := dvd_gap hn hG (by omega)
      have a4 : G ≤ w + 2 := by unfold rs at h3; split at h3 <;> omega
      have a5 : G * G ≤ (w + 2) * (w + 2) := Nat.mul_le_mul a4 a4
      have a6 : (w + 2) * (w + 2) = w * w + 4 * w + 4 := by rw [Nat.mul_add, Nat.add_mul]; omega
      omega
  · intro hl
    rcases Nat.lt_or_ge (2 * G + 4) (rs n w) with h3 | h3
    · exact h3
    · exfalso
      have a1 : G ≤ w := by unfold rs at hl; split at hl <;> omega
      have a2 : G * G ≤ w * w := Nat.mul_le_mul a1 a1
      have a3 : G * G < n := by
        rcases Nat.lt_or_ge (G * G) n with h4 | h4
        · exact h4
        · have e : w * w = n := by omega
          have e2 : G * G = w * w := by omega
          unfold rs at hl; rw [if_pos e] at hl
          have : (G + 1) * (G + 1) ≤ w * w := Nat.mul_le_mul (by omega) (by omega)
          have e3 : (G + 1) * (G + 1) = G * G + 2 * G + 1 := by rw [Nat.mul_add, Nat.add_mul]; omega
          omega
      have a4 := dvd_gap hG hn a3
      have a5 : w ≤ G + 2 := by unfold rs at h3; split at h3 <;> omega
      have a6 : (w + 1) * (w + 1) ≤ (G + 3) * (G + 3) := Nat.mul_le_mul (by omega) (by omega)
      have a7 : (G + 3) * (G + 3) = G * G + 6 * G + 9 := by rw [Nat.mul_add, Nat.add_mul]; omega
      omega
theorem keep_near (n d : Nat) : 2 * (keep n d * 2 ^ d) ≤ 2 * n + 2 ^ d ∧ 2 * n ≤ 2 * (keep n d * 2 ^ d) + 2 ^ d := by
  unfold keep
  have hp := Nat.two_pow_pos d
  have h1 := Nat.div_add_mod n (2 ^ d)
  have h2 := Nat.mod_lt n hp
  rw [Nat.mul_comm] at h1
  generalize n / 2 ^ d = c at *
  generalize n % 2 ^ d = r at *
  generalize 2 ^ d = p at *
  split
  · rw [Nat.add_mul, Nat.one_mul]
    generalize c * p = y at *
    omega
  · rw [Nat.add_zero]
    generalize c * p = y at *
    omega
theorem root_twice (n w : Nat) (e : Int) (h : IsRoot n w) (hn : 2 ^ 58 ∣ n) (hw : 2 ^ 54 ≤ w) (hw1 : w < 2 ^ 55) (he : -149 ≤ e) :
    near Ieee.single (keep (rs n w) 3 * 8) e = near Ieee.single (rs n w) e := by
  have hM0 : 2 ^ 55 ≤ rs n w := by unfold rs; split <;> omega
  have hM1 : rs n w < 2 ^ 56 := by unfold rs; split <;> omega
  obtain ⟨k1, k2⟩ := keep_near (rs n w) 3
  rw [show (2 : Nat) ^ 3 = 8 from by decide] at k1 k2
  have hdv : 8 ∣ rs n w → keep (rs n w) 3 * 8 = rs n w := by
    rintro ⟨c, hc⟩
    have := keep_scale c 3 0
    rw [Nat.zero_add, keep_zero, show c * 2 ^ 3 = 8 * c from by omega] at this
    rw [hc, this]; omega
  have gap := fun G => root_gap n w G h hn
  generalize rs n w = M at *
  generalize keep M 3 * 8 = K at *
  -- where a midpoint lies between the two
  have mid : ∀ r, 2 * min K M * 2 ^ (e + 149).toNat ≤ val Ieee.single r + val Ieee.single (r + 1) → val Ieee.single r + val Ieee.single (r + 1) ≤ 2 * max K M * 2 ^ (e + 149).toNat → K = M := by
    intro r a1 a2
    obtain ⟨b, q, rfl, h1, h2⟩ := rung_parts Ieee.single r
    have hb : Ieee.single.binade = 2 ^ 23 := rfl
    rw [Nat.add_assoc, val_at Ieee.single b q h1 (by omega), val_at Ieee.single b (q + 1) (by omega) (by omega), ← Nat.add_mul] at a1 a2
    rw [hb] at h1 h2
    generalize (e + 149).toNat = A at *
    have hbA : A + 31 ≤ b := by
      rcases Nat.lt_or_ge b (A + 31) with h3 | h3
      · exfalso
        have a3 : 2 ^ b ≤ 2 ^ (A + 30) := Nat.pow_le_pow_right (by decide) (by omega)
        have a4 : (q + (q + 1)) * 2 ^ b ≤ (2 ^ 25 - 1) * 2 ^ (A + 30) := Nat.mul_le_mul (by omega) a3
        rw [Nat.pow_add, Nat.mul_comm (2 ^ A), ← Nat.mul_assoc] at a4
        have a5 : 2 * min K M * 2 ^ A ≤ (2 ^ 25 - 1) * 2 ^ 30 * 2 ^ A := Nat.le_trans a1 a4
        have a6 := Nat.le_of_mul_le_mul_right a5 (Nat.two_pow_pos A)
        omega
      · exact h3
    obtain ⟨g, rfl⟩ : ∃ g, b = A + 2 + (29 + g) := ⟨b - A - 31, by omega⟩
    have e1 : (q + (q + 1)) * 2 ^ (A + 2 + (29 + g)) = 4 * ((2 * q + 1) * 2 ^ (29 + g)) * 2 ^ A := by
      rw [Nat.pow_add, Nat.pow_add 2 A 2, show q + (q + 1) = 2 * q + 1 from by omega]
      generalize 2 ^ A = x
      generalize 2 ^ (29 + g) = y
      rw [show (2 : Nat) ^ 2 = 4 from by decide, Nat.mul_comm x 4, Nat.mul_assoc 4, Nat.mul_left_comm, Nat.mul_assoc 4, Nat.mul_assoc, Nat.mul_comm y x]
    rw [e1] at a1 a2
    have b1 := Nat.le_of_mul_le_mul_right a1 (Nat.two_pow_pos A)
    have b2 := Nat.le_of_mul_le_mul_right a2 (Nat.two_pow_pos A)
    have hGG : 2 ^ 58 ∣ (2 * q + 1) * 2 ^ (29 + g) * ((2 * q + 1) * 2 ^ (29 + g)) := by
      refine ⟨(2 * q + 1) * (2 * q + 1) * (2 ^ g * 2 ^ g), ?_⟩
      rw [Nat.mul_mul_mul_comm, Nat.pow_add, Nat.mul_mul_mul_comm (2 ^ 29), Nat.mul_left_comm, show 2 ^ 29 * 2 ^ 29 = 2 ^ 58 from by decide]
    have h8 : 8 ∣ 2 * ((2 * q + 1) * 2 ^ (29 + g)) := by
      refine ⟨2 * (2 * q + 1) * (2 ^ 26 * 2 ^ g), ?_⟩
      rw [Nat.pow_add, show (2 : Nat) ^ 29 = 8 * 2 ^ 26 from by decide]
      generalize 2 * q + 1 = x
      generalize 2 ^ g = y
      rw [Nat.mul_assoc 8, Nat.mul_left_comm x 8, Nat.mul_left_comm 2 8, Nat.mul_assoc 2 x]
    have hg := gap ((2 * q + 1) * 2 ^ (29 + g)) hGG
    generalize (2 * q + 1) * 2 ^ (29 + g) = G at *
    obtain ⟨g1, g2⟩ := hg (by omega)
    rcases Nat.lt_trichotomy M (2 * G) with h3 | h3 | h3
    · have := g1 h3; omega
    · exact hdv (by rw [h3]; exact h8)
    · have := g2 h3; omega
  have hl : (Ieee.single.leastPlace - e).toNat = 0 := by rw [least_single]; omega
  have hA : (e - Ieee.single.leastPlace).toNat = (e + 149).toNat := by rw [least_single]; omega
  rcases Nat.lt_trichotomy (near Ieee.single K e) (near Ieee.single M e) with hc | hc | hc
  · exfalso
    have c1 := fun hh => near_le Ieee.single M e (near Ieee.single K e) hh
    have c2 := fun hh => le_near Ieee.single K e (near Ieee.single K e) (by have := near_inf Ieee.single M e; omega) hh
    rw [hl, hA, Nat.pow_zero, Nat.mul_one] at c1 c2
    generalize hr : near Ieee.single K e = r at *
    have d1 : ¬ 2 * (M * 2 ^ (e + 149).toNat) < val Ieee.single r + val Ieee.single (r + 1) := fun hh => by have := c1 hh; omega
    have d2 : ¬ val Ieee.single r + val Ieee.single (r + 1) < 2 * (K * 2 ^ (e + 149).toNat) := fun hh => by have := c2 hh; omega
    rw [← Nat.mul_assoc] at d1 d2
    have : K = M := mid r
      (Nat.le_trans (Nat.mul_le_mul_right _ (Nat.mul_le_mul_left 2 (Nat.min_le_left K M))) (by omega))
      (Nat.le_trans (by omega) (Nat.mul_le_mul_right _ (Nat.mul_le_mul_left 2 (Nat.le_max_right K M))))
    rw [this] at hr; omega
  · exact hc
  · exfalso
    have c1 := fun hh => near_le Ieee.single K e (near Ieee.single M e) hh
    have c2 := fun hh => le_near Ieee.single M e (near Ieee.single M e) (by have := near_inf Ieee.single K e; omega) hh
    rw [hl, hA, Nat.pow_zero, Nat.mul_one] at c1 c2
    generalize hr : near Ieee.single M e = r at *
    have d1 : ¬ 2 * (K * 2 ^ (e + 149).toNat) < val Ieee.single r + val Ieee.single (r + 1) := fun hh => by have := c1 hh; omega
    have d2 : ¬ val Ieee.single r + val Ieee.single (r + 1) < 2 * (M * 2 ^ (e + 149).toNat) := fun hh => by have := c2 hh; omega
    rw [← Nat.mul_assoc] at d1 d2
    have : K = M := mid r
      (Nat.le_trans (Nat.mul_le_mul_right _ (Nat.mul_le_mul_left 2 (Nat.min_le_right K M))) (by omega))
      (Nat.le_trans (by omega) (Nat.mul_le_mul_right _ (Nat.mul_le_mul_left 2 (Nat.le_max_left K M))))
    rw [this] at hc; omega
end Go.FM
namespace Go.FM
open Ieee
theorem root_parts (digits m : Nat) (i : Int) (hm : m ≠ 0) (hd : m.log2 ≤ 2 * digits) :
    ∃ (t w : Nat) (P : Int), Datum.root digits (.number false m i) = some (.number false (rs (m * 2 ^ t) w) (P - 1)) ∧ IsRoot (m * 2 ^ t) w ∧ i - t = 2 * P ∧ 2 * digits ≤ m.log2 + t ∧ m.log2 + t ≤ 2 * digits + 1 := by
  obtain ⟨t, ht⟩ : ∃ t : Nat, 2 * digits - m.log2 + ((i - ((2 * digits - m.log2 : Nat) : Int)) % 2).toNat = t := ⟨_, rfl⟩
  refine ⟨t, Datum.rootFrom (m * 2 ^ t) ((m * 2 ^ t).log2 / 2 + 1) 0, (i - t) / 2, ?_, rootFrom_root _, by omega, by omega, by omega⟩
  unfold Datum.root
  dsimp only
  rw [if_neg hm, if_neg (by decide)]
  rw [ht, Nat.shiftLeft_eq]
  generalize Datum.rootFrom (m * 2 ^ t) ((m * 2 ^ t).log2 / 2 + 1) 0 = w
  unfold rs
  by_cases h : w * w = m * 2 ^ t
  · rw [if_pos h, h]; simp
  · rw [if_neg h]
    have : (w * w != m * 2 ^ t) = true := by simp [h]
    rw [this]; rfl
theorem root_ge {n w a : Nat} (h : IsRoot n w) (hn : 2 ^ (2 * a) ≤ n) : 2 ^ a ≤ w := by
  refine sq_le (Nat.lt_of_le_of_lt ?_ h.2)
  rw [← Nat.pow_add, ← Nat.two_mul]; exact hn
theorem root_lt {n w a : Nat} (h : IsRoot n w) (hn : n < 2 ^ (2 * a)) : w < 2 ^ a := by
  rcases Nat.lt_or_ge w (2 ^ a) with h1 | h1
  · exact h1
  · have := Nat.mul_le_mul h1 h1
    rw [← Nat.pow_add, ← Nat.two_mul] at this
    have := h.1
    omega
theorem log2_pow {m k : Nat} (h : m ≠ 0) : 2 ^ (m.log2 + k) ≤ m * 2 ^ k ∧ m * 2 ^ k < 2 ^ (m.log2 + k + 1) := by
  obtain ⟨l1, l2⟩ := (Nat.log2_eq_iff h).1 rfl
  constructor
  · rw [Nat.pow_add]; exact Nat.mul_le_mul_right _ l1
  · rw [show m.log2 + k + 1 = m.log2 + 1 + k from by omega, Nat.pow_add]; exact Nat.mul_lt_mul_of_pos_right l2 (Nat.two_pow_pos k)
theorem near_normal (f : Format) (M j : Nat) (e : Int) (h0 : M ≠ 0) (hb : bl M = f.fractionBits + 1 + j) (he : f.leastPlace ≤ e + j) :
    near f M e = min ((e + j - f.leastPlace).toNat * f.binade + keep M j) f.infRung ∧ val f ((e + j - f.leastPlace).toNat * f.binade + keep M j) = keep M j * 2 ^ (e + j - f.leastPlace).toNat := by
  have hby : byOf f M e = j := by unfold byOf; omega
  have hk : kept f M e = keep M j := by
    unfold kept; rw [hby, show (-(j : Int)).toNat = 0 from by omega, Nat.pow_zero, Nat.mul_one, show (j : Int).toNat = j from by omega]
  constructor
  · unfold near; rw [if_neg h0, hby, hk]
  · have h1 := kept_le f M e h0
    have h2 := kept_small f M e h0
    rw [hk] at h1 h2
    refine val_at f _ _ ?_ (by rw [Nat.pow_succ, Nat.mul_comm] at h1; exact h1)
    rcases Nat.lt_or_ge (keep M j) f.binade with h3 | h3
    · left; have := h2 h3; rw [hby] at this; omega
    · exact Or.inr h3
theorem root_by_wide (r : Nat) (h0 : 0 < r) (h : r < Ieee.single.infRung) :
    ∃ D m' p' W E m2 p2 z, Ieee.double.write (.number false (mag Ieee.single r) (plc Ieee.single r)) = D ∧ Ieee.double.read D = .number false m' p' ∧ Datum.root 54 (.number false m' p') = some W ∧ Ieee.double.write W = E ∧
      Ieee.double.read E = .number false m2 p2 ∧ Ieee.single.write (.number false m2 p2) = z ∧ (Datum.root 25 (.number false (mag Ieee.single r) (plc Ieee.single r))).map Ieee.single.write = some z ∧ (Ieee.single.read z).isInfinity = false := by
  have hm := mag_single r
  have hm0 : mag Ieee.single r ≠ 0 := by rw [Ne, mag_zero]; omega
  have hp := plc_single r h
  have hp0 := plc_ge Ieee.single r
  rw [least_single] at hp0
  generalize mag Ieee.single r = m at *
  generalize plc Ieee.single r = p at *
  have hlm : m.log2 ≤ 23 := by have := (Nat.log2_lt hm0).2 (show m < 2 ^ 24 from hm); omega
  obtain ⟨v1, i1⟩ := wide_exact m p (by omega) (by omega) (by omega)
  have hD : Ieee.double.write (.number false m p) = Ieee.double.word false (near Ieee.double m p) := nearest_near _ _ _ _
  have hR := read_wide false _ i1
  have q0 := plc_ge Ieee.double (near Ieee.double m p)
  have q1 := mag_ge Ieee.double (near Ieee.double m p)
  have q2 := mag_lt Ieee.double (near Ieee.double m p)
  rw [least_double] at q0 q1
  rw [show Ieee.double.binade = 2 ^ 52 from rfl] at q1 q2
  rw [val_wide] at v1
  generalize near Ieee.double m p = rD at *
  generalize mag Ieee.double rD = m' at *
  generalize plc Ieee.double rD = p' at *
  -- the wide one is normal
  have hbig : 2 ^ 53 ≤ m * 2 ^ (p + 1074).toNat := by
    refine Nat.le_trans (Nat.pow_le_pow_right (by decide) (show 53 ≤ (p + 1074).toNat by omega)) (Nat.le_mul_of_pos_left _ (by omega))
  have q3 : 2 ^ 52 ≤ m' := by
    rcases q1 with q1 | q1
    · exfalso
      rw [q1, show ((-1074 : Int) + 1074).toNat = 0 from by omega, Nat.pow_zero, Nat.mul_one] at v1
      omega
    · exact q1
  have hp2 : p' + 29 ≤ p := by
    rcases Int.lt_or_le p (p' + 29) with h1 | h1
    · exfalso
      have a1 : 2 ^ 52 * 2 ^ (p' + 1074).toNat ≤ m' * 2 ^ (p' + 1074).toNat := Nat.mul_le_mul_right _ q3
      have a2 : m * 2 ^ (p + 1074).toNat < 2 ^ (24 + (p + 1074).toNat) := pow_lt_of (show m < 2 ^ 24 from hm) _ (Nat.le_refl _)
      rw [← Nat.pow_add] at a1
      have a3 : 2 ^ (24 + (p + 1074).toNat) ≤ 2 ^ (52 + (p' + 1074).toNat) := Nat.pow_le_pow_right (by decide) (by omega)
      omega
    · exact h1
  have hp3 : p - 53 < p' := by
    rcases Int.lt_or_le (p - 53) p' with h1 | h1
    · exact h1
    · exfalso
      have a1 : m' * 2 ^ (p' + 1074).toNat < 2 ^ (53 + (p' + 1074).toNat) := pow_lt_of (show m' < 2 ^ 53 by omega) _ (Nat.le_refl _)
      have a2 : 2 ^ (p + 1074).toNat ≤ m * 2 ^ (p + 1074).toNat := Nat.le_mul_of_pos_left _ (by omega)
      have a3 : 2 ^ (53 + (p' + 1074).toNat) ≤ 2 ^ (p + 1074).toNat := Nat.pow_le_pow_right (by decide) (by omega)
      omega
  have em : m' = m * 2 ^ (p - p').toNat := by
    have : (p + 1074).toNat = (p - p').toNat + (p' + 1074).toNat := by omega
    rw [this, Nat.pow_add, ← Nat.mul_assoc] at v1
    exact Nat.eq_of_mul_eq_mul_right (Nat.two_pow_pos _) v1
  have hl' : m'.log2 = 52 := by rw [Nat.log2_eq_iff (by omega)]; omega
  obtain ⟨t, w, P, e1, e2, e3, e4, e5⟩ := root_parts 54 m' p' (by omega) (by omega)
  obtain ⟨t1, w1, P1, f1, f2, f3, f4, f5⟩ := root_parts 25 m p hm0 (by omega)
  rw [hl'] at e4 e5
  have en : m' * 2 ^ t = m * 2 ^ t1 * 2 ^ (2 * (P1 - P).toNat) := by
    rw [em, Nat.mul_assoc, Nat.mul_assoc, ← Nat.pow_add, ← Nat.pow_add]; congr 2; omega
  have hn0 := log2_pow (m := m') (k := t) (by omega)
  rw [hl'] at hn0
  have hn1 : 2 ^ (2 * 54) ≤ m' * 2 ^ t := Nat.le_trans (Nat.pow_le_pow_right (by decide) (by omega)) hn0.1
  have hn2 : m' * 2 ^ t < 2 ^ (2 * 55) := Nat.lt_of_lt_of_le hn0.2 (Nat.pow_le_pow_right (by decide) (by omega))
  have hw := root_ge e2 hn1
  have hw1 := root_lt e2 hn2
  have hm1 := log2_pow (m := m) (k := t1) hm0
  have hw2 : 2 ^ 25 ≤ w1 := root_ge f2 (Nat.le_trans (Nat.pow_le_pow_right (by decide) (by omega)) hm1.1)
  have hdv : 2 ^ 58 ∣ m' * 2 ^ t := by
    refine ⟨m * 2 ^ ((p - p').toNat + t - 58), ?_⟩
    rw [em, Nat.mul_left_comm, Nat.mul_assoc, ← Nat.pow_add, ← Nat.pow_add]; congr 2; omega
  have hrt := root_twice (m' * 2 ^ t) w (P - 1) e2 hdv hw hw1 (by omega)
  have hM0 : 2 ^ 55 ≤ rs (m' * 2 ^ t) w := by unfold rs; split <;> omega
  have hM1 : rs (m' * 2 ^ t) w < 2 ^ 56 := by unfold rs; split <;> omega
  have hbl : bl (rs (m' * 2 ^ t) w) = 56 := by
    unfold bl; rw [if_neg (by omega), (Nat.log2_eq_iff (k := 55) (by omega)).2 ⟨hM0, hM1⟩]
  have hnr : Ieee.single.nearest false (rs (m' * 2 ^ t) w) (P - 1) = Ieee.single.nearest false (rs (m * 2 ^ t1) w1) (P1 - 1) := by
    have e2' := e2
    rw [en] at e2' ⊢
    have := nearest_root Ieee.single false (m * 2 ^ t1) w1 w (P1 - P).toNat P1 f2 e2' (Nat.le_trans (by show 2 ^ 24 ≤ 2 ^ 25; omega) hw2)
    rw [show P1 - ((P1 - P).toNat : Int) - 1 = P - 1 from by omega] at this
    exact this
  obtain ⟨n1, n2⟩ := near_normal Ieee.double (rs (m' * 2 ^ t) w) 3 (P - 1) (by omega) (by rw [hbl]; rfl) (by rw [least_double]; omega)
  have hkk := (keep_near (rs (m' * 2 ^ t) w) 3).1
  rw [show (2 : Nat) ^ 3 = 8 from by decide] at hkk
  rw [least_double, show P - 1 + ((3 : Nat) : Int) - -1074 = P + 1076 from by omega] at n1 n2
  have hfin : (P + 1076).toNat * Ieee.double.binade + keep (rs (m' * 2 ^ t) w) 3 < Ieee.double.infRung := by
    refine (val_lt_iff Ieee.double).1 ?_
    obtain ⟨N, hN, hv⟩ := val_inf_double
    rw [n2, hv]
    exact pow_lt_of (a := 54) (by omega) _ (by omega)
  rw [Nat.min_eq_left (Nat.le_of_lt hfin)] at n1
  have hE : Ieee.double.write (.number false (rs (m' * 2 ^ t) w) (P - 1)) = Ieee.double.word false (near Ieee.double (rs (m' * 2 ^ t) w) (P - 1)) := nearest_near _ _ _ _
  have hRE := read_wide false (near Ieee.double (rs (m' * 2 ^ t) w) (P - 1)) (by rw [n1]; exact hfin)
  rw [← n1] at n2
  generalize near Ieee.double (rs (m' * 2 ^ t) w) (P - 1) = rE at *
  have q4 := plc_ge Ieee.double rE
  rw [least_double] at q4
  rw [val_wide] at n2
  have n3 : near Ieee.single (mag Ieee.double rE) (plc Ieee.double rE) = near Ieee.single (rs (m' * 2 ^ t) w) (P - 1) := by
    rw [← hrt]
    refine near_congr Ieee.single (-1074) (by omega) (by omega) ?_
    rw [show plc Ieee.double rE - -1074 = plc Ieee.double rE + 1074 from by omega, n2, show (P - 1 - -1074).toNat = (P + 1073).toNat from by omega, show (P + 1076).toNat = 3 + (P + 1073).toNat from by omega, Nat.pow_add, ← Nat.mul_assoc]
  refine ⟨_, m', p', _, _, mag Ieee.double rE, plc Ieee.double rE, _, hD, hR, e1, hE, hRE, rfl, ?_, ?_⟩
  · rw [f1]
    show some (Ieee.single.nearest false (rs (m * 2 ^ t1) w1) (P1 - 1)) = some (Ieee.single.nearest false _ _)
    rw [← hnr, nearest_near, nearest_near, n3]
  · show (Ieee.single.read (Ieee.single.nearest false _ _)).isInfinity = false
    have h2 := sw_single
    have i3 : near Ieee.single (rs (m' * 2 ^ t) w) (P - 1) ≤ 2139095039 := by
      refine near_le_val Ieee.single _ _ _ ?_
      rw [least_single, show ((-149 : Int) - (P - 1)).toNat = 0 from by omega, Nat.pow_zero, Nat.mul_one, show (P - 1 - -149).toNat = (P + 148).toNat from by omega]
      have a1 : rs (m' * 2 ^ t) w * 2 ^ (P + 148).toNat < 2 ^ 240 := pow_lt_of hM1 _ (by omega)
      have a2 : val Ieee.single (253 * Ieee.single.binade + (2 * Ieee.single.binade - 1)) = (2 * Ieee.single.binade - 1) * 2 ^ 253 := val_at Ieee.single 253 _ (Or.inr (by decide +kernel)) (by omega)
      rw [show 253 * Ieee.single.binade + (2 * Ieee.single.binade - 1) = 2139095039 from by decide +kernel] at a2
      have a3 : 2 ^ 240 ≤ (2 * Ieee.single.binade - 1) * 2 ^ 253 :=
        Nat.le_trans (Nat.pow_le_pow_right (by decide) (by decide)) (Nat.le_mul_of_pos_left _ (by decide +kernel))
      rw [a2]; exact Nat.le_of_lt (Nat.lt_of_lt_of_le a1 a3)
    have hi : Ieee.single.infRung = 2139095040 := by decide +kernel
    rw [nearest_near, n3, read_num Ieee.single _ (by rw [rg_word Ieee.single false _ (by omega)]; omega)]
    rfl
end Go.FM
namespace Go.FM
open Ieee
variable (f : Format)
def qn : Nat := f.infRung + 2 ^ (f.fractionBits - 1)
abbrev isN (x : Nat) : Prop := f.infRung < rg f x
def fixn (x : Nat) : Nat := if isN f x then qn f else x
def fixo (o : Option Nat) : Nat := o.getD (qn f)
def wholeW (way : Toward) (x : Nat) : Nat := if isN f x then qn f else f.write ((f.read x).integral way)
def rootW (x : Nat) : Nat := fixo f (f.sqrt x)
def minW (x y : Nat) : Nat := if f.order x y = some .lt then x else if f.order x y = some .gt then y else if f.order x y = some .eq then x ||| y else qn f
def maxW (x y : Nat) : Nat := if f.order x y = some .gt then x else if f.order x y = some .lt then y else if f.order x y = some .eq then x &&& y else qn f
theorem rg_write (d : Datum) (h : d.isNaN = false) : rg f (f.write d) ≤ f.infRung := by
  have hs := Format.infRung_lt f
  cases d with
  | number s m e =>
    show rg f (f.nearest s m e) ≤ _
    rw [nearest_near, rg_word f s _ (Nat.lt_of_le_of_lt (near_inf f m e) hs)]
    exact near_inf f m e
  | infinity s =>
    show rg f (f.word s f.infRung) ≤ _
    rw [rg_word f s _ hs]; exact Nat.le_refl _
  | nan s t => cases h
theorem fixn_ok (x : Nat) (h : rg f x ≤ f.infRung) : fixn f x = x := by unfold fixn; rw [if_neg (by unfold isN; omega)]
theorem fixn_nan (x : Nat) (h : isN f x) : fixn f x = qn f := by unfold fixn; rw [if_pos h]
theorem fix_some {o : Option Datum} {r : Nat} (hd : ∀ d, o = some d → d.isNaN = false) (h : o.map f.write = some r) : rg f r ≤ f.infRung ∧ fixn f r = r := by
  cases o with
  | none => cases h
  | some d =>
    have : f.write d = r := by simpa using h
    subst this
    have h1 := rg_write f d (hd d rfl)
    exact ⟨h1, fixn_ok f _ h1⟩
theorem sum_num (a b d : Datum) (h : a.sum b = some d) : d.isNaN = false := by
  cases a <;> cases b <;> simp [Datum.sum] at h
  all_goals first
    | (subst h; rfl)
    | (obtain ⟨_, h⟩ := h; subst h; rfl)
theorem product_num (a b d : Datum) (h : a.product b = some d) : d.isNaN = false := by
  cases a <;> cases b <;> simp [Datum.product] at h
  all_goals first
    | (subst h; rfl)
    | (obtain ⟨_, h⟩ := h; subst h; rfl)
theorem quotient_num (k : Nat) (a b d : Datum) (h : a.quotient k b = some d) : d.isNaN = false := by
  cases a <;> cases b <;> simp [Datum.quotient] at h
  all_goals first
    | (subst h; rfl)
    | (obtain ⟨_, h⟩ := h; subst h; rfl)
    | (split at h; (split at h; cases h; (cases h; rfl)); (cases h; rfl))
theorem root_num (k : Nat) (a d : Datum) (h : a.root k = some d) : d.isNaN = false := by
  cases a with
  | number s m i =>
    unfold Datum.root at h
    dsimp only at h
    split at h
    · cases h; rfl
    · split at h
      · cases h
      · cases h; rfl
  | infinity s =>
    unfold Datum.root at h
    dsimp only at h
    split at h
    · cases h
    · cases h; rfl
  | nan s t => cases h
theorem add_ok {x y r : Nat} (h : f.add x y = some r) : fixn f r = r := (fix_some f (fun d hd => sum_num _ _ d hd) h).2
theorem sub_ok {x y r : Nat} (h : f.sub x y = some r) : fixn f r = r := (fix_some f (fun d hd => sum_num _ _ d hd) h).2
theorem mul_ok {x y r : Nat} (h : f.mul x y = some r) : fixn f r = r := (fix_some f (fun d hd => product_num _ _ d hd) h).2
theorem div_ok {x y r : Nat} (h : f.div x y = some r) : fixn f r = r := (fix_some f (fun d hd => quotient_num _ _ _ d hd) h).2
theorem sqrt_ok {x r : Nat} (h : f.sqrt x = some r) : fixn f r = r := (fix_some f (fun d hd => root_num _ _ d hd) h).2
theorem order_self (hf : 2 ≤ f.exponentBits) (x : Nat) (h : ¬ isN f x) : f.order x x = some .eq := by
  unfold isN at h
  rw [order_key f hf x x (by omega) (by omega), cmp_eq rfl]
theorem order_selfN (hf : 2 ≤ f.exponentBits) (x : Nat) (h : isN f x) : f.order x x = none := order_nan_l f hf x x h
theorem nan_cut32 (t : Nat) : isN Ieee.single ((t % 2) * 2 ^ 31 + 0x7f800000 + 1 + (t / 2) % (2 ^ 23 - 1)) ∧ (t % 2) * 2 ^ 31 + 0x7f800000 + 1 + (t / 2) % (2 ^ 23 - 1) < 4294967296 := by
  have h1 : Ieee.single.infRung = 2139095040 := by decide +kernel
  have h2 : Ieee.single.signWeight = 2147483648 := by decide +kernel
  unfold isN rg
  rw [h1, h2]
  have h3 : t / 2 % (2 ^ 23 - 1) < 2 ^ 23 - 1 := Nat.mod_lt _ (by decide)
  generalize t / 2 % (2 ^ 23 - 1) = z at *
  rcases Nat.mod_two_eq_zero_or_one t with h | h <;> rw [h] <;> omega
theorem nan_cut64 (t : Nat) : isN Ieee.double ((t % 2) * 2 ^ 63 + 0x7ff0000000000000 + 1 + (t / 2) % (2 ^ 52 - 1)) ∧ (t % 2) * 2 ^ 63 + 0x7ff0000000000000 + 1 + (t / 2) % (2 ^ 52 - 1) < 18446744073709551616 := by
  have h1 : Ieee.double.infRung = 9218868437227405312 := by decide +kernel
  have h2 : Ieee.double.signWeight = 9223372036854775808 := by decide +kernel
  unfold isN rg
  rw [h1, h2]
  have h3 : t / 2 % (2 ^ 52 - 1) < 2 ^ 52 - 1 := Nat.mod_lt _ (by decide)
  generalize t / 2 % (2 ^ 52 - 1) = z at *
  rcases Nat.mod_two_eq_zero_or_one t with h | h <;> rw [h] <;> omega
theorem cut_nan (k : FloatKind) (x y t : Nat) : isN k.format ((Question.nanBits k x y).cut t) ∧ (Question.nanBits k x y).cut t < 2 ^ k.format.width := by
  cases k
  · exact nan_cut32 t
  · exact nan_cut64 t
theorem conv_nan (k : FloatKind) (x t : Nat) : isN k.format ((Question.nanConv k x).cut t) ∧ (Question.nanConv k x).cut t < 2 ^ k.format.width := by
  cases k
  · exact nan_cut32 t
  · exact nan_cut64 t
theorem run_arith_none {P : Program} (op : BinOp) (t : TypeId) (k : FloatKind) (x y : Nat) (w : World) (ho : op = .add ∨ op = .sub ∨ op = .mul ∨ op = .quo) (h : floatBits op k x y = none) :
    (binOp op t (.float k x) (.float k y)).run P w = .ok (.float k ((Question.nanBits k x y).cut (w.tape w.drawn (.nanBits k x y)))) w.drew := by
  unfold floatBits at h
  rcases ho with rfl | rfl | rfl | rfl <;> simp only at h
  all_goals simp [binOp, Op.floatArith, h, Question.forced]
theorem run_conv_nan {P : Program} (src dst : TypeId) (s k : FloatKind) (b : Nat) (w : World) (hs : (P.underlying src).isSome = true) (hd : P.underlying dst = some (.float k)) (hne : s ≠ k) (sg' : Bool) (fr : Nat) (h : s.decode b = .nan sg' fr) :
    (convert src dst (.float s b)).run P w = .ok (.float k ((Question.nanConv k b).cut (w.tape w.drawn (.nanConv k b)))) w.drew := by
  obtain ⟨u, hs'⟩ := Option.isSome_iff_exists.1 hs
  cases u <;> simp [convert, run_underlying hs', run_underlying hd, Conv.floatToFloat, hne, h, Question.forced]
end Go.FM
namespace Go.FM
open Go.RowKit
theorem ofInt_i (x : Nat) (h : x < 4294967296) : (BitVec.ofInt 64 (x : Int)).toNat = x := ofInt_u x (by simp only [W64]; omega)
theorem wrap_i (x : Nat) (h : x < 4294967296) : IntKind.i64.wrap (x : Int) = (x : Int) := by rw [IntKind.wrap_i64]; omega
theorem and_i (x y : Nat) (hx : x < 4294967296) (hy : y < 4294967296) : bits .and .i64 (x : Int) (y : Int) = ((x &&& y : Nat) : Int) := by
  show IntKind.i64.wrap ((BitVec.ofInt 64 (x : Int) &&& BitVec.ofInt 64 (y : Int)).toNat : Int) = _
  rw [BitVec.toNat_and, ofInt_i x hx, ofInt_i y hy, wrap_i _ (Nat.lt_of_le_of_lt Nat.and_le_left hx)]
theorem or_lt (x y : Nat) (hx : x < 4294967296) (hy : y < 4294967296) : x ||| y < 4294967296 := Nat.or_lt_two_pow (n := 32) hx hy
theorem or_i (x y : Nat) (hx : x < 4294967296) (hy : y < 4294967296) : bits .or .i64 (x : Int) (y : Int) = ((x ||| y : Nat) : Int) := by
  show IntKind.i64.wrap ((BitVec.ofInt 64 (x : Int) ||| BitVec.ofInt 64 (y : Int)).toNat : Int) = _
  rw [BitVec.toNat_or, ofInt_i x hx, ofInt_i y hy, wrap_i _ (or_lt x y hx hy)]
theorem xor_i (x y : Nat) (hx : x < 4294967296) (hy : y < 4294967296) : bits .xor .i64 (x : Int) (y : Int) = ((x ^^^ y : Nat) : Int) := by
  show IntKind.i64.wrap ((BitVec.ofInt 64 (x : Int) ^^^ BitVec.ofInt 64 (y : Int)).toNat : Int) = _
  rw [BitVec.toNat_xor, ofInt_i x hx, ofInt_i y hy, wrap_i _ (Nat.xor_lt_two_pow (n := 32) hx hy)]
theorem andNot_top (x : Nat) (hx : x < 4294967296) : bits .andNot .i64 (x : Int) 2147483648 = ((x % 2147483648 : Nat) : Int) := by
  show IntKind.i64.wrap ((BitVec.ofInt 64 (x : Int) &&& ~~~BitVec.ofInt 64 ((2147483648 : Nat) : Int)).toNat : Int) = _
  have e : (BitVec.ofInt 64 (x : Int) &&& ~~~BitVec.ofInt 64 ((2147483648 : Nat) : Int)).toNat = x % 2147483648 := by
    apply Nat.eq_of_testBit_eq
    intro i
    have h1 : BitVec.ofInt 64 ((2147483648 : Nat) : Int) = BitVec.twoPow 64 31 := by decide
    rw [BitVec.toNat_and, Nat.testBit_and, ofInt_i x hx, h1, show (2147483648 : Nat) = 2 ^ 31 from by decide, Nat.testBit_mod_two_pow]
    rcases Nat.lt_or_ge i 32 with h | h
    · rw [BitVec.testBit_toNat, BitVec.getLsbD_not, BitVec.getLsbD_twoPow]
      have h3 : i < 64 := by omega
      by_cases h2 : i = 31
      · subst h2; simp
      · have : i < 31 := by omega
        simp [this, h3, show ¬ 31 = i from by omega]
    · have : x.testBit i = false := Nat.testBit_lt_two_pow (Nat.lt_of_lt_of_le hx (by rw [show (4294967296 : Nat) = 2 ^ 32 from by decide]; exact Nat.pow_le_pow_right (by decide) h))
      rw [this]; simp
  rw [e, wrap_i _ (by omega)]
theorem sw32 : Ieee.single.signWeight = 2147483648 := by decide +kernel
theorem inf32 : Ieee.single.infRung = 2139095040 := by decide +kernel
theorem rg32 (x : Nat) : rg Ieee.single x = x % 2147483648 := by unfold rg; rw [sw32]
theorem word32 (s : Bool) (r : Nat) : Ieee.single.word s r = if s then 2147483648 + r else r := by unfold Ieee.Format.word; rw [sw32]
theorem parts32 (x : Nat) (h : x < 4294967296) : ∃ s r, x = Ieee.single.word s r ∧ r < 2147483648 ∧ sg Ieee.single x = s ∧ rg Ieee.single x = r :=
  ⟨sg Ieee.single x, rg Ieee.single x, (word_parts Ieee.single x (by rw [sw32]; omega)).symm, by rw [rg32]; omega, rfl, rfl⟩
end Go.FM
