/- Over this seat's translation: a text that ends where a section does, read from a place on, and the section's own bytes read from their beginning, are read alike: numbers, names, instructions. -/
import Derived.Test.YtngciahmoenkiabXN
import Derived.Test.YtngciahmoenkiabOB
set_option linter.unusedVariables false
set_option linter.unusedSimpArgs false
set_option maxRecDepth 100000
set_option maxHeartbeats 4000000
namespace Go.Proofs.Ytngciahmoenkiab
open Go.RowKit
/-- v is some b bytes, then u -/
structure Shf (b : Nat) (v u : ByteArray) : Prop where
  size : v.size = b + u.size
  same : ∀ i, bt v (b + i) = bt u i
  part : ∀ i j, j ≤ u.size → v.extract (b + i) (b + j) = u.extract i j
variable {b : Nat} {v u : ByteArray}
theorem pt_sh (h : Shf b v u) (a : Nat) : ∀ (r i : Nat), (pt v (b + a) r i).2 = (pt u a r i).2 ∧ ((pt u a r i).2 = 0 → (pt v (b + a) r i).1 = (b : Int) + (pt u a r i).1)
  | 0, i => by simp [pt]
  | r + 1, i => by
    have hsz := h.size
    have hb := h.same (a + i)
    rw [← Nat.add_assoc] at hb
    unfold pt
    by_cases h1 : u.size ≤ a + i
    · rw [if_pos h1, if_pos (by omega)]
      simp
    · rw [if_neg h1, if_neg (by omega), hb]
      split
      · exact ⟨rfl, fun _ => by push_cast; omega⟩
      · exact pt_sh h a r (i + 1)
theorem ac_sh (h : Shf b v u) (a : Nat) : ∀ (j : Nat) (x : Int), ac v (b + a) j x = ac u a j x
  | 0, x => rfl
  | j + 1, x => by
    have hb := h.same (a + j)
    rw [← Nat.add_assoc] at hb
    unfold ac
    rw [hb]
    exact ac_sh h a j _
theorem ptR_sh (h : Shf b v u) (at_ bits_ : Int) (h0 : 0 ≤ at_) (h1 : at_ ≤ u.size) : (ptR v ((b : Int) + at_) bits_).2 = (ptR u at_ bits_).2 ∧ ((ptR u at_ bits_).2 = 0 → (ptR v ((b : Int) + at_) bits_).1 = (b : Int) + (ptR u at_ bits_).1) := by
  have hsz := h.size
  unfold ptR
  by_cases hb : bits_ = 32 ∨ bits_ = 64
  · rw [if_pos ⟨hb, by omega, by omega⟩, if_pos ⟨hb, h0, h1⟩, show ((b : Int) + at_).toNat = b + at_.toNat by omega]
    exact pt_sh h _ _ _
  · rw [if_neg (fun x => hb x.1), if_neg (fun x => hb x.1)]
    simp
/-- a number's answer, read further on -/
def sh3 {T : Type} (b : Nat) (x : T × Int × Int) : T × Int × Int := if x.2.2 = 0 then (x.1, (b : Int) + x.2.1, 0) else x
theorem ptR_rng (s : ByteArray) (at_ bits_ : Int) (h : (ptR s at_ bits_).2 = 0) : 0 ≤ at_ ∧ at_ ≤ (ptR s at_ bits_).1 := by
  unfold ptR at *
  split
  · rename_i hc
    rw [if_pos hc] at h
    obtain ⟨k, hk, hk2, _⟩ := pt_in s at_.toNat _ _ h
    rw [hk]
    omega
  · rename_i hc
    rw [if_neg hc] at h
    cases h
theorem ulR_sh (h : Shf b v u) (at_ bits_ : Int) (h0 : 0 ≤ at_) (h1 : at_ ≤ u.size) : ulR v ((b : Int) + at_) bits_ = sh3 b (ulR u at_ bits_) := by
  obtain ⟨e1, e2⟩ := ptR_sh h at_ bits_ h0 h1
  have hr := ptR_rng u at_ bits_
  unfold ulR
  rw [e1]
  by_cases hp : (ptR u at_ bits_).2 = 0
  · rw [if_pos hp, if_pos hp, e2 hp]
    obtain ⟨r0, r1⟩ := hr hp
    generalize (ptR u at_ bits_).1 = k at *
    rw [show ((b : Int) + k).toNat = b + k.toNat by omega, show ((b : Int) + at_).toNat = b + at_.toNat by omega, h.same, ac_sh h, show b + k.toNat + 1 - (b + at_.toNat) = k.toNat + 1 - at_.toNat by omega, show (b : Int) + k - ((b : Int) + at_) = k - at_ by omega]
    split
    · simp [sh3]
    · simp only [sh3, if_true, Int.add_assoc]
  · rw [if_neg hp, if_neg hp]
    simp [sh3, hp]
theorem usR_sh (h : Shf b v u) (at_ bits_ : Int) (h0 : 0 ≤ at_) (h1 : at_ ≤ u.size) : usR v ((b : Int) + at_) bits_ = sh3 b (usR u at_ bits_) := by
  obtain ⟨e1, e2⟩ := ptR_sh h at_ bits_ h0 h1
  have hr := ptR_rng u at_ bits_
  unfold usR
  rw [e1]
  by_cases hp : (ptR u at_ bits_).2 = 0
  · rw [if_pos hp, if_pos hp, e2 hp]
    obtain ⟨r0, r1⟩ := hr hp
    generalize (ptR u at_ bits_).1 = k at *
    rw [show ((b : Int) + k).toNat = b + k.toNat by omega, show ((b : Int) + at_).toNat = b + at_.toNat by omega, h.same, ac_sh h, show b + k.toNat + 1 - (b + at_.toNat) = k.toNat + 1 - at_.toNat by omega, show (b : Int) + k - ((b : Int) + at_) = k - at_ by omega]
    split
    · simp [sh3]
    · simp only [sh3, if_true, Int.add_assoc]
  · rw [if_neg hp, if_neg hp]
    simp [sh3, hp]
theorem unR_sh (h : Shf b v u) (at_ : Int) (h0 : 0 ≤ at_) (h1 : at_ ≤ u.size) : unR v ((b : Int) + at_) = sh3 b (unR u at_) := by
  have hl := ulR_sh h at_ 32 h0 h1
  have hg := ul_ge u at_ 32
  have hr := ul_rng u at_
  have hsz := h.size
  rcases hx : ulR u at_ 32 with ⟨x, t, e⟩
  rw [hx] at hl hg hr
  replace hg : e = 0 → at_ ≤ t ∧ t ≤ u.size := hg
  replace hr : e = 0 → 0 ≤ x ∧ x < 34359738368 ∧ 0 ≤ t ∧ t ≤ (u.size : Int) := hr
  by_cases he : e = 0
  · subst he
    obtain ⟨g1, g2⟩ := hg rfl
    have hr := (hr rfl).1
    have hl2 : ulR v ((b : Int) + at_) 32 = (x, (b : Int) + t, 0) := by rw [hl]; simp [sh3]
    unfold unR
    rw [hl2, hx]
    simp only [true_and]
    by_cases h2 : x ≤ (u.size : Int) - t
    · have h2v : x ≤ (v.size : Int) - ((b : Int) + t) := by omega
      rw [if_pos h2, if_pos h2v, show ((b : Int) + t).toNat = b + t.toNat by omega, Nat.add_assoc, h.part t.toNat (t.toNat + x.toNat) (by omega)]
      generalize u.extract t.toNat (t.toNat + x.toNat) = n
      by_cases h3 : 64 < x
      · rw [if_pos h3, if_pos h3]
        simp [sh3]
      · rw [if_neg h3, if_neg h3]
        by_cases h4 : utfR n = true
        · rw [if_pos h4, if_pos h4]
          simp only [sh3, if_true, Int.add_assoc]
        · rw [if_neg h4, if_neg h4]
          simp [sh3]
    · have h2v : ¬ x ≤ (v.size : Int) - ((b : Int) + t) := by omega
      rw [if_neg h2, if_neg h2v]
      simp [sh3]
  · have hl2 : ulR v ((b : Int) + at_) 32 = (x, t, e) := by rw [hl]; simp [sh3, he]
    unfold unR
    rw [hl2, hx]
    simp only [he, false_and, if_false]
    simp [sh3]
/-- a reader's place, further on -/
abbrev shR (b : Nat) (st : Rst) : Rst := ⟨(b : Int) + st.at_, st.code, st.count⟩
variable {st st' : Rst}
theorem shR_code (st : Rst) : (shR b st).code = st.code := rfl
theorem shR_count (st : Rst) : (shR b st).count = st.count := rfl
theorem rfail_sh (e : Int) : rfail (shR b st) e = shR b (rfail st e) := by
  unfold rfail shR
  split <;> rfl
theorem rbyte_sh (h : Shf b v u) (hi : Rin u st) : rbyte v (shR b st) = ((rbyte u st).1, shR b (rbyte u st).2) := by
  have hsz := h.size
  obtain ⟨i0, i1⟩ := hi
  unfold rbyte
  by_cases hc : st.code = 0 ∧ st.at_ < u.size
  · rw [if_pos hc, if_pos ⟨hc.1, by show (b : Int) + st.at_ < _; omega⟩]
    show (bt v ((b : Int) + st.at_).toNat, _) = _
    rw [show ((b : Int) + st.at_).toNat = b + st.at_.toNat by omega, h.same]
    simp only [shR, Int.add_assoc]
  · rw [if_neg hc, if_neg (fun x => hc ⟨x.1, by have : (b : Int) + st.at_ < _ := x.2; omega⟩), rfail_sh]
theorem rmoved_sh (x : Int × Int × Int) : rmoved (shR b st) (sh3 b x) = ((rmoved st x).1, shR b (rmoved st x).2) := by
  obtain ⟨x, t, e⟩ := x
  by_cases he : e = 0
  · subst he
    have h3 : sh3 b (x, t, (0 : Int)) = (x, (b : Int) + t, 0) := by simp [sh3]
    rw [h3]
    unfold rmoved
    by_cases hc : st.code = 0
    · simp [shR, hc]
    · simp [shR, hc]
  · have h3 : sh3 b (x, t, e) = (x, t, e) := by simp [sh3, he]
    rw [h3]
    unfold rmoved
    by_cases hc : st.code = 0 <;> by_cases h1 : e = 1201 <;> simp [shR, hc, he, h1, rfail]
theorem rnum_sh (h : Shf b v u) (hi : Rin u st) : rnum v (shR b st) = ((rnum u st).1, shR b (rnum u st).2) := by
  unfold rnum
  show rmoved _ (ulR v ((b : Int) + st.at_) 32) = _
  rw [ulR_sh h _ _ hi.1 hi.2, rmoved_sh]
theorem rsgn_sh (h : Shf b v u) (hi : Rin u st) (k : Int) : rsgn v (shR b st) k = ((rsgn u st k).1, shR b (rsgn u st k).2) := by
  unfold rsgn
  show rmoved _ (usR v ((b : Int) + st.at_) k) = _
  rw [usR_sh h _ _ hi.1 hi.2, rmoved_sh]
theorem rnought_sh (h : Shf b v u) (hi : Rin u st) : rnought v (shR b st) = shR b (rnought u st) := by
  unfold rnought
  rw [rbyte_sh h hi]
  simp only
  split
  · rfl
  · rw [rfail_sh]
theorem rbF_sh (h : Shf b v u) : ∀ (r i : Nat) (x : Int) (st : Rst), Rin u st → rbF v r i x (shR b st) = ((rbF u r i x st).1, shR b (rbF u r i x st).2)
  | 0, i, x, st, hi => rfl
  | r + 1, i, x, st, hi => by
    unfold rbF
    rw [rbyte_sh h hi]
    exact rbF_sh h r (i + 1) _ _ (rbyte_in hi)
theorem rlit_sh (h : Shf b v u) (hi : Rin u st) (op : Int) : rlit v op (shR b st) = ((rlit u op st).1, shR b (rlit u op st).2) := by
  unfold rlit
  rw [rsgn_sh h hi, rsgn_sh h hi]
  split
  · rfl
  · split
    · rfl
    · split
      · exact rbF_sh h _ _ _ _ hi
      · exact rbF_sh h _ _ _ _ hi
theorem rlab_sh (h : Shf b v u) : ∀ (n : Nat) (st : Rst), Rin u st → rlab v n (shR b st) = ((rlab u n st).1, shR b (rlab u n st).2)
  | 0, st, hi => rfl
  | n + 1, st, hi => by
    unfold rlab
    rw [rnum_sh h hi]
    simp only
    rw [rlab_sh h n _ (rnum_ge hi).1]
    by_cases hc : st.code = 0
    · rw [if_pos hc, if_pos (by exact hc)]
    · rw [if_neg hc, if_neg (by exact hc)]
theorem rtyp_sh (h : Shf b v u) (hi : Rin u st) : rtyp v (shR b st) = shR b (rtyp u st) := by
  unfold rtyp
  rw [rbyte_sh h hi]
  show (if (rbyte u st).2.code = 0 ∧ ¬ (rbyte u st).1 = 64 ∧ ¬ (124 ≤ (rbyte u st).1 ∧ (rbyte u st).1 ≤ 127) then rfail (shR b (rbyte u st).2) 1400 else shR b (rbyte u st).2) = _
  by_cases hc : (rbyte u st).2.code = 0 ∧ ¬ (rbyte u st).1 = 64 ∧ ¬ (124 ≤ (rbyte u st).1 ∧ (rbyte u st).1 ≤ 127)
  · rw [if_pos hc, if_pos hc, rfail_sh]
  · rw [if_neg hc, if_neg hc]
theorem rcap_sh (x : Int) : rcap x (shR b st) = shR b (rcap x st) := by
  unfold rcap
  split
  · rw [rfail_sh]
  · rfl
/-- lists are read alike -/
def Lsh (b : Nat) (u : ByteArray) (L' L : Int → Bool → Rst → Fs × Bool × Rst) : Prop := ∀ d o st, Rin u st → L' d o (shR b st) = ((L d o st).1, (L d o st).2.1, shR b (L d o st).2.2)
theorem ro_sh {L' L : Int → Bool → Rst → Fs × Bool × Rst} (h : Shf b v u) (hg : Lgr u L) (hL : Lsh b u L' L) (op deep : Int) (hi : Rin u st) : ro L' v op deep (shR b st) = ((ro L u op deep st).1, shR b (ro L u op deep st).2) := by
  have t := (rtyp_ge hi).1
  have t1 := hL (deep + 1) (decide (op = 4)) _ t
  have g1 := (hg (deep + 1) (decide (op = 4)) _ t).1.1
  have t2 := hL (deep + 1) false _ g1
  unfold ro
  rw [rtyp_sh h hi, t1]
  simp only
  rw [t2, rnum_sh h hi, rbyte_sh h hi, rlit_sh h hi, rnought_sh h hi]
  simp only
  rw [rcap_sh, rlab_sh h _ _ (rcap_ge (rnum_ge hi).1 _).1, rnought_sh h (rnum_ge hi).1, rnum_sh h (rnum_ge hi).1, rfail_sh]
  split
  · split
    · rfl
    · split <;> rfl
  · split
    · rfl
    · split
      · rfl
      · split
        · rfl
        · split
          · rfl
          · split
            · rfl
            · split <;> rfl
theorem rl_sh (h : Shf b v u) : ∀ n : Nat, Lsh b u (rl v n) (rl u n)
  | 0, d, o, st, hi => rfl
  | n + 1, d, o, st, hi => by
    have hm : met (shR b (rbyte u st).2) = shR b (met (rbyte u st).2) := rfl
    have g : Rin u (met (rbyte u st).2) := (met_ge (rbyte_in hi)).1
    unfold rl
    rw [rbyte_sh h hi]
    simp only
    rw [hm, ro_sh h (rl_ge n) (rl_sh h n) _ _ g]
    simp only
    rw [rl_sh h n _ _ _ (ro_ge (rl_ge n) _ _ g).1, rfail_sh, rfail_sh]
    simp only [shR_code, shR_count]
    by_cases h1 : st.code = 0
    · rw [if_pos h1, if_pos h1]
      by_cases h2 : ¬ (rbyte u st).2.code = 0 ∨ (rbyte u st).1 = 11
      · rw [if_pos h2, if_pos h2]
      · rw [if_neg h2, if_neg h2]
        by_cases h3 : (rbyte u st).1 = 5 ∧ o = true
        · rw [if_pos h3, if_pos h3]
        · rw [if_neg h3, if_neg h3]
          by_cases h4 : fo (rbyte u st).1 = 9
          · rw [if_pos h4, if_pos h4]
          · rw [if_neg h4, if_neg h4]
            by_cases h5 : (rbyte u st).2.count + 1 > 8192
            · rw [if_pos h5, if_pos h5]
            · rw [if_neg h5, if_neg h5]
    · rw [if_neg h1, if_neg h1]
theorem ro_congr {s : ByteArray} {L' L : Int → Bool → Rst → Fs × Bool × Rst} (hg : Lgr s L) (hi : Rin s st) (hL : ∀ d o st', Rge s st st' → L' d o st' = L d o st') (op deep : Int) : ro L' s op deep st = ro L s op deep st := by
  have t := rtyp_ge hi
  have t1 := hL (deep + 1) (decide (op = 4)) _ t
  have g1 := t.trans (hg (deep + 1) (decide (op = 4)) _ t.1).1
  have t2 := hL (deep + 1) false _ g1
  unfold ro
  rw [t1, t2]
theorem rl_fuel {s : ByteArray} : ∀ (k n m : Nat) (d : Int) (o : Bool) (st : Rst), Rin s st → (st.code = 0 → (s.size : Int) - st.at_ ≤ k) → k < n → k < m → rl s n d o st = rl s m d o st
  | _, 0, _, _, _, _, _, _, h, _ => absurd h (by omega)
  | _, _, 0, _, _, _, _, _, _, h => absurd h (by omega)
  | 0, n + 1, m + 1, d, o, st, hi, hk, hn, hm => by
    unfold rl
    by_cases hc : st.code = 0
    · have := hk hc
      have hb : ¬ (rbyte s st).2.code = 0 := fun e => by have := (rbyte_lt e).2.2; omega
      rw [if_pos hc, if_pos hc, if_pos (Or.inl hb), if_pos (Or.inl hb)]
    · rw [if_neg hc, if_neg hc]
  | k + 1, n + 1, m + 1, d, o, st, hi, hk, hn, hm => by
    unfold rl
    by_cases hc : st.code = 0
    · have hk := hk hc
      rw [if_pos hc, if_pos hc]
      by_cases hb : (rbyte s st).2.code = 0
      · have hlt := rbyte_lt hb
        have g : Rin s (met (rbyte s st).2) := (met_ge (rbyte_in hi)).1
        have ha : (s.size : Int) - (met (rbyte s st).2).at_ ≤ k := by show (s.size : Int) - (rbyte s st).2.at_ ≤ k; omega
        have hL : ∀ d o st', Rge s (met (rbyte s st).2) st' → rl s n d o st' = rl s m d o st' := fun d o st' hr => rl_fuel k n m d o st' hr.1 (fun _ => by have := hr.2; omega) (by omega) (by omega)
        have hro := ro_congr (rl_ge m) g hL (rbyte s st).1 d
        rw [hro, hL d o _ (ro_ge (rl_ge m) _ _ g)]
      · rw [if_pos (Or.inl hb), if_pos (Or.inl hb)]
    · rw [if_neg hc, if_neg hc]
theorem unI_sh (h : Shf b v u) (at_ : Int) (h0 : 0 ≤ at_) (h1 : at_ ≤ u.size) : unI v ((b : Int) + at_) = sh3 b (unI u at_) := by
  have hsz := h.size
  have hi : Rin u ⟨at_, 0, 0⟩ := ⟨h0, h1⟩
  have hiv : Rin v ⟨(b : Int) + at_, 0, 0⟩ := ⟨by show (0 : Int) ≤ (b : Int) + at_; omega, by show (b : Int) + at_ ≤ _; omega⟩
  have e1 : rl v (v.size + 1) 0 false ⟨(b : Int) + at_, 0, 0⟩ = rl v (u.size + 1) 0 false ⟨(b : Int) + at_, 0, 0⟩ := rl_fuel u.size _ _ _ _ _ hiv (fun _ => by show (v.size : Int) - ((b : Int) + at_) ≤ _; omega) (by omega) (by omega)
  have e2 : rl v (u.size + 1) 0 false ⟨(b : Int) + at_, 0, 0⟩ = _ := rl_sh h (u.size + 1) 0 false ⟨at_, 0, 0⟩ hi
  have hU : unI u at_ = (if (rl u (u.size + 1) 0 false ⟨at_, 0, 0⟩).2.2.code = 0 then ((rl u (u.size + 1) 0 false ⟨at_, 0, 0⟩).1, (rl u (u.size + 1) 0 false ⟨at_, 0, 0⟩).2.2.at_, 0) else (.nil, 0, (rl u (u.size + 1) 0 false ⟨at_, 0, 0⟩).2.2.code)) := if_pos ⟨h0, h1⟩
  have hV : unI v ((b : Int) + at_) = (if (rl v (v.size + 1) 0 false ⟨(b : Int) + at_, 0, 0⟩).2.2.code = 0 then ((rl v (v.size + 1) 0 false ⟨(b : Int) + at_, 0, 0⟩).1, (rl v (v.size + 1) 0 false ⟨(b : Int) + at_, 0, 0⟩).2.2.at_, 0) else (.nil, 0, (rl v (v.size + 1) 0 false ⟨(b : Int) + at_, 0, 0⟩).2.2.code)) := if_pos ⟨by omega, by omega⟩
  rw [hU, hV, e1, e2]
  generalize rl u (u.size + 1) 0 false ⟨at_, 0, 0⟩ = r
  obtain ⟨f, o, r⟩ := r
  show (if r.code = 0 then (f, (b : Int) + r.at_, 0) else (.nil, 0, r.code)) = sh3 b (if r.code = 0 then (f, r.at_, 0) else (.nil, 0, r.code))
  by_cases hc : r.code = 0
  · rw [if_pos hc, if_pos hc]
    simp [sh3]
  · rw [if_neg hc, if_neg hc]
    simp [sh3, hc]
theorem shf_cut (s : ByteArray) (b e : Nat) (hb : b ≤ e) (he : e ≤ s.size) : Shf b (s.extract 0 e) (s.extract b e) := by
  have z0 : (s.extract 0 e).size = e := by rw [ByteArray.size_extract]; omega
  have z1 : (s.extract b e).size = e - b := by rw [ByteArray.size_extract]; omega
  refine ⟨by omega, fun i => ?_, fun i j hj => ?_⟩
  · unfold bt
    by_cases hi : i < e - b
    · rw [dif_pos (by omega), dif_pos (by omega), ByteArray.getElem_extract, ByteArray.getElem_extract]
      simp
    · rw [dif_neg (by omega), dif_neg (by omega)]
  · rw [ByteArray.extract_extract, ByteArray.extract_extract, Nat.zero_add, Nat.zero_add]
end Go.Proofs.Ytngciahmoenkiab
