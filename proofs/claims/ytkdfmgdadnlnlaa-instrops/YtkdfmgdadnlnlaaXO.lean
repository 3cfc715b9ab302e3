/- XO: IBA, IBB, IBC, IBN, joined. -/
import Derived.Test.YtkdfmgdadnlnlaaXN
import Derived.Test.YtkdfmgdadnlnlaaXJ
import Derived.Test.YtkdfmgdadnlnlaaXC
import Derived.Test.YtkdfmgdadnlnlaaXI
import Derived.Test.YtkdfmgdadnlnlaaXK
import Derived.Test.YtkdfmgdadnlnlaaIP
/- What was written is read: numbers, labels, constants (the reader's parts over bytes that stand in a text). -/
set_option linter.unusedVariables false
set_option linter.unusedSimpArgs false
set_option maxRecDepth 100000
set_option maxHeartbeats 4000000
namespace Go.Proofs.Ytkdfmgdadnlnlaa
open Go.RowKit
variable {s : ByteArray}
theorem rbyte_at (a : Nat) (c : Int) (h : a < s.size) : rbyte s ⟨(a : Int), 0, c⟩ = (bt s a, ⟨((a + 1 : Nat) : Int), 0, c⟩) := by
  unfold rbyte
  rw [if_pos ⟨rfl, by show (a : Int) < (s.size : Int); omega⟩]
  show (bt s ((a : Int)).toNat, _) = _
  rw [Int.toNat_natCast]
  rfl
theorem rbyte_bl {b : Int} {d : List Int} {a : Nat} (c : Int) (h : bl s a (b :: d)) : rbyte s ⟨(a : Int), 0, c⟩ = (b, ⟨((a + 1 : Nat) : Int), 0, c⟩) := by
  rw [rbyte_at a c h.1, h.2.1]
theorem rbyte_end (a : Nat) (c : Int) (h : s.size = a) : rbyte s ⟨(a : Int), 0, c⟩ = (0, ⟨(a : Int), 1401, c⟩) := by
  unfold rbyte
  rw [if_neg (fun x => by have := x.2; simp only at this; omega)]
  rfl
theorem rnum_back (x : Int) (hx : 0 ≤ x ∧ x ≤ 4294967295) (a : Nat) (c : Int) (h : bl s a (lebL x)) : rnum s ⟨(a : Int), 0, c⟩ = (x, ⟨((a + (lebL x).length : Nat) : Int), 0, c⟩) := by
  unfold rnum
  show rmoved ⟨(a : Int), 0, c⟩ (ulR s (a : Int) 32) = _
  rw [get_put32 x (by omega) s a h]
  unfold rmoved
  rw [if_neg (fun x => x rfl), if_pos rfl]
theorem rlab_back : ∀ (ls : List Int) (a : Nat) (c : Int), (∀ x ∈ ls, Wd x) → bl s a (labB ls) → rlab s ls.length ⟨(a : Int), 0, c⟩ = (ls, ⟨((a + (labB ls).length : Nat) : Int), 0, c⟩)
  | [], a, c, h, hb => rfl
  | x :: l, a, c, h, hb => by
    obtain ⟨h1, h2⟩ := bl_app.1 hb
    have hn := rnum_back x (h x (by simp)) a c h1
    have ih := rlab_back l (a + (lebL x).length) c (fun y hy => h y (by simp [hy])) h2
    show rlab s (l.length + 1) _ = _
    unfold rlab
    rw [if_pos rfl, hn]
    simp only
    rw [ih]
    simp only [labB, List.length_append]
    rw [Nat.add_assoc]
theorem or_low (V c k : Nat) (h : c < 2 ^ k) : c ||| V * 2 ^ k = V * 2 ^ k + c := by
  rw [Nat.or_comm, ← Nat.shiftLeft_eq, ← Nat.shiftLeft_add_eq_or_of_lt h]
theorem or_byte (x : Int) (i : Nat) (hi : i < 8) : bits .or .i64 (wrap64 (x % 2 ^ (8 * i))) (wrap64 ((x / 2 ^ (8 * i) % 256) * 2 ^ (8 * i))) = wrap64 (x % 2 ^ (8 * (i + 1))) := by
  rw [BM.or_i64]
  have key : ∀ (P : Nat) (k : Nat), P = 2 ^ k → 0 < P → P ≤ 72057594037927936 → ∀ c b : Int, 0 ≤ c → c < P → 0 ≤ b → b < 256 → wrap64 (((wrap64 c % 18446744073709551616).toNat ||| (wrap64 (b * P) % 18446744073709551616).toNat : Nat) : Int) = wrap64 (b * P + c) := by
    intro P k hP hP0 hP1 c b h1 h2 h3 h4
    have hbP : b * P ≤ 255 * P := Int.mul_le_mul_of_nonneg_right (by omega) (by omega)
    have hb0 : 0 ≤ b * P := Int.mul_nonneg h3 (by omega)
    have e1 : (wrap64 c % 18446744073709551616).toNat = c.toNat := by unfold wrap64; omega
    have e2 : (wrap64 (b * P) % 18446744073709551616).toNat = b.toNat * P := by
      have : (b.toNat * P : Nat) = (b * P).toNat := by
        obtain ⟨B, rfl⟩ := Int.eq_ofNat_of_zero_le h3
        rw [Int.toNat_natCast, ← Int.natCast_mul, Int.toNat_natCast]
      rw [this]
      generalize b * (P : Int) = z at *
      unfold wrap64
      omega
    rw [e1, e2, hP, or_low _ _ _ (by rw [← hP]; omega)]
    congr 1
    rw [← hP, Int.natCast_add, Int.natCast_mul, Int.toNat_of_nonneg h3, Int.toNat_of_nonneg h1]
  have h8 : i = 0 ∨ i = 1 ∨ i = 2 ∨ i = 3 ∨ i = 4 ∨ i = 5 ∨ i = 6 ∨ i = 7 := by omega
  rcases h8 with rfl | rfl | rfl | rfl | rfl | rfl | rfl | rfl
  · rw [show (2 : Int) ^ (8 * 0) = ((1 : Nat) : Int) from rfl, key 1 0 rfl (by decide) (by decide) _ _ (by omega) (by omega) (by omega) (by omega)]
    congr 1; show _ = x % 256; omega
  · rw [show (2 : Int) ^ (8 * 1) = ((256 : Nat) : Int) from rfl, key 256 8 rfl (by decide) (by decide) _ _ (by omega) (by omega) (by omega) (by omega)]
    congr 1; show _ = x % 65536; omega
  · rw [show (2 : Int) ^ (8 * 2) = ((65536 : Nat) : Int) from rfl, key 65536 16 rfl (by decide) (by decide) _ _ (by omega) (by omega) (by omega) (by omega)]
    congr 1; show _ = x % 16777216; omega
  · rw [show (2 : Int) ^ (8 * 3) = ((16777216 : Nat) : Int) from rfl, key 16777216 24 rfl (by decide) (by decide) _ _ (by omega) (by omega) (by omega) (by omega)]
    congr 1; show _ = x % 4294967296; omega
  · rw [show (2 : Int) ^ (8 * 4) = ((4294967296 : Nat) : Int) from rfl, key 4294967296 32 rfl (by decide) (by decide) _ _ (by omega) (by omega) (by omega) (by omega)]
    congr 1; show _ = x % 1099511627776; omega
  · rw [show (2 : Int) ^ (8 * 5) = ((1099511627776 : Nat) : Int) from rfl, key 1099511627776 40 rfl (by decide) (by decide) _ _ (by omega) (by omega) (by omega) (by omega)]
    congr 1; show _ = x % 281474976710656; omega
  · rw [show (2 : Int) ^ (8 * 6) = ((281474976710656 : Nat) : Int) from rfl, key 281474976710656 48 rfl (by decide) (by decide) _ _ (by omega) (by omega) (by omega) (by omega)]
    congr 1; show _ = x % 72057594037927936; omega
  · rw [show (2 : Int) ^ (8 * 7) = ((72057594037927936 : Nat) : Int) from rfl, key 72057594037927936 56 rfl (by decide) (by decide) _ _ (by omega) (by omega) (by omega) (by omega)]
    congr 1; show _ = x % 18446744073709551616; omega
def lowF (x : Int) : Nat → Nat → List Int
  | 0, i => []
  | r + 1, i => (x / 2 ^ (8 * i) % 256) :: lowF x r (i + 1)
theorem lowF_len (x : Int) : ∀ (r i : Nat), (lowF x r i).length = r
  | 0, i => rfl
  | r + 1, i => by simp [lowF, lowF_len x r]
theorem lowF_succ (x : Int) : ∀ (r i : Nat), lowF x (r + 1) i = lowF x r i ++ [x / 2 ^ (8 * (i + r)) % 256]
  | 0, i => by simp [lowF]
  | r + 1, i => by
    rw [lowF, lowF_succ x r (i + 1)]
    rw [show i + 1 + r = i + (r + 1) by omega]
    rfl
theorem lowB_F (x : Int) : ∀ k : Nat, lowB x k = lowF x k 0
  | 0 => rfl
  | k + 1 => by rw [lowB_succ, lowF_succ, lowB_F x k, Nat.zero_add]
theorem rbF_back (x : Int) : ∀ (r i a : Nat) (c : Int), i + r ≤ 8 → bl s a (lowF x r i) → rbF s r i (wrap64 (x % 2 ^ (8 * i))) ⟨(a : Int), 0, c⟩ = (wrap64 (x % 2 ^ (8 * (i + r))), ⟨((a + r : Nat) : Int), 0, c⟩)
  | 0, i, a, c, h, hb => rfl
  | r + 1, i, a, c, h, hb => by
    have hr := rbyte_bl c hb
    show rbF s r (i + 1) (bits .or .i64 (wrap64 (x % 2 ^ (8 * i))) (wrap64 ((rbyte s ⟨(a : Int), 0, c⟩).1 * 2 ^ (8 * i)))) (rbyte s ⟨(a : Int), 0, c⟩).2 = _
    rw [hr]
    simp only
    rw [or_byte x i (by omega), rbF_back x r (i + 1) (a + 1) c (by omega) hb.2.2]
    rw [show i + 1 + r = i + (r + 1) by omega, show a + 1 + r = a + (r + 1) by omega]
theorem rlit_back (op bi : Int) (hop : fo op = 8) (hbi : i64 bi) (hr : op = 66 ∨ op = 68 ∨ (0 ≤ bi ∧ bi ≤ 4294967295)) (a : Nat) (c : Int) (h : bl s a (lit op bi)) : rlit s op ⟨(a : Int), 0, c⟩ = (bi, ⟨((a + (lit op bi).length : Nat) : Int), 0, c⟩) := by
  have hops : op = 65 ∨ op = 66 ∨ op = 67 ∨ op = 68 := by
    unfold fo at hop
    repeat' split at hop
    all_goals first | omega
  rcases hops with rfl | rfl | rfl | rfl
  · have hb : 0 ≤ bi ∧ bi ≤ 4294967295 := by omega
    have hl : lit 65 bi = slebL (sg3 bi) := rfl
    rw [hl] at h ⊢
    have hsg : -2147483648 ≤ sg3 bi ∧ sg3 bi < 2147483648 ∧ sg3 bi % 4294967296 = bi := by unfold sg3; split <;> omega
    unfold rlit rsgn
    rw [if_pos rfl]
    show ((rmoved ⟨(a : Int), 0, c⟩ (usR s (a : Int) 32)).1 % 4294967296, (rmoved ⟨(a : Int), 0, c⟩ (usR s (a : Int) 32)).2) = _
    rw [gets_put32 (sg3 bi) ⟨hsg.1, hsg.2.1⟩ s a h]
    unfold rmoved
    rw [if_neg (fun x => x rfl), if_pos rfl]
    simp only
    rw [hsg.2.2]
  · have hl : lit 66 bi = slebL bi := rfl
    rw [hl] at h ⊢
    unfold rlit rsgn
    rw [if_neg (by decide), if_pos rfl]
    show rmoved ⟨(a : Int), 0, c⟩ (usR s (a : Int) 64) = _
    rw [gets_put64 bi hbi s a h]
    unfold rmoved
    rw [if_neg (fun x => x rfl), if_pos rfl]
  · have hb : 0 ≤ bi ∧ bi ≤ 4294967295 := by omega
    have hl : lit 67 bi = lowF bi 4 0 := lowB_F bi 4
    rw [hl] at h ⊢
    have := rbF_back bi 4 0 a c (by decide) h
    unfold rlit rbits
    rw [if_neg (by decide), if_neg (by decide), if_pos rfl, lowF_len]
    rw [show wrap64 (bi % 2 ^ (8 * 0)) = 0 by show wrap64 (bi % 1) = 0; unfold wrap64; omega] at this
    rw [this, show wrap64 (bi % 2 ^ (8 * (0 + 4))) = bi by show wrap64 (bi % 4294967296) = bi; unfold wrap64; omega]
  · have hl : lit 68 bi = lowF bi 8 0 := lowB_F bi 8
    rw [hl] at h ⊢
    have := rbF_back bi 8 0 a c (by decide) h
    have hb := hbi
    unfold i64 at hb
    unfold rlit rbits
    rw [if_neg (by decide), if_neg (by decide), if_neg (by decide), lowF_len]
    rw [show wrap64 (bi % 2 ^ (8 * 0)) = 0 by show wrap64 (bi % 1) = 0; unfold wrap64; omega] at this
    rw [this, show wrap64 (bi % 2 ^ (8 * (0 + 8))) = bi by show wrap64 (bi % 18446744073709551616) = bi; unfold wrap64; omega]
end Go.Proofs.Ytkdfmgdadnlnlaa


/- What was written is read: a list of instructions put is the list that the reader makes of its bytes. -/
set_option linter.unusedVariables false
set_option linter.unusedSimpArgs false
set_option maxRecDepth 100000
set_option maxHeartbeats 4000000
namespace Go.Proofs.Ytkdfmgdadnlnlaa
open Go.RowKit
variable {s : ByteArray}
/-- what stands behind an Op -/
def opB (op a b bi ty : Int) (ls : List Int) (bo el : Fs) : List Int :=
  if fo op = 1 ∨ fo op = 2 then (ty % 256) :: (ltB bo ++ ((if el.len = 0 then [] else 5 :: ltB el) ++ [11]))
  else if fo op = 3 then lebL a
  else if fo op = 4 then lebL ((ls.length : Int) - 1) ++ labB ls
  else if fo op = 5 then lebL a ++ [0]
  else if fo op = 6 then lebL a ++ lebL b
  else if fo op = 7 then [0]
  else if fo op = 8 then lit op bi
  else []
theorem ltB_cons (op a b bi ty : Int) (ls : List Int) (bo el r : Fs) : ltB (.cons op a b bi ty ls bo el r) = (op % 256) :: (opB op a b bi ty ls bo el ++ ltB r) := rfl
theorem fs_len0 {f : Fs} (h : f.len = 0) : f = .nil := by
  cases f using Fs.split with
  | nil => rfl
  | cons => simp [Fs.len] at h
theorem ls_nil {l : List Int} (h : l.length = 0) : l = [] := List.length_eq_zero_iff.1 h
theorem fo_op {op : Int} (h : ¬ fo op = 9) : 0 ≤ op ∧ op ≤ 191 ∧ ¬ op = 11 ∧ ¬ op = 5 := by
  unfold fo at h
  repeat' split at h
  all_goals first | omega | exact absurd rfl h
theorem mayP_fo {op a b bi ty : Int} {ls : List Int} {nb ne : Nat} (h : mayP op a b bi ty ls nb ne) : ¬ fo op = 9 := fun e => by
  unfold mayP at h
  simp [e] at h
theorem rtyp_back (ty : Int) (ht : ty = 64 ∨ (124 ≤ ty ∧ ty ≤ 127)) (p : Nat) (c : Int) {d : List Int} (h : bl s p ((ty % 256) :: d)) : rbyte s ⟨(p : Int), 0, c⟩ = (ty, ⟨((p + 1 : Nat) : Int), 0, c⟩) ∧ rtyp s ⟨(p : Int), 0, c⟩ = ⟨((p + 1 : Nat) : Int), 0, c⟩ := by
  have h1 := rbyte_bl c h
  have e : ty % 256 = ty := by omega
  rw [e] at h1
  refine ⟨h1, ?_⟩
  unfold rtyp
  rw [h1]
  simp only
  rw [if_neg (fun x => by have := x.2.1; have := x.2.2; omega)]
theorem ro_back (n : Nat) (op a b bi ty : Int) (ls : List Int) (bo el : Fs) (deep cnt : Int) (p : Nat) (hm : mayP op a b bi ty ls bo.len el.len) (hbi : i64 bi) (hd : ¬ ((fo op = 1 ∨ fo op = 2) ∧ deep ≥ 32)) (hb : bl s p (opB op a b bi ty ls bo el))
    (hbo : ∀ (fin : Int) (o : Bool), (fin = 11 ∨ (fin = 5 ∧ o = true)) → bl s (p + 1) (ltB bo ++ [fin]) → rl s n (deep + 1) o ⟨((p + 1 : Nat) : Int), 0, cnt⟩ = (bo, decide (fin = 5), ⟨((p + 1 + (ltB bo).length + 1 : Nat) : Int), 0, (ck bo (deep + 1) cnt).2⟩))
    (hel : ∀ p' : Nat, p ≤ p' → bl s p' (ltB el ++ [11]) → rl s n (deep + 1) false ⟨(p' : Int), 0, (ck bo (deep + 1) cnt).2⟩ = (el, false, ⟨((p' + (ltB el).length + 1 : Nat) : Int), 0, (ck el (deep + 1) (ck bo (deep + 1) cnt).2).2⟩)) :
    ro (rl s n) s op deep ⟨(p : Int), 0, cnt⟩ = (⟨a, b, bi, ty, ls, bo, el⟩, ⟨((p + (opB op a b bi ty ls bo el).length : Nat) : Int), 0, (ck el (deep + 1) (ck bo (deep + 1) cnt).2).2⟩) := by
  have hr := fo_rng op
  have h9 := mayP_fo hm
  unfold mayP at hm
  by_cases hblk : fo op = 1 ∨ fo op = 2
  · have hB : opB op a b bi ty ls bo el = (ty % 256) :: (ltB bo ++ ((if el.len = 0 then [] else 5 :: ltB el) ++ [11])) := by unfold opB; rw [if_pos hblk]
    rw [hB] at hb ⊢
    have ht : (ty = 64 ∨ (124 ≤ ty ∧ ty ≤ 127)) ∧ a = 0 ∧ b = 0 ∧ bi = 0 ∧ ls.length = 0 ∧ (¬ el.len = 0 → op = 4) := by
      rcases hblk with h1 | h1
      · simp [h1] at hm
        exact ⟨by omega, by omega, by omega, by omega, by simp [hm], fun x => absurd hm.2.2.2.2.1 x⟩
      · simp [h1] at hm
        refine ⟨by omega, by omega, by omega, by omega, by simp [hm], fun _ => ?_⟩
        unfold fo at h1
        repeat' split at h1
        all_goals first | assumption | omega
    obtain ⟨ht, rfl, rfl, rfl, hls, hel4⟩ := ht
    obtain rfl := ls_nil hls
    obtain ⟨e1, e2⟩ := rtyp_back ty ht p cnt hb
    have hb2 : bl s (p + 1) (ltB bo ++ ((if el.len = 0 then [] else 5 :: ltB el) ++ [11])) := hb.2.2
    unfold ro
    rw [if_pos hblk, if_neg (fun x => hd ⟨hblk, x⟩), e1, e2]
    simp only
    by_cases he : el.len = 0
    · obtain rfl := fs_len0 he
      rw [if_pos he, List.nil_append] at hb2 ⊢
      rw [hbo 11 _ (Or.inl rfl) hb2]
      simp only
      rw [if_neg (by decide)]
      refine Prod.ext rfl ?_
      show (⟨_, 0, _⟩ : Rst) = ⟨_, 0, _⟩
      congr 1
      simp only [List.length_cons, List.length_append, List.length_nil]
      omega
    · have h4 := hel4 he
      subst h4
      rw [if_neg he] at hb2 ⊢
      have hb3 : bl s (p + 1) (ltB bo ++ [5]) ∧ bl s (p + 1 + (ltB bo).length + 1) (ltB el ++ [11]) := by
        have h1 := bl_app.1 hb2
        refine ⟨bl_app.2 ⟨h1.1, h1.2.1, h1.2.2.1, ?_⟩, h1.2.2.2⟩
        have := bl_len h1.2.2.2
        show _ ≤ s.size
        omega
      rw [show decide ((4 : Int) = 4) = true from rfl, hbo 5 true (Or.inr ⟨rfl, rfl⟩) hb3.1]
      simp only
      rw [if_pos (by decide), hel (p + 1 + (ltB bo).length + 1) (by omega) hb3.2]
      refine Prod.ext rfl ?_
      show (⟨_, 0, _⟩ : Rst) = ⟨_, 0, _⟩
      congr 1
      simp only [List.length_cons, List.length_append, List.length_nil]
      omega
  · have hcs : fo op = 0 ∨ fo op = 3 ∨ fo op = 4 ∨ fo op = 5 ∨ fo op = 6 ∨ fo op = 7 ∨ fo op = 8 := by omega
    have hnn : bo.len = 0 ∧ el.len = 0 := by
      rcases hcs with h1 | h1 | h1 | h1 | h1 | h1 | h1 <;> simp [h1] at hm <;> omega
    obtain rfl := fs_len0 hnn.1
    obtain rfl := fs_len0 hnn.2
    show ro (rl s n) s op deep ⟨(p : Int), 0, cnt⟩ = (⟨a, b, bi, ty, ls, .nil, .nil⟩, ⟨((p + (opB op a b bi ty ls .nil .nil).length : Nat) : Int), 0, cnt⟩)
    clear hbo hel
    rcases hcs with h1 | h1 | h1 | h1 | h1 | h1 | h1
    · have hB : opB op a b bi ty ls .nil .nil = [] := by unfold opB; simp [h1]
      simp [h1] at hm
      obtain ⟨rfl, rfl, rfl, rfl, rfl, _⟩ := hm
      rw [hB]
      unfold ro
      simp [h1]
    · have hB : opB op a b bi ty ls .nil .nil = lebL a := by unfold opB; simp [h1]
      simp [h1] at hm
      obtain ⟨ha, rfl, rfl, rfl, rfl, _⟩ := hm
      rw [hB] at hb ⊢
      unfold ro
      simp only [h1]
      rw [rnum_back a ha p cnt hb]
      simp
    · have hB : opB op a b bi ty ls .nil .nil = lebL ((ls.length : Int) - 1) ++ labB ls := by unfold opB; simp [h1]
      simp [h1] at hm
      obtain ⟨rfl, rfl, rfl, rfl, hw, hl1, hl2⟩ : a = 0 ∧ b = 0 ∧ bi = 0 ∧ ty = 0 ∧ (∀ x ∈ ls, Wd x) ∧ 1 ≤ ls.length ∧ ls.length ≤ 1024 := by
        first | exact hm | (obtain ⟨x1, x2, x3, x4, _, x5, x6, x7⟩ := hm; exact ⟨x1, x2, x3, x4, x5, x6, x7⟩) | (obtain ⟨x1, x2, x3, x4, x5, x6, x7⟩ := hm; exact ⟨x1, x2, x3, x4, x5, x6, x7⟩)
      rw [hB] at hb ⊢
      obtain ⟨b1, b2⟩ := bl_app.1 hb
      unfold ro
      simp only [h1]
      rw [rnum_back ((ls.length : Int) - 1) (by omega) p cnt b1]
      simp only
      unfold rcap
      rw [if_neg (show ¬ ((ls.length : Int) - 1 ≥ 1024) by omega), show ((ls.length : Int) - 1).toNat + 1 = ls.length by omega, rlab_back ls _ cnt hw b2]
      simp [Nat.add_assoc]
    · have hB : opB op a b bi ty ls .nil .nil = lebL a ++ [0] := by unfold opB; simp [h1]
      simp [h1] at hm
      obtain ⟨ha, rfl, rfl, rfl, rfl, _⟩ := hm
      rw [hB] at hb ⊢
      obtain ⟨b1, b2⟩ := bl_app.1 hb
      unfold ro
      simp only [h1]
      rw [rnum_back a ha p cnt b1]
      simp only
      unfold rnought
      rw [rbyte_bl cnt b2]
      simp [Nat.add_assoc]
    · have hB : opB op a b bi ty ls .nil .nil = lebL a ++ lebL b := by unfold opB; simp [h1]
      simp [h1] at hm
      obtain ⟨ha, hb', rfl, rfl, rfl, _⟩ := hm
      rw [hB] at hb ⊢
      obtain ⟨b1, b2⟩ := bl_app.1 hb
      unfold ro
      simp only [h1]
      rw [rnum_back a ha p cnt b1]
      simp only
      rw [rnum_back b hb' _ cnt b2]
      simp [Nat.add_assoc]
    · have hB : opB op a b bi ty ls .nil .nil = [0] := by unfold opB; simp [h1]
      simp [h1] at hm
      obtain ⟨rfl, rfl, rfl, rfl, rfl, _⟩ := hm
      rw [hB] at hb ⊢
      unfold ro
      simp only [h1]
      unfold rnought
      rw [rbyte_bl cnt hb]
      simp
    · have hB : opB op a b bi ty ls .nil .nil = lit op bi := by unfold opB; simp [h1]
      simp [h1] at hm
      obtain ⟨rfl, rfl, rfl, rfl, hbb⟩ : a = 0 ∧ b = 0 ∧ ls = [] ∧ ty = 0 ∧ (op = 66 ∨ op = 68 ∨ (0 ≤ bi ∧ bi ≤ 4294967295)) := by
        first | exact hm | (obtain ⟨x1, x2, x3, x4, _, x5⟩ := hm; exact ⟨x1, x2, x3, x4, x5⟩)
      rw [hB] at hb ⊢
      unfold ro
      simp only [h1]
      rw [rlit_back op bi h1 hbi hbb p cnt hb]
      simp
theorem rl_back : ∀ (f : Fs) (deep cnt : Int) (p n : Nat) (other : Bool) (fin : Int), f.Ok → (ck f deep cnt).1 = 0 → bl s p (ltB f ++ [fin]) → (fin = 11 ∨ (fin = 5 ∧ other = true)) → s.size < p + n →
    rl s n deep other ⟨(p : Int), 0, cnt⟩ = (f, decide (fin = 5), ⟨((p + (ltB f).length + 1 : Nat) : Int), 0, (ck f deep cnt).2⟩)
  | ⟨none⟩, deep, cnt, p, n, other, fin, hok, hck, hb, hf, hn => by
    have hl := bl_len hb
    simp only [List.length_append, List.length_cons, List.length_nil] at hl
    obtain ⟨m, rfl⟩ : ∃ m, n = m + 1 := ⟨n - 1, by omega⟩
    have h1 := rbyte_bl cnt (show bl s p (fin :: []) from hb)
    unfold rl
    rw [if_pos rfl, h1]
    simp only
    rcases hf with rfl | ⟨rfl, rfl⟩
    · rw [if_pos (Or.inr rfl)]
      rfl
    · rw [if_neg (by decide), if_pos ⟨rfl, rfl⟩]
      rfl
  | ⟨some (op, a, b, bi, ty, ls, bo, el, r)⟩, deep, cnt, p, n, other, fin, hok, hck, hb, hf, hn => by
    obtain ⟨⟨_, _, _, hbi, _, _⟩, _, _, _, ok1, ok2, ok3⟩ := hok
    have hck0 := hck
    unfold ck at hck ⊢
    by_cases c1 : cnt + 1 > 8192
    · rw [if_pos c1] at hck; exact absurd (show (1400 : Int) = 0 from hck) (by decide)
    · rw [if_neg c1] at hck ⊢
      by_cases c2 : (fo op = 1 ∨ fo op = 2) ∧ deep ≥ 32
      · rw [if_pos c2] at hck; exact absurd (show (1402 : Int) = 0 from hck) (by decide)
      · rw [if_neg c2] at hck ⊢
        by_cases c3 : ¬ mayP op a b bi ty ls bo.len el.len
        · rw [if_pos c3] at hck; exact absurd (show (1400 : Int) = 0 from hck) (by decide)
        · rw [if_neg c3] at hck ⊢
          have hm := Classical.not_not.1 c3
          by_cases c4 : (ck bo (deep + 1) (cnt + 1)).1 = 0
          · rw [if_pos c4] at hck ⊢
            by_cases c5 : (ck el (deep + 1) (ck bo (deep + 1) (cnt + 1)).2).1 = 0
            · rw [if_pos c5] at hck ⊢
              rw [ltB_cons] at hb ⊢
              have hb' : bl s p ((op % 256) :: (opB op a b bi ty ls bo el ++ (ltB r ++ [fin]))) := by
                have e : (op % 256 :: (opB op a b bi ty ls bo el ++ ltB r)) ++ [fin] = (op % 256) :: (opB op a b bi ty ls bo el ++ (ltB r ++ [fin])) := by simp
                rwa [e] at hb
              obtain ⟨b1, b2⟩ := bl_app.1 hb'.2.2
              have hl := bl_len hb'.2.2
              obtain ⟨m, rfl⟩ : ∃ m, n = m + 1 := ⟨n - 1, by have := hb'.1; omega⟩
              have h9 := mayP_fo hm
              obtain ⟨o1, o2, o3, o4⟩ := fo_op h9
              have h1 := rbyte_bl cnt hb'
              rw [show op % 256 = op by omega] at h1
              have hro := ro_back m op a b bi ty ls bo el deep (cnt + 1) (p + 1) hm hbi c2 b1 (fun fin' o hfo hbb => rl_back bo (deep + 1) (cnt + 1) (p + 1 + 1) m o fin' ok1 c4 hbb hfo (by omega)) (fun p' hp hbb => by
                have := rl_back el (deep + 1) (ck bo (deep + 1) (cnt + 1)).2 p' m false 11 ok2 c5 hbb (Or.inl rfl) (by omega)
                rwa [show decide ((11 : Int) = 5) = false from rfl] at this)
              have hrest := rl_back r deep (ck el (deep + 1) (ck bo (deep + 1) (cnt + 1)).2).2 (p + 1 + (opB op a b bi ty ls bo el).length) m other fin ok3 hck b2 hf (by omega)
              unfold rl
              rw [if_pos rfl, h1]
              simp only
              rw [if_neg (by rintro (x | x); exact x trivial; exact o3 x), if_neg (fun x => o4 x.1), if_neg h9, if_neg c1, show met ⟨((p + 1 : Nat) : Int), 0, cnt⟩ = ⟨((p + 1 : Nat) : Int), 0, cnt + 1⟩ from rfl, hro]
              simp only
              rw [hrest]
              simp only
              refine Prod.ext rfl (Prod.ext rfl ?_)
              show (⟨_, 0, _⟩ : Rst) = ⟨_, 0, _⟩
              congr 1
              simp only [List.length_cons, List.length_append]
              omega
            · rw [if_neg c5] at hck; exact absurd hck c5
          · rw [if_neg c4] at hck; exact absurd hck c4
end Go.Proofs.Ytkdfmgdadnlnlaa


/- What was written and cut is not read: a list of instructions put, any bytes of its end gone: ErrInstrCut. -/
set_option linter.unusedVariables false
set_option linter.unusedSimpArgs false
set_option maxRecDepth 100000
set_option maxHeartbeats 4000000
namespace Go.Proofs.Ytkdfmgdadnlnlaa
open Go.RowKit
variable {s : ByteArray}
theorem pts_take : ∀ (d : List Int) (j : Nat), Pts d → j < d.length → Mor (d.take j)
  | [], j, h, hj => by simp at hj
  | b :: d, 0, h, hj => trivial
  | b :: d, j + 1, h, hj => by
    rcases h with ⟨rfl, _, _⟩ | ⟨h1, h2, h3⟩
    · simp at hj
    · exact ⟨h1, pts_take d j h3 (by simp at hj; omega)⟩
theorem us_cut (a : Nat) (d : List Int) (bits_ : Int) (m : Nat) (hb : (bits_ = 32 ∧ m = 5) ∨ (bits_ = 64 ∧ m = 10)) (h : bl s a d) (hp : Mor d) (hs : a + d.length = s.size) (hm : d.length < m) : usR s (a : Int) bits_ = (0, 0, 1201) := by
  have hpt : ptR s (a : Int) bits_ = (0, 1201) := by
    unfold ptR
    rw [if_pos ⟨by omega, by omega, by omega⟩, Int.toNat_natCast, pt_cut s a _ 0 d h hp (by omega) (by omega)]
  unfold usR
  rw [hpt]
  rfl
theorem leb_pts (x : Int) : Pts (lebL x) := by
  unfold lebL
  exact lebF_pts 9 _ (by omega) (by have := Int.emod_lt_of_pos x (show (0 : Int) < 18446744073709551616 by decide); omega)
theorem leb_5 (x : Int) (hx : 0 ≤ x ∧ x ≤ 4294967295) : (lebL x).length ≤ 5 := by rw [leb32 x (by omega)]; exact lebF_len 4 x
theorem rmoved_cut (p : Nat) (c : Int) : rmoved ⟨(p : Int), 0, c⟩ (0, 0, 1201) = (0, ⟨(p : Int), 1401, c⟩) := by
  unfold rmoved
  rw [if_neg (fun x => x rfl), if_neg (by decide), if_pos rfl]
  rfl
theorem rnum_cut (x : Int) (hx : 0 ≤ x ∧ x ≤ 4294967295) (p j : Nat) (c : Int) (hj : j < (lebL x).length) (h : bl s p ((lebL x).take j)) (hs : s.size = p + j) : rnum s ⟨(p : Int), 0, c⟩ = (0, ⟨(p : Int), 1401, c⟩) := by
  have h5 := leb_5 x hx
  have hl : ((lebL x).take j).length = j := by simp; omega
  unfold rnum
  show rmoved ⟨(p : Int), 0, c⟩ (ulR s (p : Int) 32) = _
  rw [ul_cut s p _ 32 5 (Or.inl ⟨rfl, rfl⟩) h (pts_take _ j (leb_pts x) hj) (by omega) (by omega)]
  exact rmoved_cut p c
/-- a reader that has failed stays as it is -/
theorem rbyte_st {st : Rst} (h : ¬ st.code = 0) : rbyte s st = (0, st) := by
  unfold rbyte
  rw [if_neg (fun x => h x.1)]
  unfold rfail
  rw [if_neg h]
theorem rmoved_st {st : Rst} (h : ¬ st.code = 0) (x : Int × Int × Int) : rmoved st x = (0, st) := by unfold rmoved; rw [if_pos h]
theorem rnought_st {st : Rst} (h : ¬ st.code = 0) : rnought s st = st := by
  unfold rnought
  rw [rbyte_st h, if_pos rfl]
theorem rfail_st {st : Rst} (h : ¬ st.code = 0) (e : Int) : rfail st e = st := by unfold rfail; rw [if_neg h]
theorem rlab_st {st : Rst} (h : ¬ st.code = 0) (n : Nat) : rlab s n st = ([], st) := by
  cases n with
  | zero => rfl
  | succ n => unfold rlab; rw [if_neg h]
theorem rbF_st {st : Rst} (h : ¬ st.code = 0) : ∀ (r i : Nat) (x : Int), (rbF s r i x st).2 = st
  | 0, i, x => rfl
  | r + 1, i, x => by
    show (rbF s r (i + 1) _ (rbyte s st).2).2 = st
    rw [rbyte_st h]
    exact rbF_st h r (i + 1) _
theorem rl_st {st : Rst} (h : ¬ st.code = 0) (n : Nat) (deep : Int) (o : Bool) : rl s n deep o st = (.nil, false, st) := by
  cases n with
  | zero => rfl
  | succ n => unfold rl; rw [if_neg h]
theorem c1401 {a c : Int} : ¬ (⟨a, 1401, c⟩ : Rst).code = 0 := by show ¬ (1401 : Int) = 0; decide
theorem rlab_cut : ∀ (ls : List Int) (p j : Nat) (c : Int), (∀ x ∈ ls, Wd x) → j < (labB ls).length → bl s p ((labB ls).take j) → s.size = p + j → (rlab s ls.length ⟨(p : Int), 0, c⟩).2.code = 1401
  | [], p, j, c, h, hj, hb, hs => by simp [labB] at hj
  | x :: l, p, j, c, h, hj, hb, hs => by
    have hx := h x (by simp)
    show (rlab s (l.length + 1) ⟨(p : Int), 0, c⟩).2.code = 1401
    unfold rlab
    rw [if_pos rfl]
    show (rlab s l.length (rnum s ⟨(p : Int), 0, c⟩).2).2.code = 1401
    by_cases hjx : j < (lebL x).length
    · have e : (labB (x :: l)).take j = (lebL x).take j := by show (lebL x ++ labB l).take j = _; rw [List.take_append_of_le_length (by omega)]
      rw [e] at hb
      rw [rnum_cut x hx p j c hjx hb hs, rlab_st c1401]
    · have e : (labB (x :: l)).take j = lebL x ++ (labB l).take (j - (lebL x).length) := by show (lebL x ++ labB l).take j = _; rw [List.take_append, List.take_of_length_le (by omega)]
      rw [e] at hb
      obtain ⟨b1, b2⟩ := bl_app.1 hb
      rw [rnum_back x hx p c b1]
      have hj2 : j < (lebL x).length + (labB l).length := by simpa [labB] using hj
      exact rlab_cut l _ (j - (lebL x).length) c (fun y hy => h y (by simp [hy])) (by omega) b2 (by omega)
theorem rbF_cut (x : Int) : ∀ (r i p j : Nat) (y c : Int), j < r → bl s p ((lowF x r i).take j) → s.size = p + j → (rbF s r i y ⟨(p : Int), 0, c⟩).2.code = 1401
  | 0, i, p, j, y, c, hj, hb, hs => by omega
  | r + 1, i, p, 0, y, c, hj, hb, hs => by
    show (rbF s r (i + 1) _ (rbyte s ⟨(p : Int), 0, c⟩).2).2.code = 1401
    rw [rbyte_end p c (by omega), rbF_st c1401]
  | r + 1, i, p, j + 1, y, c, hj, hb, hs => by
    have h1 := rbyte_bl c hb
    show (rbF s r (i + 1) _ (rbyte s ⟨(p : Int), 0, c⟩).2).2.code = 1401
    rw [h1]
    exact rbF_cut x r (i + 1) (p + 1) j _ c (by omega) hb.2.2 (by omega)
theorem rsgn_cut (x b : Int) (m : Nat) (hb : (b = 32 ∧ m = 5) ∨ (b = 64 ∧ m = 10)) (hm : (slebL x).length ≤ m) (p j : Nat) (c : Int) (hj : j < (slebL x).length) (h : bl s p ((slebL x).take j)) (hs : s.size = p + j) : rsgn s ⟨(p : Int), 0, c⟩ b = (0, ⟨(p : Int), 1401, c⟩) := by
  have hl : ((slebL x).take j).length = j := by simp; omega
  unfold rsgn
  show rmoved ⟨(p : Int), 0, c⟩ (usR s (p : Int) b) = _
  rw [us_cut p _ b m hb h (pts_take _ j (slebF_pts 9 x) hj) (by omega) (by omega)]
  exact rmoved_cut p c
theorem rlit_cut (op bi : Int) (hop : fo op = 8) (hr : op = 66 ∨ op = 68 ∨ (0 ≤ bi ∧ bi ≤ 4294967295)) (p j : Nat) (c : Int) (hj : j < (lit op bi).length) (h : bl s p ((lit op bi).take j)) (hs : s.size = p + j) : (rlit s op ⟨(p : Int), 0, c⟩).2.code = 1401 := by
  have hops : op = 65 ∨ op = 66 ∨ op = 67 ∨ op = 68 := by
    unfold fo at hop
    repeat' split at hop
    all_goals first | omega
  rcases hops with rfl | rfl | rfl | rfl
  · have hl : lit 65 bi = slebL (sg3 bi) := rfl
    rw [hl] at h hj
    have hsg : -2147483648 ≤ sg3 bi ∧ sg3 bi < 2147483648 := by unfold sg3; split <;> omega
    unfold rlit
    rw [if_pos rfl, rsgn_cut (sg3 bi) 32 5 (Or.inl ⟨rfl, rfl⟩) (by rw [sleb32 _ hsg]; exact slebF_len 4 _) p j c hj h hs]
  · have hl : lit 66 bi = slebL bi := rfl
    rw [hl] at h hj
    unfold rlit
    rw [if_neg (by decide), if_pos rfl, rsgn_cut bi 64 10 (Or.inr ⟨rfl, rfl⟩) (slebF_len 9 _) p j c hj h hs]
  · have hl : lit 67 bi = lowF bi 4 0 := lowB_F bi 4
    rw [hl] at h hj
    rw [lowF_len] at hj
    unfold rlit rbits
    rw [if_neg (by decide), if_neg (by decide), if_pos rfl]
    exact rbF_cut bi 4 0 p j 0 c hj h hs
  · have hl : lit 68 bi = lowF bi 8 0 := lowB_F bi 8
    rw [hl] at h hj
    rw [lowF_len] at hj
    unfold rlit rbits
    rw [if_neg (by decide), if_neg (by decide), if_neg (by decide)]
    exact rbF_cut bi 8 0 p j 0 c hj h hs
/-- one instruction that is cut behind its Op -/
theorem ro_cut (n : Nat) (op a b bi ty : Int) (ls : List Int) (bo el : Fs) (deep cnt : Int) (p j : Nat) (hm : mayP op a b bi ty ls bo.len el.len) (hd : ¬ ((fo op = 1 ∨ fo op = 2) ∧ deep ≥ 32)) (hj : j < (opB op a b bi ty ls bo el).length) (hb : bl s p ((opB op a b bi ty ls bo el).take j)) (hs : s.size = p + j)
    (hbo : bl s (p + 1) (ltB bo ++ [5]) → rl s n (deep + 1) true ⟨((p + 1 : Nat) : Int), 0, cnt⟩ = (bo, true, ⟨((p + 1 + (ltB bo).length + 1 : Nat) : Int), 0, (ck bo (deep + 1) cnt).2⟩))
    (hbc : ∀ (o : Bool) (i : Nat), i ≤ (ltB bo).length → bl s (p + 1) ((ltB bo).take i) → s.size = p + 1 + i → (rl s n (deep + 1) o ⟨((p + 1 : Nat) : Int), 0, cnt⟩).2.2.code = 1401)
    (hec : ∀ (p' i : Nat), p ≤ p' → i ≤ (ltB el).length → bl s p' ((ltB el).take i) → s.size = p' + i → (rl s n (deep + 1) false ⟨(p' : Int), 0, (ck bo (deep + 1) cnt).2⟩).2.2.code = 1401) :
    (ro (rl s n) s op deep ⟨(p : Int), 0, cnt⟩).2.code = 1401 := by
  have hr := fo_rng op
  have h9 := mayP_fo hm
  unfold mayP at hm
  by_cases hblk : fo op = 1 ∨ fo op = 2
  · have hB : opB op a b bi ty ls bo el = (ty % 256) :: (ltB bo ++ ((if el.len = 0 then [] else 5 :: ltB el) ++ [11])) := by unfold opB; rw [if_pos hblk]
    rw [hB] at hb hj
    have ht : (ty = 64 ∨ (124 ≤ ty ∧ ty ≤ 127)) ∧ (¬ el.len = 0 → op = 4) := by
      rcases hblk with h1 | h1
      · simp [h1] at hm
        exact ⟨by omega, fun x => absurd hm.2.2.2.2.1 x⟩
      · simp [h1] at hm
        refine ⟨by omega, fun _ => ?_⟩
        unfold fo at h1
        repeat' split at h1
        all_goals first | assumption | omega
    obtain ⟨ht, hel4⟩ := ht
    have hroE : ro (rl s n) s op deep ⟨(p : Int), 0, cnt⟩ = if (rl s n (deep + 1) (decide (op = 4)) (rtyp s ⟨(p : Int), 0, cnt⟩)).2.1 = true then ({ ty := (rbyte s ⟨(p : Int), 0, cnt⟩).1, bo := (rl s n (deep + 1) (decide (op = 4)) (rtyp s ⟨(p : Int), 0, cnt⟩)).1, el := (rl s n (deep + 1) false (rl s n (deep + 1) (decide (op = 4)) (rtyp s ⟨(p : Int), 0, cnt⟩)).2.2).1 }, (rl s n (deep + 1) false (rl s n (deep + 1) (decide (op = 4)) (rtyp s ⟨(p : Int), 0, cnt⟩)).2.2).2.2) else ({ ty := (rbyte s ⟨(p : Int), 0, cnt⟩).1, bo := (rl s n (deep + 1) (decide (op = 4)) (rtyp s ⟨(p : Int), 0, cnt⟩)).1 }, (rl s n (deep + 1) (decide (op = 4)) (rtyp s ⟨(p : Int), 0, cnt⟩)).2.2) := by
      unfold ro
      rw [if_pos hblk, if_neg (fun x => hd ⟨hblk, x⟩)]
    /- an error of the body's is the instruction's -/
    have hE : (rl s n (deep + 1) (decide (op = 4)) (rtyp s ⟨(p : Int), 0, cnt⟩)).2.2.code = 1401 → (ro (rl s n) s op deep ⟨(p : Int), 0, cnt⟩).2.code = 1401 := fun hc => by
      have hne : ¬ (rl s n (deep + 1) (decide (op = 4)) (rtyp s ⟨(p : Int), 0, cnt⟩)).2.2.code = 0 := by rw [hc]; decide
      rw [hroE]
      split
      · show (rl s n (deep + 1) false (rl s n (deep + 1) (decide (op = 4)) (rtyp s ⟨(p : Int), 0, cnt⟩)).2.2).2.2.code = 1401
        rw [rl_st hne]
        exact hc
      · exact hc
    cases j with
    | zero =>
      refine hE ?_
      have e1 := rbyte_end p cnt (s := s) (by omega)
      have e2 : rtyp s ⟨(p : Int), 0, cnt⟩ = ⟨(p : Int), 1401, cnt⟩ := by
        unfold rtyp
        rw [e1]
        simp only
        rw [if_neg (fun x => absurd x.1 (by decide))]
      rw [e2, rl_st c1401]
    | succ i =>
      obtain ⟨e1, e2⟩ := rtyp_back ty ht p cnt (d := (ltB bo ++ ((if el.len = 0 then [] else 5 :: ltB el) ++ [11])).take i) hb
      have hb2 : bl s (p + 1) ((ltB bo ++ ((if el.len = 0 then [] else 5 :: ltB el) ++ [11])).take i) := hb.2.2
      by_cases hi : i ≤ (ltB bo).length
      · refine hE ?_
        rw [List.take_append_of_le_length hi] at hb2
        rw [e2]
        exact hbc _ i hi hb2 (by omega)
      · by_cases he : el.len = 0
        · rw [if_pos he] at hj
          simp at hj
          omega
        · have h4 := hel4 he
          subst h4
          rw [if_neg he] at hb2 hj
          obtain ⟨i', rfl⟩ : ∃ i', i = (ltB bo).length + 1 + i' := ⟨i - (ltB bo).length - 1, by omega⟩
          have e3 : (ltB bo ++ (5 :: ltB el ++ [11])).take ((ltB bo).length + 1 + i') = ltB bo ++ (5 :: (ltB el ++ [11]).take i') := by
            rw [List.take_append, List.take_of_length_le (by omega), show (ltB bo).length + 1 + i' - (ltB bo).length = i' + 1 by omega]
            rfl
          have hi' : i' ≤ (ltB el).length := by simp at hj; omega
          rw [e3, List.take_append_of_le_length hi'] at hb2
          have h1 := bl_app.1 hb2
          have hb5 : bl s (p + 1) (ltB bo ++ [5]) := bl_app.2 ⟨h1.1, h1.2.1, h1.2.2.1, by have := bl_len h1.2.2.2; show _ ≤ s.size; omega⟩
          have hL := hbo hb5
          rw [hroE, e2, show decide ((4 : Int) = 4) = true from rfl, hL]
          simp only
          rw [if_pos trivial]
          exact hec (p + 1 + (ltB bo).length + 1) i' (by omega) hi' h1.2.2.2 (by omega)
  · have hcs : fo op = 0 ∨ fo op = 3 ∨ fo op = 4 ∨ fo op = 5 ∨ fo op = 6 ∨ fo op = 7 ∨ fo op = 8 := by omega
    clear hbo hbc hec
    rcases hcs with h1 | h1 | h1 | h1 | h1 | h1 | h1
    · have hB : opB op a b bi ty ls bo el = [] := by unfold opB; simp [h1]
      rw [hB] at hj
      simp at hj
    · have hB : opB op a b bi ty ls bo el = lebL a := by unfold opB; simp [h1]
      simp [h1] at hm
      rw [hB] at hb hj
      unfold ro
      simp only [h1]
      simp only [rnum_cut a hm.1 p j cnt hj hb hs]
      simp
    · have hB : opB op a b bi ty ls bo el = lebL ((ls.length : Int) - 1) ++ labB ls := by unfold opB; simp [h1]
      simp [h1] at hm
      rw [hB] at hb hj
      have hx : 0 ≤ (ls.length : Int) - 1 ∧ (ls.length : Int) - 1 ≤ 4294967295 := by omega
      have hw : ∀ x ∈ ls, Wd x := hm.2.2.2.2.2.2.1
      unfold ro
      simp only [h1]
      by_cases hjx : j < (lebL ((ls.length : Int) - 1)).length
      · rw [List.take_append_of_le_length (by omega)] at hb
        simp only [rnum_cut _ hx p j cnt hjx hb hs]
        simp [rcap, rlab_st (c1401)]
      · rw [List.take_append, List.take_of_length_le (by omega)] at hb
        obtain ⟨b1, b2⟩ := bl_app.1 hb
        simp only [rnum_back _ hx p cnt b1]
        unfold rcap
        rw [if_neg (show ¬ ((ls.length : Int) - 1 ≥ 1024) by omega), show ((ls.length : Int) - 1).toNat + 1 = ls.length by omega]
        have := rlab_cut ls _ (j - (lebL ((ls.length : Int) - 1)).length) cnt hw (by simp at hj; omega) b2 (by omega)
        simpa using this
    · have hB : opB op a b bi ty ls bo el = lebL a ++ [0] := by unfold opB; simp [h1]
      simp [h1] at hm
      rw [hB] at hb hj
      unfold ro
      simp only [h1]
      by_cases hjx : j < (lebL a).length
      · rw [List.take_append_of_le_length (by omega)] at hb
        simp only [rnum_cut a hm.1 p j cnt hjx hb hs]
        simp [rnought_st (c1401)]
      · have hje : j = (lebL a).length := by simp at hj; omega
        rw [hje, List.take_append_of_le_length (Nat.le_refl _), List.take_length] at hb
        rw [rnum_back a hm.1 p cnt hb]
        have : rnought s ⟨((p + (lebL a).length : Nat) : Int), 0, cnt⟩ = ⟨((p + (lebL a).length : Nat) : Int), 1401, cnt⟩ := by
          unfold rnought
          rw [rbyte_end _ cnt (by omega), if_pos rfl]
        simp only [this]
        simp
    · have hB : opB op a b bi ty ls bo el = lebL a ++ lebL b := by unfold opB; simp [h1]
      simp [h1] at hm
      rw [hB] at hb hj
      unfold ro
      simp only [h1]
      by_cases hjx : j < (lebL a).length
      · rw [List.take_append_of_le_length (by omega)] at hb
        simp only [rnum_cut a hm.1 p j cnt hjx hb hs]
        simp [rnum, rmoved_st (c1401)]
      · rw [List.take_append, List.take_of_length_le (by omega)] at hb
        obtain ⟨b1, b2⟩ := bl_app.1 hb
        simp only [rnum_back a hm.1 p cnt b1]
        simp only [rnum_cut b hm.2.1 _ (j - (lebL a).length) cnt (by simp at hj; omega) b2 (by omega)]
        simp
    · have hB : opB op a b bi ty ls bo el = [0] := by unfold opB; simp [h1]
      rw [hB] at hj
      obtain rfl : j = 0 := by simpa using hj
      unfold ro
      simp only [h1]
      have : rnought s ⟨(p : Int), 0, cnt⟩ = ⟨(p : Int), 1401, cnt⟩ := by
        unfold rnought
        rw [rbyte_end _ cnt (by omega), if_pos rfl]
      simp [this]
    · have hB : opB op a b bi ty ls bo el = lit op bi := by unfold opB; simp [h1]
      simp [h1] at hm
      rw [hB] at hb hj
      unfold ro
      simp only [h1]
      have := rlit_cut op bi h1 (by simp [hm]) p j cnt hj hb hs
      simpa using this
theorem rl_cut : ∀ (f : Fs) (deep cnt : Int) (p n j : Nat) (other : Bool), f.Ok → (ck f deep cnt).1 = 0 → j ≤ (ltB f).length → bl s p ((ltB f).take j) → s.size = p + j → s.size < p + n → (rl s n deep other ⟨(p : Int), 0, cnt⟩).2.2.code = 1401
  | f, deep, cnt, p, n, 0, other, hok, hck, hj, hb, hs, hn => by
    obtain ⟨m, rfl⟩ : ∃ m, n = m + 1 := ⟨n - 1, by omega⟩
    unfold rl
    rw [if_pos rfl, rbyte_end p cnt (by omega)]
    simp only
    rw [if_pos (Or.inl (by decide))]
  | ⟨none⟩, deep, cnt, p, n, j + 1, other, hok, hck, hj, hb, hs, hn => by simp [ltB] at hj
  | ⟨some (op, a, b, bi, ty, ls, bo, el, r)⟩, deep, cnt, p, n, j + 1, other, hok, hck, hj, hb, hs, hn => by
    obtain ⟨⟨_, _, _, hbi, _, _⟩, _, _, _, ok1, ok2, ok3⟩ := hok
    unfold ck at hck
    by_cases c1 : cnt + 1 > 8192
    · rw [if_pos c1] at hck; exact absurd (show (1400 : Int) = 0 from hck) (by decide)
    · rw [if_neg c1] at hck
      by_cases c2 : (fo op = 1 ∨ fo op = 2) ∧ deep ≥ 32
      · rw [if_pos c2] at hck; exact absurd (show (1402 : Int) = 0 from hck) (by decide)
      · rw [if_neg c2] at hck
        by_cases c3 : ¬ mayP op a b bi ty ls bo.len el.len
        · rw [if_pos c3] at hck; exact absurd (show (1400 : Int) = 0 from hck) (by decide)
        · rw [if_neg c3] at hck
          have hm := Classical.not_not.1 c3
          by_cases c4 : (ck bo (deep + 1) (cnt + 1)).1 = 0
          · rw [if_pos c4] at hck
            by_cases c5 : (ck el (deep + 1) (ck bo (deep + 1) (cnt + 1)).2).1 = 0
            · rw [if_pos c5] at hck
              rw [ltB_cons] at hb hj
              have hb' : bl s p ((op % 256) :: (opB op a b bi ty ls bo el ++ ltB r).take j) := hb
              obtain ⟨m, rfl⟩ : ∃ m, n = m + 1 := ⟨n - 1, by omega⟩
              have h9 := mayP_fo hm
              obtain ⟨o1, o2, o3, o4⟩ := fo_op h9
              have h1 := rbyte_bl cnt hb'
              rw [show op % 256 = op by omega] at h1
              unfold rl
              rw [if_pos rfl, h1]
              simp only
              rw [if_neg (by rintro (x | x); exact x trivial; exact o3 x), if_neg (fun x => o4 x.1), if_neg h9, if_neg c1, show met ⟨((p + 1 : Nat) : Int), 0, cnt⟩ = ⟨((p + 1 : Nat) : Int), 0, cnt + 1⟩ from rfl]
              simp only
              have hb2 := hb'.2.2
              by_cases hjx : j < (opB op a b bi ty ls bo el).length
              · rw [List.take_append_of_le_length (by omega)] at hb2
                have hc := ro_cut m op a b bi ty ls bo el deep (cnt + 1) (p + 1) j hm c2 hjx hb2 (by omega) (fun hbb => by
                    have := rl_back bo (deep + 1) (cnt + 1) (p + 1 + 1) m true 5 ok1 c4 hbb (Or.inr ⟨rfl, rfl⟩) (by omega)
                    rwa [show decide ((5 : Int) = 5) = true from rfl] at this)
                  (fun o i hi hbb hss => rl_cut bo (deep + 1) (cnt + 1) (p + 1 + 1) m i o ok1 c4 hi hbb hss (by omega))
                  (fun p' i hp hi hbb hss => rl_cut el (deep + 1) (ck bo (deep + 1) (cnt + 1)).2 p' m i false ok2 c5 hi hbb hss (by omega))
                have hne : ¬ (ro (rl s m) s op deep ⟨((p + 1 : Nat) : Int), 0, cnt + 1⟩).2.code = 0 := by rw [hc]; decide
                rw [rl_st hne]
                exact hc
              · rw [List.take_append, List.take_of_length_le (by omega)] at hb2
                obtain ⟨b1, b2⟩ := bl_app.1 hb2
                have hro := ro_back m op a b bi ty ls bo el deep (cnt + 1) (p + 1) hm hbi c2 b1 (fun fin' o hfo hbb => rl_back bo (deep + 1) (cnt + 1) (p + 1 + 1) m o fin' ok1 c4 hbb hfo (by omega)) (fun p' hp hbb => by
                  have := rl_back el (deep + 1) (ck bo (deep + 1) (cnt + 1)).2 p' m false 11 ok2 c5 hbb (Or.inl rfl) (by omega)
                  rwa [show decide ((11 : Int) = 5) = false from rfl] at this)
                rw [hro]
                simp only
                simp only [List.length_cons, List.length_append] at hj
                exact rl_cut r deep (ck el (deep + 1) (ck bo (deep + 1) (cnt + 1)).2).2 (p + 1 + (opB op a b bi ty ls bo el).length) m (j - (opB op a b bi ty ls bo el).length) other ok3 hck (by omega) b2 (by omega) (by omega)
            · rw [if_neg c5] at hck; exact absurd hck c5
          · rw [if_neg c4] at hck; exact absurd hck c4
end Go.Proofs.Ytkdfmgdadnlnlaa


/- Blocks that stand in one another, so many: their bytes, whether they may be put, what is read of their bytes. -/
set_option linter.unusedVariables false
set_option linter.unusedSimpArgs false
set_option maxRecDepth 100000
set_option maxHeartbeats 4000000
namespace Go.Proofs.Ytkdfmgdadnlnlaa
open Go.RowKit
variable {s : ByteArray} {o : Int}
def nest (o : Int) : Nat → Fs
  | 0 => .nil
  | k + 1 => .cons o 0 0 0 64 [] (nest o k) .nil .nil
def prs (o : Int) : Nat → List Int
  | 0 => []
  | k + 1 => o :: 64 :: prs o k
theorem prs_app (o : Int) : ∀ k : Nat, prs o (k + 1) = prs o k ++ [o, 64]
  | 0 => rfl
  | k + 1 => by
    show o :: 64 :: prs o (k + 1) = (o :: 64 :: prs o k) ++ [o, 64]
    rw [prs_app o k]
    rfl
theorem prs_len (o : Int) : ∀ k : Nat, (prs o k).length = 2 * k
  | 0 => rfl
  | k + 1 => by simp only [prs, List.length_cons, prs_len o k]; omega
theorem prs_byte (ho : 2 ≤ o ∧ o ≤ 4) : ∀ k : Nat, ∀ b ∈ prs o k, 0 ≤ b ∧ b < 256
  | 0, b, hb => by simp [prs] at hb
  | k + 1, b, hb => by
    simp only [prs, List.mem_cons] at hb
    rcases hb with rfl | rfl | hb
    · omega
    · omega
    · exact prs_byte ho k b hb
theorem nest_len (o : Int) (k : Nat) : (nest o k).len = if k = 0 then 0 else 1 := by cases k <;> simp [nest, Fs.len]
theorem nest_ok (ho : 2 ≤ o ∧ o ≤ 4) : ∀ k : Nat, (nest o k).Ok
  | 0 => trivial
  | k + 1 => ⟨⟨by unfold i64; omega, by unfold i64; omega, by unfold i64; omega, by unfold i64; omega, by unfold i64; omega, by simp⟩, by decide, by have := nest_len o k; split at this <;> omega, by decide, nest_ok ho k, trivial, trivial⟩
theorem fo_nest (ho : 2 ≤ o ∧ o ≤ 4) : fo o = 1 ∨ fo o = 2 := by
  have : o = 2 ∨ o = 3 ∨ o = 4 := by omega
  rcases this with rfl | rfl | rfl <;> decide
theorem ltB_nest (ho : 2 ≤ o ∧ o ≤ 4) : ∀ k : Nat, ltB (nest o k) = prs o k ++ List.replicate k 11
  | 0 => rfl
  | k + 1 => by
    have h : ltB (nest o (k + 1)) = (o % 256) :: ((if fo o = 1 ∨ fo o = 2 then ((64 : Int) % 256) :: (ltB (nest o k) ++ ((if Fs.nil.len = 0 then [] else 5 :: ltB .nil) ++ [11])) else opB o 0 0 0 64 [] (nest o k) .nil) ++ ltB .nil) := by
      show (o % 256) :: (opB o 0 0 0 64 [] (nest o k) .nil ++ ltB .nil) = _
      unfold opB
      rw [if_pos (fo_nest ho), if_pos (fo_nest ho)]
    rw [h, if_pos (fo_nest ho), ltB_nest ho k, show o % 256 = o by omega]
    simp [prs, ltB, Fs.len, List.replicate_succ']
theorem may_nest (ho : 2 ≤ o ∧ o ≤ 4) (k : Nat) : mayP o 0 0 0 64 [] (nest o k).len Fs.nil.len := by
  have : o = 2 ∨ o = 3 ∨ o = 4 := by omega
  rcases this with rfl | rfl | rfl <;> simp [mayP, fo, Fs.len]
theorem ck_nest (ho : 2 ≤ o ∧ o ≤ 4) : ∀ (k : Nat) (deep c : Int), c + k ≤ 8192 → deep + k ≤ 32 → ck (nest o k) deep c = (0, c + k)
  | 0, deep, c, h, hd => by simp [nest, ck]
  | k + 1, deep, c, h, hd => by
    show ck (.cons o 0 0 0 64 [] (nest o k) .nil .nil) deep c = _
    unfold ck
    rw [if_neg (by omega), if_neg (fun x => by have := x.2; omega), if_neg (fun x => x (may_nest ho k)), ck_nest ho k (deep + 1) (c + 1) (by omega) (by omega)]
    simp only [ck]
    rw [if_pos trivial, if_pos trivial]
    congr 1
    omega
theorem ck_deep (ho : 2 ≤ o ∧ o ≤ 4) : ∀ (k : Nat) (deep c : Int), c + k ≤ 8192 → deep ≤ 32 → 32 < deep + k → (ck (nest o k) deep c).1 = 1402
  | 0, deep, c, h, hd, hk => by omega
  | k + 1, deep, c, h, hd, hk => by
    show (ck (.cons o 0 0 0 64 [] (nest o k) .nil .nil) deep c).1 = _
    unfold ck
    rw [if_neg (by omega)]
    by_cases hdd : deep ≥ 32
    · rw [if_pos ⟨fo_nest ho, hdd⟩]
    · rw [if_neg (fun x => hdd x.2), if_neg (fun x => x (may_nest ho k))]
      have ih := ck_deep ho k (deep + 1) (c + 1) (by omega) (by omega) (by omega)
      rw [if_neg (by rw [ih]; decide)]
      exact ih
theorem rl_deep (ho : 2 ≤ o ∧ o ≤ 4) : ∀ (k : Nat) (deep c : Int) (p n : Nat) (other : Bool), bl s p (prs o k) → c + k ≤ 8192 → deep ≤ 32 → 32 < deep + k → s.size < p + n → (rl s n deep other ⟨(p : Int), 0, c⟩).2.2.code = 1402
  | 0, deep, c, p, n, other, hb, h, hd, hk, hn => by omega
  | k + 1, deep, c, p, n, other, hb, h, hd, hk, hn => by
    have hb1 : bl s p (o :: 64 :: prs o k) := hb
    have h1 := rbyte_bl c hb1
    obtain ⟨m, rfl⟩ : ∃ m, n = m + 1 := ⟨n - 1, by have := hb1.1; omega⟩
    have h9 : ¬ fo o = 9 := by rcases fo_nest ho with e | e <;> rw [e] <;> decide
    have hro : (ro (rl s m) s o deep ⟨((p + 1 : Nat) : Int), 0, c + 1⟩).2.code = 1402 := by
      unfold ro
      rw [if_pos (fo_nest ho)]
      by_cases hdd : deep ≥ 32
      · rw [if_pos hdd]
        rfl
      · rw [if_neg hdd]
        have hb2 : bl s (p + 1) ((64 % 256 : Int) :: prs o k) := hb1.2.2
        obtain ⟨e1, e2⟩ := rtyp_back 64 (Or.inl rfl) (p + 1) (c + 1) hb2
        rw [e1, e2]
        have hc := rl_deep ho k (deep + 1) (c + 1) (p + 1 + 1) m (decide (o = 4)) hb2.2.2 (by omega) (by omega) (by omega) (by omega)
        have hne : ¬ (rl s m (deep + 1) (decide (o = 4)) ⟨((p + 1 + 1 : Nat) : Int), 0, c + 1⟩).2.2.code = 0 := by rw [hc]; decide
        split
        · show (rl s m (deep + 1) false (rl s m (deep + 1) (decide (o = 4)) ⟨((p + 1 + 1 : Nat) : Int), 0, c + 1⟩).2.2).2.2.code = 1402
          rw [rl_st hne]
          exact hc
        · exact hc
    unfold rl
    rw [if_pos rfl, h1]
    simp only
    rw [if_neg (by rintro (x | x); exact x trivial; omega), if_neg (fun x => by have := x.1; omega), if_neg h9, if_neg (by omega), show met ⟨((p + 1 : Nat) : Int), 0, c⟩ = ⟨((p + 1 : Nat) : Int), 0, c + 1⟩ from rfl]
    simp only
    have hne : ¬ (ro (rl s m) s o deep ⟨((p + 1 : Nat) : Int), 0, c + 1⟩).2.code = 0 := by rw [hro]; decide
    rw [rl_st hne]
    exact hro
theorem al_nest (o : Int) : ∀ (k : Nat) (deep : Int) (out : List Stp), out.length + k ≤ 8192 → (al (nest o k) deep out).length = out.length + k
  | 0, deep, out, h => rfl
  | k + 1, deep, out, h => by
    show (al (.cons o 0 0 0 64 [] (nest o k) .nil .nil) deep out).length = _
    unfold al
    rw [if_pos (by omega)]
    show (al (nest o k) (deep + 1) (out ++ [(deep, o, 0, (nest o k).len)])).length = _
    rw [al_nest o k (deep + 1) _ (by simp; omega)]
    simp
    omega
theorem pu_nest (ho : 2 ≤ o ∧ o ≤ 4) (k : Nat) (hk : k ≤ 32) : puR (nest o k) = (prs o k ++ List.replicate (k + 1) 11, 0) := by
  unfold puR
  rw [ck_nest ho k 0 0 (by omega) (by omega), if_pos rfl, ltB_nest ho k, List.append_assoc, ← List.replicate_succ']
theorem pu_deep (ho : 2 ≤ o ∧ o ≤ 4) (k : Nat) (hk : 32 < k) (hk2 : k ≤ 64) : puR (nest o k) = ([], 1402) := by
  have h := ck_deep ho k 0 0 (by omega) (by decide) (by omega)
  unfold puR
  rw [h, if_neg (by decide)]
theorem txt_byte (ho : 2 ≤ o ∧ o ≤ 4) (k j : Nat) : ∀ b ∈ prs o k ++ List.replicate j 11, 0 ≤ b ∧ b < 256 := by
  intro b hb
  rcases List.mem_append.1 hb with hb | hb
  · exact prs_byte ho k b hb
  · obtain rfl := List.eq_of_mem_replicate hb
    decide
theorem un_nest (ho : 2 ≤ o ∧ o ≤ 4) (k : Nat) (hk : k ≤ 32) : unI (strOfNums (prs o k ++ List.replicate (k + 1) 11)) 0 = (nest o k, ((strOfNums (prs o k ++ List.replicate (k + 1) 11)).size : Int), 0) := by
  have e : prs o k ++ List.replicate (k + 1) 11 = ltB (nest o k) ++ [11] := by rw [ltB_nest ho k, List.append_assoc, ← List.replicate_succ']
  have hb := bl_num _ (txt_byte ho k (k + 1))
  have hsz := strOfNums_size (prs o k ++ List.replicate (k + 1) 11)
  rw [e] at hb hsz ⊢
  have h := rl_back (s := strOfNums (ltB (nest o k) ++ [11])) (nest o k) 0 0 0 ((strOfNums (ltB (nest o k) ++ [11])).size + 1) false 11 (nest_ok ho k) (by rw [ck_nest ho k 0 0 (by omega) (by omega)]) hb (Or.inl rfl) (by omega)
  rw [show (((0 : Nat) : Int)) = 0 from rfl] at h
  unfold unI
  rw [if_pos ⟨by decide, by omega⟩, h]
  simp only
  rw [if_pos trivial]
  refine Prod.ext rfl (Prod.ext ?_ rfl)
  simp only
  rw [hsz]
  simp
theorem un_deep (ho : 2 ≤ o ∧ o ≤ 4) (k : Nat) (hk : 32 < k) (hk2 : k ≤ 64) : unI (strOfNums (prs o k ++ List.replicate (k + 1) 11)) 0 = (.nil, 0, 1402) := by
  have hb := (bl_app.1 (bl_num _ (txt_byte ho k (k + 1)))).1
  have h := rl_deep (s := strOfNums (prs o k ++ List.replicate (k + 1) 11)) ho k 0 0 0 ((strOfNums (prs o k ++ List.replicate (k + 1) 11)).size + 1) false hb (by omega) (by decide) (by omega) (by omega)
  rw [show (((0 : Nat) : Int)) = 0 from rfl] at h
  unfold unI
  rw [if_pos ⟨by decide, by omega⟩, if_neg (by rw [h]; decide), h]
end Go.Proofs.Ytkdfmgdadnlnlaa

