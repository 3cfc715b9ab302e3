/- The document's reader of modules, section by section, over texts that are put together: one section ahead of the rest; a module of one section. -/
import Derived.Test.YtngciahmoenkiabFC
set_option linter.unusedVariables false
set_option linter.unusedSimpArgs false
set_option maxRecDepth 100000
set_option maxHeartbeats 8000000
namespace Go.Proofs.Ytngciahmoenkiab
open Go.RowKit
theorem sec_len (id : Int) (b : ByteArray) : (secB id b).size = 1 + (lebL (b.size : Int)).length + b.size := by
  unfold secB
  rw [ByteArray.size_append, ByteArray.size_append, strOfNums_size, strOfNums_size]
  rfl
theorem cut_mid (x y z : ByteArray) : (x ++ y ++ z).extract x.size (x.size + y.size) = y := by
  apply ByteArray.ext
  simp [ByteArray.data_extract, ByteArray.data_append, ← ByteArray.size_data, Array.extract_append]
theorem pre8 (x : ByteArray) : (hd8 ++ x).extract 0 8 = hd8 := by
  have h := cut_mid ByteArray.empty hd8 x
  rw [ByteArray.empty_append] at h
  exact h
theorem bl_sec (id : Nat) (hid : id < 256) (p b t : ByteArray) : bl (p ++ secB (id : Int) b ++ t) p.size ([(id : Int)] ++ lebL (b.size : Int)) := by
  refine bl_left t ?_
  have h : bl (secB (id : Int) b) 0 ([(id : Int)] ++ lebL (b.size : Int)) := by
    unfold secB
    refine bl_left b (bl_app.2 ⟨bl_left _ (bl_num [(id : Int)] (by simp; omega)), ?_⟩)
    have := bl_right (strOfNums [(id : Int)]) (bl_num (lebL (b.size : Int)) (lebL_byte _))
    rw [strOfNums_size] at this
    exact this
  have := bl_right p h
  rwa [Nat.add_zero] at this
theorem unL_one (p t b : ByteArray) (id g n : Nat) (m : Md) (hid : id ≤ 11) (ho : id = 0 ∨ g < id) (hsz : (p ++ secB (id : Int) b ++ t).size ≤ 65536) :
    unL (p ++ secB (id : Int) b ++ t) (n + 1) p.size g m = if (ssec0 b (id : Int) m b.size).2.code = 0 then unL (p ++ secB (id : Int) b ++ t) n (p.size + (secB (id : Int) b).size) (if id = 0 then g else id) (ssec0 b (id : Int) m b.size).1 else (mdZ 0, (ssec0 b (id : Int) m b.size).2.code) := by
  have hB := bl_sec id (by omega) p b t
  obtain ⟨h1, h2⟩ := bl_app.1 hB
  obtain ⟨h3, h4, _⟩ := h1
  have hz : (p ++ secB (id : Int) b ++ t).size = p.size + (1 + (lebL (b.size : Int)).length + b.size) + t.size := by rw [ByteArray.size_append, ByteArray.size_append, sec_len]
  have hu := get_put32 (b.size : Int) (by omega) _ (p.size + 1) h2
  have hx : (p ++ secB (id : Int) b ++ t).extract (p.size + 1 + (lebL (b.size : Int)).length) (p.size + 1 + (lebL (b.size : Int)).length + b.size) = b := by
    have e : p ++ secB (id : Int) b ++ t = (p ++ (strOfNums [(id : Int)] ++ strOfNums (lebL (b.size : Int)))) ++ b ++ t := by
      unfold secB
      simp only [ByteArray.append_assoc]
    have hc := cut_mid (p ++ (strOfNums [(id : Int)] ++ strOfNums (lebL (b.size : Int)))) b t
    rw [← e, show (p ++ (strOfNums [(id : Int)] ++ strOfNums (lebL (b.size : Int)))).size = p.size + 1 + (lebL (b.size : Int)).length by rw [ByteArray.size_append, ByteArray.size_append, strOfNums_size, strOfNums_size]; simp; omega] at hc
    exact hc
  have hgo := unL_go (s := p ++ secB (id : Int) b ++ t) (n := n) (a := p.size) (g := g) (m := m) (X := b.size) (T := p.size + 1 + (lebL (b.size : Int)).length) h3 (by rw [h4]; omega) (by rw [h4]; omega) (by rw [← hu]; norm_cast) (by omega)
  rw [hx, h4] at hgo
  rw [hgo, sec_len]
  have e2 : p.size + 1 + (lebL (b.size : Int)).length + b.size = p.size + (1 + (lebL (b.size : Int)).length + b.size) := by omega
  rw [e2]
  by_cases hz0 : id = 0
  · subst hz0
    rfl
  · rw [if_neg (show ¬ (id : Int) = 0 by omega), if_neg hz0, Int.toNat_natCast]
/-- a module of one section -/
theorem unM_one (id : Nat) (b : ByteArray) (hid : 1 ≤ id ∧ id ≤ 11) (hsz : b.size ≤ 65000) : unM (hd8 ++ secB (id : Int) b) = if (ssec0 b (id : Int) (mdZ (-1)) b.size).2.code = 0 then (if (ssec0 b (id : Int) (mdZ (-1)) b.size).1.fu.length = (ssec0 b (id : Int) (mdZ (-1)) b.size).1.co.length then ((ssec0 b (id : Int) (mdZ (-1)) b.size).1, 0) else (mdZ 0, 1505)) else (mdZ 0, (ssec0 b (id : Int) (mdZ (-1)) b.size).2.code) := by
  have hl := lebL_max (b.size : Int)
  have hz : (hd8 ++ secB (id : Int) b).size = 8 + (secB (id : Int) b).size := by rw [ByteArray.size_append]; rfl
  have hs := sec_len (id : Int) b
  have htx : ((hd8 ++ secB (id : Int) b).extract 0 8).toList = [0, 97, 115, 109, 1, 0, 0, 0] := by
    rw [pre8]
    kernel_rfl
  unfold unM
  rw [if_neg (by omega), if_neg (by rintro (h | h); omega; exact h htx)]
  obtain ⟨n, hn⟩ : ∃ n, (hd8 ++ secB (id : Int) b).size = n + 1 + 1 := ⟨(hd8 ++ secB (id : Int) b).size - 2, by omega⟩
  have h1 := unL_one hd8 ByteArray.empty b id 0 (n + 1) (mdZ (-1)) (by omega) (Or.inr (by omega)) (by rw [ByteArray.append_empty]; omega)
  rw [ByteArray.append_empty] at h1
  rw [hn]
  show unL _ (n + 1 + 1) hd8.size 0 _ = _
  rw [h1]
  split
  · rw [unL_end (by rw [hz]; show ¬ 8 + _ < _; omega)]
  · rfl
end Go.Proofs.Ytngciahmoenkiab
