/- XJ: II, IJ, IK, joined. -/
import Derived.Test.YtngciahmoenkiacXD
import Derived.Test.YtngciahmoenkiacXB
import Derived.Lib.AppendStr
import Derived.Deep.Upon
import Derived.Test.YtngciahmoenkiacXE
/- Over this seat's translation: bytes being appended, with an instruction at hand. -/
set_option linter.unusedVariables false
set_option linter.unusedSimpArgs false
set_option maxRecDepth 100000
set_option maxHeartbeats 4000000
namespace Go
open Go.Proofs.Ytngciahmoenkiac Go.Lib
section
variable {P : Program} {e : TypeId} {size n : Nat} {v : Value} {xs : List Value}
/-- so many elements appended to a row of a label -/
theorem fld_app {lab : Nat → Nat} {tag : Nat} {W w : World} (hL : Later W w) (t ty e : TypeId) (i : TypeInfo) (z : Value) (size bytes : Nat) (ht : P.underlying t = some (.slice e)) (hi : P.info? e = some i) (hz : i.zero = some z)
    (hsize : i.size = size) (hby : i.bytes = bytes) (hzs : z.cells.size = size) (hsz : 0 < size)
    {v : Value} {n : Nat} {xs : List Value} (h : Fld lab tag w W.heap.size e size v n xs) (a : Addr) (m c : Nat) (news : List Value) (hl : news.length = m * size) (hnews : ∀ j u, news[j]? = some u → w.cell? (a.add j) = some u) (h1 : ∀ u ∈ news, u.oneCell' = true)
    (h63 : n + m ≤ maxLen) (hbytes : (n + m) * bytes ≤ 140737488355328) (hm : 0 < m) :
    ∃ g cap w' lab', (Builtin.append_ #[t, t] ty #[v, .slice (some a) m c]).run P w = .ok (.slice (some ⟨g, 0, none⟩) (n + m) cap) w' ∧ Fld lab' tag w' W.heap.size e size (.slice (some ⟨g, 0, none⟩) (n + m) cap) (n + m) (xs ++ news) ∧ Later W w' ∧ Chg lab (· = tag) w w' lab' := by
  obtain ⟨v', w1, hr, ho, hg, hnn⟩ := run_append_own (P := P) w W.heap.size t ty e i z size bytes ht hi hz hsize hby hzs hsz v n xs h.1 a m c news hl hnews h1 h63 hbytes hL.size
  obtain ⟨g, cap, w', hr2, ho2, hL2⟩ := run_append_later (P := P) hL t ty e i z size bytes ht hi hz hsize hby hzs hsz v n xs h.1 a m c news hl hnews h1 h63 hbytes hm
  have hgk : g < w.heap.size → v.ownBlock = some g := by
    intro hlt
    subst hsize
    subst hby
    have hsm : n + m ≤ 9223372036854775807 := by simp only [maxLen] at h63; omega
    rcases h.1.2 with ⟨rfl, rfl⟩ | ⟨b, cap', cur, rfl, hbg, hbb, hnc, hcm, hcs, htake⟩
    · rw [run_append_nil (P := P) w t ty e i z ht hi hz a m c news hl hnews hm (by omega) (by have := hbytes; rw [Nat.zero_add] at this; omega)] at hr2
      injection hr2 with h2 _
      simp at h2
      try omega
    · by_cases hroom : n + m ≤ cap'
      · rw [run_append_room (P := P) w t ty e i ht hi b n cap' cur hbb a m c news hl hnews h1 hroom (by rw [hl, hcs, ← Nat.add_mul]; exact Nat.mul_le_mul_right _ hroom)] at hr2
        injection hr2 with h2 _
        simp at h2
        rw [← h2.1]; rfl
      · rw [run_append_grow (P := P) w t ty e i z ht hi hz ⟨b, 0, none⟩ n cap' xs h.1.1 (h.1.cells (g := b) rfl) a m c news hl hnews (by omega) (by omega) (growslice_fits (by omega) hbytes)] at hr2
        injection hr2 with h2 _
        simp at h2
        try omega
  rw [hr2] at hr
  injection hr with e1 e2
  subst e1 e2
  refine ⟨g, cap, w', fun k => if k < w.heap.size then lab k else tag, hr2, ⟨ho2, fun g' hg' => ?_⟩, hL2, ⟨hg.size, fun k hk hs => ⟨if_pos hk, ?_⟩⟩⟩
  · obtain rfl : g = g' := Option.some.inj hg'
    show (if g < w.heap.size then lab g else tag) = tag
    by_cases hlt : g < w.heap.size
    · rw [if_pos hlt]; exact h.2 g (hgk hlt)
    · rw [if_neg hlt]
  · exact hg.block k hk (fun e => hs (h.2 k e.symm))
/-- a text appended to bytes of a label -/
theorem fld_str {lab : Nat → Nat} {tag : Nat} {W w : World} (hL : Later W w) (t u ty e : TypeId) (i : TypeInfo) (ht : P.underlying t = some (.slice e)) (hu : P.underlying u = some .string) (hi : P.info? e = some i) (hz : i.zero = some (.int .u8 0))
    (hsize : i.size = 1) (hby : i.bytes = 1)
    {v : Value} {n : Nat} {xs : List Value} (h : Fld lab tag w W.heap.size e 1 v n xs) (s : ByteArray)
    (h63 : n + s.size ≤ maxLen) (hbytes : n + s.size ≤ 140737488355328) (hm : 0 < s.size) :
    ∃ g cap w' lab', (Builtin.append_ #[t, u] ty #[v, .string s]).run P w = .ok (.slice (some ⟨g, 0, none⟩) (n + s.size) cap) w' ∧ Fld lab' tag w' W.heap.size e 1 (.slice (some ⟨g, 0, none⟩) (n + s.size) cap) (n + s.size) (xs ++ strCells s) ∧ Later W w' ∧ Chg lab (· = tag) w w' lab' := by
  obtain ⟨v', w', hr, ho, hg, hnn⟩ := run_append_own_string (P := P) w W.heap.size t u ty e i ht hu hi hz hsize hby v n xs h.1 s h63 hbytes hL.size
  have hsm : n + s.size ≤ 9223372036854775807 := by simp only [maxLen] at h63; omega
  obtain ⟨g, cap, rfl⟩ : ∃ g cap, v' = .slice (some ⟨g, 0, none⟩) (n + s.size) cap := by
    rcases ho.2 with ⟨_, h0⟩ | ⟨g, cap, cur, rfl, _⟩
    · omega
    · exact ⟨g, cap, rfl⟩
  have hboth : Later W w' ∧ (g < w.heap.size → v.ownBlock = some g) := by
    rcases h.1.2 with ⟨rfl, rfl⟩ | ⟨b, cap', cur, rfl, hbg, hbb, hnc, hcm, hcs, htake⟩
    · rw [run_append_nil_string (P := P) w t u ty e i (.int .u8 0) ht hu hi hz s (by omega) (by omega) (by rw [hby]; omega)] at hr
      injection hr with h2 h3
      refine ⟨by rw [← h3]; exact hL.drew.alloc, fun hlt => ?_⟩
      simp at h2
      try omega
    · have hxl : xs.length = n := by simpa using h.1.1
      have hcs' : cur.size = cap' := by simpa using hcs
      by_cases hroom : n + s.size ≤ cap'
      · rw [run_append_room_string (P := P) w t u ty e i ht hu hi hsize b n cap' cur hbb s hroom (by omega)] at hr
        injection hr with h2 h3
        refine ⟨by rw [← h3]; exact hL.setRow _ hbg hbb, fun hlt => ?_⟩
        simp at h2
        rw [← h2.1]; rfl
      · rw [run_append_grow_string (P := P) w t u ty e i (.int .u8 0) ht hu hi hz ⟨b, 0, none⟩ n cap' xs (by rw [hsize]; simpa using hxl) (h.1.cells (g := b) rfl) s (by omega) (by omega) (by rw [hby]; exact growslice_fits (by omega) (by omega))] at hr
        injection hr with h2 h3
        refine ⟨by rw [← h3]; exact hL.drew.alloc, fun hlt => ?_⟩
        simp at h2
        try omega
  refine ⟨g, cap, w', fun k => if k < w.heap.size then lab k else tag, hr, ⟨ho, fun g' hg' => ?_⟩, hboth.1, ⟨hg.size, fun k hk hs => ⟨if_pos hk, ?_⟩⟩⟩
  · obtain rfl : g = g' := Option.some.inj hg'
    show (if g < w.heap.size then lab g else tag) = tag
    by_cases hlt : g < w.heap.size
    · rw [if_pos hlt]; exact h.2 g (hboth.2 hlt)
    · rw [if_neg hlt]
  · exact hg.block k hk (fun e => hs (h.2 k e.symm))
theorem wpList_app2 {w w' : World} {ops : Array Oper} {rest : List Oper} {o : Oper} {a : Act} {Q : Exit → Act → World → Prop} (hgd : o.guard = none) (s x : Operand) (t t2 : TypeId)
    (ho : o.op = .call { callee := .builtin .append, args := #[s, x], argTypes := #[t, t2] }) (v u r : Value) (hs : a.eval s = v) (hx : a.eval x = u) (hr : (Builtin.append_ #[t, t2] o.type #[v, u]).run P w = .ok r w')
    (h : wpList P ops Q rest (a.put o.dst r) w') : wpList P ops Q (o :: rest) a w := by
  refine wpList_plain hgd fun K hK => ?_
  unfold Oper.wp execOp
  simp only [ho, resolve, invoke, builtin, Sem.run_bind, Sem.run_pure, Result.andThen_ok, List.map_toArray, List.map_cons, List.map_nil, hs, hx, hr]
  exact hK _ _ h
end
end Go
namespace Go.Proofs.Ytngciahmoenkiac
open Go.RowKit Go.Lib
theorem str_cells (l : List Int) (h : ∀ x ∈ l, 0 ≤ x ∧ x < 256) : strCells (strOfNums l) = bys l := by
  unfold strCells bys
  rw [strOfNums_data, List.map_map]
  refine List.map_congr_left fun x hx => ?_
  have hb := h x hx
  show Value.int .u8 ((UInt8.ofNat x.toNat).toNat : Int) = Value.int .u8 x
  congr 1
  rw [UInt8.toNat_ofNat']
  omega
/-- bytes being appended in a row of their own, an instruction at hand in a block of its own -/
def Ys (w : World) (lab : Nat → Nat) (W : World) (v : Value) (d : List Int) (p : Nat) (F : Nat → Value) : Prop := Later w W ∧ Fld lab 0 W w.heap.size 5 1 v d.length (bys d) ∧ Str lab 7 W w.heap.size p 43 8 F
variable {w W : World} {lab : Nat → Nat} {v : Value} {d : List Int} {p : Nat} {F : Nat → Value}
theorem Ys.form (h : Ys w lab W v d p F) : ∃ A cap, v = .slice A d.length cap := by
  rcases h.2.1.1.2 with ⟨e, h0⟩ | ⟨g, cap', cur, e, _⟩
  · rw [h0]; exact ⟨none, 0, e⟩
  · exact ⟨_, _, e⟩
theorem Ys.cell (h : Ys w lab W v d p F) (i : Nat) (hi : i < 8) : W.cell? ⟨p, i, none⟩ = some (F i) := h.2.2.1.cell hi
theorem Ys.later {W' : World} (h : Ys w lab W v d p F) (hl : Later W W') : Ys w lab W' v d p F := ⟨h.1.trans hl, h.2.1.chg (S := fun _ => False) (Chg.of_later hl) (fun x => x), h.2.2.chg (S := fun _ => False) (Chg.of_later hl) (fun x => x)⟩
theorem Ys.more (h : Ys w lab W v d p F) (x : Int) (hd : d.length < 100000000000000) : ∃ g cap w' lab', (Builtin.append_ #[50, 50] 50 #[v, .slice (some ⟨W.heap.size, 0, none⟩) 1 1]).run Try.prog (W.alloc (.cells #[.int .u8 x] 5)) = .ok (.slice (some ⟨g, 0, none⟩) (d.length + 1) cap) w' ∧ Ys w lab' w' (.slice (some ⟨g, 0, none⟩) (d.length + 1) cap) (d ++ [x]) p F := by
  obtain ⟨i, hi1, hi2, hi3, hi4⟩ := byte_parts
  obtain ⟨g, cap, w', lab', r, G, l, C⟩ := fld_more (P := Try.prog) h.1 50 50 5 i (.int .u8 0) 1 1 Try.underlying50 hi1 hi2 hi3 hi4 rfl (by decide) h.2.1 [.int .u8 x] rfl (one_byte x) (by unfold maxLen; omega) (by omega)
  refine ⟨g, cap, w', lab', r, l, ?_, h.2.2.chg C (by decide)⟩
  rw [List.length_append, List.length_singleton, show bys (d ++ [x]) = bys d ++ [.int .u8 x] by simp [bys]]
  exact G
theorem bys_one (l : List Int) : ∀ u ∈ bys l, u.oneCell' = true := by
  intro u hu
  obtain ⟨x, _, rfl⟩ := List.mem_map.1 hu
  rfl
theorem Ys.list (h : Ys w lab W v d p F) (l : List Int) (hl : l ≠ []) (a : Addr) (c : Nat) (hc : ∀ j u, (bys l)[j]? = some u → W.cell? (a.add j) = some u) (hd : d.length + l.length < 100000000000000) : ∃ g cap w' lab', (Builtin.append_ #[50, 50] 50 #[v, .slice (some a) l.length c]).run Try.prog W = .ok (.slice (some ⟨g, 0, none⟩) (d.length + l.length) cap) w' ∧ Ys w lab' w' (.slice (some ⟨g, 0, none⟩) (d.length + l.length) cap) (d ++ l) p F := by
  obtain ⟨i, hi1, hi2, hi3, hi4⟩ := byte_parts
  obtain ⟨g, cap, w', lab', r, G, l2, C⟩ := fld_app (P := Try.prog) h.1 50 50 5 i (.int .u8 0) 1 1 Try.underlying50 hi1 hi2 hi3 hi4 rfl (by decide) h.2.1 a l.length c (bys l) (by rw [bys_len]; omega) hc (bys_one l) (by unfold maxLen; omega) (by omega) (List.length_pos_iff.2 hl)
  refine ⟨g, cap, w', lab', r, l2, ?_, h.2.2.chg C (by decide)⟩
  rw [List.length_append, show bys (d ++ l) = bys d ++ bys l by simp [bys]]
  exact G
theorem Ys.str (h : Ys w lab W v d p F) (l : List Int) (hl : l ≠ []) (hb : ∀ x ∈ l, 0 ≤ x ∧ x < 256) (hd : d.length + l.length < 100000000000000) : ∃ g cap w' lab', (Builtin.append_ #[50, 9] 50 #[v, .string (strOfNums l)]).run Try.prog W = .ok (.slice (some ⟨g, 0, none⟩) (d.length + l.length) cap) w' ∧ Ys w lab' w' (.slice (some ⟨g, 0, none⟩) (d.length + l.length) cap) (d ++ l) p F := by
  obtain ⟨i, hi1, hi2, hi3, hi4⟩ := byte_parts
  have hsz := strOfNums_size l
  obtain ⟨g, cap, w', lab', r, G, l2, C⟩ := fld_str (P := Try.prog) h.1 50 9 50 5 i Try.underlying50 Try.underlying9 hi1 hi2 hi3 hi4 h.2.1 (strOfNums l) (by rw [hsz]; unfold maxLen; omega) (by rw [hsz]; omega) (by rw [hsz]; exact List.length_pos_iff.2 hl)
  rw [hsz, str_cells l hb] at G
  rw [hsz] at r
  refine ⟨g, cap, w', lab', r, l2, ?_, h.2.2.chg C (by decide)⟩
  rw [List.length_append, show bys (d ++ l) = bys d ++ bys l by simp [bys]]
  exact G
theorem Ys.byt {A : Option Addr} {cap : Nat} (h : Ys w lab W (.slice A d.length cap) d p F) : Byt w W (.slice A d.length cap) d := ⟨lab, h.2.1⟩
/-- bytes of another row appended, none too -/
theorem Ys.all {w0 : World} (h : Ys w lab W v d p F) (l : List Int) (A : Option Addr) (c : Nat) (hB : Byt w0 W (.slice A l.length c) l) (hd : d.length + l.length < 100000000000000) : ∃ A2 cap w' lab', (Builtin.append_ #[50, 50] 50 #[v, .slice A l.length c]).run Try.prog W = .ok (.slice A2 (d.length + l.length) cap) w' ∧ Ys w lab' w' (.slice A2 (d.length + l.length) cap) (d ++ l) p F := by
  by_cases hl : l = []
  · subst hl
    obtain ⟨i, hi1, hi2, hi3, hi4⟩ := byte_parts
    obtain ⟨A2, cap, rfl⟩ := h.form
    refine ⟨A2, cap, W, lab, ?_, ?_⟩
    · have hle : d.length ≤ cap := by
        rcases h.2.1.1.2 with ⟨e, h0⟩ | ⟨g, c', cur, e, _, _, hnc, _⟩
        · omega
        · injection e with _ _ e3
          omega
      show (Builtin.append_ #[50, 50] 50 #[.slice A2 d.length cap, .slice A 0 c]).run Try.prog W = .ok (.slice A2 (d.length + 0) cap) W
      have hu := run_underlying (P := Try.prog) (w := W) Try.underlying50
      cases A2 <;> cases A <;> simp [Builtin.append_, hu, sizeOf, typeInfo, hi1, hi3, Builtin.lenOf, hle, Builtin.firstCells, storeCells, loadCells, loadCellsFrom]
    · rw [List.append_nil]
      exact h
  · obtain ⟨lab0, h1, _⟩ := hB
    rcases h1.2 with ⟨e, h0⟩ | ⟨g, cap', cur, e, _⟩
    · exact absurd (List.length_eq_zero_iff.1 h0) hl
    · injection e with e1 e2 e3
      subst e1
      obtain ⟨g2, cap, w', lab', r, Y⟩ := h.list l hl ⟨g, 0, none⟩ c (h1.cells (g := g) rfl) hd
      exact ⟨_, cap, w', lab', r, Y⟩
end Go.Proofs.Ytngciahmoenkiac


/- Over this seat's translation: a constant's bytes, by the document: low, literal. -/
set_option linter.unusedVariables false
set_option linter.unusedSimpArgs false
set_option maxRecDepth 100000
set_option maxHeartbeats 4000000
namespace Go.Proofs.Ytngciahmoenkiac
open Go.RowKit
/-- so many bytes of a number, the lowest first -/
def lowB (x : Int) (k : Nat) : List Int := (List.range k).map fun i => x / 2 ^ (8 * i) % 256
theorem lowB_len (x : Int) (k : Nat) : (lowB x k).length = k := by simp [lowB]
theorem lowB_succ (x : Int) (k : Nat) : lowB x (k + 1) = lowB x k ++ [x / 2 ^ (8 * k) % 256] := by simp [lowB, List.range_succ]
theorem lowB_byte (x : Int) (k : Nat) : ∀ b ∈ lowB x k, 0 ≤ b ∧ b < 256 := by
  intro b hb
  obtain ⟨i, _, rfl⟩ := List.mem_map.1 hb
  constructor
  · exact Int.emod_nonneg _ (by decide)
  · exact Int.emod_lt_of_pos _ (by decide)
theorem and_255 (y : Int) : bits .and .i64 y 255 = y % 256 := by rw [show (255 : Int) = ((2 ^ 8 : Nat) - 1 : Int) by decide, BM.and_mask y 8 (by decide)]; rfl
theorem Byt.some' {w0 w : World} {v : Value} {d : List Int} (h : Byt w0 w v d) (hd : 0 < d.length) : ∃ g cap, v = .slice (some ⟨g, 0, none⟩) d.length cap := by
  obtain ⟨lab, h1, _⟩ := h
  rcases h1.2 with ⟨e, h0⟩ | ⟨g, cap', cur, e, _⟩
  · omega
  · exact ⟨_, _, e⟩
/-- a constant's bytes -/
def lit (op bi : Int) : List Int := if op = 65 then slebL (sg3 bi) else if op = 66 then slebL bi else if op = 67 then lowB bi 4 else lowB bi 8
end Go.Proofs.Ytngciahmoenkiac


/- Over this seat's translation: a list of instructions as bytes, by the document: list. -/
set_option linter.unusedVariables false
set_option linter.unusedSimpArgs false
set_option maxRecDepth 100000
set_option maxHeartbeats 40000000
namespace Go.Proofs.Ytngciahmoenkiac
open Go.RowKit
/-- labels as bytes -/
def labB : List Int → List Int
  | [] => []
  | x :: l => lebL x ++ labB l
/-- instructions as bytes, without the end -/
def ltB : Fs → List Int
  | ⟨none⟩ => []
  | ⟨some (op, a, b, bi, ty, ls, bo, el, r)⟩ => (op % 256) ::
      ((if fo op = 1 ∨ fo op = 2 then (ty % 256) :: (ltB bo ++ ((if el.len = 0 then [] else 5 :: ltB el) ++ [11]))
      else if fo op = 3 then lebL a
      else if fo op = 4 then lebL ((ls.length : Int) - 1) ++ labB ls
      else if fo op = 5 then lebL a ++ [0]
      else if fo op = 6 then lebL a ++ lebL b
      else if fo op = 7 then [0]
      else if fo op = 8 then lit op bi
      else []) ++ ltB r)
theorem Byt.start {w wr : World} {lab : Nat → Nat} {v : Value} {d : List Int} (hl : Later w wr) (h : Fld lab 0 wr w.heap.size 5 1 v d.length (bys d)) (x0 x1 x2 x3 x4 x5 x6 x7 : Value) : ∃ lab', Ys w lab' (wr.alloc (.cells #[x0, x1, x2, x3, x4, x5, x6, x7] 43)) v d wr.heap.size (fun j => [x0, x1, x2, x3, x4, x5, x6, x7].getD j undef) := by
  have hl2 : Later wr (wr.alloc (.cells #[x0, x1, x2, x3, x4, x5, x6, x7] 43)) := La (Lz _)
  obtain ⟨lab', C, hz⟩ := Chg.fresh (lab := lab) (S := fun _ => False) hl2 7
  refine ⟨lab', hl.trans hl2, h.chg C (fun x => x), ?_, hl.size, hz _ (Nat.le_refl _)⟩
  exact ⟨_, heap_alloc_new wr _, rfl, fun i hi => by
    match i, hi with
    | 0, _ => rfl
    | 1, _ => rfl
    | 2, _ => rfl
    | 3, _ => rfl
    | 4, _ => rfl
    | 5, _ => rfl
    | 6, _ => rfl
    | 7, _ => rfl⟩
theorem lebL_ne (x : Int) : lebL x ≠ [] := by
  unfold lebL lebF
  split <;> simp
theorem lit_ne (op bi : Int) : lit op bi ≠ [] := by
  unfold lit
  have h : ∀ x, slebL x ≠ [] := fun x => by
    unfold slebL slebF
    split <;> simp
  split
  · exact h _
  · split
    · exact h _
    · split <;> simp [lowB, List.range_succ]
theorem lit_byte (op bi : Int) : ∀ x ∈ lit op bi, 0 ≤ x ∧ x < 256 := by
  unfold lit
  split
  · exact slebF_byte 9 _
  · split
    · exact slebF_byte 9 _
    · split
      · exact lowB_byte _ _
      · exact lowB_byte _ _
theorem labB_app : ∀ (l m : List Int), labB (l ++ m) = labB l ++ labB m
  | [], m => rfl
  | x :: l, m => by simp only [List.cons_append, labB, labB_app l m, List.append_assoc]
theorem labB_take (ls : List Int) (j : Nat) (hj : j < ls.length) : labB (ls.take (j + 1)) = labB (ls.take j) ++ lebL (ls.getD j 0) := by
  rw [List.take_add_one, labB_app, List.getElem?_eq_getElem hj, List.getD_eq_getElem?_getD, List.getElem?_eq_getElem hj]
  simp [labB]
theorem labB_le (ls : List Int) (j : Nat) : (labB (ls.take j)).length ≤ (labB ls).length := by
  conv => rhs; rw [← List.take_append_drop j ls, labB_app]
  simp
theorem op_wrap (op : Int) : IntKind.u8.wrap op = op % 256 := IntKind.wrap_u8 op
end Go.Proofs.Ytngciahmoenkiac

