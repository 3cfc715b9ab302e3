/- Worlds with new blocks behind them: what is owned among the new blocks, appended to and stored into, leaves such a world. -/
import Derived.Test.YtdfgcagbpndabaaGreatDoorZA
import Derived.OwnWalk
import Derived.Laws.AppendOwn
import Derived.WalkKit
namespace Go
open Go.RowKit
set_option linter.unusedVariables false
theorem Later.size {w w' : World} (h : Later w w') : w.heap.size ≤ w'.heap.size := by obtain ⟨bs, n, rfl⟩ := h; rw [World.far_size]; omega
theorem Later.block {w w' : World} (h : Later w w') {k : Nat} (hk : k < w.heap.size) : w'.heap[k]? = w.heap[k]? := by obtain ⟨bs, n, rfl⟩ := h; exact World.far_block w bs n k hk
theorem Later.cell {w w' : World} (h : Later w w') {k i : Nat} (hk : k < w.heap.size) : w'.cell? ⟨k, i, none⟩ = w.cell? ⟨k, i, none⟩ := by obtain ⟨bs, n, rfl⟩ := h; exact World.cell?_far w bs n k i hk
theorem Later.frozen {w w' : World} (h : Later w w') {k i : Nat} (hk : k < w.heap.size) : w'.frozen? ⟨k, i, none⟩ = w.frozen? ⟨k, i, none⟩ := by obtain ⟨bs, n, rfl⟩ := h; exact World.frozen?_far w bs n k i hk
theorem cell_lt {w : World} {k i : Nat} {v : Value} (h : w.cell? ⟨k, i, none⟩ = some v) : k < w.heap.size := World.block_lt_of_cell? w ⟨k, i, none⟩ h
theorem Later.cell_of {w w' : World} (h : Later w w') {k i : Nat} {v : Value} (hc : w.cell? ⟨k, i, none⟩ = some v) : w'.cell? ⟨k, i, none⟩ = some v := (h.cell (cell_lt hc)).trans hc
theorem Later.grownBy {w w' : World} (h : Later w w') (row : Option Nat) : w.grownBy w' row := by
  obtain ⟨bs, n, rfl⟩ := h
  exact ⟨rfl, rfl, rfl, by rw [World.far_size]; omega, fun k hk _ => World.far_block w bs n k hk⟩
theorem Later.owns {w w' : World} (h : Later w w') {base : Nat} {e : TypeId} {size : Nat} {v : Value} {n : Nat} {xs : List Value} (ho : w.ownsRow base e size v n xs) : w'.ownsRow base e size v n xs :=
  ho.kept (h.grownBy none) (by cases hv : v.ownBlock <;> simp)
theorem Later.turn {w w' : World} (h : Later w w') {g : Nat} {cur cs : Array Value} {t : TypeId} (hg : w.heap.size ≤ g) (hb : w'.heap[g]? = some (.cells cur t (0, 0))) (w2 : World)
    (h2 : w2 = { w' with heap := w2.heap }) (hs : w2.heap.size = w'.heap.size) (hk : w2.heap[g]? = some (.cells cs t (0, 0))) (ho : ∀ k, k ≠ g → w2.heap[k]? = w'.heap[k]?) : Later w w2 := by
  obtain ⟨bs, n, rfl⟩ := h
  have hlt : g < (w.far bs n).heap.size := (Array.getElem?_eq_some_iff.1 hb).1
  rw [World.far_size] at hlt
  refine ⟨bs.set (g - w.heap.size) (cs, t) (by omega), n, ?_⟩
  rw [h2]
  unfold World.far
  congr 1
  apply Array.ext_getElem?
  intro k
  rcases Nat.lt_or_ge k w.heap.size with hkk | hkk
  · rw [ho k (by omega), World.far_block w bs n k hkk, Array.getElem?_append_left hkk]
  · rw [Array.getElem?_append_right hkk, Array.getElem?_map, Array.getElem?_set]
    by_cases he : k = g
    · subst he
      rw [hk, if_pos rfl]; rfl
    · rw [ho k he, if_neg (by omega)]
      show (w.heap ++ bs.map _)[k]? = _
      rw [Array.getElem?_append_right hkk, Array.getElem?_map]
theorem Later.setRow {w w' : World} (h : Later w w') {g : Nat} {cur : Array Value} {t : TypeId} (cs : Array Value) (hg : w.heap.size ≤ g) (hb : w'.heap[g]? = some (.cells cur t (0, 0))) : Later w (w'.setRow g cs) :=
  h.turn hg hb _ rfl (by simp [World.setRow]) (setRow_heap w' g cur cs t (0, 0) hb) (fun k hk => setRow_other w' g k cs hk)
theorem Later.setCell {w w' : World} (h : Later w w') {g i : Nat} {cur : Array Value} {t : TypeId} (v : Value) (hg : w.heap.size ≤ g) (hb : w'.heap[g]? = some (.cells cur t (0, 0))) : Later w (w'.setCell ⟨g, i, none⟩ v) := by
  refine h.turn (cs := cur.setIfInBounds i v) hg hb _ rfl (by simp [World.setCell]) ?_ (fun k hk => ?_)
  · simp only [World.setCell, Array.getElem?_modify, if_true, hb, Option.map_some]
    simp
  · simp only [World.setCell, Array.getElem?_modify]
    rw [if_neg (fun e => hk e.symm)]
def World.past (w : World) (bs : Array (Array Value × TypeId)) (n : Nat) : World := w.far bs n
theorem World.cell?_past (w : World) (bs : Array (Array Value × TypeId)) (n k i : Nat) (h : k < w.heap.size) : (w.past bs n).cell? ⟨k, i, none⟩ = w.cell? ⟨k, i, none⟩ := World.cell?_far w bs n k i h
theorem World.frozen?_past (w : World) (bs : Array (Array Value × TypeId)) (n k i : Nat) (h : k < w.heap.size) : (w.past bs n).frozen? ⟨k, i, none⟩ = w.frozen? ⟨k, i, none⟩ := World.frozen?_far w bs n k i h
theorem World.shape?_past (w : World) (bs : Array (Array Value × TypeId)) (n k : Nat) (h : k < w.heap.size) : (w.past bs n).shape? k = w.shape? k := World.shape?_far w bs n k h
theorem World.setCell_past (w : World) (bs : Array (Array Value × TypeId)) (n k i : Nat) (v : Value) (h : k < w.heap.size) : (w.past bs n).setCell ⟨k, i, none⟩ v = (w.setCell ⟨k, i, none⟩ v).past bs n := World.setCell_far w bs n k i v h
theorem World.lt_past (w : World) (bs : Array (Array Value × TypeId)) (n k : Nat) (h : k < w.heap.size) : k < (w.past bs n).heap.size := World.lt_far w bs n k h
attribute [go_sem] World.cell?_past World.frozen?_past World.shape?_past World.setCell_past World.lt_past
theorem World.lt_past_new (w : World) (o : Obj) (bs : Array (Array Value × TypeId)) (n : Nat) : w.heap.size < ((w.alloc o).past bs n).heap.size := World.lt_past _ bs n _ (by simp)
theorem World.lt_past_new1 (w : World) (o : Obj) (bs : Array (Array Value × TypeId)) (n : Nat) : w.heap.size < ((w.alloc o).past bs n).heap.size + 1 := Nat.lt_succ_of_lt (World.lt_past_new w o bs n)
theorem World.lt_past_old (w : World) (o : Obj) (bs : Array (Array Value × TypeId)) (n k : Nat) (h : k < w.heap.size) : k < ((w.alloc o).past bs n).heap.size := World.lt_past _ bs n _ (by simp; omega)
theorem World.lt_past_old1 (w : World) (o : Obj) (bs : Array (Array Value × TypeId)) (n k : Nat) (h : k < w.heap.size) : k < ((w.alloc o).past bs n).heap.size + 1 := Nat.lt_succ_of_lt (World.lt_past_old w o bs n k h)
attribute [go_sem] World.lt_past_new World.lt_past_new1 World.lt_past_old World.lt_past_old1
theorem past_of {w w' : World} (h : Hid (Later w w')) : ∃ bs n, w' = w.past bs n := h
theorem Lp {w w' : World} {bs : Array (Array Value × TypeId)} {n : Nat} (h : Later w w') : Later w (w'.past bs n) := h.far
theorem later_of {w w' : World} (h : Hid (Later w w')) : Later w w' := h
section
variable {P : Program}
theorem run_append_later {W w : World} (hL : Later W w) (t ty e : TypeId) (i : TypeInfo) (z : Value) (size bytes : Nat) (ht : P.underlying t = some (.slice e)) (hi : P.info? e = some i) (hz : i.zero = some z)
    (hsize : i.size = size) (hby : i.bytes = bytes) (hzs : z.cells.size = size) (hsz : 0 < size)
    (v : Value) (n : Nat) (xs : List Value) (hown : w.ownsRow W.heap.size e size v n xs)
    (a : Addr) (m c : Nat) (news : List Value) (hl : news.length = m * size) (hnews : ∀ j u, news[j]? = some u → w.cell? (a.add j) = some u) (h1 : ∀ u ∈ news, u.oneCell' = true)
    (h63 : n + m ≤ maxLen) (hbytes : (n + m) * bytes ≤ 140737488355328) (hm : 0 < m) :
    ∃ g cap w', (Builtin.append_ #[t, t] ty #[v, .slice (some a) m c]).run P w = .ok (.slice (some ⟨g, 0, none⟩) (n + m) cap) w' ∧ w'.ownsRow W.heap.size e size (.slice (some ⟨g, 0, none⟩) (n + m) cap) (n + m) (xs ++ news) ∧ Later W w' := by
  obtain ⟨v', w', hr, ho, hg, hn⟩ := run_append_own (P := P) w W.heap.size t ty e i z size bytes ht hi hz hsize hby hzs hsz v n xs hown a m c news hl hnews h1 h63 hbytes hL.size
  have hw : Later W w' := by
    subst hsize
    subst hby
    have hsm : n + m ≤ 9223372036854775807 := by simp only [maxLen] at h63; omega
    rcases hown.2 with ⟨rfl, rfl⟩ | ⟨b, cap, cur, rfl, hbg, hbb, hnc, hcm, hcs, htake⟩
    · rw [run_append_nil (P := P) w t ty e i z ht hi hz a m c news hl hnews hm (by omega) (by have := hbytes; rw [Nat.zero_add] at this; omega)] at hr
      injection hr with _ h2
      rw [← h2]; exact hL.drew.alloc
    · by_cases hroom : n + m ≤ cap
      · rw [run_append_room (P := P) w t ty e i ht hi b n cap cur hbb a m c news hl hnews h1 hroom (by rw [hl, hcs, ← Nat.add_mul]; exact Nat.mul_le_mul_right _ hroom)] at hr
        injection hr with _ h2
        rw [← h2]; exact hL.setRow _ hbg hbb
      · rw [run_append_grow (P := P) w t ty e i z ht hi hz ⟨b, 0, none⟩ n cap xs hown.1 (hown.cells (g := b) rfl) a m c news hl hnews (by omega) (by omega) (growslice_fits (by omega) hbytes)] at hr
        injection hr with _ h2
        rw [← h2]; exact hL.drew.alloc
  rcases ho.2 with ⟨rfl, h0⟩ | ⟨g, cap, cur, rfl, hrest⟩
  · omega
  · exact ⟨g, cap, w', hr, ho, hw⟩
theorem wpList_append_later {W w : World} {ops : Array Oper} {rest : List Oper} {o : Oper} {a : Act} {Q : Exit → Act → World → Prop} (hL : Later W w) (hgd : o.guard = none) (s x : Operand) (t : TypeId)
    (ho : o.op = .call { callee := .builtin .append, args := #[s, x], argTypes := #[t, t] })
    (e : TypeId) (i : TypeInfo) (z : Value) (size bytes : Nat) (ht : P.underlying t = some (.slice e)) (hi : P.info? e = some i) (hz : i.zero = some z)
    (hsize : i.size = size) (hby : i.bytes = bytes) (hzs : z.cells.size = size) (hsz : 0 < size)
    (v : Value) (n : Nat) (xs : List Value) (hs : a.eval s = v) (hown : w.ownsRow W.heap.size e size v n xs)
    (ad : Addr) (m c : Nat) (news : List Value) (hx : a.eval x = .slice (some ad) m c) (hl : news.length = m * size) (hnews : ∀ j u, news[j]? = some u → w.cell? (ad.add j) = some u) (h1 : ∀ u ∈ news, u.oneCell' = true)
    (h63 : n + m ≤ maxLen) (hbytes : (n + m) * bytes ≤ 140737488355328) (hm : 0 < m)
    (h : ∀ g cap w', w'.ownsRow W.heap.size e size (.slice (some ⟨g, 0, none⟩) (n + m) cap) (n + m) (xs ++ news) → Hid (Later W w') → wpList P ops Q rest (a.put o.dst (.slice (some ⟨g, 0, none⟩) (n + m) cap)) w') : wpList P ops Q (o :: rest) a w := by
  obtain ⟨g, cap, w', hr, h2, h3⟩ := run_append_later (P := P) hL t o.type e i z size bytes ht hi hz hsize hby hzs hsz v n xs hown ad m c news hl hnews h1 h63 hbytes hm
  refine wpList_plain hgd fun K hK => ?_
  unfold Oper.wp execOp
  simp only [ho, resolve, invoke, builtin, Sem.run_bind, Sem.run_pure, Result.andThen_ok, List.map_toArray, List.map_cons, List.map_nil, hs, hx, hr]
  exact hK _ _ (h g cap w' h2 h3)
theorem owns_cell {w : World} {base : Nat} {e : TypeId} {size : Nat} {g n cap : Nat} {xs : List Value} (h : w.ownsRow base e size (.slice (some ⟨g, 0, none⟩) n cap) n xs) {j : Nat} {u : Value} (hu : xs[j]? = some u) : w.cell? ⟨g, j, none⟩ = some u := by
  have := h.cells (g := g) rfl j u hu
  rw [show (⟨g, 0, none⟩ : Addr).add j = ⟨g, j, none⟩ from by unfold Addr.add; split <;> simp_all] at this
  exact this
theorem owns_base {w : World} {base : Nat} {e : TypeId} {size : Nat} {g n cap : Nat} {xs : List Value} (h : w.ownsRow base e size (.slice (some ⟨g, 0, none⟩) n cap) n xs) : base ≤ g ∧ g < w.heap.size := h.lt g rfl
end
end Go
namespace Go.AM
set_option linter.unusedVariables false
def kP (op : Int) : Int := if op ≤ 79 then 127 else if op ≤ 90 then 126 else if op ≤ 96 then 125 else if op ≤ 102 then 124 else if op ≤ 120 then 127 else if op ≤ 138 then 126 else if op ≤ 152 then 125 else if op ≤ 166 then 124 else ([126, 125, 125, 124, 124, 127, 127, 125, 125, 124, 124, 127, 127, 126, 126, 124, 127, 127, 126, 126, 125, 125, 124, 127, 126] : List Int).getD (op - 167).toNat 0
def kC (op : Int) : Int := if op = 69 ∨ op = 80 ∨ (103 ≤ op ∧ op ≤ 105) ∨ (121 ≤ op ∧ op ≤ 123) ∨ (139 ≤ op ∧ op ≤ 145) ∨ (153 ≤ op ∧ op ≤ 159) ∨ 167 ≤ op then 1 else 2
def kR (op : Int) : Int := if op ≤ 120 then 127 else if op ≤ 138 then 126 else if op ≤ 152 then 125 else if op ≤ 166 then 124 else ([127, 127, 127, 127, 127, 126, 126, 126, 126, 126, 126, 125, 125, 125, 125, 125, 124, 124, 124, 124, 124, 127, 126, 125, 124] : List Int).getD (op - 167).toNat 0
def Grp (op p c r : Int) : Prop := (69 ≤ op ∧ op ≤ 69 ∧ p = 127 ∧ c = 1 ∧ r = 127) ∨ (70 ≤ op ∧ op ≤ 79 ∧ p = 127 ∧ c = 2 ∧ r = 127) ∨ (80 ≤ op ∧ op ≤ 80 ∧ p = 126 ∧ c = 1 ∧ r = 127) ∨ (81 ≤ op ∧ op ≤ 90 ∧ p = 126 ∧ c = 2 ∧ r = 127) ∨ (91 ≤ op ∧ op ≤ 96 ∧ p = 125 ∧ c = 2 ∧ r = 127) ∨ (97 ≤ op ∧ op ≤ 102 ∧ p = 124 ∧ c = 2 ∧ r = 127) ∨ (103 ≤ op ∧ op ≤ 105 ∧ p = 127 ∧ c = 1 ∧ r = 127) ∨ (106 ≤ op ∧ op ≤ 120 ∧ p = 127 ∧ c = 2 ∧ r = 127) ∨ (121 ≤ op ∧ op ≤ 123 ∧ p = 126 ∧ c = 1 ∧ r = 126) ∨ (124 ≤ op ∧ op ≤ 138 ∧ p = 126 ∧ c = 2 ∧ r = 126) ∨ (139 ≤ op ∧ op ≤ 145 ∧ p = 125 ∧ c = 1 ∧ r = 125) ∨ (146 ≤ op ∧ op ≤ 152 ∧ p = 125 ∧ c = 2 ∧ r = 125) ∨ (153 ≤ op ∧ op ≤ 159 ∧ p = 124 ∧ c = 1 ∧ r = 124) ∨ (160 ≤ op ∧ op ≤ 166 ∧ p = 124 ∧ c = 2 ∧ r = 124) ∨ False
def Cnv (op p r : Int) : Prop := (op = 167 ∧ p = 126 ∧ r = 127) ∨ (op = 168 ∧ p = 125 ∧ r = 127) ∨ (op = 169 ∧ p = 125 ∧ r = 127) ∨ (op = 170 ∧ p = 124 ∧ r = 127) ∨ (op = 171 ∧ p = 124 ∧ r = 127) ∨ (op = 172 ∧ p = 127 ∧ r = 126) ∨ (op = 173 ∧ p = 127 ∧ r = 126) ∨ (op = 174 ∧ p = 125 ∧ r = 126) ∨ (op = 175 ∧ p = 125 ∧ r = 126) ∨ (op = 176 ∧ p = 124 ∧ r = 126) ∨ (op = 177 ∧ p = 124 ∧ r = 126) ∨ (op = 178 ∧ p = 127 ∧ r = 125) ∨ (op = 179 ∧ p = 127 ∧ r = 125) ∨ (op = 180 ∧ p = 126 ∧ r = 125) ∨ (op = 181 ∧ p = 126 ∧ r = 125) ∨ (op = 182 ∧ p = 124 ∧ r = 125) ∨ (op = 183 ∧ p = 127 ∧ r = 124) ∨ (op = 184 ∧ p = 127 ∧ r = 124) ∨ (op = 185 ∧ p = 126 ∧ r = 124) ∨ (op = 186 ∧ p = 126 ∧ r = 124) ∨ (op = 187 ∧ p = 125 ∧ r = 124) ∨ (op = 188 ∧ p = 125 ∧ r = 127) ∨ (op = 189 ∧ p = 124 ∧ r = 126) ∨ (op = 190 ∧ p = 127 ∧ r = 125) ∨ (op = 191 ∧ p = 126 ∧ r = 124) ∨ False
theorem grp_k (op : Int) (h0 : 69 ≤ op) (h1 : op ≤ 166) : Grp op (kP op) (kC op) (kR op) := by
  have hc : (69 ≤ op ∧ op ≤ 69) ∨ (70 ≤ op ∧ op ≤ 79) ∨ (80 ≤ op ∧ op ≤ 80) ∨ (81 ≤ op ∧ op ≤ 90) ∨ (91 ≤ op ∧ op ≤ 96) ∨ (97 ≤ op ∧ op ≤ 102) ∨ (103 ≤ op ∧ op ≤ 105) ∨ (106 ≤ op ∧ op ≤ 120) ∨ (121 ≤ op ∧ op ≤ 123) ∨ (124 ≤ op ∧ op ≤ 138) ∨ (139 ≤ op ∧ op ≤ 145) ∨ (146 ≤ op ∧ op ≤ 152) ∨ (153 ≤ op ∧ op ≤ 159) ∨ (160 ≤ op ∧ op ≤ 166) := by omega
  rcases hc with ⟨a, b⟩ | ⟨a, b⟩ | ⟨a, b⟩ | ⟨a, b⟩ | ⟨a, b⟩ | ⟨a, b⟩ | ⟨a, b⟩ | ⟨a, b⟩ | ⟨a, b⟩ | ⟨a, b⟩ | ⟨a, b⟩ | ⟨a, b⟩ | ⟨a, b⟩ | ⟨a, b⟩
  all_goals (repeat first | exact Or.inl ⟨by omega, by omega, by (unfold kP; repeat (first | rw [if_pos (by omega)] | rw [if_neg (by omega)])), by (unfold kC; first | rw [if_pos (by omega)] | rw [if_neg (by omega)]), by (unfold kR; repeat (first | rw [if_pos (by omega)] | rw [if_neg (by omega)]))⟩ | apply Or.inr)
theorem cnv_k (op : Int) (h0 : 167 ≤ op) (h1 : op ≤ 191) : Cnv op (kP op) (kR op) := by
  have hc : op = 167 ∨ op = 168 ∨ op = 169 ∨ op = 170 ∨ op = 171 ∨ op = 172 ∨ op = 173 ∨ op = 174 ∨ op = 175 ∨ op = 176 ∨ op = 177 ∨ op = 178 ∨ op = 179 ∨ op = 180 ∨ op = 181 ∨ op = 182 ∨ op = 183 ∨ op = 184 ∨ op = 185 ∨ op = 186 ∨ op = 187 ∨ op = 188 ∨ op = 189 ∨ op = 190 ∨ op = 191 := by omega
  rcases hc with rfl | rfl | rfl | rfl | rfl | rfl | rfl | rfl | rfl | rfl | rfl | rfl | rfl | rfl | rfl | rfl | rfl | rfl | rfl | rfl | rfl | rfl | rfl | rfl | rfl
  all_goals (repeat first | exact Or.inl ⟨rfl, by decide +kernel, by decide +kernel⟩ | apply Or.inr)
theorem kC_or (op : Int) : kC op = 1 ∨ kC op = 2 := by unfold kC; split <;> omega
theorem kC_conv (op : Int) (h : 167 ≤ op) : kC op = 1 := by unfold kC; rw [if_pos (by omega)]
theorem kP_or (op : Int) (h0 : 69 ≤ op) (h1 : op ≤ 191) : kP op = 127 ∨ kP op = 126 ∨ kP op = 125 ∨ kP op = 124 := by
  by_cases h : op ≤ 166
  · have g := grp_k op h0 h
    revert g
    generalize kP op = p
    generalize kC op = c
    generalize kR op = r
    intro g
    rcases g with ⟨a, b, rfl, rfl, rfl⟩ | ⟨a, b, rfl, rfl, rfl⟩ | ⟨a, b, rfl, rfl, rfl⟩ | ⟨a, b, rfl, rfl, rfl⟩ | ⟨a, b, rfl, rfl, rfl⟩ | ⟨a, b, rfl, rfl, rfl⟩ | ⟨a, b, rfl, rfl, rfl⟩ | ⟨a, b, rfl, rfl, rfl⟩ | ⟨a, b, rfl, rfl, rfl⟩ | ⟨a, b, rfl, rfl, rfl⟩ | ⟨a, b, rfl, rfl, rfl⟩ | ⟨a, b, rfl, rfl, rfl⟩ | ⟨a, b, rfl, rfl, rfl⟩ | ⟨a, b, rfl, rfl, rfl⟩ | F
    all_goals first | exact F.elim | omega
  · have g := cnv_k op (by omega) h1
    revert g
    generalize kP op = p
    generalize kR op = r
    intro g
    rcases g with ⟨rfl, rfl, rfl⟩ | ⟨rfl, rfl, rfl⟩ | ⟨rfl, rfl, rfl⟩ | ⟨rfl, rfl, rfl⟩ | ⟨rfl, rfl, rfl⟩ | ⟨rfl, rfl, rfl⟩ | ⟨rfl, rfl, rfl⟩ | ⟨rfl, rfl, rfl⟩ | ⟨rfl, rfl, rfl⟩ | ⟨rfl, rfl, rfl⟩ | ⟨rfl, rfl, rfl⟩ | ⟨rfl, rfl, rfl⟩ | ⟨rfl, rfl, rfl⟩ | ⟨rfl, rfl, rfl⟩ | ⟨rfl, rfl, rfl⟩ | ⟨rfl, rfl, rfl⟩ | ⟨rfl, rfl, rfl⟩ | ⟨rfl, rfl, rfl⟩ | ⟨rfl, rfl, rfl⟩ | ⟨rfl, rfl, rfl⟩ | ⟨rfl, rfl, rfl⟩ | ⟨rfl, rfl, rfl⟩ | ⟨rfl, rfl, rfl⟩ | ⟨rfl, rfl, rfl⟩ | ⟨rfl, rfl, rfl⟩ | F
    all_goals first | exact F.elim | omega
theorem kR_or (op : Int) (h0 : 69 ≤ op) (h1 : op ≤ 191) : kR op = 127 ∨ kR op = 126 ∨ kR op = 125 ∨ kR op = 124 := by
  by_cases h : op ≤ 166
  · have g := grp_k op h0 h
    revert g
    generalize kP op = p
    generalize kC op = c
    generalize kR op = r
    intro g
    rcases g with ⟨a, b, rfl, rfl, rfl⟩ | ⟨a, b, rfl, rfl, rfl⟩ | ⟨a, b, rfl, rfl, rfl⟩ | ⟨a, b, rfl, rfl, rfl⟩ | ⟨a, b, rfl, rfl, rfl⟩ | ⟨a, b, rfl, rfl, rfl⟩ | ⟨a, b, rfl, rfl, rfl⟩ | ⟨a, b, rfl, rfl, rfl⟩ | ⟨a, b, rfl, rfl, rfl⟩ | ⟨a, b, rfl, rfl, rfl⟩ | ⟨a, b, rfl, rfl, rfl⟩ | ⟨a, b, rfl, rfl, rfl⟩ | ⟨a, b, rfl, rfl, rfl⟩ | ⟨a, b, rfl, rfl, rfl⟩ | F
    all_goals first | exact F.elim | omega
  · have g := cnv_k op (by omega) h1
    revert g
    generalize kP op = p
    generalize kR op = r
    intro g
    rcases g with ⟨rfl, rfl, rfl⟩ | ⟨rfl, rfl, rfl⟩ | ⟨rfl, rfl, rfl⟩ | ⟨rfl, rfl, rfl⟩ | ⟨rfl, rfl, rfl⟩ | ⟨rfl, rfl, rfl⟩ | ⟨rfl, rfl, rfl⟩ | ⟨rfl, rfl, rfl⟩ | ⟨rfl, rfl, rfl⟩ | ⟨rfl, rfl, rfl⟩ | ⟨rfl, rfl, rfl⟩ | ⟨rfl, rfl, rfl⟩ | ⟨rfl, rfl, rfl⟩ | ⟨rfl, rfl, rfl⟩ | ⟨rfl, rfl, rfl⟩ | ⟨rfl, rfl, rfl⟩ | ⟨rfl, rfl, rfl⟩ | ⟨rfl, rfl, rfl⟩ | ⟨rfl, rfl, rfl⟩ | ⟨rfl, rfl, rfl⟩ | ⟨rfl, rfl, rfl⟩ | ⟨rfl, rfl, rfl⟩ | ⟨rfl, rfl, rfl⟩ | ⟨rfl, rfl, rfl⟩ | ⟨rfl, rfl, rfl⟩ | F
    all_goals first | exact F.elim | omega
end Go.AM
