/- XI: IG, IH, joined. -/
import Derived.Test.YtkdfmgdadnlnlaaXE
import Derived.Test.YtkdfmgdadnlnlaaXF
import Derived.Test.YtkdfmgdadnlnlaaXG
import Derived.Test.YtkdfmgdadnlnlaaXH
/- Over this seat's translation: the first error of a list of instructions, by the document: checks. -/
set_option linter.unusedVariables false
set_option linter.unusedSimpArgs false
set_option maxRecDepth 100000
set_option maxHeartbeats 40000000
namespace Go.Proofs.Ytkdfmgdadnlnlaa
open Go.RowKit
/-- whether an instruction may be is decided -/
def mayD (op a b bi ty : Int) (ls : List Int) (nb ne : Nat) : Decidable (mayP op a b bi ty ls nb ne) := by
  unfold mayP Wd
  exact inferInstance
/-- the first error of a list so deep, how many were met -/
def ck : Fs → Int → Int → Int × Int
  | ⟨none⟩, _, c => (0, c)
  | ⟨some (op, a, b, bi, ty, ls, bo, el, r)⟩, deep, c =>
    if c + 1 > 8192 then (1400, c + 1)
    else if (fo op = 1 ∨ fo op = 2) ∧ deep ≥ 32 then (1402, c + 1)
    else @ite _ (¬ mayP op a b bi ty ls bo.len el.len) (@instDecidableNot _ (mayD op a b bi ty ls bo.len el.len)) (1400, c + 1)
    (if (ck bo (deep + 1) (c + 1)).1 = 0 then
      if (ck el (deep + 1) (ck bo (deep + 1) (c + 1)).2).1 = 0 then ck r deep (ck el (deep + 1) (ck bo (deep + 1) (c + 1)).2).2
      else ck el (deep + 1) (ck bo (deep + 1) (c + 1)).2
    else ck bo (deep + 1) (c + 1))
theorem ck_rng : ∀ (f : Fs) (deep c : Int), 0 ≤ c → c ≤ 8192 → c ≤ (ck f deep c).2 ∧ (ck f deep c).2 ≤ 8193 ∧ ((ck f deep c).1 = 0 → (ck f deep c).2 ≤ 8192) ∧ ((ck f deep c).1 = 0 ∨ (ck f deep c).1 = 1400 ∨ (ck f deep c).1 = 1402)
  | ⟨none⟩, deep, c, h0, h1 => ⟨Int.le_refl _, by show c ≤ 8193; omega, fun _ => h1, Or.inl rfl⟩
  | ⟨some (op, a, b, bi, ty, ls, bo, el, r)⟩, deep, c, h0, h1 => by
    unfold ck
    split
    · exact ⟨by show c ≤ c + 1; omega, by show c + 1 ≤ 8193; omega, fun h => absurd h (by simp), Or.inr (Or.inl rfl)⟩
    · split
      · exact ⟨by show c ≤ c + 1; omega, by show c + 1 ≤ 8193; omega, fun h => absurd h (by simp), Or.inr (Or.inr rfl)⟩
      · split
        · exact ⟨by show c ≤ c + 1; omega, by show c + 1 ≤ 8193; omega, fun h => absurd h (by simp), Or.inr (Or.inl rfl)⟩
        · have hb := ck_rng bo (deep + 1) (c + 1) (by omega) (by omega)
          split
          · rename_i h4
            have he := ck_rng el (deep + 1) (ck bo (deep + 1) (c + 1)).2 (by omega) (hb.2.2.1 h4)
            split
            · rename_i h5
              have hr := ck_rng r deep (ck el (deep + 1) (ck bo (deep + 1) (c + 1)).2).2 (by omega) (he.2.2.1 h5)
              omega
            · omega
          · omega
/-- a count in a cell of its own, and else nothing turned -/
def Ct (q : Nat) (w wr : World) (c : Int) : Prop := Turned q w wr ∧ wr.rowIs q 3 1 (fun _ => .int .i64 c) ∧ (∃ c0 : Int, w.rowIs q 3 1 (fun _ => .int .i64 c0))
variable {q : Nat} {w wr wr' : World} {c c' : Int}
theorem Ct.start (h : w.rowIs q 3 1 (fun _ => .int .i64 c)) : Ct q w w c := ⟨Turned.refl h, h, c, h⟩
theorem Ct.later (h : Ct q w wr c) (hl : Later wr wr') : Ct q w wr' c := ⟨h.1.later hl, rowIs_later hl h.2.1, h.2.2⟩
theorem Ct.set (h : Ct q w wr c) (x : Int) : Ct q w (wr.setCell ⟨q, 0, none⟩ (.int .i64 x)) x := by
  obtain ⟨h1, h2, c0, h3⟩ := h
  refine ⟨h1.set h3 0 _, ?_, c0, h3⟩
  have := h2.set 0 (.int .i64 x)
  obtain ⟨cs, e1, e2, e3⟩ := this
  exact ⟨cs, e1, e2, fun i hi => by rw [e3 i hi]; simp; omega⟩
theorem Ct.trans (h : Ct q w wr c) (h2 : Ct q wr wr' c') : Ct q w wr' c' := by
  obtain ⟨h1, _, c0, h3⟩ := h
  exact ⟨h1.trans h3 h2.1, h2.2.1, c0, h3⟩
theorem Ct.cell (h : Ct q w wr c) : wr.cell? ⟨q, 0, none⟩ = some (.int .i64 c) := h.2.1.cell (by decide)
theorem Ct.frozen (h : Ct q w wr c) : wr.frozen? ⟨q, 0, none⟩ = false := h.2.1.frozen 0
theorem Ct.size (h : Ct q w wr c) : w.heap.size ≤ wr.heap.size := h.1.size
theorem Ct.block (h : Ct q w wr c) {k : Nat} (hk : k ≠ q) (hl : k < w.heap.size) : wr.heap[k]? = w.heap[k]? := h.1.block hk hl
theorem Ct.cell_of (h : Ct q w wr c) {k i : Nat} {v : Value} (hk : k ≠ q) (hc : w.cell? ⟨k, i, none⟩ = some v) : wr.cell? ⟨k, i, none⟩ = some v := (World.cell?_of_block (a := ⟨k, i, none⟩) (h.block hk (cell_lt hc))).trans hc
theorem Ct.tr {Z : Nat → Prop} {A : Option Addr} {f : Fs} (h : Ct q w wr c) (hz : ∀ k, Z k → k ≠ q) (hT : Tr Z w A f) : Tr Z wr A f := hT.keep fun k hk hl => h.block (hz k hk) hl
theorem Ct.at {Z : Nat → Prop} {g o : Nat} {f : Fs} (h : Ct q w wr c) (hz : ∀ k, Z k → k ≠ q) (hg : Z g) (hT : At Z w g o f) : At Z wr g o f := hT.keep hg fun k hk hl => h.block (hz k hk) hl
theorem Ct.lq {Z : Nat → Prop} {A : Option Addr} {ls : List Int} (h : Ct q w wr c) (hz : ∀ k, Z k → k ≠ q) (hT : Lq Z w A ls) : Lq Z wr A ls := hT.keep fun k hk hl => h.block (hz k hk) hl
end Go.Proofs.Ytkdfmgdadnlnlaa


/- Over this seat's translation: the first error of a list of instructions, by the document: checks, whole. -/
set_option linter.unusedVariables false
set_option linter.unusedSimpArgs false
set_option maxRecDepth 100000
set_option maxHeartbeats 40000000
namespace Go.Proofs.Ytkdfmgdadnlnlaa
open Go.RowKit
open Classical in
theorem may_any (op a b bi ty : Int) (ls : List Int) (A B E : Option Addr) (lc nb bc ne ec : Nat) (hl : ls.length * 8 ≤ 140737488351232) (Z : Nat → Prop) (w : World) (hL : Lq Z w A ls) :
    Calls Try.prog 39 #[.agg #[.int .i64 op, .int .i64 a, .int .i64 b, .int .i64 bi, .int .i64 ty, .slice A ls.length lc, .slice B nb bc, .slice E ne ec]] w fun e w' => e = .returned (.bool (decide (mayP op a b bi ty ls nb ne))) ∧ Later w w'  := by
  have hk := fo_rng op
  have hk2 : fo op = 0 ∨ fo op = 1 ∨ fo op = 2 ∨ fo op = 3 ∨ fo op = 4 ∨ fo op = 5 ∨ fo op = 6 ∨ fo op = 7 ∨ fo op = 8 ∨ fo op = 9 := by omega
  rcases hk2 with h | h | h | h | h | h | h | h | h | h
  · refine may_0 op a b bi ty A B E ls.length lc nb bc ne ec h _ ?_ w
    show _ ↔ _
    rw [decide_eq_true_iff]
    simp [mayP, h]
  · refine may_1 op a b bi ty A B E ls.length lc nb bc ne ec h _ ?_ w
    show _ ↔ _
    rw [decide_eq_true_iff]
    simp [mayP, h]
  · refine may_2 op a b bi ty A B E ls.length lc nb bc ne ec h _ ?_ w
    show _ ↔ _
    rw [decide_eq_true_iff]
    simp [mayP, h]
  · refine may_3 op a b bi ty A B E ls.length lc nb bc ne ec h _ ?_ w
    show _ ↔ _
    rw [decide_eq_true_iff]
    simp [mayP, h]
  · refine may_4 op a b bi ty A B E lc nb bc ne ec ls hl h _ ?_ Z w hL
    show _ ↔ _
    rw [decide_eq_true_iff]
    simp [mayP, h]
  · refine may_5 op a b bi ty A B E ls.length lc nb bc ne ec h _ ?_ w
    show _ ↔ _
    rw [decide_eq_true_iff]
    simp [mayP, h]
  · refine may_6 op a b bi ty A B E ls.length lc nb bc ne ec h _ ?_ w
    show _ ↔ _
    rw [decide_eq_true_iff]
    simp [mayP, h]
  · refine may_7 op a b bi ty A B E ls.length lc nb bc ne ec h _ ?_ w
    show _ ↔ _
    rw [decide_eq_true_iff]
    simp [mayP, h]
  · refine may_8 op a b bi ty A B E ls.length lc nb bc ne ec h _ ?_ w
    show _ ↔ _
    rw [decide_eq_true_iff]
    simp [mayP, h]
  · refine may_9 op a b bi ty A B E ls.length lc nb bc ne ec h _ ?_ w
    show _ ↔ _
    rw [decide_eq_true_iff]
    simp [mayP, h]
theorem mayP_nil {op a b bi ty : Int} {ls : List Int} {nb ne : Nat} (h : mayP op a b bi ty ls nb ne) (h1 : ¬ fo op = 1) (h2 : ¬ fo op = 2) : nb = 0 ∧ ne = 0 := by
  unfold mayP at h
  repeat' split at h
  all_goals first | exact h.elim | omega
theorem len_nil {f : Fs} (h : f.len = 0) : f = .nil := by
  cases f using Fs.split with
  | nil => rfl
  | cons => simp [Fs.len] at h
/-- what checks says of a list -/
def CheckC (f : Fs) : Prop := ∀ (Z : Nat → Prop) (w : World) (A : Option Addr) (cp q : Nat) (deep c : Int), Tr Z w A f → (∀ k, Z k → k ≠ q) → w.rowIs q 3 1 (fun _ => .int .i64 c) → 0 ≤ deep → (deep ≤ 32 ∨ f = .nil) → deep ≤ 33 → 0 ≤ c → c ≤ 8192 →
  Calls Try.prog 24 #[.slice A f.len cp, .int .i64 deep, .pointer (some ⟨q, 0, none⟩)] w fun e w' => e = .returned (.int .i64 (ck f deep c).1) ∧ Hid (Ct q w w' (ck f deep c).2)
open Classical in
theorem checks_round (k : Nat) (f : Fs) (IH : ∀ f' : Fs, f'.sz ≤ k → f'.Ok → f'.len * 112 ≤ 140737488351232 → CheckC f') (hk : f.sz ≤ k + 1) (ho : f.Ok) (hn : f.len * 112 ≤ 140737488351232) : CheckC f := by
  intro Z w A cp q deep c hT hZ hq hd0 hd1 hd2 hc0 hc1
  replace hT : Hid (Tr Z w A f) := hT
  replace IH : Hid (∀ f' : Fs, f'.sz ≤ k → f'.Ok → f'.len * 112 ≤ 140737488351232 → CheckC f') := IH
  replace ho : Hid f.Ok := ho
  obtain ⟨n, hn2⟩ : ∃ n, n = f.len := ⟨_, rfl⟩
  rw [← hn2] at hn ⊢
  replace hn2 : Hid (n = f.len) := hn2
  replace hk : Hid (f.sz ≤ k + 1) := hk
  replace hq : Hid (w.rowIs q 3 1 (fun _ => .int .i64 c)) := hq
  replace hZ : Hid (∀ k, Z k → k ≠ q) := hZ
  replace hd1 : Hid (deep ≤ 32 ∨ f = .nil) := hd1
  go_enter Try.func24, Try.ntmps24
  go_wp2_with fail
  go_loopw [7] (fun i wr => ∃ (d r : Fs) (c' : Int), i = .int .i64 (d.len : Nat) ∧ d.app r = f ∧ r.Ok ∧ r.sz ≤ k + 1 ∧ 0 ≤ c' ∧ c' ≤ 8192 ∧ ck f deep c = ck r deep c' ∧ Ct q w wr c') (fun i _ => n - (intOf i).toNat)
  case atStart => exact ⟨.nil, f, c, rfl, rfl, ho.out, hk.out, hc0, hc1, rfl, Ct.start hq.out⟩
  case round =>
    obtain ⟨d, r, c1, rfl, hf, hok, hsz, b0, b1, hck, hC⟩ := hrel
    cases r using Fs.split with
    | nil =>
      have hd : d = f := by rw [← hf, Fs.app_nil]
      have hl : ¬ (d.len : Int) < (n : Int) := by rw [hn2.out, hd]; omega
      replace hC : Hid (Ct q w wr c1) := hC
      have hck2 : Hid (ck f deep c = (0, c1)) := by show _ = _; rw [hck]; rfl
      clear hok hsz hck
      replace hf : Hid _ := hf
      replace hd : Hid _ := hd
      go_wp2_with fail
      go_ret
      rw [hck2.out]
      exact ⟨rfl, hC⟩
    | cons op a b bi ty ls bo el r =>
      have hlen : d.len + r.len + 1 = n := by rw [hn2.out, ← hf, Fs.len_app]; simp only [Fs.len]; omega
      have hl : (d.len : Int) < (n : Int) := by omega
      have hne : f ≠ .nil := by rw [← hf]; cases d using Fs.split <;> simp [Fs.app]
      have hd32 : deep ≤ 32 := hd1.out.resolve_right hne
      obtain ⟨g, o, rfl, hZg, hA⟩ := (show Tr Z w A f from hT).at hne
      have hgq : g ≠ q := hZ.out g hZg
      rw [← hf] at hA
      obtain ⟨LA, lc, B, bc, E, ec, e0, e1, e2, e3, e4, e5, e6, e7, hLs, hB, hE, _⟩ := (hC.at hZ.out hZg hA.drop).head
      have hlt := cell_lt e0
      obtain ⟨⟨_, _, _, _, _, _⟩, o1, o2, o3, o4, o5, o6⟩ := hok
      simp only [Fs.sz] at hsz
      have hd33 : 0 ≤ deep + 1 ∧ deep + 1 ≤ 33 := by omega
      have hform : Hid (∀ w : World, Calls Try.prog 38 #[.int .i64 op] w fun e w' => e = .returned (.int .i64 (fo op)) ∧ w' = w) := form_any op
      have qc := hC.cell
      have qf := hC.frozen
      have ql := cell_lt qc
      have hpq : wr.heap.size ≠ q := by omega
      obtain ⟨V, hV⟩ : ∃ V : World, V = (wr.setCell ⟨q, 0, none⟩ (.int .i64 (c1 + 1))).alloc (.cells #[.int .i64 op, .int .i64 a, .int .i64 b, .int .i64 bi, .int .i64 ty, .slice LA ls.length lc, .slice B bo.len bc, .slice E el.len ec] 47) := ⟨_, rfl⟩
      have D : Ct q wr V (c1 + 1) := by rw [hV]; exact ((Ct.start hC.2.1).set (c1 + 1)).later (La (Lz _))
      have hCV : Ct q w V (c1 + 1) := hC.trans D
      have hsV : (wr.setCell ⟨q, 0, none⟩ (.int .i64 (c1 + 1))).heap.size = wr.heap.size := by simp [World.setCell]
      have v6 : V.cell? ⟨wr.heap.size, 6, none⟩ = some (.slice B bo.len bc) := by rw [hV, ← hsV]; simp [go_sem]
      have v7 : V.cell? ⟨wr.heap.size, 7, none⟩ = some (.slice E el.len ec) := by rw [hV, ← hsV]; simp [go_sem]
      have hmay : Hid (Calls Try.prog 39 #[.agg #[.int .i64 op, .int .i64 a, .int .i64 b, .int .i64 bi, .int .i64 ty, .slice LA ls.length lc, .slice B bo.len bc, .slice E el.len ec]] V fun e w' => e = .returned (.bool (decide (mayP op a b bi ty ls bo.len el.len))) ∧ Hid (Later V w')) := may_any op a b bi ty ls LA B E lc bo.len bc el.len ec o1 Z V (D.lq hZ.out hLs)
      have hbo : mayP op a b bi ty ls bo.len el.len → ¬ ((fo op = 1 ∨ fo op = 2) ∧ deep ≥ 32) → c1 + 1 ≤ 8192 → ∀ w3, Later V w3 → Calls Try.prog 24 #[.slice B bo.len bc, .int .i64 (deep + 1), .pointer (some ⟨q, 0, none⟩)] w3 fun e w' => e = .returned (.int .i64 (ck bo (deep + 1) (c1 + 1)).1) ∧ Hid (Ct q w3 w' (ck bo (deep + 1) (c1 + 1)).2) := fun hm hnb hc w3 L3 => by
        refine IH.out bo (by omega) o4 o2 Z w3 B bc q (deep + 1) (c1 + 1) ((D.later L3).tr hZ.out hB) hZ.out (D.later L3).2.1 hd33.1 ?_ hd33.2 (by omega) hc
        by_cases h1 : fo op = 1 ∨ fo op = 2
        · left
          have : ¬ deep ≥ 32 := fun x => hnb ⟨h1, x⟩
          omega
        · right
          exact len_nil (mayP_nil hm (fun x => h1 (Or.inl x)) (fun x => h1 (Or.inr x))).1
      have hel : mayP op a b bi ty ls bo.len el.len → ¬ ((fo op = 1 ∨ fo op = 2) ∧ deep ≥ 32) → ∀ (C : Int), 0 ≤ C → C ≤ 8192 → ∀ w3 w4, Later V w3 → Ct q w3 w4 C → Calls Try.prog 24 #[.slice E el.len ec, .int .i64 (deep + 1), .pointer (some ⟨q, 0, none⟩)] w4 fun e w' => e = .returned (.int .i64 (ck el (deep + 1) C).1) ∧ Hid (Ct q w4 w' (ck el (deep + 1) C).2) := fun hm hnb C hC0 hC1 w3 w4 L3 C4 => by
        refine IH.out el (by omega) o5 o3 Z w4 E ec q (deep + 1) C ((((D.later L3)).trans C4).tr hZ.out hE) hZ.out C4.2.1 hd33.1 ?_ hd33.2 hC0 hC1
        by_cases h1 : fo op = 1 ∨ fo op = 2
        · left
          have : ¬ deep ≥ 32 := fun x => hnb ⟨h1, x⟩
          omega
        · right
          exact len_nil (mayP_nil hm (fun x => h1 (Or.inl x)) (fun x => h1 (Or.inr x))).2
      have hfin : Hid ((d.app (.cons op a b bi ty ls bo el .nil)).app r = f ∧ r.Ok ∧ r.sz ≤ k + 1 ∧ (d.app (.cons op a b bi ty ls bo el .nil)).len = d.len + 1) := ⟨by rw [Fs.app_app, ← hf]; rfl, o6, by omega, by rw [Fs.len_app]; rfl⟩
      have rng1 := ck_rng bo (deep + 1) (c1 + 1)
      have rng2 := ck_rng el (deep + 1)
      conv at hck => rhs; unfold ck
      clear IH hT hA hLs hB hE D hC hf hsz o1 o2 o3 o4 o5 o6 hZ hne hd1 hZg hq ho
      replace hCV : Hid (Ct q w V (c1 + 1)) := hCV
      replace hV : Hid (V = (wr.setCell ⟨q, 0, none⟩ (.int .i64 (c1 + 1))).alloc (.cells #[.int .i64 op, .int .i64 a, .int .i64 b, .int .i64 bi, .int .i64 ty, .slice LA ls.length lc, .slice B bo.len bc, .slice E el.len ec] 47)) := hV
      generalize ck bo (deep + 1) (c1 + 1) = K1 at *
      obtain ⟨E1, C1⟩ := K1
      generalize fo op = F at *
      by_cases hA : c1 + 1 > 8192
      · rw [if_pos hA] at hck
        replace hck : Hid (ck f deep c = (1400, c1 + 1)) := hck
        clear hmay hbo hel rng1 rng2 v6 v7
        replace hA : 8192 < c1 + 1 := hA
        go_wp2_with (first | (go_at_call 38; refine (hform.out _).mono ?_; rintro e w' ⟨rfl, rfl⟩))
        go_ret
        rw [hck.out]
        exact ⟨rfl, by rw [← hV.out]; exact hCV⟩
      rw [if_neg hA] at hck
      replace hA : ¬ 8192 < c1 + 1 := hA
      by_cases hB1 : (F = 1 ∨ F = 2) ∧ deep ≥ 32
      · rw [if_pos hB1] at hck
        replace hck : Hid (ck f deep c = (1402, c1 + 1)) := hck
        clear hmay hbo hel rng1 rng2 v6 v7
        obtain ⟨h1, h2⟩ := hB1
        replace h2 : 32 ≤ deep := h2
        rcases h1 with rfl | rfl
        all_goals
          go_wp2_with (first | (go_at_call 38; refine (hform.out _).mono ?_; rintro e w' ⟨rfl, rfl⟩))
          go_ret
          rw [hck.out]
          exact ⟨rfl, by rw [← hV.out]; exact hCV⟩
      rw [if_neg hB1] at hck
      have hgo : ((F == 1) = false ∧ (F == 2) = false) ∨ (F = 1 ∧ ¬ 32 ≤ deep) ∨ (F = 2 ∧ ¬ 32 ≤ deep) := by
        by_cases h1 : F = 1
        · exact Or.inr (Or.inl ⟨h1, fun x => hB1 ⟨Or.inl h1, x⟩⟩)
        · by_cases h2 : F = 2
          · exact Or.inr (Or.inr ⟨h2, fun x => hB1 ⟨Or.inr h2, x⟩⟩)
          · exact Or.inl ⟨beq_false h1, beq_false h2⟩
      by_cases hM : mayP op a b bi ty ls bo.len el.len
      case neg =>
        rw [if_pos hM] at hck
        rw [decide_eq_false hM] at hmay
        replace hck : Hid (ck f deep c = (1400, c1 + 1)) := hck
        clear hbo hel rng1 rng2 hB1
        replace hM : Hid True := trivial
        have hVe := hV.out
        subst hVe
        rcases hgo with ⟨g1, g2⟩ | ⟨rfl, g1⟩ | ⟨rfl, g1⟩
        all_goals
          go_wp2_with (first | (go_at_call 38; refine (hform.out _).mono ?_; rintro e w' ⟨rfl, rfl⟩) | (go_at_call 39; refine hmay.out.mono ?_; rintro e w3 ⟨rfl, L3⟩))
          go_ret
          rw [hck.out]
          exact ⟨rfl, hCV.out.later L3.out⟩
      rw [if_neg (fun x => x hM)] at hck
      rw [decide_eq_true hM] at hmay
      have hbo2 : Hid (∀ w3, Later V w3 → Calls Try.prog 24 #[.slice B bo.len bc, .int .i64 (deep + 1), .pointer (some ⟨q, 0, none⟩)] w3 fun e w' => e = .returned (.int .i64 E1) ∧ Hid (Ct q w3 w' C1)) := hbo hM hB1 (by omega)
      replace rng1 := rng1 (by omega) (by omega)
      replace hck : ck f deep c = if E1 = 0 then if (ck el (deep + 1) C1).1 = 0 then ck r deep (ck el (deep + 1) C1).2 else ck el (deep + 1) C1 else (E1, C1) := hck
      by_cases hE1 : E1 = 0
      case neg =>
        rw [if_neg hE1] at hck
        replace hck : Hid (ck f deep c = (E1, C1)) := hck
        have hE2 : (E1 == 0) = false := beq_false hE1
        have hE3 : (E1 != 0) = true := by simpa using hE1
        clear hbo hel rng1 rng2 hB1 hE1
        replace hM : Hid True := trivial
        have hVe := hV.out
        subst hVe
        rcases hgo with ⟨g1, g2⟩ | ⟨rfl, g1⟩ | ⟨rfl, g1⟩
        all_goals
          go_wp2_with (first | (go_at_call 38; refine (hform.out _).mono ?_; rintro e w' ⟨rfl, rfl⟩) | (go_at_call 39; refine hmay.out.mono ?_; rintro e w3 ⟨rfl, L3⟩; replace v6 := (later_of L3).cell_of v6) | (go_at_call 24; refine (hbo2.out _ L3.out).mono ?_; rintro e w4 ⟨rfl, C4⟩))
          go_ret
          rw [hck.out]
          exact ⟨rfl, (hCV.out.later L3.out).trans C4.out⟩
      subst hE1
      rw [if_pos rfl] at hck
      have hel2 : Hid (∀ w3 w4, Later V w3 → Ct q w3 w4 C1 → Calls Try.prog 24 #[.slice E el.len ec, .int .i64 (deep + 1), .pointer (some ⟨q, 0, none⟩)] w4 fun e w' => e = .returned (.int .i64 (ck el (deep + 1) C1).1) ∧ Hid (Ct q w4 w' (ck el (deep + 1) C1).2)) := hel hM hB1 C1 (by have := rng1.1; simp only [] at this; omega) (rng1.2.2.1 rfl)
      replace rng2 := rng2 C1 (by have := rng1.1; simp only [] at this; omega) (rng1.2.2.1 rfl)
      generalize ck el (deep + 1) C1 = K2 at *
      obtain ⟨E2, C2⟩ := K2
      replace hck : ck f deep c = if E2 = 0 then ck r deep C2 else (E2, C2) := hck
      have hpq2 : Hid (wr.heap.size ≠ q) := hpq
      by_cases hE2 : E2 = 0
      case neg =>
        rw [if_neg hE2] at hck
        replace hck : Hid (ck f deep c = (E2, C2)) := hck
        have hE3 : (E2 != 0) = true := by simpa using hE2
        clear hbo hel rng1 rng2 hB1 hE2
        replace hM : Hid True := trivial
        have hVe := hV.out
        subst hVe
        rcases hgo with ⟨g1, g2⟩ | ⟨rfl, g1⟩ | ⟨rfl, g1⟩
        all_goals
          go_wp2_with (first | (go_at_call 38; refine (hform.out _).mono ?_; rintro e w' ⟨rfl, rfl⟩) | (go_at_call 39; refine hmay.out.mono ?_; rintro e w3 ⟨rfl, L3⟩; replace v6 := (later_of L3).cell_of v6; replace v7 := (later_of L3).cell_of v7) | (go_at_call 24; refine (hbo2.out _ L3.out).mono ?_; clear hbo2; rintro e w4 ⟨rfl, C4⟩; replace v7 := Ct.cell_of C4.out hpq2.out v7) | (go_at_call 24; refine (hel2.out _ _ L3.out C4.out).mono ?_; rintro e w5 ⟨rfl, C5⟩))
          go_ret
          rw [hck.out]
          exact ⟨rfl, ((hCV.out.later L3.out).trans C4.out).trans C5.out⟩
      subst hE2
      rw [if_pos rfl] at hck
      have hb2 : Hid (0 ≤ C2 ∧ C2 ≤ 8192) := ⟨by have := rng1.1; have := rng2.1; simp only [] at *; omega, rng2.2.2.1 rfl⟩
      replace hck : Hid (ck f deep c = ck r deep C2) := hck
      clear hbo hel rng1 rng2 hB1
      replace hM : Hid True := trivial
      have hVe := hV.out
      subst hVe
      rcases hgo with ⟨g1, g2⟩ | ⟨rfl, g1⟩ | ⟨rfl, g1⟩
      all_goals
        go_wp2_with (first | (go_at_call 38; refine (hform.out _).mono ?_; rintro e w' ⟨rfl, rfl⟩) | (go_at_call 39; refine hmay.out.mono ?_; rintro e w3 ⟨rfl, L3⟩; replace v6 := (later_of L3).cell_of v6; replace v7 := (later_of L3).cell_of v7) | (go_at_call 24; refine (hbo2.out _ L3.out).mono ?_; clear hbo2; rintro e w4 ⟨rfl, C4⟩; replace v7 := Ct.cell_of C4.out hpq2.out v7) | (go_at_call 24; refine (hel2.out _ _ L3.out C4.out).mono ?_; rintro e w5 ⟨rfl, C5⟩))
        refine ⟨⟨d.app (.cons op a b bi ty ls bo el .nil), r, C2, by rw [hfin.out.2.2.2]; rfl, hfin.out.1, hfin.out.2.1, hfin.out.2.2.1, hb2.out.1, hb2.out.2, hck.out, ((hCV.out.later L3.out).trans C4.out).trans C5.out⟩, ?_⟩
        simp [intOf]
        omega
theorem checks_any : ∀ (k : Nat) (f : Fs), f.sz ≤ k → f.Ok → f.len * 112 ≤ 140737488351232 → CheckC f
  | 0, f, hk, ho, hn => by
    cases f using Fs.split with
    | nil =>
      intro Z w A cp q deep c hT hZ hq hd0 hd1 hd2 hc0 hc1
      simp only [Fs.len, ck]
      replace hq : Hid (w.rowIs q 3 1 (fun _ => .int .i64 c)) := hq
      go_enter Try.func24, Try.ntmps24
      go_wp2_with fail
      go_loopw [7] (fun i wr => i = .int .i64 0 ∧ wr = w) (fun i _ => 0)
      case atStart => exact ⟨rfl, rfl⟩
      case round =>
        obtain ⟨rfl, rfl⟩ := hrel
        go_wp2_with fail
        go_ret
        exact ⟨rfl, Ct.start hq.out⟩
    | cons => simp [Fs.sz] at hk
  | k + 1, f, hk, ho, hn => checks_round k f (fun f' h1 h2 h3 => checks_any k f' h1 h2 h3) hk ho hn
end Go.Proofs.Ytkdfmgdadnlnlaa

