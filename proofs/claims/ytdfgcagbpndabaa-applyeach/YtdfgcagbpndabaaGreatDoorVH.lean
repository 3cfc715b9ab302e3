/- What an operation makes of values, in four numbers (type, bits, trap, error): by package apply and by the document alike. -/
import Derived.Test.YtdfgcagbpndabaaGreatDoorVG
set_option linter.unusedVariables false
namespace Go
theorem Later.trans {a b c : World} (h : Later a b) (h' : Later b c) : Later a c := by
  obtain ⟨cs, m, rfl⟩ := h'
  exact Lv h
end Go
namespace Go.Proofs.YtdfgcagbpndabaaGreatDoor
open Go.RowKit Go.AM
theorem e_un32 (op a : Int) (h : op = 69 ∨ (103 ≤ op ∧ op ≤ 105)) : (BM.un32 op a).2 = 0 := by
  unfold BM.un32; repeat' split
  all_goals first | rfl | omega
theorem e_un64 (op a : Int) (h : op = 80 ∨ (121 ≤ op ∧ op ≤ 123)) : (BM.un64 op a).2 = 0 := by
  unfold BM.un64; repeat' split
  all_goals first | rfl | omega
theorem e_bin32 (op a b : Int) (h : (70 ≤ op ∧ op ≤ 79) ∨ (106 ≤ op ∧ op ≤ 120)) : (BM.bin32 op a b).2 = 0 ∨ (BM.bin32 op a b).2 = 201 ∨ (BM.bin32 op a b).2 = 202 := by
  unfold BM.bin32
  by_cases h1 : 70 ≤ op ∧ op ≤ 79
  · rw [if_pos h1]; exact Or.inl rfl
  · rw [if_neg h1]
    have hc : op = 106 ∨ op = 107 ∨ op = 108 ∨ op = 109 ∨ op = 110 ∨ op = 111 ∨ op = 112 ∨ op = 113 ∨ op = 114 ∨ op = 115 ∨ op = 116 ∨ op = 117 ∨ op = 118 ∨ op = 119 ∨ op = 120 := by omega
    clear h h1
    rcases hc with rfl | rfl | rfl | rfl | rfl | rfl | rfl | rfl | rfl | rfl | rfl | rfl | rfl | rfl | rfl
    all_goals
      repeat (first | rw [if_pos rfl] | rw [if_neg (by decide)])
      first | exact Or.inl rfl | (repeat' split) <;> first | exact Or.inl rfl | exact Or.inr (Or.inl rfl) | exact Or.inr (Or.inr rfl)
theorem e_bin64 (op a b : Int) (h : (81 ≤ op ∧ op ≤ 90) ∨ (124 ≤ op ∧ op ≤ 138)) : (BM.bin64 op a b).2 = 0 ∨ (BM.bin64 op a b).2 = 301 ∨ (BM.bin64 op a b).2 = 302 := by
  unfold BM.bin64
  by_cases h1 : 81 ≤ op ∧ op ≤ 90
  · rw [if_pos h1]; exact Or.inl rfl
  · rw [if_neg h1]
    have hc : op = 124 ∨ op = 125 ∨ op = 126 ∨ op = 127 ∨ op = 128 ∨ op = 129 ∨ op = 130 ∨ op = 131 ∨ op = 132 ∨ op = 133 ∨ op = 134 ∨ op = 135 ∨ op = 136 ∨ op = 137 ∨ op = 138 := by omega
    clear h h1
    rcases hc with rfl | rfl | rfl | rfl | rfl | rfl | rfl | rfl | rfl | rfl | rfl | rfl | rfl | rfl | rfl
    all_goals
      repeat (first | rw [if_pos rfl] | rw [if_neg (by decide)])
      first | exact Or.inl rfl | (repeat' split) <;> first | exact Or.inl rfl | exact Or.inr (Or.inl rfl) | exact Or.inr (Or.inr rfl)
theorem e_trunc (f : Ieee.Format) (x w : Nat) (s : Bool) : (FM.truncI f x w s).2 = 0 ∨ (FM.truncI f x w s).2 = 600 ∨ (FM.truncI f x w s).2 = 601 := by
  unfold FM.truncI
  split
  · exact Or.inr (Or.inl rfl)
  · split
    · exact Or.inr (Or.inr rfl)
    · split
      · exact Or.inl rfl
      · exact Or.inr (Or.inr rfl)
theorem e_of (op a : Int) : (FM.ofI op a).2 = 0 ∨ (FM.ofI op a).2 = 600 ∨ (FM.ofI op a).2 = 601 := by
  by_cases h : 167 ≤ op ∧ op ≤ 191
  · have hc : op = 167 ∨ op = 168 ∨ op = 169 ∨ op = 170 ∨ op = 171 ∨ op = 172 ∨ op = 173 ∨ op = 174 ∨ op = 175 ∨ op = 176 ∨ op = 177 ∨ op = 178 ∨ op = 179 ∨ op = 180 ∨ op = 181 ∨ op = 182 ∨ op = 183 ∨ op = 184 ∨ op = 185 ∨ op = 186 ∨ op = 187 ∨ op = 188 ∨ op = 189 ∨ op = 190 ∨ op = 191 := by omega
    clear h
    rcases hc with rfl | rfl | rfl | rfl | rfl | rfl | rfl | rfl | rfl | rfl | rfl | rfl | rfl | rfl | rfl | rfl | rfl | rfl | rfl | rfl | rfl | rfl | rfl | rfl | rfl
    · rw [FM.of_167]; exact Or.inl rfl
    · rw [FM.of_168]; exact e_trunc _ _ _ _
    · rw [FM.of_169]; exact e_trunc _ _ _ _
    · rw [FM.of_170]; exact e_trunc _ _ _ _
    · rw [FM.of_171]; exact e_trunc _ _ _ _
    · rw [FM.of_172]; exact Or.inl rfl
    · rw [FM.of_173]; exact Or.inl rfl
    · rw [FM.of_174]; exact e_trunc _ _ _ _
    · rw [FM.of_175]; exact e_trunc _ _ _ _
    · rw [FM.of_176]; exact e_trunc _ _ _ _
    · rw [FM.of_177]; exact e_trunc _ _ _ _
    · rw [FM.of_178]; exact Or.inl rfl
    · rw [FM.of_179]; exact Or.inl rfl
    · rw [FM.of_180]; exact Or.inl rfl
    · rw [FM.of_181]; exact Or.inl rfl
    · rw [FM.of_182]; exact Or.inl rfl
    · rw [FM.of_183]; exact Or.inl rfl
    · rw [FM.of_184]; exact Or.inl rfl
    · rw [FM.of_185]; exact Or.inl rfl
    · rw [FM.of_186]; exact Or.inl rfl
    · rw [FM.of_187]; exact Or.inl rfl
    · rw [FM.of_188]; exact Or.inl rfl
    · rw [FM.of_189]; exact Or.inl rfl
    · rw [FM.of_190]; exact Or.inl rfl
    · rw [FM.of_191]; exact Or.inl rfl
  · rw [FM.of_bad op a (by omega)]; exact Or.inr (Or.inl rfl)
theorem e_f1 (op a : Int) (h : 139 ≤ op ∧ op ≤ 145) : (P3.unI op a).2 = 0 := by unfold P3.unI; rw [if_pos h]
theorem e_f2 (op a b : Int) (h : (91 ≤ op ∧ op ≤ 96) ∨ (146 ≤ op ∧ op ≤ 152)) : (P3.binI op a b).2 = 0 := by unfold P3.binI; rw [if_pos h]
theorem e_d1 (op a : Int) (h : 153 ≤ op ∧ op ≤ 159) : (P6.unI op a).2 = 0 := by unfold P6.unI; rw [if_pos h]
theorem e_d2 (op a b : Int) (h : (97 ≤ op ∧ op ≤ 102) ∨ (160 ≤ op ∧ op ≤ 166)) : (P6.binI op a b).2 = 0 := by unfold P6.binI; rw [if_pos h]
theorem err1 (op x : Int) (h : 69 ≤ op ∧ op ≤ 191) (hc : kC op = 1) : (numN op (kP op) 1 x 0).2 = 0 ∨ (numN op (kP op) 1 x 0).2 = 600 ∨ (numN op (kP op) 1 x 0).2 = 601 := by
  unfold numN
  by_cases ho : 166 < op
  · rw [if_pos ho]; exact e_of op x
  · rw [if_neg ho, if_pos rfl]
    left
    have g := grp_k op h.1 (by omega)
    rw [hc] at g
    unfold unN
    revert g
    generalize kP op = p
    generalize kR op = r
    intro g
    rcases g with ⟨a, b, rfl, _, _⟩ | ⟨a, b, rfl, k, _⟩ | ⟨a, b, rfl, _, _⟩ | ⟨a, b, rfl, k, _⟩ | ⟨a, b, rfl, k, _⟩ | ⟨a, b, rfl, k, _⟩ | ⟨a, b, rfl, _, _⟩ | ⟨a, b, rfl, k, _⟩ | ⟨a, b, rfl, _, _⟩ | ⟨a, b, rfl, k, _⟩ | ⟨a, b, rfl, _, _⟩ | ⟨a, b, rfl, k, _⟩ | ⟨a, b, rfl, _, _⟩ | ⟨a, b, rfl, k, _⟩ | F
    · exact e_un32 op x (by omega)
    · exact absurd k (by decide)
    · exact e_un64 op x (by omega)
    · exact absurd k (by decide)
    · exact absurd k (by decide)
    · exact absurd k (by decide)
    · exact e_un32 op x (by omega)
    · exact absurd k (by decide)
    · exact e_un64 op x (by omega)
    · exact absurd k (by decide)
    · exact e_f1 op x ⟨a, b⟩
    · exact absurd k (by decide)
    · exact e_d1 op x ⟨a, b⟩
    · exact absurd k (by decide)
    · exact F.elim
theorem err2 (op x y : Int) (h : 69 ≤ op ∧ op ≤ 166) (hc : kC op = 2) : (numN op (kP op) 2 x y).2 = 0 ∨ (numN op (kP op) 2 x y).2 = 201 ∨ (numN op (kP op) 2 x y).2 = 202 ∨ (numN op (kP op) 2 x y).2 = 301 ∨ (numN op (kP op) 2 x y).2 = 302 := by
  unfold numN
  rw [if_neg (by omega), if_neg (by decide)]
  have g := grp_k op h.1 h.2
  rw [hc] at g
  unfold binN
  revert g
  generalize kP op = p
  generalize kR op = r
  intro g
  rcases g with ⟨a, b, rfl, k, _⟩ | ⟨a, b, rfl, _, _⟩ | ⟨a, b, rfl, k, _⟩ | ⟨a, b, rfl, _, _⟩ | ⟨a, b, rfl, _, _⟩ | ⟨a, b, rfl, _, _⟩ | ⟨a, b, rfl, k, _⟩ | ⟨a, b, rfl, _, _⟩ | ⟨a, b, rfl, k, _⟩ | ⟨a, b, rfl, _, _⟩ | ⟨a, b, rfl, k, _⟩ | ⟨a, b, rfl, _, _⟩ | ⟨a, b, rfl, k, _⟩ | ⟨a, b, rfl, _, _⟩ | F
  · exact absurd k (by decide)
  · have := e_bin32 op x y (by omega); exact this.imp id (fun g => g.imp id Or.inl) |>.imp id (fun g => g.elim Or.inl (fun g => Or.inr (g.elim Or.inl fun g => Or.inr g)))
  · exact absurd k (by decide)
  · have := e_bin64 op x y (by omega); exact this.imp id (fun g => Or.inr (Or.inr g))
  · exact Or.inl (e_f2 op x y (by omega))
  · exact Or.inl (e_d2 op x y (by omega))
  · exact absurd k (by decide)
  · have := e_bin32 op x y (by omega); exact this.imp id (fun g => g.imp id Or.inl) |>.imp id (fun g => g.elim Or.inl (fun g => Or.inr (g.elim Or.inl fun g => Or.inr g)))
  · exact absurd k (by decide)
  · have := e_bin64 op x y (by omega); exact this.imp id (fun g => Or.inr (Or.inr g))
  · exact absurd k (by decide)
  · exact Or.inl (e_f2 op x y (by omega))
  · exact absurd k (by decide)
  · exact Or.inl (e_d2 op x y (by omega))
  · exact F.elim
abbrev R4 := Int × Int × Int × Int
abbrev toV (r : R4) : Value := .tuple #[.agg #[.int .i64 r.1, .int .i64 r.2.1], .int .i64 r.2.2.1, .int .i64 r.2.2.2]
def resN (r : Int) (ve : Int × Int) : R4 := if ve.2 = 0 then (r, ve.1, 0, 0) else (0, 0, trapN ve.2, 0)
abbrev bad4 : R4 := (0, 0, 0, 700)
def OfC (w : World) (op : Int) (V : Value) (r : R4) : Prop := ∀ w', Later w w' → Calls Tryz.prog 9 #[.int .i64 op, V] w' fun e w2 => e = .returned (toV r) ∧ Later w' w2
def ApC (w : World) (op : Int) (V : Value) (r : R4) : Prop := ∀ w', Later w w' → Calls Tryz.prog 10 #[.int .i64 op, V] w' fun e w2 => e = .returned (toV r) ∧ Later w' w2
theorem of_op (w : World) (op : Int) (V : Value) (h : ¬ (69 ≤ op ∧ op ≤ 191)) : OfC w op V bad4 := fun w' _ => aof_bad op V h w'
theorem ap_op (w : World) (op : Int) (V : Value) (h : ¬ (69 ≤ op ∧ op ≤ 191)) : ApC w op V bad4 := fun w' _ => rap_bad op V h w'
theorem shb (op : Int) (h : 69 ≤ op ∧ op ≤ 191) : SHb op (kP op) (kC op) (kR op) := shape_any op h.1 h.2
theorem of_len (w : World) (op : Int) (ad : Option Addr) (len cap : Nat) (h : 69 ≤ op ∧ op ≤ 191) (hl : ¬ (len : Int) = kC op) : OfC w op (.slice ad len cap) bad4 :=
  fun w' _ => aof_no op _ _ _ _ h (shb op h) w' (fun w2 _ => takes_len _ _ _ ad len cap hl w2)
theorem rt1 (op : Int) (h : 69 ≤ op ∧ op ≤ 191) (hc : kC op = 1) : RT1 op (kP op) (kR op) := by
  by_cases h2 : op ≤ 166
  · have hs := kinds_any op h.1 h2
    rw [hc] at hs
    exact rtype_1 op _ _ h.1 h2 hs
  · exact rtype_conv op _ _ (by omega) h.2 (rcv_any op (by omega) h.2)
theorem rt2 (op : Int) (h : 69 ≤ op ∧ op ≤ 191) (hc : kC op = 2) : op ≤ 166 ∧ RT2 op (kP op) (kR op) := by
  have h2 : op ≤ 166 := by
    rcases Int.lt_or_le 166 op with g | g
    · rw [kC_conv op (by omega)] at hc; omega
    · exact g
  have hs := kinds_any op h.1 h2
  rw [hc] at hs
  exact ⟨h2, rtype_2 op _ _ h.1 h2 hs⟩
theorem ap_len (w : World) (op : Int) (ad : Option Addr) (len cap : Nat) (h : 69 ≤ op ∧ op ≤ 191) (hl : ¬ (len : Int) = kC op) : ApC w op (.slice ad len cap) bad4 := by
  intro w' _
  rcases kC_or op with hc | hc
  · exact rap1_len op _ _ ad len cap (by rw [hc] at hl; exact hl) w' (rt1 op h hc)
  · exact rap2_len op _ _ ad len cap (by rw [hc] at hl; exact hl) w' (rt2 op h hc).2
theorem res_val (r : Int) (ve : Int × Int) (h : ve.2 = 0) : resN r ve = (r, ve.1, 0, 0) := by unfold resN; rw [if_pos h]
theorem res_trap (r : Int) (ve : Int × Int) (h : ¬ ve.2 = 0) : resN r ve = (0, 0, trapN ve.2, 0) := by unfold resN; rw [if_neg h]
section
variable (w : World) (op t x : Int) (g o cap : Nat)
theorem of_fit1 (h : 69 ≤ op ∧ op ≤ 191) (hc : kC op = 1) (hT : Tabs w) (c0 : w.cell? ⟨g, o, none⟩ = some (.int .i64 (kP op))) (c1 : w.cell? ⟨g, o + 1, none⟩ = some (.int .i64 x)) (hx : okX (kP op) x = true) :
    OfC w op (.slice (some ⟨g, o, none⟩) 1 cap) (resN (kR op) (numN op (kP op) 1 x 0)) := by
  intro w' hl
  have hs := shb op h
  rw [hc] at hs
  have hk : TKb w' (kP op) 1 (kR op) (.slice (some ⟨g, o, none⟩) 1 cap) true := fun w2 h2 => takes1_ok _ _ x g o cap w2 ((hl.trans h2).cell_of c0) ((hl.trans h2).cell_of c1) hx (cell_lt ((hl.trans h2).cell_of c0)) (kP_or op h.1 h.2)
  have hw : WKb w' op (kP op) 1 (kR op) (.slice (some ⟨g, o, none⟩) 1 cap) (numN op (kP op) 1 x 0).1 (numN op (kP op) 1 x 0).2 := fun w2 h2 => work_1 op x h _ g o cap w2 (hT.later (hl.trans h2)) ((hl.trans h2).cell_of c1)
  by_cases he : (numN op (kP op) 1 x 0).2 = 0
  · rw [res_val _ _ he]
    rw [he] at hw
    exact aof_val op _ _ _ _ _ h hs w' hk hw
  · rw [res_trap _ _ he]
    exact aof_trap op _ _ _ _ _ _ _ h he rfl hs w' hk hw
theorem of_bad1 (h : 69 ≤ op ∧ op ≤ 191) (hc : kC op = 1) (c0 : w.cell? ⟨g, o, none⟩ = some (.int .i64 t)) (c1 : w.cell? ⟨g, o + 1, none⟩ = some (.int .i64 x)) (hx : ¬ (t = kP op ∧ okX (kP op) x = true)) :
    OfC w op (.slice (some ⟨g, o, none⟩) 1 cap) bad4 := by
  intro w' hl
  have hs := shb op h
  rw [hc] at hs
  refine aof_no op _ _ _ _ h hs w' (fun w2 h2 => ?_)
  have d0 := (hl.trans h2).cell_of c0
  have d1 := (hl.trans h2).cell_of c1
  by_cases ht : t = kP op
  · rw [ht] at d0
    exact takes1_no _ _ x g o cap w2 d0 d1 (by cases hb : okX (kP op) x with | false => rfl | true => exact absurd ⟨ht, hb⟩ hx) (cell_lt d0) (kP_or op h.1 h.2)
  · exact takes1_ne _ _ t x g o cap w2 d0 d1 ht (cell_lt d0)
theorem ap_fit1 (h : 69 ≤ op ∧ op ≤ 191) (hc : kC op = 1) (hi : inI x) (c0 : w.cell? ⟨g, o, none⟩ = some (.int .i64 (kP op))) (c1 : w.cell? ⟨g, o + 1, none⟩ = some (.int .i64 x)) (hx : okX (kP op) x = true) :
    ApC w op (.slice (some ⟨g, o, none⟩) 1 cap) (resN (kR op) (numN op (kP op) 1 x 0)) := by
  intro w' hl
  have d0 := hl.cell_of c0
  have d1 := hl.cell_of c1
  have hm : MY (kP op) x true := by have := may_any (kP op) x (kP_or op h.1 h.2); rw [hx] at this; exact this
  have hn : NM w' op g o 1 cap (numN op (kP op) 1 x 0).1 (numN op (kP op) 1 x 0).2 := fun w2 h2 => number_1 op x h hi g o cap w2 (h2.cell_of d0) (h2.cell_of d1)
  rcases err1 op x h hc with he | he | he
  · rw [res_val _ _ he]
    rw [he] at hn
    exact rap1_0 op _ _ x _ g o cap w' d0 d1 hm (cell_lt d0) (rt1 op h hc) hn
  · rw [res_trap _ _ (by rw [he]; decide), he]
    rw [he] at hn
    exact rap1_600 op _ _ x _ g o cap w' d0 d1 hm (cell_lt d0) (rt1 op h hc) hn
  · rw [res_trap _ _ (by rw [he]; decide), he]
    rw [he] at hn
    exact rap1_601 op _ _ x _ g o cap w' d0 d1 hm (cell_lt d0) (rt1 op h hc) hn
theorem ap_bad1 (h : 69 ≤ op ∧ op ≤ 191) (hc : kC op = 1) (c0 : w.cell? ⟨g, o, none⟩ = some (.int .i64 t)) (c1 : w.cell? ⟨g, o + 1, none⟩ = some (.int .i64 x)) (hx : ¬ (t = kP op ∧ okX (kP op) x = true)) :
    ApC w op (.slice (some ⟨g, o, none⟩) 1 cap) bad4 := by
  intro w' hl
  have d0 := hl.cell_of c0
  have d1 := hl.cell_of c1
  by_cases ht : t = kP op
  · rw [ht] at d0
    have hm : MY (kP op) x false := by have := may_any (kP op) x (kP_or op h.1 h.2); rw [show okX (kP op) x = false from by cases hb : okX (kP op) x with | false => rfl | true => exact absurd ⟨ht, hb⟩ hx] at this; exact this
    exact rap1_no op _ _ x g o cap w' d0 d1 hm (cell_lt d0) (rt1 op h hc)
  · exact rap1_ne op _ _ t x g o cap w' d0 d1 ht (cell_lt d0) (rt1 op h hc)
variable (u y : Int)
theorem of_fit2 (h : 69 ≤ op ∧ op ≤ 191) (hc : kC op = 2) (hi : inI x) (hj : inI y) (c0 : w.cell? ⟨g, o, none⟩ = some (.int .i64 (kP op))) (c1 : w.cell? ⟨g, o + 1, none⟩ = some (.int .i64 x)) (c2 : w.cell? ⟨g, o + 2, none⟩ = some (.int .i64 (kP op))) (c3 : w.cell? ⟨g, o + 2 + 1, none⟩ = some (.int .i64 y)) (hx : okX (kP op) x = true) (hy : okX (kP op) y = true) :
    OfC w op (.slice (some ⟨g, o, none⟩) 2 cap) (resN (kR op) (numN op (kP op) 2 x y)) := by
  intro w' hl
  have hs := shb op h
  have h2 := (rt2 op h hc).1
  rw [hc] at hs
  have hk : TKb w' (kP op) 2 (kR op) (.slice (some ⟨g, o, none⟩) 2 cap) true := fun w2 h2 => takes2_ok _ _ x y g o cap w2 ((hl.trans h2).cell_of c0) ((hl.trans h2).cell_of c1) hx ((hl.trans h2).cell_of c2) ((hl.trans h2).cell_of c3) hy (cell_lt ((hl.trans h2).cell_of c0)) (kP_or op h.1 h.2)
  have hw : WKb w' op (kP op) 2 (kR op) (.slice (some ⟨g, o, none⟩) 2 cap) (numN op (kP op) 2 x y).1 (numN op (kP op) 2 x y).2 := fun w2 g2 => work_2 op x y ⟨h.1, h2⟩ hi hj _ g o cap w2 ((hl.trans g2).cell_of c1) ((hl.trans g2).cell_of c3)
  by_cases he : (numN op (kP op) 2 x y).2 = 0
  · rw [res_val _ _ he]
    rw [he] at hw
    exact aof_val op _ _ _ _ _ h hs w' hk hw
  · rw [res_trap _ _ he]
    exact aof_trap op _ _ _ _ _ _ _ h he rfl hs w' hk hw
theorem of_bad2 (h : 69 ≤ op ∧ op ≤ 191) (hc : kC op = 2) (c0 : w.cell? ⟨g, o, none⟩ = some (.int .i64 t)) (c1 : w.cell? ⟨g, o + 1, none⟩ = some (.int .i64 x)) (c2 : w.cell? ⟨g, o + 2, none⟩ = some (.int .i64 u)) (c3 : w.cell? ⟨g, o + 2 + 1, none⟩ = some (.int .i64 y)) (hx : ¬ (t = kP op ∧ okX (kP op) x = true ∧ u = kP op ∧ okX (kP op) y = true)) :
    OfC w op (.slice (some ⟨g, o, none⟩) 2 cap) bad4 := by
  intro w' hl
  have hs := shb op h
  rw [hc] at hs
  refine aof_no op _ _ _ _ h hs w' (fun w2 h2 => ?_)
  have d0 := (hl.trans h2).cell_of c0
  have d1 := (hl.trans h2).cell_of c1
  have d2 := (hl.trans h2).cell_of c2
  have d3 := (hl.trans h2).cell_of c3
  by_cases ht : t = kP op
  · rw [ht] at d0
    cases hb : okX (kP op) x with
    | false => exact takes2_no _ _ x g o cap w2 d0 d1 hb (cell_lt d0) (kP_or op h.1 h.2)
    | true =>
      by_cases hu : u = kP op
      · rw [hu] at d2
        exact takes2_no2 _ _ x y g o cap w2 d0 d1 hb d2 d3 (by cases hb2 : okX (kP op) y with | false => rfl | true => exact absurd ⟨ht, hb, hu, hb2⟩ hx) (cell_lt d0) (kP_or op h.1 h.2)
      · exact takes2_ne2 _ _ x u y g o cap w2 d0 d1 hb d2 d3 hu (cell_lt d0) (kP_or op h.1 h.2)
  · exact takes2_ne _ _ t x g o cap w2 d0 d1 ht (cell_lt d0)
theorem ap_fit2 (h : 69 ≤ op ∧ op ≤ 191) (hc : kC op = 2) (hi : inI x) (hj : inI y) (c0 : w.cell? ⟨g, o, none⟩ = some (.int .i64 (kP op))) (c1 : w.cell? ⟨g, o + 1, none⟩ = some (.int .i64 x)) (c2 : w.cell? ⟨g, o + 2, none⟩ = some (.int .i64 (kP op))) (c3 : w.cell? ⟨g, o + 2 + 1, none⟩ = some (.int .i64 y)) (hx : okX (kP op) x = true) (hy : okX (kP op) y = true) :
    ApC w op (.slice (some ⟨g, o, none⟩) 2 cap) (resN (kR op) (numN op (kP op) 2 x y)) := by
  intro w' hl
  have d0 := hl.cell_of c0
  have d1 := hl.cell_of c1
  have d2 := hl.cell_of c2
  have d3 := hl.cell_of c3
  have h2 := rt2 op h hc
  have hm : MY (kP op) x true := by have := may_any (kP op) x (kP_or op h.1 h.2); rw [hx] at this; exact this
  have hm2 : MY (kP op) y true := by have := may_any (kP op) y (kP_or op h.1 h.2); rw [hy] at this; exact this
  have hn : NM w' op g o 2 cap (numN op (kP op) 2 x y).1 (numN op (kP op) 2 x y).2 := fun w2 g2 => number_2 op x y ⟨h.1, h2.1⟩ hi hj g o cap w2 (g2.cell_of d0) (g2.cell_of d1) (g2.cell_of d3)
  rcases err2 op x y ⟨h.1, h2.1⟩ hc with he | he | he | he | he
  · rw [res_val _ _ he]
    rw [he] at hn
    exact rap2_0 op _ _ x y _ g o cap w' d0 d1 hm d2 d3 hm2 (cell_lt d0) h2.2 hn
  · rw [res_trap _ _ (by rw [he]; decide), he]
    rw [he] at hn
    exact rap2_201 op _ _ x y _ g o cap w' d0 d1 hm d2 d3 hm2 (cell_lt d0) h2.2 hn
  · rw [res_trap _ _ (by rw [he]; decide), he]
    rw [he] at hn
    exact rap2_202 op _ _ x y _ g o cap w' d0 d1 hm d2 d3 hm2 (cell_lt d0) h2.2 hn
  · rw [res_trap _ _ (by rw [he]; decide), he]
    rw [he] at hn
    exact rap2_301 op _ _ x y _ g o cap w' d0 d1 hm d2 d3 hm2 (cell_lt d0) h2.2 hn
  · rw [res_trap _ _ (by rw [he]; decide), he]
    rw [he] at hn
    exact rap2_302 op _ _ x y _ g o cap w' d0 d1 hm d2 d3 hm2 (cell_lt d0) h2.2 hn
theorem ap_bad2 (h : 69 ≤ op ∧ op ≤ 191) (hc : kC op = 2) (c0 : w.cell? ⟨g, o, none⟩ = some (.int .i64 t)) (c1 : w.cell? ⟨g, o + 1, none⟩ = some (.int .i64 x)) (c2 : w.cell? ⟨g, o + 2, none⟩ = some (.int .i64 u)) (c3 : w.cell? ⟨g, o + 2 + 1, none⟩ = some (.int .i64 y)) (hx : ¬ (t = kP op ∧ okX (kP op) x = true ∧ u = kP op ∧ okX (kP op) y = true)) :
    ApC w op (.slice (some ⟨g, o, none⟩) 2 cap) bad4 := by
  intro w' hl
  have d0 := hl.cell_of c0
  have d1 := hl.cell_of c1
  have d2 := hl.cell_of c2
  have d3 := hl.cell_of c3
  have h2 := (rt2 op h hc).2
  have may : ∀ x b, okX (kP op) x = b → MY (kP op) x b := fun x b hb => by have := may_any (kP op) x (kP_or op h.1 h.2); rw [hb] at this; exact this
  by_cases ht : t = kP op
  · rw [ht] at d0
    cases hb : okX (kP op) x with
    | false => exact rap2_no op _ _ x g o cap w' d0 d1 (may x _ hb) (cell_lt d0) h2
    | true =>
      by_cases hu : u = kP op
      · rw [hu] at d2
        exact rap2_no2 op _ _ x y g o cap w' d0 d1 (may x _ hb) d2 d3 (may y _ (by cases hb2 : okX (kP op) y with | false => rfl | true => exact absurd ⟨ht, hb, hu, hb2⟩ hx)) (cell_lt d0) h2
      · exact rap2_ne2 op _ _ x u y g o cap w' d0 d1 (may x _ hb) d2 d3 hu (cell_lt d0) h2
  · exact rap2_ne op _ _ t x g o cap w' d0 d1 ht (cell_lt d0) h2
end
end Go.Proofs.YtdfgcagbpndabaaGreatDoor
