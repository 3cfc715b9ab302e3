/- Over this seat's translation: Of of package apply as one face, and the document's types. -/
import Derived.Test.YtdfgcagbpndabaaGreatDoorVE
set_option linter.unusedVariables false
namespace Go
theorem Later.trans {a b c : World} (h : Later a b) (h' : Later b c) : Later a c := by
  obtain ⟨cs, m, rfl⟩ := h'
  exact Lv h
end Go
namespace Go.Proofs.YtdfgcagbpndabaaGreatDoor
open Go.RowKit Go.AM
def RT1 (op p r : Int) : Prop := ∀ w : World, Calls Tryz.prog 8 #[.int .i64 op] w fun e w' => ∃ B C cap, e = .returned (tv B 1 cap C 0) ∧ Hid (Later w w') ∧ w.heap.size ≤ B ∧ w.heap.size ≤ C ∧ B ≠ C ∧ Hid (IntsAt w' B [p]) ∧ Hid (IntsAt w' C [r])
def RT2 (op p r : Int) : Prop := ∀ w : World, Calls Tryz.prog 8 #[.int .i64 op] w fun e w' => ∃ B C cap, e = .returned (tv B 2 cap C 0) ∧ Hid (Later w w') ∧ w.heap.size ≤ B ∧ w.heap.size ≤ C ∧ B ≠ C ∧ Hid (IntsAt w' B [p, p]) ∧ Hid (IntsAt w' C [r])
abbrev R4 := Int × Int × Int × Int
abbrev toV (r : R4) : Value := .tuple #[.agg #[.int .i64 r.1, .int .i64 r.2.1], .int .i64 r.2.2.1, .int .i64 r.2.2.2]
def resN (r : Int) (ve : Int × Int) : R4 := if ve.2 = 0 then (r, ve.1, 0, 0) else (0, 0, trapN ve.2, 0)
abbrev bad4 : R4 := (0, 0, 0, 700)
def OfC (w : World) (op : Int) (V : Value) (r : R4) : Prop := ∀ w', Later w w' → Calls Tryz.prog 9 #[.int .i64 op, V] w' fun e w2 => e = .returned (toV r) ∧ Later w' w2
theorem of_op (w : World) (op : Int) (V : Value) (h : ¬ (69 ≤ op ∧ op ≤ 191)) : OfC w op V bad4 := fun w' _ => aof_bad op V h w'
theorem shb (op : Int) (h : 69 ≤ op ∧ op ≤ 191) : SHb op (kP op) (kC op) (kR op) := shape_any op h.1 h.2
theorem of_len (w : World) (op : Int) (ad : Option Addr) (len cap : Nat) (h : 69 ≤ op ∧ op ≤ 191) (hl : ¬ (len : Int) = kC op) : OfC w op (.slice ad len cap) bad4 :=
  fun w' _ => aof_no op _ _ _ _ h (shb op h) w' (fun w2 _ => takes_len _ _ _ ad len cap hl w2)
theorem rt1 (op : Int) (h : 69 ≤ op ∧ op ≤ 191) (hc : kC op = 1) : RT1 op (kP op) (kR op) := by
  by_cases h2 : op ≤ 166
  · have hs := kinds_any op h.1 h2
    rw [hc] at hs
    exact rtype_1 op _ _ h.1 h2 hs
  · exact rtype_conv op _ _ (by omega) h.2 (rcv_any op (by omega) h.2)
theorem rt2 (op : Int) (h : 69 ≤ op ∧ op ≤ 191) (hc : kC op = 2) : op ≤ 166 ∧ RT2 op (kP op) (kR op) := by
  have h2 : op ≤ 166 := by
    rcases Int.lt_or_le 166 op with g | g
    · rw [kC_conv op (by omega)] at hc; omega
    · exact g
  have hs := kinds_any op h.1 h2
  rw [hc] at hs
  exact ⟨h2, rtype_2 op _ _ h.1 h2 hs⟩
theorem res_val (r : Int) (ve : Int × Int) (h : ve.2 = 0) : resN r ve = (r, ve.1, 0, 0) := by unfold resN; rw [if_pos h]
theorem res_trap (r : Int) (ve : Int × Int) (h : ¬ ve.2 = 0) : resN r ve = (0, 0, trapN ve.2, 0) := by unfold resN; rw [if_neg h]
section
variable (w : World) (op t x : Int) (g o cap : Nat)
theorem of_fit1 (h : 69 ≤ op ∧ op ≤ 191) (hc : kC op = 1) (hT : Tabs w) (c0 : w.cell? ⟨g, o, none⟩ = some (.int .i64 (kP op))) (c1 : w.cell? ⟨g, o + 1, none⟩ = some (.int .i64 x)) (hx : okX (kP op) x = true) :
    OfC w op (.slice (some ⟨g, o, none⟩) 1 cap) (resN (kR op) (numN op (kP op) 1 x 0)) := by
  intro w' hl
  have hs := shb op h
  rw [hc] at hs
  have hk : TKb w' (kP op) 1 (kR op) (.slice (some ⟨g, o, none⟩) 1 cap) true := fun w2 h2 => takes1_ok _ _ x g o cap w2 ((hl.trans h2).cell_of c0) ((hl.trans h2).cell_of c1) hx (cell_lt ((hl.trans h2).cell_of c0)) (kP_or op h.1 h.2)
  have hw : WKb w' op (kP op) 1 (kR op) (.slice (some ⟨g, o, none⟩) 1 cap) (numN op (kP op) 1 x 0).1 (numN op (kP op) 1 x 0).2 := fun w2 h2 => work_1 op x h _ g o cap w2 (hT.later (hl.trans h2)) ((hl.trans h2).cell_of c1)
  by_cases he : (numN op (kP op) 1 x 0).2 = 0
  · rw [res_val _ _ he]
    rw [he] at hw
    exact aof_val op _ _ _ _ _ h hs w' hk hw
  · rw [res_trap _ _ he]
    exact aof_trap op _ _ _ _ _ _ _ h he rfl hs w' hk hw
theorem of_bad1 (h : 69 ≤ op ∧ op ≤ 191) (hc : kC op = 1) (c0 : w.cell? ⟨g, o, none⟩ = some (.int .i64 t)) (c1 : w.cell? ⟨g, o + 1, none⟩ = some (.int .i64 x)) (hx : ¬ (t = kP op ∧ okX (kP op) x = true)) :
    OfC w op (.slice (some ⟨g, o, none⟩) 1 cap) bad4 := by
  intro w' hl
  have hs := shb op h
  rw [hc] at hs
  refine aof_no op _ _ _ _ h hs w' (fun w2 h2 => ?_)
  have d0 := (hl.trans h2).cell_of c0
  have d1 := (hl.trans h2).cell_of c1
  by_cases ht : t = kP op
  · rw [ht] at d0
    exact takes1_no _ _ x g o cap w2 d0 d1 (by cases hb : okX (kP op) x with | false => rfl | true => exact absurd ⟨ht, hb⟩ hx) (cell_lt d0) (kP_or op h.1 h.2)
  · exact takes1_ne _ _ t x g o cap w2 d0 d1 ht (cell_lt d0)
variable (u y : Int)
theorem of_fit2 (h : 69 ≤ op ∧ op ≤ 191) (hc : kC op = 2) (hi : inI x) (hj : inI y) (c0 : w.cell? ⟨g, o, none⟩ = some (.int .i64 (kP op))) (c1 : w.cell? ⟨g, o + 1, none⟩ = some (.int .i64 x)) (c2 : w.cell? ⟨g, o + 2, none⟩ = some (.int .i64 (kP op))) (c3 : w.cell? ⟨g, o + 2 + 1, none⟩ = some (.int .i64 y)) (hx : okX (kP op) x = true) (hy : okX (kP op) y = true) :
    OfC w op (.slice (some ⟨g, o, none⟩) 2 cap) (resN (kR op) (numN op (kP op) 2 x y)) := by
  intro w' hl
  have hs := shb op h
  have h2 := (rt2 op h hc).1
  rw [hc] at hs
  have hk : TKb w' (kP op) 2 (kR op) (.slice (some ⟨g, o, none⟩) 2 cap) true := fun w2 h2 => takes2_ok _ _ x y g o cap w2 ((hl.trans h2).cell_of c0) ((hl.trans h2).cell_of c1) hx ((hl.trans h2).cell_of c2) ((hl.trans h2).cell_of c3) hy (cell_lt ((hl.trans h2).cell_of c0)) (kP_or op h.1 h.2)
  have hw : WKb w' op (kP op) 2 (kR op) (.slice (some ⟨g, o, none⟩) 2 cap) (numN op (kP op) 2 x y).1 (numN op (kP op) 2 x y).2 := fun w2 g2 => work_2 op x y ⟨h.1, h2⟩ hi hj _ g o cap w2 ((hl.trans g2).cell_of c1) ((hl.trans g2).cell_of c3)
  by_cases he : (numN op (kP op) 2 x y).2 = 0
  · rw [res_val _ _ he]
    rw [he] at hw
    exact aof_val op _ _ _ _ _ h hs w' hk hw
  · rw [res_trap _ _ he]
    exact aof_trap op _ _ _ _ _ _ _ h he rfl hs w' hk hw
theorem of_bad2 (h : 69 ≤ op ∧ op ≤ 191) (hc : kC op = 2) (c0 : w.cell? ⟨g, o, none⟩ = some (.int .i64 t)) (c1 : w.cell? ⟨g, o + 1, none⟩ = some (.int .i64 x)) (c2 : w.cell? ⟨g, o + 2, none⟩ = some (.int .i64 u)) (c3 : w.cell? ⟨g, o + 2 + 1, none⟩ = some (.int .i64 y)) (hx : ¬ (t = kP op ∧ okX (kP op) x = true ∧ u = kP op ∧ okX (kP op) y = true)) :
    OfC w op (.slice (some ⟨g, o, none⟩) 2 cap) bad4 := by
  intro w' hl
  have hs := shb op h
  rw [hc] at hs
  refine aof_no op _ _ _ _ h hs w' (fun w2 h2 => ?_)
  have d0 := (hl.trans h2).cell_of c0
  have d1 := (hl.trans h2).cell_of c1
  have d2 := (hl.trans h2).cell_of c2
  have d3 := (hl.trans h2).cell_of c3
  by_cases ht : t = kP op
  · rw [ht] at d0
    cases hb : okX (kP op) x with
    | false => exact takes2_no _ _ x g o cap w2 d0 d1 hb (cell_lt d0) (kP_or op h.1 h.2)
    | true =>
      by_cases hu : u = kP op
      · rw [hu] at d2
        exact takes2_no2 _ _ x y g o cap w2 d0 d1 hb d2 d3 (by cases hb2 : okX (kP op) y with | false => rfl | true => exact absurd ⟨ht, hb, hu, hb2⟩ hx) (cell_lt d0) (kP_or op h.1 h.2)
      · exact takes2_ne2 _ _ x u y g o cap w2 d0 d1 hb d2 d3 hu (cell_lt d0) (kP_or op h.1 h.2)
  · exact takes2_ne _ _ t x g o cap w2 d0 d1 ht (cell_lt d0)
end
end Go.Proofs.YtdfgcagbpndabaaGreatDoor
