/- package encode: imports. -/
import Derived.Test.YtngciahmoenkiacBL
set_option linter.unusedVariables false
set_option linter.unusedSimpArgs false
set_option maxRecDepth 100000
set_option maxHeartbeats 4000000
namespace Go.Proofs.Ytngciahmoenkiac.en
open Go.RowKit
variable {B q : Nat} {P : Nat → Prop} {w w' w1 : World} {d b : List Int} {o o2 : Ob} {r : Value} {e : Ending}
theorem imp0 (s1 s2 : ByteArray) (h1 : s1.size < 9223372036854775000) (h2 : s2.size < 9223372036854775000) (ty : Int) (h : Ew B P q w d) :
    Calls Try.prog 30 #[.pointer (some ⟨q, 0, none⟩), .agg #[.string s1, .string s2, .int .i64 0, .int .i64 ty, .bool false, .int .i64 0, .int .i64 0]] w (Pt B P q w d (oB (eT s1) (oB (eT s2) (oB (eKi 0) (eN ty)))) (.tuple #[])) := by
  have hq := h.lt_q
  have H1 : Hid (∀ (W : World) (d : List Int), Ew B (fun k => P k ∨ k = w.heap.size) q W d → Calls Try.prog 47 #[.pointer (some ⟨q, 0, none⟩), .string s1] W (Pt B (fun k => P k ∨ k = w.heap.size) q W d (eT s1) (.tuple #[]))) := fun W d h => name_any s1 h1 h
  have H2 : Hid (∀ (W : World) (d : List Int), Ew B (fun k => P k ∨ k = w.heap.size) q W d → Calls Try.prog 47 #[.pointer (some ⟨q, 0, none⟩), .string s2] W (Pt B (fun k => P k ∨ k = w.heap.size) q W d (eT s2) (.tuple #[]))) := fun W d h => name_any s2 h2 h
  have H3 : Hid (∀ (W : World) (d : List Int), Ew B (fun k => P k ∨ k = w.heap.size) q W d → Calls Try.prog 48 #[.pointer (some ⟨q, 0, none⟩), .int .i64 0] W (Pt B (fun k => P k ∨ k = w.heap.size) q W d (eKi 0) (.tuple #[]))) := fun W d h => kind_any 0 h
  have H4 : Hid (∀ (Q : Nat → Prop) (W : World) (d : List Int), Ew B Q q W d → Calls Try.prog 32 #[.pointer (some ⟨q, 0, none⟩), .int .i64 ty] W (Pt B Q q W d (eN ty) (.tuple #[]))) := fun Q W d h => number_any ty h
  have hn : Hid (∀ w : World, Calls Try.prog 10 #[.bool true] w fun e w' => e = .returned (.tuple #[]) ∧ w' = w) := need_ok
  have hrow : Hid ((w.alloc (.cells #[.string s1, .string s2, .int .i64 0, .int .i64 ty, .bool false, .int .i64 0, .int .i64 0] 40)).rowIs w.heap.size 40 7 (fun j => [.string s1, .string s2, .int .i64 0, .int .i64 ty, .bool false, .int .i64 0, .int .i64 0].getD j undef)) := row_new w 40 [.string s1, .string s2, .int .i64 0, .int .i64 ty, .bool false, .int .i64 0, .int .i64 0]
  have E0 : Hid (Ew B (fun k => P k ∨ k = w.heap.size) q (w.alloc (.cells #[.string s1, .string s2, .int .i64 0, .int .i64 ty, .bool false, .int .i64 0, .int .i64 0] 40)) d) := h.with_block (La (Lz _)) (by simp)
  have R0 : Hid (Wr (Sq B (fun k => P k ∨ k = w.heap.size) q) (w.alloc (.cells #[.string s1, .string s2, .int .i64 0, .int .i64 ty, .bool false, .int .i64 0, .int .i64 0] 40)) (w.alloc (.cells #[.string s1, .string s2, .int .i64 0, .int .i64 ty, .bool false, .int .i64 0, .int .i64 0] 40))) := Wr.refl _ _
  have hfr : Hid (∀ (r : Value) (o : Ob) (e : Ending) (w' : World), Pt B (fun k => P k ∨ k = w.heap.size) q (w.alloc (.cells #[.string s1, .string s2, .int .i64 0, .int .i64 ty, .bool false, .int .i64 0, .int .i64 0] 40)) d o r e w' → Pt B P q w d o r e w') := fun r o e w' h => (h.drop (fun k hk => Or.inl hk)).ahead (sq_later (La (Lz _)))
  have hnp : Hid (¬ Sq B (fun k => P k ∨ k = w.heap.size) q w.heap.size) := fun x => by rcases x with x | x; omega; exact x.2 (Or.inr rfl)
  clear h h1 h2
  generalize ho1 : eT s1 = o1 at *
  clear ho1
  generalize ho2 : eT s2 = o2 at *
  clear ho2
  generalize ho3 : eKi 0 = o3 at *
  clear ho3
  generalize ho4 : eN ty = o4 at *
  clear ho4
  go_enter Try.func30, Try.ntmps30
  have rp := (R0.out).row hnp.out hrow.out
  have k0 : (w.alloc (.cells #[.string s1, .string s2, .int .i64 0, .int .i64 ty, .bool false, .int .i64 0, .int .i64 0] 40)).cell? ⟨w.heap.size, 0, none⟩ = some (.string s1) := rp.cell (i := 0) (by decide)
  have k1 : (w.alloc (.cells #[.string s1, .string s2, .int .i64 0, .int .i64 ty, .bool false, .int .i64 0, .int .i64 0] 40)).cell? ⟨w.heap.size, 1, none⟩ = some (.string s2) := rp.cell (i := 1) (by decide)
  have k2 : (w.alloc (.cells #[.string s1, .string s2, .int .i64 0, .int .i64 ty, .bool false, .int .i64 0, .int .i64 0] 40)).cell? ⟨w.heap.size, 2, none⟩ = some (.int .i64 0) := rp.cell (i := 2) (by decide)
  have k3 : (w.alloc (.cells #[.string s1, .string s2, .int .i64 0, .int .i64 ty, .bool false, .int .i64 0, .int .i64 0] 40)).cell? ⟨w.heap.size, 3, none⟩ = some (.int .i64 ty) := rp.cell (i := 3) (by decide)
  have k4 : (w.alloc (.cells #[.string s1, .string s2, .int .i64 0, .int .i64 ty, .bool false, .int .i64 0, .int .i64 0] 40)).cell? ⟨w.heap.size, 4, none⟩ = some (.bool false) := rp.cell (i := 4) (by decide)
  have k5 : (w.alloc (.cells #[.string s1, .string s2, .int .i64 0, .int .i64 ty, .bool false, .int .i64 0, .int .i64 0] 40)).cell? ⟨w.heap.size, 5, none⟩ = some (.int .i64 0) := rp.cell (i := 5) (by decide)
  have k6 : (w.alloc (.cells #[.string s1, .string s2, .int .i64 0, .int .i64 ty, .bool false, .int .i64 0, .int .i64 0] 40)).cell? ⟨w.heap.size, 6, none⟩ = some (.int .i64 0) := rp.cell (i := 6) (by decide)
  have lp : w.heap.size < (w.alloc (.cells #[.string s1, .string s2, .int .i64 0, .int .i64 ty, .bool false, .int .i64 0, .int .i64 0] 40)).heap.size := cell_lt k0
  clear rp
  go_wp2_with fail
  refine (H1.out _ _ E0.out).mono ?_
  clear H1 k0 k1 k2 k3 k4 k5 k6 lp
  rintro e w1 ⟨V1, (⟨b1, hb1, rfl, E1⟩ | ⟨n1, rfl⟩)⟩
  rotate_left
  · exact ⟨rfl, hfr.out _ _ _ _ (Pt.stop V1 n1)⟩
  have R1 : Hid (Wr (Sq B (fun k => P k ∨ k = w.heap.size) q) (w.alloc (.cells #[.string s1, .string s2, .int .i64 0, .int .i64 ty, .bool false, .int .i64 0, .int .i64 0] 40)) w1) := R0.out.trans V1
  replace V1 : Hid _ := V1
  replace E1 : Hid _ := E1
  replace hb1 : Hid (o1 = some b1) := hb1
  have rp := (R1.out).row hnp.out hrow.out
  have k0 : w1.cell? ⟨w.heap.size, 0, none⟩ = some (.string s1) := rp.cell (i := 0) (by decide)
  have k1 : w1.cell? ⟨w.heap.size, 1, none⟩ = some (.string s2) := rp.cell (i := 1) (by decide)
  have k2 : w1.cell? ⟨w.heap.size, 2, none⟩ = some (.int .i64 0) := rp.cell (i := 2) (by decide)
  have k3 : w1.cell? ⟨w.heap.size, 3, none⟩ = some (.int .i64 ty) := rp.cell (i := 3) (by decide)
  have k4 : w1.cell? ⟨w.heap.size, 4, none⟩ = some (.bool false) := rp.cell (i := 4) (by decide)
  have k5 : w1.cell? ⟨w.heap.size, 5, none⟩ = some (.int .i64 0) := rp.cell (i := 5) (by decide)
  have k6 : w1.cell? ⟨w.heap.size, 6, none⟩ = some (.int .i64 0) := rp.cell (i := 6) (by decide)
  have lp : w.heap.size < w1.heap.size := cell_lt k0
  clear rp
  go_wp2_with fail
  refine (H2.out _ _ E1.out).mono ?_
  clear H2 k0 k1 k2 k3 k4 k5 k6 lp
  rintro e w2 ⟨V2, (⟨b2, hb2, rfl, E2⟩ | ⟨n2, rfl⟩)⟩
  rotate_left
  · exact ⟨rfl, hfr.out _ _ _ _ (Pt.next hb1.out V1.out (Pt.stop V2 n2))⟩
  have R2 : Hid (Wr (Sq B (fun k => P k ∨ k = w.heap.size) q) (w.alloc (.cells #[.string s1, .string s2, .int .i64 0, .int .i64 ty, .bool false, .int .i64 0, .int .i64 0] 40)) w2) := R1.out.trans V2
  replace V2 : Hid _ := V2
  replace E2 : Hid _ := E2
  replace hb2 : Hid (o2 = some b2) := hb2
  have rp := (R2.out).row hnp.out hrow.out
  have k0 : w2.cell? ⟨w.heap.size, 0, none⟩ = some (.string s1) := rp.cell (i := 0) (by decide)
  have k1 : w2.cell? ⟨w.heap.size, 1, none⟩ = some (.string s2) := rp.cell (i := 1) (by decide)
  have k2 : w2.cell? ⟨w.heap.size, 2, none⟩ = some (.int .i64 0) := rp.cell (i := 2) (by decide)
  have k3 : w2.cell? ⟨w.heap.size, 3, none⟩ = some (.int .i64 ty) := rp.cell (i := 3) (by decide)
  have k4 : w2.cell? ⟨w.heap.size, 4, none⟩ = some (.bool false) := rp.cell (i := 4) (by decide)
  have k5 : w2.cell? ⟨w.heap.size, 5, none⟩ = some (.int .i64 0) := rp.cell (i := 5) (by decide)
  have k6 : w2.cell? ⟨w.heap.size, 6, none⟩ = some (.int .i64 0) := rp.cell (i := 6) (by decide)
  have lp : w.heap.size < w2.heap.size := cell_lt k0
  clear rp
  go_wp2_with fail
  refine (H3.out _ _ E2.out).mono ?_
  clear H3 k0 k1 k2 k3 k4 k5 k6 lp
  rintro e w3 ⟨V3, (⟨b3, hb3, rfl, E3⟩ | ⟨n3, rfl⟩)⟩
  rotate_left
  · exact ⟨rfl, hfr.out _ _ _ _ (Pt.next hb1.out V1.out (Pt.next hb2.out V2.out (Pt.stop V3 n3)))⟩
  have R3 : Hid (Wr (Sq B (fun k => P k ∨ k = w.heap.size) q) (w.alloc (.cells #[.string s1, .string s2, .int .i64 0, .int .i64 ty, .bool false, .int .i64 0, .int .i64 0] 40)) w3) := R2.out.trans V3
  replace V3 : Hid _ := V3
  replace E3 : Hid _ := E3
  replace hb3 : Hid (o3 = some b3) := hb3
  have rp := (R3.out).row hnp.out hrow.out
  have k0 : w3.cell? ⟨w.heap.size, 0, none⟩ = some (.string s1) := rp.cell (i := 0) (by decide)
  have k1 : w3.cell? ⟨w.heap.size, 1, none⟩ = some (.string s2) := rp.cell (i := 1) (by decide)
  have k2 : w3.cell? ⟨w.heap.size, 2, none⟩ = some (.int .i64 0) := rp.cell (i := 2) (by decide)
  have k3 : w3.cell? ⟨w.heap.size, 3, none⟩ = some (.int .i64 ty) := rp.cell (i := 3) (by decide)
  have k4 : w3.cell? ⟨w.heap.size, 4, none⟩ = some (.bool false) := rp.cell (i := 4) (by decide)
  have k5 : w3.cell? ⟨w.heap.size, 5, none⟩ = some (.int .i64 0) := rp.cell (i := 5) (by decide)
  have k6 : w3.cell? ⟨w.heap.size, 6, none⟩ = some (.int .i64 0) := rp.cell (i := 6) (by decide)
  have lp : w.heap.size < w3.heap.size := cell_lt k0
  clear rp
  have hrow1 : Hid ((w3.alloc (.cells #[.string s1, .string s2, .int .i64 0, .int .i64 ty, .bool false, .int .i64 0, .int .i64 0] 40)).rowIs w.heap.size 40 7 (fun j => [.string s1, .string s2, .int .i64 0, .int .i64 ty, .bool false, .int .i64 0, .int .i64 0].getD j undef)) := rowIs_later (La (Lz _)) (R3.out.row hnp.out hrow.out)
  have hrow2 : Hid ((w3.alloc (.cells #[.string s1, .string s2, .int .i64 0, .int .i64 ty, .bool false, .int .i64 0, .int .i64 0] 40)).rowIs w3.heap.size 40 7 (fun j => [.string s1, .string s2, .int .i64 0, .int .i64 ty, .bool false, .int .i64 0, .int .i64 0].getD j undef)) := (row_new w3 40 [.string s1, .string s2, .int .i64 0, .int .i64 ty, .bool false, .int .i64 0, .int .i64 0])
  have F3 : Hid (Ew B (fun k => (fun k => P k ∨ k = w.heap.size) k ∨ k = w3.heap.size) q (w3.alloc (.cells #[.string s1, .string s2, .int .i64 0, .int .i64 ty, .bool false, .int .i64 0, .int .i64 0] 40)) (d ++ b1 ++ b2 ++ b3)) := Ew.with_block E3.out (La (Lz _)) (by simp)
  have S3 : Hid (Wr (Sq B (fun k => (fun k => P k ∨ k = w.heap.size) k ∨ k = w3.heap.size) q) (w3.alloc (.cells #[.string s1, .string s2, .int .i64 0, .int .i64 ty, .bool false, .int .i64 0, .int .i64 0] 40)) (w3.alloc (.cells #[.string s1, .string s2, .int .i64 0, .int .i64 ty, .bool false, .int .i64 0, .int .i64 0] 40))) := Wr.refl _ _
  have hf2 : Hid (∀ (r : Value) (o : Ob) (e : Ending) (w' : World), Pt B (fun k => (fun k => P k ∨ k = w.heap.size) k ∨ k = w3.heap.size) q (w3.alloc (.cells #[.string s1, .string s2, .int .i64 0, .int .i64 ty, .bool false, .int .i64 0, .int .i64 0] 40)) (d ++ b1 ++ b2 ++ b3) o r e w' → Pt B (fun k => P k ∨ k = w.heap.size) q w3 (d ++ b1 ++ b2 ++ b3) o r e w') := fun r o e w' h => (h.drop (fun k hk => Or.inl hk)).ahead (sq_later (La (Lz _)))
  have hq3 : q < w3.heap.size := Nat.lt_of_lt_of_le (show q < w.heap.size + 1 by omega) (by have := R3.out.size; simpa using this)
  have hn1 : Hid (¬ Sq B (fun k => (fun k => P k ∨ k = w.heap.size) k ∨ k = w3.heap.size) q w.heap.size) := fun x => by rcases x with x | x; omega; exact x.2 (Or.inl (Or.inr rfl))
  have hn2 : Hid (¬ Sq B (fun k => (fun k => P k ∨ k = w.heap.size) k ∨ k = w3.heap.size) q w3.heap.size) := fun x => by rcases x with x | x; omega; exact x.2 (Or.inr rfl)
  clear E0 hq hq3
  go_wp2_with fail
  refine (H4.out _ _ _ F3.out).mono ?_
  clear H4 k0 k1 k2 k3 k4 k5 k6 lp
  rintro e w4 ⟨V4, (⟨b4, hb4, rfl, F4⟩ | ⟨n4, rfl⟩)⟩
  rotate_left
  · exact ⟨rfl, hfr.out _ _ _ _ (Pt.next hb1.out V1.out (Pt.next hb2.out V2.out (Pt.next hb3.out V3.out (hf2.out _ _ _ _ (Pt.bad V4 n4)))))⟩
  have S4 : Hid (Wr (Sq B (fun k => (fun k => P k ∨ k = w.heap.size) k ∨ k = w3.heap.size) q) (w3.alloc (.cells #[.string s1, .string s2, .int .i64 0, .int .i64 ty, .bool false, .int .i64 0, .int .i64 0] 40)) w4) := S3.out.trans V4
  replace V4 : Hid _ := V4
  replace F4 : Hid _ := F4
  replace hb4 : Hid (o4 = some b4) := hb4
  have rp := (S4.out).row hn1.out hrow1.out
  have k0 : w4.cell? ⟨w.heap.size, 0, none⟩ = some (.string s1) := rp.cell (i := 0) (by decide)
  have k1 : w4.cell? ⟨w.heap.size, 1, none⟩ = some (.string s2) := rp.cell (i := 1) (by decide)
  have k2 : w4.cell? ⟨w.heap.size, 2, none⟩ = some (.int .i64 0) := rp.cell (i := 2) (by decide)
  have k3 : w4.cell? ⟨w.heap.size, 3, none⟩ = some (.int .i64 ty) := rp.cell (i := 3) (by decide)
  have k4 : w4.cell? ⟨w.heap.size, 4, none⟩ = some (.bool false) := rp.cell (i := 4) (by decide)
  have k5 : w4.cell? ⟨w.heap.size, 5, none⟩ = some (.int .i64 0) := rp.cell (i := 5) (by decide)
  have k6 : w4.cell? ⟨w.heap.size, 6, none⟩ = some (.int .i64 0) := rp.cell (i := 6) (by decide)
  have rp2 := (S4.out).row hn2.out hrow2.out
  have r0 : w4.cell? ⟨w3.heap.size, 0, none⟩ = some (.string s1) := rp2.cell (i := 0) (by decide)
  have r1 : w4.cell? ⟨w3.heap.size, 1, none⟩ = some (.string s2) := rp2.cell (i := 1) (by decide)
  have r2 : w4.cell? ⟨w3.heap.size, 2, none⟩ = some (.int .i64 0) := rp2.cell (i := 2) (by decide)
  have r3 : w4.cell? ⟨w3.heap.size, 3, none⟩ = some (.int .i64 ty) := rp2.cell (i := 3) (by decide)
  have r4 : w4.cell? ⟨w3.heap.size, 4, none⟩ = some (.bool false) := rp2.cell (i := 4) (by decide)
  have r5 : w4.cell? ⟨w3.heap.size, 5, none⟩ = some (.int .i64 0) := rp2.cell (i := 5) (by decide)
  have r6 : w4.cell? ⟨w3.heap.size, 6, none⟩ = some (.int .i64 0) := rp2.cell (i := 6) (by decide)
  have lp : w.heap.size < w4.heap.size := cell_lt k0
  have lr : w3.heap.size < w4.heap.size := cell_lt r0
  clear rp rp2
  clear hrow hrow1 hrow2 hn1 hn2 hnp R0 R1 R2 R3 E1 E2 E3
  go_wp2_with (go_at_call 10; refine (hn.out _).mono ?_; rintro e w0 ⟨rfl, hw0⟩; obtain rfl := hw0.symm)
  go_end0
  exact hfr.out _ _ _ _ (Pt.next hb1.out V1.out (Pt.next hb2.out V2.out (Pt.next hb3.out V3.out (hf2.out _ _ _ _ (⟨V4.out, Or.inl ⟨b4, hb4.out, rfl, F4.out⟩⟩)))))
theorem imp0b (s1 s2 : ByteArray) (h1 : s1.size < 9223372036854775000) (h2 : s2.size < 9223372036854775000) (ty : Int) (mu : Bool) (l1 l2 : Int) (hz : ¬ (mu = false ∧ l1 = 0 ∧ l2 = 0)) (h : Ew B P q w d) :
    Calls Try.prog 30 #[.pointer (some ⟨q, 0, none⟩), .agg #[.string s1, .string s2, .int .i64 0, .int .i64 ty, .bool mu, .int .i64 l1, .int .i64 l2]] w (Pt B P q w d (oB (eT s1) (oB (eT s2) (oB (eKi 0) (none)))) (.tuple #[])) := by
  have hq := h.lt_q
  have H1 : Hid (∀ (W : World) (d : List Int), Ew B (fun k => P k ∨ k = w.heap.size) q W d → Calls Try.prog 47 #[.pointer (some ⟨q, 0, none⟩), .string s1] W (Pt B (fun k => P k ∨ k = w.heap.size) q W d (eT s1) (.tuple #[]))) := fun W d h => name_any s1 h1 h
  have H2 : Hid (∀ (W : World) (d : List Int), Ew B (fun k => P k ∨ k = w.heap.size) q W d → Calls Try.prog 47 #[.pointer (some ⟨q, 0, none⟩), .string s2] W (Pt B (fun k => P k ∨ k = w.heap.size) q W d (eT s2) (.tuple #[]))) := fun W d h => name_any s2 h2 h
  have H3 : Hid (∀ (W : World) (d : List Int), Ew B (fun k => P k ∨ k = w.heap.size) q W d → Calls Try.prog 48 #[.pointer (some ⟨q, 0, none⟩), .int .i64 0] W (Pt B (fun k => P k ∨ k = w.heap.size) q W d (eKi 0) (.tuple #[]))) := fun W d h => kind_any 0 h
  have H4 : Hid (∀ (Q : Nat → Prop) (W : World) (d : List Int), Ew B Q q W d → Calls Try.prog 32 #[.pointer (some ⟨q, 0, none⟩), .int .i64 ty] W (Pt B Q q W d (eN ty) (.tuple #[]))) := fun Q W d h => number_any ty h
  have hn : Hid (∀ w : World, Calls Try.prog 10 #[.bool false] w fun e w' => e = thn ∧ w' = w) := need_bad
  have hrow : Hid ((w.alloc (.cells #[.string s1, .string s2, .int .i64 0, .int .i64 ty, .bool mu, .int .i64 l1, .int .i64 l2] 40)).rowIs w.heap.size 40 7 (fun j => [.string s1, .string s2, .int .i64 0, .int .i64 ty, .bool mu, .int .i64 l1, .int .i64 l2].getD j undef)) := row_new w 40 [.string s1, .string s2, .int .i64 0, .int .i64 ty, .bool mu, .int .i64 l1, .int .i64 l2]
  have E0 : Hid (Ew B (fun k => P k ∨ k = w.heap.size) q (w.alloc (.cells #[.string s1, .string s2, .int .i64 0, .int .i64 ty, .bool mu, .int .i64 l1, .int .i64 l2] 40)) d) := h.with_block (La (Lz _)) (by simp)
  have R0 : Hid (Wr (Sq B (fun k => P k ∨ k = w.heap.size) q) (w.alloc (.cells #[.string s1, .string s2, .int .i64 0, .int .i64 ty, .bool mu, .int .i64 l1, .int .i64 l2] 40)) (w.alloc (.cells #[.string s1, .string s2, .int .i64 0, .int .i64 ty, .bool mu, .int .i64 l1, .int .i64 l2] 40))) := Wr.refl _ _
  have hfr : Hid (∀ (r : Value) (o : Ob) (e : Ending) (w' : World), Pt B (fun k => P k ∨ k = w.heap.size) q (w.alloc (.cells #[.string s1, .string s2, .int .i64 0, .int .i64 ty, .bool mu, .int .i64 l1, .int .i64 l2] 40)) d o r e w' → Pt B P q w d o r e w') := fun r o e w' h => (h.drop (fun k hk => Or.inl hk)).ahead (sq_later (La (Lz _)))
  have hnp : Hid (¬ Sq B (fun k => P k ∨ k = w.heap.size) q w.heap.size) := fun x => by rcases x with x | x; omega; exact x.2 (Or.inr rfl)
  clear h h1 h2
  generalize ho1 : eT s1 = o1 at *
  clear ho1
  generalize ho2 : eT s2 = o2 at *
  clear ho2
  generalize ho3 : eKi 0 = o3 at *
  clear ho3
  generalize ho4 : eN ty = o4 at *
  clear ho4
  go_enter Try.func30, Try.ntmps30
  have rp := (R0.out).row hnp.out hrow.out
  have k0 : (w.alloc (.cells #[.string s1, .string s2, .int .i64 0, .int .i64 ty, .bool mu, .int .i64 l1, .int .i64 l2] 40)).cell? ⟨w.heap.size, 0, none⟩ = some (.string s1) := rp.cell (i := 0) (by decide)
  have k1 : (w.alloc (.cells #[.string s1, .string s2, .int .i64 0, .int .i64 ty, .bool mu, .int .i64 l1, .int .i64 l2] 40)).cell? ⟨w.heap.size, 1, none⟩ = some (.string s2) := rp.cell (i := 1) (by decide)
  have k2 : (w.alloc (.cells #[.string s1, .string s2, .int .i64 0, .int .i64 ty, .bool mu, .int .i64 l1, .int .i64 l2] 40)).cell? ⟨w.heap.size, 2, none⟩ = some (.int .i64 0) := rp.cell (i := 2) (by decide)
  have k3 : (w.alloc (.cells #[.string s1, .string s2, .int .i64 0, .int .i64 ty, .bool mu, .int .i64 l1, .int .i64 l2] 40)).cell? ⟨w.heap.size, 3, none⟩ = some (.int .i64 ty) := rp.cell (i := 3) (by decide)
  have k4 : (w.alloc (.cells #[.string s1, .string s2, .int .i64 0, .int .i64 ty, .bool mu, .int .i64 l1, .int .i64 l2] 40)).cell? ⟨w.heap.size, 4, none⟩ = some (.bool mu) := rp.cell (i := 4) (by decide)
  have k5 : (w.alloc (.cells #[.string s1, .string s2, .int .i64 0, .int .i64 ty, .bool mu, .int .i64 l1, .int .i64 l2] 40)).cell? ⟨w.heap.size, 5, none⟩ = some (.int .i64 l1) := rp.cell (i := 5) (by decide)
  have k6 : (w.alloc (.cells #[.string s1, .string s2, .int .i64 0, .int .i64 ty, .bool mu, .int .i64 l1, .int .i64 l2] 40)).cell? ⟨w.heap.size, 6, none⟩ = some (.int .i64 l2) := rp.cell (i := 6) (by decide)
  have lp : w.heap.size < (w.alloc (.cells #[.string s1, .string s2, .int .i64 0, .int .i64 ty, .bool mu, .int .i64 l1, .int .i64 l2] 40)).heap.size := cell_lt k0
  clear rp
  go_wp2_with fail
  refine (H1.out _ _ E0.out).mono ?_
  clear H1 k0 k1 k2 k3 k4 k5 k6 lp
  rintro e w1 ⟨V1, (⟨b1, hb1, rfl, E1⟩ | ⟨n1, rfl⟩)⟩
  rotate_left
  · exact ⟨rfl, hfr.out _ _ _ _ (Pt.stop V1 n1)⟩
  have R1 : Hid (Wr (Sq B (fun k => P k ∨ k = w.heap.size) q) (w.alloc (.cells #[.string s1, .string s2, .int .i64 0, .int .i64 ty, .bool mu, .int .i64 l1, .int .i64 l2] 40)) w1) := R0.out.trans V1
  replace V1 : Hid _ := V1
  replace E1 : Hid _ := E1
  replace hb1 : Hid (o1 = some b1) := hb1
  have rp := (R1.out).row hnp.out hrow.out
  have k0 : w1.cell? ⟨w.heap.size, 0, none⟩ = some (.string s1) := rp.cell (i := 0) (by decide)
  have k1 : w1.cell? ⟨w.heap.size, 1, none⟩ = some (.string s2) := rp.cell (i := 1) (by decide)
  have k2 : w1.cell? ⟨w.heap.size, 2, none⟩ = some (.int .i64 0) := rp.cell (i := 2) (by decide)
  have k3 : w1.cell? ⟨w.heap.size, 3, none⟩ = some (.int .i64 ty) := rp.cell (i := 3) (by decide)
  have k4 : w1.cell? ⟨w.heap.size, 4, none⟩ = some (.bool mu) := rp.cell (i := 4) (by decide)
  have k5 : w1.cell? ⟨w.heap.size, 5, none⟩ = some (.int .i64 l1) := rp.cell (i := 5) (by decide)
  have k6 : w1.cell? ⟨w.heap.size, 6, none⟩ = some (.int .i64 l2) := rp.cell (i := 6) (by decide)
  have lp : w.heap.size < w1.heap.size := cell_lt k0
  clear rp
  go_wp2_with fail
  refine (H2.out _ _ E1.out).mono ?_
  clear H2 k0 k1 k2 k3 k4 k5 k6 lp
  rintro e w2 ⟨V2, (⟨b2, hb2, rfl, E2⟩ | ⟨n2, rfl⟩)⟩
  rotate_left
  · exact ⟨rfl, hfr.out _ _ _ _ (Pt.next hb1.out V1.out (Pt.stop V2 n2))⟩
  have R2 : Hid (Wr (Sq B (fun k => P k ∨ k = w.heap.size) q) (w.alloc (.cells #[.string s1, .string s2, .int .i64 0, .int .i64 ty, .bool mu, .int .i64 l1, .int .i64 l2] 40)) w2) := R1.out.trans V2
  replace V2 : Hid _ := V2
  replace E2 : Hid _ := E2
  replace hb2 : Hid (o2 = some b2) := hb2
  have rp := (R2.out).row hnp.out hrow.out
  have k0 : w2.cell? ⟨w.heap.size, 0, none⟩ = some (.string s1) := rp.cell (i := 0) (by decide)
  have k1 : w2.cell? ⟨w.heap.size, 1, none⟩ = some (.string s2) := rp.cell (i := 1) (by decide)
  have k2 : w2.cell? ⟨w.heap.size, 2, none⟩ = some (.int .i64 0) := rp.cell (i := 2) (by decide)
  have k3 : w2.cell? ⟨w.heap.size, 3, none⟩ = some (.int .i64 ty) := rp.cell (i := 3) (by decide)
  have k4 : w2.cell? ⟨w.heap.size, 4, none⟩ = some (.bool mu) := rp.cell (i := 4) (by decide)
  have k5 : w2.cell? ⟨w.heap.size, 5, none⟩ = some (.int .i64 l1) := rp.cell (i := 5) (by decide)
  have k6 : w2.cell? ⟨w.heap.size, 6, none⟩ = some (.int .i64 l2) := rp.cell (i := 6) (by decide)
  have lp : w.heap.size < w2.heap.size := cell_lt k0
  clear rp
  go_wp2_with fail
  refine (H3.out _ _ E2.out).mono ?_
  clear H3 k0 k1 k2 k3 k4 k5 k6 lp
  rintro e w3 ⟨V3, (⟨b3, hb3, rfl, E3⟩ | ⟨n3, rfl⟩)⟩
  rotate_left
  · exact ⟨rfl, hfr.out _ _ _ _ (Pt.next hb1.out V1.out (Pt.next hb2.out V2.out (Pt.stop V3 n3)))⟩
  have R3 : Hid (Wr (Sq B (fun k => P k ∨ k = w.heap.size) q) (w.alloc (.cells #[.string s1, .string s2, .int .i64 0, .int .i64 ty, .bool mu, .int .i64 l1, .int .i64 l2] 40)) w3) := R2.out.trans V3
  replace V3 : Hid _ := V3
  replace E3 : Hid _ := E3
  replace hb3 : Hid (o3 = some b3) := hb3
  have rp := (R3.out).row hnp.out hrow.out
  have k0 : w3.cell? ⟨w.heap.size, 0, none⟩ = some (.string s1) := rp.cell (i := 0) (by decide)
  have k1 : w3.cell? ⟨w.heap.size, 1, none⟩ = some (.string s2) := rp.cell (i := 1) (by decide)
  have k2 : w3.cell? ⟨w.heap.size, 2, none⟩ = some (.int .i64 0) := rp.cell (i := 2) (by decide)
  have k3 : w3.cell? ⟨w.heap.size, 3, none⟩ = some (.int .i64 ty) := rp.cell (i := 3) (by decide)
  have k4 : w3.cell? ⟨w.heap.size, 4, none⟩ = some (.bool mu) := rp.cell (i := 4) (by decide)
  have k5 : w3.cell? ⟨w.heap.size, 5, none⟩ = some (.int .i64 l1) := rp.cell (i := 5) (by decide)
  have k6 : w3.cell? ⟨w.heap.size, 6, none⟩ = some (.int .i64 l2) := rp.cell (i := 6) (by decide)
  have lp : w.heap.size < w3.heap.size := cell_lt k0
  clear rp
  have hrow1 : Hid ((w3.alloc (.cells #[.string s1, .string s2, .int .i64 0, .int .i64 ty, .bool false, .int .i64 0, .int .i64 0] 40)).rowIs w.heap.size 40 7 (fun j => [.string s1, .string s2, .int .i64 0, .int .i64 ty, .bool mu, .int .i64 l1, .int .i64 l2].getD j undef)) := rowIs_later (La (Lz _)) (R3.out.row hnp.out hrow.out)
  have hrow2 : Hid ((w3.alloc (.cells #[.string s1, .string s2, .int .i64 0, .int .i64 ty, .bool false, .int .i64 0, .int .i64 0] 40)).rowIs w3.heap.size 40 7 (fun j => [.string s1, .string s2, .int .i64 0, .int .i64 ty, .bool false, .int .i64 0, .int .i64 0].getD j undef)) := (row_new w3 40 [.string s1, .string s2, .int .i64 0, .int .i64 ty, .bool false, .int .i64 0, .int .i64 0])
  have F3 : Hid (Ew B (fun k => (fun k => P k ∨ k = w.heap.size) k ∨ k = w3.heap.size) q (w3.alloc (.cells #[.string s1, .string s2, .int .i64 0, .int .i64 ty, .bool false, .int .i64 0, .int .i64 0] 40)) (d ++ b1 ++ b2 ++ b3)) := Ew.with_block E3.out (La (Lz _)) (by simp)
  have S3 : Hid (Wr (Sq B (fun k => (fun k => P k ∨ k = w.heap.size) k ∨ k = w3.heap.size) q) (w3.alloc (.cells #[.string s1, .string s2, .int .i64 0, .int .i64 ty, .bool false, .int .i64 0, .int .i64 0] 40)) (w3.alloc (.cells #[.string s1, .string s2, .int .i64 0, .int .i64 ty, .bool false, .int .i64 0, .int .i64 0] 40))) := Wr.refl _ _
  have hf2 : Hid (∀ (r : Value) (o : Ob) (e : Ending) (w' : World), Pt B (fun k => (fun k => P k ∨ k = w.heap.size) k ∨ k = w3.heap.size) q (w3.alloc (.cells #[.string s1, .string s2, .int .i64 0, .int .i64 ty, .bool false, .int .i64 0, .int .i64 0] 40)) (d ++ b1 ++ b2 ++ b3) o r e w' → Pt B (fun k => P k ∨ k = w.heap.size) q w3 (d ++ b1 ++ b2 ++ b3) o r e w') := fun r o e w' h => (h.drop (fun k hk => Or.inl hk)).ahead (sq_later (La (Lz _)))
  have hq3 : q < w3.heap.size := Nat.lt_of_lt_of_le (show q < w.heap.size + 1 by omega) (by have := R3.out.size; simpa using this)
  have hn1 : Hid (¬ Sq B (fun k => (fun k => P k ∨ k = w.heap.size) k ∨ k = w3.heap.size) q w.heap.size) := fun x => by rcases x with x | x; omega; exact x.2 (Or.inl (Or.inr rfl))
  have hn2 : Hid (¬ Sq B (fun k => (fun k => P k ∨ k = w.heap.size) k ∨ k = w3.heap.size) q w3.heap.size) := fun x => by rcases x with x | x; omega; exact x.2 (Or.inr rfl)
  clear E0 hq hq3
  go_wp2_with fail
  refine (H4.out _ _ _ F3.out).mono ?_
  clear H4 k0 k1 k2 k3 k4 k5 k6 lp
  rintro e w4 ⟨V4, (⟨b4, hb4, rfl, F4⟩ | ⟨n4, rfl⟩)⟩
  rotate_left
  · exact ⟨rfl, hfr.out _ _ _ _ (Pt.next hb1.out V1.out (Pt.next hb2.out V2.out (Pt.next hb3.out V3.out (hf2.out _ _ _ _ (Pt.bad (S3.out.trans V4) (fit_none _))))))⟩
  have S4 : Hid (Wr (Sq B (fun k => (fun k => P k ∨ k = w.heap.size) k ∨ k = w3.heap.size) q) (w3.alloc (.cells #[.string s1, .string s2, .int .i64 0, .int .i64 ty, .bool false, .int .i64 0, .int .i64 0] 40)) w4) := S3.out.trans V4
  replace V4 : Hid _ := V4
  replace F4 : Hid _ := F4
  replace hb4 : Hid (o4 = some b4) := hb4
  have rp := (S4.out).row hn1.out hrow1.out
  have k0 : w4.cell? ⟨w.heap.size, 0, none⟩ = some (.string s1) := rp.cell (i := 0) (by decide)
  have k1 : w4.cell? ⟨w.heap.size, 1, none⟩ = some (.string s2) := rp.cell (i := 1) (by decide)
  have k2 : w4.cell? ⟨w.heap.size, 2, none⟩ = some (.int .i64 0) := rp.cell (i := 2) (by decide)
  have k3 : w4.cell? ⟨w.heap.size, 3, none⟩ = some (.int .i64 ty) := rp.cell (i := 3) (by decide)
  have k4 : w4.cell? ⟨w.heap.size, 4, none⟩ = some (.bool mu) := rp.cell (i := 4) (by decide)
  have k5 : w4.cell? ⟨w.heap.size, 5, none⟩ = some (.int .i64 l1) := rp.cell (i := 5) (by decide)
  have k6 : w4.cell? ⟨w.heap.size, 6, none⟩ = some (.int .i64 l2) := rp.cell (i := 6) (by decide)
  have rp2 := (S4.out).row hn2.out hrow2.out
  have r0 : w4.cell? ⟨w3.heap.size, 0, none⟩ = some (.string s1) := rp2.cell (i := 0) (by decide)
  have r1 : w4.cell? ⟨w3.heap.size, 1, none⟩ = some (.string s2) := rp2.cell (i := 1) (by decide)
  have r2 : w4.cell? ⟨w3.heap.size, 2, none⟩ = some (.int .i64 0) := rp2.cell (i := 2) (by decide)
  have r3 : w4.cell? ⟨w3.heap.size, 3, none⟩ = some (.int .i64 ty) := rp2.cell (i := 3) (by decide)
  have r4 : w4.cell? ⟨w3.heap.size, 4, none⟩ = some (.bool false) := rp2.cell (i := 4) (by decide)
  have r5 : w4.cell? ⟨w3.heap.size, 5, none⟩ = some (.int .i64 0) := rp2.cell (i := 5) (by decide)
  have r6 : w4.cell? ⟨w3.heap.size, 6, none⟩ = some (.int .i64 0) := rp2.cell (i := 6) (by decide)
  have lp : w.heap.size < w4.heap.size := cell_lt k0
  have lr : w3.heap.size < w4.heap.size := cell_lt r0
  clear rp rp2
  clear hrow hrow1 hrow2 hn1 hn2 hnp R0 R1 R2 R3 E1 E2 E3
  replace hz : Hid (¬ (mu = false ∧ l1 = 0 ∧ l2 = 0)) := hz
  go_wp2_with (go_at_call 10; refine (hn.out _).mono ?_; rintro e w0 ⟨rfl, hw0⟩; obtain rfl := hw0.symm)
  all_goals first | exact ⟨rfl, hfr.out _ _ _ _ (Pt.next hb1.out V1.out (Pt.next hb2.out V2.out (Pt.next hb3.out V3.out (hf2.out _ _ _ _ (Pt.bad S4.out (fit_none _))))))⟩ | exact absurd (by first | exact ⟨rfl, rfl, rfl⟩ | exact ⟨rfl, rfl⟩ | (refine ⟨?_, ?_, ?_⟩ <;> assumption) | (refine ⟨?_, ?_⟩ <;> assumption) | simp_all) hz.out
theorem imp1 (s1 s2 : ByteArray) (h1 : s1.size < 9223372036854775000) (h2 : s2.size < 9223372036854775000) (l1 l2 : Int) (h : Ew B P q w d) :
    Calls Try.prog 30 #[.pointer (some ⟨q, 0, none⟩), .agg #[.string s1, .string s2, .int .i64 1, .int .i64 0, .bool false, .int .i64 l1, .int .i64 l2]] w (Pt B P q w d (oB (eT s1) (oB (eT s2) (oB (eKi 1) (eTa (l1, l2))))) (.tuple #[])) := by
  have hq := h.lt_q
  have H1 : Hid (∀ (W : World) (d : List Int), Ew B (fun k => P k ∨ k = w.heap.size) q W d → Calls Try.prog 47 #[.pointer (some ⟨q, 0, none⟩), .string s1] W (Pt B (fun k => P k ∨ k = w.heap.size) q W d (eT s1) (.tuple #[]))) := fun W d h => name_any s1 h1 h
  have H2 : Hid (∀ (W : World) (d : List Int), Ew B (fun k => P k ∨ k = w.heap.size) q W d → Calls Try.prog 47 #[.pointer (some ⟨q, 0, none⟩), .string s2] W (Pt B (fun k => P k ∨ k = w.heap.size) q W d (eT s2) (.tuple #[]))) := fun W d h => name_any s2 h2 h
  have H3 : Hid (∀ (W : World) (d : List Int), Ew B (fun k => P k ∨ k = w.heap.size) q W d → Calls Try.prog 48 #[.pointer (some ⟨q, 0, none⟩), .int .i64 1] W (Pt B (fun k => P k ∨ k = w.heap.size) q W d (eKi 1) (.tuple #[]))) := fun W d h => kind_any 1 h
  have H4 : Hid (∀ (Q : Nat → Prop) (W : World) (d : List Int), Ew B Q q W d → Calls Try.prog 34 #[.pointer (some ⟨q, 0, none⟩), .agg #[.int .i64 l1, .int .i64 l2]] W (Pt B Q q W d (eTa (l1, l2)) (.tuple #[]))) := fun Q W d h => table_any (l1, l2) h
  have hn : Hid (∀ w : World, Calls Try.prog 10 #[.bool true] w fun e w' => e = .returned (.tuple #[]) ∧ w' = w) := need_ok
  have hrow : Hid ((w.alloc (.cells #[.string s1, .string s2, .int .i64 1, .int .i64 0, .bool false, .int .i64 l1, .int .i64 l2] 40)).rowIs w.heap.size 40 7 (fun j => [.string s1, .string s2, .int .i64 1, .int .i64 0, .bool false, .int .i64 l1, .int .i64 l2].getD j undef)) := row_new w 40 [.string s1, .string s2, .int .i64 1, .int .i64 0, .bool false, .int .i64 l1, .int .i64 l2]
  have E0 : Hid (Ew B (fun k => P k ∨ k = w.heap.size) q (w.alloc (.cells #[.string s1, .string s2, .int .i64 1, .int .i64 0, .bool false, .int .i64 l1, .int .i64 l2] 40)) d) := h.with_block (La (Lz _)) (by simp)
  have R0 : Hid (Wr (Sq B (fun k => P k ∨ k = w.heap.size) q) (w.alloc (.cells #[.string s1, .string s2, .int .i64 1, .int .i64 0, .bool false, .int .i64 l1, .int .i64 l2] 40)) (w.alloc (.cells #[.string s1, .string s2, .int .i64 1, .int .i64 0, .bool false, .int .i64 l1, .int .i64 l2] 40))) := Wr.refl _ _
  have hfr : Hid (∀ (r : Value) (o : Ob) (e : Ending) (w' : World), Pt B (fun k => P k ∨ k = w.heap.size) q (w.alloc (.cells #[.string s1, .string s2, .int .i64 1, .int .i64 0, .bool false, .int .i64 l1, .int .i64 l2] 40)) d o r e w' → Pt B P q w d o r e w') := fun r o e w' h => (h.drop (fun k hk => Or.inl hk)).ahead (sq_later (La (Lz _)))
  have hnp : Hid (¬ Sq B (fun k => P k ∨ k = w.heap.size) q w.heap.size) := fun x => by rcases x with x | x; omega; exact x.2 (Or.inr rfl)
  clear h h1 h2
  generalize ho1 : eT s1 = o1 at *
  clear ho1
  generalize ho2 : eT s2 = o2 at *
  clear ho2
  generalize ho3 : eKi 1 = o3 at *
  clear ho3
  generalize ho4 : eTa (l1, l2) = o4 at *
  clear ho4
  go_enter Try.func30, Try.ntmps30
  have rp := (R0.out).row hnp.out hrow.out
  have k0 : (w.alloc (.cells #[.string s1, .string s2, .int .i64 1, .int .i64 0, .bool false, .int .i64 l1, .int .i64 l2] 40)).cell? ⟨w.heap.size, 0, none⟩ = some (.string s1) := rp.cell (i := 0) (by decide)
  have k1 : (w.alloc (.cells #[.string s1, .string s2, .int .i64 1, .int .i64 0, .bool false, .int .i64 l1, .int .i64 l2] 40)).cell? ⟨w.heap.size, 1, none⟩ = some (.string s2) := rp.cell (i := 1) (by decide)
  have k2 : (w.alloc (.cells #[.string s1, .string s2, .int .i64 1, .int .i64 0, .bool false, .int .i64 l1, .int .i64 l2] 40)).cell? ⟨w.heap.size, 2, none⟩ = some (.int .i64 1) := rp.cell (i := 2) (by decide)
  have k3 : (w.alloc (.cells #[.string s1, .string s2, .int .i64 1, .int .i64 0, .bool false, .int .i64 l1, .int .i64 l2] 40)).cell? ⟨w.heap.size, 3, none⟩ = some (.int .i64 0) := rp.cell (i := 3) (by decide)
  have k4 : (w.alloc (.cells #[.string s1, .string s2, .int .i64 1, .int .i64 0, .bool false, .int .i64 l1, .int .i64 l2] 40)).cell? ⟨w.heap.size, 4, none⟩ = some (.bool false) := rp.cell (i := 4) (by decide)
  have k5 : (w.alloc (.cells #[.string s1, .string s2, .int .i64 1, .int .i64 0, .bool false, .int .i64 l1, .int .i64 l2] 40)).cell? ⟨w.heap.size, 5, none⟩ = some (.int .i64 l1) := rp.cell (i := 5) (by decide)
  have k6 : (w.alloc (.cells #[.string s1, .string s2, .int .i64 1, .int .i64 0, .bool false, .int .i64 l1, .int .i64 l2] 40)).cell? ⟨w.heap.size, 6, none⟩ = some (.int .i64 l2) := rp.cell (i := 6) (by decide)
  have lp : w.heap.size < (w.alloc (.cells #[.string s1, .string s2, .int .i64 1, .int .i64 0, .bool false, .int .i64 l1, .int .i64 l2] 40)).heap.size := cell_lt k0
  clear rp
  go_wp2_with fail
  refine (H1.out _ _ E0.out).mono ?_
  clear H1 k0 k1 k2 k3 k4 k5 k6 lp
  rintro e w1 ⟨V1, (⟨b1, hb1, rfl, E1⟩ | ⟨n1, rfl⟩)⟩
  rotate_left
  · exact ⟨rfl, hfr.out _ _ _ _ (Pt.stop V1 n1)⟩
  have R1 : Hid (Wr (Sq B (fun k => P k ∨ k = w.heap.size) q) (w.alloc (.cells #[.string s1, .string s2, .int .i64 1, .int .i64 0, .bool false, .int .i64 l1, .int .i64 l2] 40)) w1) := R0.out.trans V1
  replace V1 : Hid _ := V1
  replace E1 : Hid _ := E1
  replace hb1 : Hid (o1 = some b1) := hb1
  have rp := (R1.out).row hnp.out hrow.out
  have k0 : w1.cell? ⟨w.heap.size, 0, none⟩ = some (.string s1) := rp.cell (i := 0) (by decide)
  have k1 : w1.cell? ⟨w.heap.size, 1, none⟩ = some (.string s2) := rp.cell (i := 1) (by decide)
  have k2 : w1.cell? ⟨w.heap.size, 2, none⟩ = some (.int .i64 1) := rp.cell (i := 2) (by decide)
  have k3 : w1.cell? ⟨w.heap.size, 3, none⟩ = some (.int .i64 0) := rp.cell (i := 3) (by decide)
  have k4 : w1.cell? ⟨w.heap.size, 4, none⟩ = some (.bool false) := rp.cell (i := 4) (by decide)
  have k5 : w1.cell? ⟨w.heap.size, 5, none⟩ = some (.int .i64 l1) := rp.cell (i := 5) (by decide)
  have k6 : w1.cell? ⟨w.heap.size, 6, none⟩ = some (.int .i64 l2) := rp.cell (i := 6) (by decide)
  have lp : w.heap.size < w1.heap.size := cell_lt k0
  clear rp
  go_wp2_with fail
  refine (H2.out _ _ E1.out).mono ?_
  clear H2 k0 k1 k2 k3 k4 k5 k6 lp
  rintro e w2 ⟨V2, (⟨b2, hb2, rfl, E2⟩ | ⟨n2, rfl⟩)⟩
  rotate_left
  · exact ⟨rfl, hfr.out _ _ _ _ (Pt.next hb1.out V1.out (Pt.stop V2 n2))⟩
  have R2 : Hid (Wr (Sq B (fun k => P k ∨ k = w.heap.size) q) (w.alloc (.cells #[.string s1, .string s2, .int .i64 1, .int .i64 0, .bool false, .int .i64 l1, .int .i64 l2] 40)) w2) := R1.out.trans V2
  replace V2 : Hid _ := V2
  replace E2 : Hid _ := E2
  replace hb2 : Hid (o2 = some b2) := hb2
  have rp := (R2.out).row hnp.out hrow.out
  have k0 : w2.cell? ⟨w.heap.size, 0, none⟩ = some (.string s1) := rp.cell (i := 0) (by decide)
  have k1 : w2.cell? ⟨w.heap.size, 1, none⟩ = some (.string s2) := rp.cell (i := 1) (by decide)
  have k2 : w2.cell? ⟨w.heap.size, 2, none⟩ = some (.int .i64 1) := rp.cell (i := 2) (by decide)
  have k3 : w2.cell? ⟨w.heap.size, 3, none⟩ = some (.int .i64 0) := rp.cell (i := 3) (by decide)
  have k4 : w2.cell? ⟨w.heap.size, 4, none⟩ = some (.bool false) := rp.cell (i := 4) (by decide)
  have k5 : w2.cell? ⟨w.heap.size, 5, none⟩ = some (.int .i64 l1) := rp.cell (i := 5) (by decide)
  have k6 : w2.cell? ⟨w.heap.size, 6, none⟩ = some (.int .i64 l2) := rp.cell (i := 6) (by decide)
  have lp : w.heap.size < w2.heap.size := cell_lt k0
  clear rp
  go_wp2_with fail
  refine (H3.out _ _ E2.out).mono ?_
  clear H3 k0 k1 k2 k3 k4 k5 k6 lp
  rintro e w3 ⟨V3, (⟨b3, hb3, rfl, E3⟩ | ⟨n3, rfl⟩)⟩
  rotate_left
  · exact ⟨rfl, hfr.out _ _ _ _ (Pt.next hb1.out V1.out (Pt.next hb2.out V2.out (Pt.stop V3 n3)))⟩
  have R3 : Hid (Wr (Sq B (fun k => P k ∨ k = w.heap.size) q) (w.alloc (.cells #[.string s1, .string s2, .int .i64 1, .int .i64 0, .bool false, .int .i64 l1, .int .i64 l2] 40)) w3) := R2.out.trans V3
  replace V3 : Hid _ := V3
  replace E3 : Hid _ := E3
  replace hb3 : Hid (o3 = some b3) := hb3
  have rp := (R3.out).row hnp.out hrow.out
  have k0 : w3.cell? ⟨w.heap.size, 0, none⟩ = some (.string s1) := rp.cell (i := 0) (by decide)
  have k1 : w3.cell? ⟨w.heap.size, 1, none⟩ = some (.string s2) := rp.cell (i := 1) (by decide)
  have k2 : w3.cell? ⟨w.heap.size, 2, none⟩ = some (.int .i64 1) := rp.cell (i := 2) (by decide)
  have k3 : w3.cell? ⟨w.heap.size, 3, none⟩ = some (.int .i64 0) := rp.cell (i := 3) (by decide)
  have k4 : w3.cell? ⟨w.heap.size, 4, none⟩ = some (.bool false) := rp.cell (i := 4) (by decide)
  have k5 : w3.cell? ⟨w.heap.size, 5, none⟩ = some (.int .i64 l1) := rp.cell (i := 5) (by decide)
  have k6 : w3.cell? ⟨w.heap.size, 6, none⟩ = some (.int .i64 l2) := rp.cell (i := 6) (by decide)
  have lp : w.heap.size < w3.heap.size := cell_lt k0
  clear rp
  have hrow1 : Hid ((w3.alloc (.cells #[.string s1, .string s2, .int .i64 1, .int .i64 0, .bool false, .int .i64 l1, .int .i64 l2] 40)).rowIs w.heap.size 40 7 (fun j => [.string s1, .string s2, .int .i64 1, .int .i64 0, .bool false, .int .i64 l1, .int .i64 l2].getD j undef)) := rowIs_later (La (Lz _)) (R3.out.row hnp.out hrow.out)
  have hrow2 : Hid ((w3.alloc (.cells #[.string s1, .string s2, .int .i64 1, .int .i64 0, .bool false, .int .i64 l1, .int .i64 l2] 40)).rowIs w3.heap.size 40 7 (fun j => [.string s1, .string s2, .int .i64 1, .int .i64 0, .bool false, .int .i64 l1, .int .i64 l2].getD j undef)) := (row_new w3 40 [.string s1, .string s2, .int .i64 1, .int .i64 0, .bool false, .int .i64 l1, .int .i64 l2])
  have F3 : Hid (Ew B (fun k => (fun k => P k ∨ k = w.heap.size) k ∨ k = w3.heap.size) q (w3.alloc (.cells #[.string s1, .string s2, .int .i64 1, .int .i64 0, .bool false, .int .i64 l1, .int .i64 l2] 40)) (d ++ b1 ++ b2 ++ b3)) := Ew.with_block E3.out (La (Lz _)) (by simp)
  have S3 : Hid (Wr (Sq B (fun k => (fun k => P k ∨ k = w.heap.size) k ∨ k = w3.heap.size) q) (w3.alloc (.cells #[.string s1, .string s2, .int .i64 1, .int .i64 0, .bool false, .int .i64 l1, .int .i64 l2] 40)) (w3.alloc (.cells #[.string s1, .string s2, .int .i64 1, .int .i64 0, .bool false, .int .i64 l1, .int .i64 l2] 40))) := Wr.refl _ _
  have hf2 : Hid (∀ (r : Value) (o : Ob) (e : Ending) (w' : World), Pt B (fun k => (fun k => P k ∨ k = w.heap.size) k ∨ k = w3.heap.size) q (w3.alloc (.cells #[.string s1, .string s2, .int .i64 1, .int .i64 0, .bool false, .int .i64 l1, .int .i64 l2] 40)) (d ++ b1 ++ b2 ++ b3) o r e w' → Pt B (fun k => P k ∨ k = w.heap.size) q w3 (d ++ b1 ++ b2 ++ b3) o r e w') := fun r o e w' h => (h.drop (fun k hk => Or.inl hk)).ahead (sq_later (La (Lz _)))
  have hq3 : q < w3.heap.size := Nat.lt_of_lt_of_le (show q < w.heap.size + 1 by omega) (by have := R3.out.size; simpa using this)
  have hn1 : Hid (¬ Sq B (fun k => (fun k => P k ∨ k = w.heap.size) k ∨ k = w3.heap.size) q w.heap.size) := fun x => by rcases x with x | x; omega; exact x.2 (Or.inl (Or.inr rfl))
  have hn2 : Hid (¬ Sq B (fun k => (fun k => P k ∨ k = w.heap.size) k ∨ k = w3.heap.size) q w3.heap.size) := fun x => by rcases x with x | x; omega; exact x.2 (Or.inr rfl)
  clear E0 hq hq3
  go_wp2_with fail
  refine (H4.out _ _ _ F3.out).mono ?_
  clear H4 k0 k1 k2 k3 k4 k5 k6 lp
  rintro e w4 ⟨V4, (⟨b4, hb4, rfl, F4⟩ | ⟨n4, rfl⟩)⟩
  rotate_left
  · exact ⟨rfl, hfr.out _ _ _ _ (Pt.next hb1.out V1.out (Pt.next hb2.out V2.out (Pt.next hb3.out V3.out (hf2.out _ _ _ _ (Pt.bad V4 n4)))))⟩
  have S4 : Hid (Wr (Sq B (fun k => (fun k => P k ∨ k = w.heap.size) k ∨ k = w3.heap.size) q) (w3.alloc (.cells #[.string s1, .string s2, .int .i64 1, .int .i64 0, .bool false, .int .i64 l1, .int .i64 l2] 40)) w4) := S3.out.trans V4
  replace V4 : Hid _ := V4
  replace F4 : Hid _ := F4
  replace hb4 : Hid (o4 = some b4) := hb4
  have rp := (S4.out).row hn1.out hrow1.out
  have k0 : w4.cell? ⟨w.heap.size, 0, none⟩ = some (.string s1) := rp.cell (i := 0) (by decide)
  have k1 : w4.cell? ⟨w.heap.size, 1, none⟩ = some (.string s2) := rp.cell (i := 1) (by decide)
  have k2 : w4.cell? ⟨w.heap.size, 2, none⟩ = some (.int .i64 1) := rp.cell (i := 2) (by decide)
  have k3 : w4.cell? ⟨w.heap.size, 3, none⟩ = some (.int .i64 0) := rp.cell (i := 3) (by decide)
  have k4 : w4.cell? ⟨w.heap.size, 4, none⟩ = some (.bool false) := rp.cell (i := 4) (by decide)
  have k5 : w4.cell? ⟨w.heap.size, 5, none⟩ = some (.int .i64 l1) := rp.cell (i := 5) (by decide)
  have k6 : w4.cell? ⟨w.heap.size, 6, none⟩ = some (.int .i64 l2) := rp.cell (i := 6) (by decide)
  have rp2 := (S4.out).row hn2.out hrow2.out
  have r0 : w4.cell? ⟨w3.heap.size, 0, none⟩ = some (.string s1) := rp2.cell (i := 0) (by decide)
  have r1 : w4.cell? ⟨w3.heap.size, 1, none⟩ = some (.string s2) := rp2.cell (i := 1) (by decide)
  have r2 : w4.cell? ⟨w3.heap.size, 2, none⟩ = some (.int .i64 1) := rp2.cell (i := 2) (by decide)
  have r3 : w4.cell? ⟨w3.heap.size, 3, none⟩ = some (.int .i64 0) := rp2.cell (i := 3) (by decide)
  have r4 : w4.cell? ⟨w3.heap.size, 4, none⟩ = some (.bool false) := rp2.cell (i := 4) (by decide)
  have r5 : w4.cell? ⟨w3.heap.size, 5, none⟩ = some (.int .i64 l1) := rp2.cell (i := 5) (by decide)
  have r6 : w4.cell? ⟨w3.heap.size, 6, none⟩ = some (.int .i64 l2) := rp2.cell (i := 6) (by decide)
  have lp : w.heap.size < w4.heap.size := cell_lt k0
  have lr : w3.heap.size < w4.heap.size := cell_lt r0
  clear rp rp2
  clear hrow hrow1 hrow2 hn1 hn2 hnp R0 R1 R2 R3 E1 E2 E3
  go_wp2_with (go_at_call 10; refine (hn.out _).mono ?_; rintro e w0 ⟨rfl, hw0⟩; obtain rfl := hw0.symm)
  go_end0
  exact hfr.out _ _ _ _ (Pt.next hb1.out V1.out (Pt.next hb2.out V2.out (Pt.next hb3.out V3.out (hf2.out _ _ _ _ (⟨V4.out, Or.inl ⟨b4, hb4.out, rfl, F4.out⟩⟩)))))
theorem imp1b (s1 s2 : ByteArray) (h1 : s1.size < 9223372036854775000) (h2 : s2.size < 9223372036854775000) (ty : Int) (mu : Bool) (l1 l2 : Int) (hz : ¬ (ty = 0 ∧ mu = false)) (h : Ew B P q w d) :
    Calls Try.prog 30 #[.pointer (some ⟨q, 0, none⟩), .agg #[.string s1, .string s2, .int .i64 1, .int .i64 ty, .bool mu, .int .i64 l1, .int .i64 l2]] w (Pt B P q w d (oB (eT s1) (oB (eT s2) (oB (eKi 1) (none)))) (.tuple #[])) := by
  have hq := h.lt_q
  have H1 : Hid (∀ (W : World) (d : List Int), Ew B (fun k => P k ∨ k = w.heap.size) q W d → Calls Try.prog 47 #[.pointer (some ⟨q, 0, none⟩), .string s1] W (Pt B (fun k => P k ∨ k = w.heap.size) q W d (eT s1) (.tuple #[]))) := fun W d h => name_any s1 h1 h
  have H2 : Hid (∀ (W : World) (d : List Int), Ew B (fun k => P k ∨ k = w.heap.size) q W d → Calls Try.prog 47 #[.pointer (some ⟨q, 0, none⟩), .string s2] W (Pt B (fun k => P k ∨ k = w.heap.size) q W d (eT s2) (.tuple #[]))) := fun W d h => name_any s2 h2 h
  have H3 : Hid (∀ (W : World) (d : List Int), Ew B (fun k => P k ∨ k = w.heap.size) q W d → Calls Try.prog 48 #[.pointer (some ⟨q, 0, none⟩), .int .i64 1] W (Pt B (fun k => P k ∨ k = w.heap.size) q W d (eKi 1) (.tuple #[]))) := fun W d h => kind_any 1 h
  have H4 : Hid (∀ (Q : Nat → Prop) (W : World) (d : List Int), Ew B Q q W d → Calls Try.prog 34 #[.pointer (some ⟨q, 0, none⟩), .agg #[.int .i64 l1, .int .i64 l2]] W (Pt B Q q W d (eTa (l1, l2)) (.tuple #[]))) := fun Q W d h => table_any (l1, l2) h
  have hn : Hid (∀ w : World, Calls Try.prog 10 #[.bool false] w fun e w' => e = thn ∧ w' = w) := need_bad
  have hrow : Hid ((w.alloc (.cells #[.string s1, .string s2, .int .i64 1, .int .i64 ty, .bool mu, .int .i64 l1, .int .i64 l2] 40)).rowIs w.heap.size 40 7 (fun j => [.string s1, .string s2, .int .i64 1, .int .i64 ty, .bool mu, .int .i64 l1, .int .i64 l2].getD j undef)) := row_new w 40 [.string s1, .string s2, .int .i64 1, .int .i64 ty, .bool mu, .int .i64 l1, .int .i64 l2]
  have E0 : Hid (Ew B (fun k => P k ∨ k = w.heap.size) q (w.alloc (.cells #[.string s1, .string s2, .int .i64 1, .int .i64 ty, .bool mu, .int .i64 l1, .int .i64 l2] 40)) d) := h.with_block (La (Lz _)) (by simp)
  have R0 : Hid (Wr (Sq B (fun k => P k ∨ k = w.heap.size) q) (w.alloc (.cells #[.string s1, .string s2, .int .i64 1, .int .i64 ty, .bool mu, .int .i64 l1, .int .i64 l2] 40)) (w.alloc (.cells #[.string s1, .string s2, .int .i64 1, .int .i64 ty, .bool mu, .int .i64 l1, .int .i64 l2] 40))) := Wr.refl _ _
  have hfr : Hid (∀ (r : Value) (o : Ob) (e : Ending) (w' : World), Pt B (fun k => P k ∨ k = w.heap.size) q (w.alloc (.cells #[.string s1, .string s2, .int .i64 1, .int .i64 ty, .bool mu, .int .i64 l1, .int .i64 l2] 40)) d o r e w' → Pt B P q w d o r e w') := fun r o e w' h => (h.drop (fun k hk => Or.inl hk)).ahead (sq_later (La (Lz _)))
  have hnp : Hid (¬ Sq B (fun k => P k ∨ k = w.heap.size) q w.heap.size) := fun x => by rcases x with x | x; omega; exact x.2 (Or.inr rfl)
  clear h h1 h2
  generalize ho1 : eT s1 = o1 at *
  clear ho1
  generalize ho2 : eT s2 = o2 at *
  clear ho2
  generalize ho3 : eKi 1 = o3 at *
  clear ho3
  generalize ho4 : eTa (l1, l2) = o4 at *
  clear ho4
  go_enter Try.func30, Try.ntmps30
  have rp := (R0.out).row hnp.out hrow.out
  have k0 : (w.alloc (.cells #[.string s1, .string s2, .int .i64 1, .int .i64 ty, .bool mu, .int .i64 l1, .int .i64 l2] 40)).cell? ⟨w.heap.size, 0, none⟩ = some (.string s1) := rp.cell (i := 0) (by decide)
  have k1 : (w.alloc (.cells #[.string s1, .string s2, .int .i64 1, .int .i64 ty, .bool mu, .int .i64 l1, .int .i64 l2] 40)).cell? ⟨w.heap.size, 1, none⟩ = some (.string s2) := rp.cell (i := 1) (by decide)
  have k2 : (w.alloc (.cells #[.string s1, .string s2, .int .i64 1, .int .i64 ty, .bool mu, .int .i64 l1, .int .i64 l2] 40)).cell? ⟨w.heap.size, 2, none⟩ = some (.int .i64 1) := rp.cell (i := 2) (by decide)
  have k3 : (w.alloc (.cells #[.string s1, .string s2, .int .i64 1, .int .i64 ty, .bool mu, .int .i64 l1, .int .i64 l2] 40)).cell? ⟨w.heap.size, 3, none⟩ = some (.int .i64 ty) := rp.cell (i := 3) (by decide)
  have k4 : (w.alloc (.cells #[.string s1, .string s2, .int .i64 1, .int .i64 ty, .bool mu, .int .i64 l1, .int .i64 l2] 40)).cell? ⟨w.heap.size, 4, none⟩ = some (.bool mu) := rp.cell (i := 4) (by decide)
  have k5 : (w.alloc (.cells #[.string s1, .string s2, .int .i64 1, .int .i64 ty, .bool mu, .int .i64 l1, .int .i64 l2] 40)).cell? ⟨w.heap.size, 5, none⟩ = some (.int .i64 l1) := rp.cell (i := 5) (by decide)
  have k6 : (w.alloc (.cells #[.string s1, .string s2, .int .i64 1, .int .i64 ty, .bool mu, .int .i64 l1, .int .i64 l2] 40)).cell? ⟨w.heap.size, 6, none⟩ = some (.int .i64 l2) := rp.cell (i := 6) (by decide)
  have lp : w.heap.size < (w.alloc (.cells #[.string s1, .string s2, .int .i64 1, .int .i64 ty, .bool mu, .int .i64 l1, .int .i64 l2] 40)).heap.size := cell_lt k0
  clear rp
  go_wp2_with fail
  refine (H1.out _ _ E0.out).mono ?_
  clear H1 k0 k1 k2 k3 k4 k5 k6 lp
  rintro e w1 ⟨V1, (⟨b1, hb1, rfl, E1⟩ | ⟨n1, rfl⟩)⟩
  rotate_left
  · exact ⟨rfl, hfr.out _ _ _ _ (Pt.stop V1 n1)⟩
  have R1 : Hid (Wr (Sq B (fun k => P k ∨ k = w.heap.size) q) (w.alloc (.cells #[.string s1, .string s2, .int .i64 1, .int .i64 ty, .bool mu, .int .i64 l1, .int .i64 l2] 40)) w1) := R0.out.trans V1
  replace V1 : Hid _ := V1
  replace E1 : Hid _ := E1
  replace hb1 : Hid (o1 = some b1) := hb1
  have rp := (R1.out).row hnp.out hrow.out
  have k0 : w1.cell? ⟨w.heap.size, 0, none⟩ = some (.string s1) := rp.cell (i := 0) (by decide)
  have k1 : w1.cell? ⟨w.heap.size, 1, none⟩ = some (.string s2) := rp.cell (i := 1) (by decide)
  have k2 : w1.cell? ⟨w.heap.size, 2, none⟩ = some (.int .i64 1) := rp.cell (i := 2) (by decide)
  have k3 : w1.cell? ⟨w.heap.size, 3, none⟩ = some (.int .i64 ty) := rp.cell (i := 3) (by decide)
  have k4 : w1.cell? ⟨w.heap.size, 4, none⟩ = some (.bool mu) := rp.cell (i := 4) (by decide)
  have k5 : w1.cell? ⟨w.heap.size, 5, none⟩ = some (.int .i64 l1) := rp.cell (i := 5) (by decide)
  have k6 : w1.cell? ⟨w.heap.size, 6, none⟩ = some (.int .i64 l2) := rp.cell (i := 6) (by decide)
  have lp : w.heap.size < w1.heap.size := cell_lt k0
  clear rp
  go_wp2_with fail
  refine (H2.out _ _ E1.out).mono ?_
  clear H2 k0 k1 k2 k3 k4 k5 k6 lp
  rintro e w2 ⟨V2, (⟨b2, hb2, rfl, E2⟩ | ⟨n2, rfl⟩)⟩
  rotate_left
  · exact ⟨rfl, hfr.out _ _ _ _ (Pt.next hb1.out V1.out (Pt.stop V2 n2))⟩
  have R2 : Hid (Wr (Sq B (fun k => P k ∨ k = w.heap.size) q) (w.alloc (.cells #[.string s1, .string s2, .int .i64 1, .int .i64 ty, .bool mu, .int .i64 l1, .int .i64 l2] 40)) w2) := R1.out.trans V2
  replace V2 : Hid _ := V2
  replace E2 : Hid _ := E2
  replace hb2 : Hid (o2 = some b2) := hb2
  have rp := (R2.out).row hnp.out hrow.out
  have k0 : w2.cell? ⟨w.heap.size, 0, none⟩ = some (.string s1) := rp.cell (i := 0) (by decide)
  have k1 : w2.cell? ⟨w.heap.size, 1, none⟩ = some (.string s2) := rp.cell (i := 1) (by decide)
  have k2 : w2.cell? ⟨w.heap.size, 2, none⟩ = some (.int .i64 1) := rp.cell (i := 2) (by decide)
  have k3 : w2.cell? ⟨w.heap.size, 3, none⟩ = some (.int .i64 ty) := rp.cell (i := 3) (by decide)
  have k4 : w2.cell? ⟨w.heap.size, 4, none⟩ = some (.bool mu) := rp.cell (i := 4) (by decide)
  have k5 : w2.cell? ⟨w.heap.size, 5, none⟩ = some (.int .i64 l1) := rp.cell (i := 5) (by decide)
  have k6 : w2.cell? ⟨w.heap.size, 6, none⟩ = some (.int .i64 l2) := rp.cell (i := 6) (by decide)
  have lp : w.heap.size < w2.heap.size := cell_lt k0
  clear rp
  go_wp2_with fail
  refine (H3.out _ _ E2.out).mono ?_
  clear H3 k0 k1 k2 k3 k4 k5 k6 lp
  rintro e w3 ⟨V3, (⟨b3, hb3, rfl, E3⟩ | ⟨n3, rfl⟩)⟩
  rotate_left
  · exact ⟨rfl, hfr.out _ _ _ _ (Pt.next hb1.out V1.out (Pt.next hb2.out V2.out (Pt.stop V3 n3)))⟩
  have R3 : Hid (Wr (Sq B (fun k => P k ∨ k = w.heap.size) q) (w.alloc (.cells #[.string s1, .string s2, .int .i64 1, .int .i64 ty, .bool mu, .int .i64 l1, .int .i64 l2] 40)) w3) := R2.out.trans V3
  replace V3 : Hid _ := V3
  replace E3 : Hid _ := E3
  replace hb3 : Hid (o3 = some b3) := hb3
  have rp := (R3.out).row hnp.out hrow.out
  have k0 : w3.cell? ⟨w.heap.size, 0, none⟩ = some (.string s1) := rp.cell (i := 0) (by decide)
  have k1 : w3.cell? ⟨w.heap.size, 1, none⟩ = some (.string s2) := rp.cell (i := 1) (by decide)
  have k2 : w3.cell? ⟨w.heap.size, 2, none⟩ = some (.int .i64 1) := rp.cell (i := 2) (by decide)
  have k3 : w3.cell? ⟨w.heap.size, 3, none⟩ = some (.int .i64 ty) := rp.cell (i := 3) (by decide)
  have k4 : w3.cell? ⟨w.heap.size, 4, none⟩ = some (.bool mu) := rp.cell (i := 4) (by decide)
  have k5 : w3.cell? ⟨w.heap.size, 5, none⟩ = some (.int .i64 l1) := rp.cell (i := 5) (by decide)
  have k6 : w3.cell? ⟨w.heap.size, 6, none⟩ = some (.int .i64 l2) := rp.cell (i := 6) (by decide)
  have lp : w.heap.size < w3.heap.size := cell_lt k0
  clear rp
  have hrow1 : Hid ((w3.alloc (.cells #[.string s1, .string s2, .int .i64 1, .int .i64 0, .bool false, .int .i64 l1, .int .i64 l2] 40)).rowIs w.heap.size 40 7 (fun j => [.string s1, .string s2, .int .i64 1, .int .i64 ty, .bool mu, .int .i64 l1, .int .i64 l2].getD j undef)) := rowIs_later (La (Lz _)) (R3.out.row hnp.out hrow.out)
  have hrow2 : Hid ((w3.alloc (.cells #[.string s1, .string s2, .int .i64 1, .int .i64 0, .bool false, .int .i64 l1, .int .i64 l2] 40)).rowIs w3.heap.size 40 7 (fun j => [.string s1, .string s2, .int .i64 1, .int .i64 0, .bool false, .int .i64 l1, .int .i64 l2].getD j undef)) := (row_new w3 40 [.string s1, .string s2, .int .i64 1, .int .i64 0, .bool false, .int .i64 l1, .int .i64 l2])
  have F3 : Hid (Ew B (fun k => (fun k => P k ∨ k = w.heap.size) k ∨ k = w3.heap.size) q (w3.alloc (.cells #[.string s1, .string s2, .int .i64 1, .int .i64 0, .bool false, .int .i64 l1, .int .i64 l2] 40)) (d ++ b1 ++ b2 ++ b3)) := Ew.with_block E3.out (La (Lz _)) (by simp)
  have S3 : Hid (Wr (Sq B (fun k => (fun k => P k ∨ k = w.heap.size) k ∨ k = w3.heap.size) q) (w3.alloc (.cells #[.string s1, .string s2, .int .i64 1, .int .i64 0, .bool false, .int .i64 l1, .int .i64 l2] 40)) (w3.alloc (.cells #[.string s1, .string s2, .int .i64 1, .int .i64 0, .bool false, .int .i64 l1, .int .i64 l2] 40))) := Wr.refl _ _
  have hf2 : Hid (∀ (r : Value) (o : Ob) (e : Ending) (w' : World), Pt B (fun k => (fun k => P k ∨ k = w.heap.size) k ∨ k = w3.heap.size) q (w3.alloc (.cells #[.string s1, .string s2, .int .i64 1, .int .i64 0, .bool false, .int .i64 l1, .int .i64 l2] 40)) (d ++ b1 ++ b2 ++ b3) o r e w' → Pt B (fun k => P k ∨ k = w.heap.size) q w3 (d ++ b1 ++ b2 ++ b3) o r e w') := fun r o e w' h => (h.drop (fun k hk => Or.inl hk)).ahead (sq_later (La (Lz _)))
  have hq3 : q < w3.heap.size := Nat.lt_of_lt_of_le (show q < w.heap.size + 1 by omega) (by have := R3.out.size; simpa using this)
  have hn1 : Hid (¬ Sq B (fun k => (fun k => P k ∨ k = w.heap.size) k ∨ k = w3.heap.size) q w.heap.size) := fun x => by rcases x with x | x; omega; exact x.2 (Or.inl (Or.inr rfl))
  have hn2 : Hid (¬ Sq B (fun k => (fun k => P k ∨ k = w.heap.size) k ∨ k = w3.heap.size) q w3.heap.size) := fun x => by rcases x with x | x; omega; exact x.2 (Or.inr rfl)
  clear E0 hq hq3
  go_wp2_with fail
  refine (H4.out _ _ _ F3.out).mono ?_
  clear H4 k0 k1 k2 k3 k4 k5 k6 lp
  rintro e w4 ⟨V4, (⟨b4, hb4, rfl, F4⟩ | ⟨n4, rfl⟩)⟩
  rotate_left
  · exact ⟨rfl, hfr.out _ _ _ _ (Pt.next hb1.out V1.out (Pt.next hb2.out V2.out (Pt.next hb3.out V3.out (hf2.out _ _ _ _ (Pt.bad (S3.out.trans V4) (fit_none _))))))⟩
  have S4 : Hid (Wr (Sq B (fun k => (fun k => P k ∨ k = w.heap.size) k ∨ k = w3.heap.size) q) (w3.alloc (.cells #[.string s1, .string s2, .int .i64 1, .int .i64 0, .bool false, .int .i64 l1, .int .i64 l2] 40)) w4) := S3.out.trans V4
  replace V4 : Hid _ := V4
  replace F4 : Hid _ := F4
  replace hb4 : Hid (o4 = some b4) := hb4
  have rp := (S4.out).row hn1.out hrow1.out
  have k0 : w4.cell? ⟨w.heap.size, 0, none⟩ = some (.string s1) := rp.cell (i := 0) (by decide)
  have k1 : w4.cell? ⟨w.heap.size, 1, none⟩ = some (.string s2) := rp.cell (i := 1) (by decide)
  have k2 : w4.cell? ⟨w.heap.size, 2, none⟩ = some (.int .i64 1) := rp.cell (i := 2) (by decide)
  have k3 : w4.cell? ⟨w.heap.size, 3, none⟩ = some (.int .i64 ty) := rp.cell (i := 3) (by decide)
  have k4 : w4.cell? ⟨w.heap.size, 4, none⟩ = some (.bool mu) := rp.cell (i := 4) (by decide)
  have k5 : w4.cell? ⟨w.heap.size, 5, none⟩ = some (.int .i64 l1) := rp.cell (i := 5) (by decide)
  have k6 : w4.cell? ⟨w.heap.size, 6, none⟩ = some (.int .i64 l2) := rp.cell (i := 6) (by decide)
  have rp2 := (S4.out).row hn2.out hrow2.out
  have r0 : w4.cell? ⟨w3.heap.size, 0, none⟩ = some (.string s1) := rp2.cell (i := 0) (by decide)
  have r1 : w4.cell? ⟨w3.heap.size, 1, none⟩ = some (.string s2) := rp2.cell (i := 1) (by decide)
  have r2 : w4.cell? ⟨w3.heap.size, 2, none⟩ = some (.int .i64 1) := rp2.cell (i := 2) (by decide)
  have r3 : w4.cell? ⟨w3.heap.size, 3, none⟩ = some (.int .i64 0) := rp2.cell (i := 3) (by decide)
  have r4 : w4.cell? ⟨w3.heap.size, 4, none⟩ = some (.bool false) := rp2.cell (i := 4) (by decide)
  have r5 : w4.cell? ⟨w3.heap.size, 5, none⟩ = some (.int .i64 l1) := rp2.cell (i := 5) (by decide)
  have r6 : w4.cell? ⟨w3.heap.size, 6, none⟩ = some (.int .i64 l2) := rp2.cell (i := 6) (by decide)
  have lp : w.heap.size < w4.heap.size := cell_lt k0
  have lr : w3.heap.size < w4.heap.size := cell_lt r0
  clear rp rp2
  clear hrow hrow1 hrow2 hn1 hn2 hnp R0 R1 R2 R3 E1 E2 E3
  replace hz : Hid (¬ (ty = 0 ∧ mu = false)) := hz
  go_wp2_with (go_at_call 10; refine (hn.out _).mono ?_; rintro e w0 ⟨rfl, hw0⟩; obtain rfl := hw0.symm)
  all_goals first | exact ⟨rfl, hfr.out _ _ _ _ (Pt.next hb1.out V1.out (Pt.next hb2.out V2.out (Pt.next hb3.out V3.out (hf2.out _ _ _ _ (Pt.bad S4.out (fit_none _))))))⟩ | exact absurd (by first | exact ⟨rfl, rfl, rfl⟩ | exact ⟨rfl, rfl⟩ | (refine ⟨?_, ?_, ?_⟩ <;> assumption) | (refine ⟨?_, ?_⟩ <;> assumption) | simp_all) hz.out
theorem imp2 (s1 s2 : ByteArray) (h1 : s1.size < 9223372036854775000) (h2 : s2.size < 9223372036854775000) (l1 l2 : Int) (h : Ew B P q w d) :
    Calls Try.prog 30 #[.pointer (some ⟨q, 0, none⟩), .agg #[.string s1, .string s2, .int .i64 2, .int .i64 0, .bool false, .int .i64 l1, .int .i64 l2]] w (Pt B P q w d (oB (eT s1) (oB (eT s2) (oB (eKi 2) (eLi (l1, l2))))) (.tuple #[])) := by
  have hq := h.lt_q
  have H1 : Hid (∀ (W : World) (d : List Int), Ew B (fun k => P k ∨ k = w.heap.size) q W d → Calls Try.prog 47 #[.pointer (some ⟨q, 0, none⟩), .string s1] W (Pt B (fun k => P k ∨ k = w.heap.size) q W d (eT s1) (.tuple #[]))) := fun W d h => name_any s1 h1 h
  have H2 : Hid (∀ (W : World) (d : List Int), Ew B (fun k => P k ∨ k = w.heap.size) q W d → Calls Try.prog 47 #[.pointer (some ⟨q, 0, none⟩), .string s2] W (Pt B (fun k => P k ∨ k = w.heap.size) q W d (eT s2) (.tuple #[]))) := fun W d h => name_any s2 h2 h
  have H3 : Hid (∀ (W : World) (d : List Int), Ew B (fun k => P k ∨ k = w.heap.size) q W d → Calls Try.prog 48 #[.pointer (some ⟨q, 0, none⟩), .int .i64 2] W (Pt B (fun k => P k ∨ k = w.heap.size) q W d (eKi 2) (.tuple #[]))) := fun W d h => kind_any 2 h
  have H4 : Hid (∀ (Q : Nat → Prop) (W : World) (d : List Int), Ew B Q q W d → Calls Try.prog 35 #[.pointer (some ⟨q, 0, none⟩), .agg #[.int .i64 l1, .int .i64 l2]] W (Pt B Q q W d (eLi (l1, l2)) (.tuple #[]))) := fun Q W d h => limits_any (l1, l2) h
  have hn : Hid (∀ w : World, Calls Try.prog 10 #[.bool true] w fun e w' => e = .returned (.tuple #[]) ∧ w' = w) := need_ok
  have hrow : Hid ((w.alloc (.cells #[.string s1, .string s2, .int .i64 2, .int .i64 0, .bool false, .int .i64 l1, .int .i64 l2] 40)).rowIs w.heap.size 40 7 (fun j => [.string s1, .string s2, .int .i64 2, .int .i64 0, .bool false, .int .i64 l1, .int .i64 l2].getD j undef)) := row_new w 40 [.string s1, .string s2, .int .i64 2, .int .i64 0, .bool false, .int .i64 l1, .int .i64 l2]
  have E0 : Hid (Ew B (fun k => P k ∨ k = w.heap.size) q (w.alloc (.cells #[.string s1, .string s2, .int .i64 2, .int .i64 0, .bool false, .int .i64 l1, .int .i64 l2] 40)) d) := h.with_block (La (Lz _)) (by simp)
  have R0 : Hid (Wr (Sq B (fun k => P k ∨ k = w.heap.size) q) (w.alloc (.cells #[.string s1, .string s2, .int .i64 2, .int .i64 0, .bool false, .int .i64 l1, .int .i64 l2] 40)) (w.alloc (.cells #[.string s1, .string s2, .int .i64 2, .int .i64 0, .bool false, .int .i64 l1, .int .i64 l2] 40))) := Wr.refl _ _
  have hfr : Hid (∀ (r : Value) (o : Ob) (e : Ending) (w' : World), Pt B (fun k => P k ∨ k = w.heap.size) q (w.alloc (.cells #[.string s1, .string s2, .int .i64 2, .int .i64 0, .bool false, .int .i64 l1, .int .i64 l2] 40)) d o r e w' → Pt B P q w d o r e w') := fun r o e w' h => (h.drop (fun k hk => Or.inl hk)).ahead (sq_later (La (Lz _)))
  have hnp : Hid (¬ Sq B (fun k => P k ∨ k = w.heap.size) q w.heap.size) := fun x => by rcases x with x | x; omega; exact x.2 (Or.inr rfl)
  clear h h1 h2
  generalize ho1 : eT s1 = o1 at *
  clear ho1
  generalize ho2 : eT s2 = o2 at *
  clear ho2
  generalize ho3 : eKi 2 = o3 at *
  clear ho3
  generalize ho4 : eLi (l1, l2) = o4 at *
  clear ho4
  go_enter Try.func30, Try.ntmps30
  have rp := (R0.out).row hnp.out hrow.out
  have k0 : (w.alloc (.cells #[.string s1, .string s2, .int .i64 2, .int .i64 0, .bool false, .int .i64 l1, .int .i64 l2] 40)).cell? ⟨w.heap.size, 0, none⟩ = some (.string s1) := rp.cell (i := 0) (by decide)
  have k1 : (w.alloc (.cells #[.string s1, .string s2, .int .i64 2, .int .i64 0, .bool false, .int .i64 l1, .int .i64 l2] 40)).cell? ⟨w.heap.size, 1, none⟩ = some (.string s2) := rp.cell (i := 1) (by decide)
  have k2 : (w.alloc (.cells #[.string s1, .string s2, .int .i64 2, .int .i64 0, .bool false, .int .i64 l1, .int .i64 l2] 40)).cell? ⟨w.heap.size, 2, none⟩ = some (.int .i64 2) := rp.cell (i := 2) (by decide)
  have k3 : (w.alloc (.cells #[.string s1, .string s2, .int .i64 2, .int .i64 0, .bool false, .int .i64 l1, .int .i64 l2] 40)).cell? ⟨w.heap.size, 3, none⟩ = some (.int .i64 0) := rp.cell (i := 3) (by decide)
  have k4 : (w.alloc (.cells #[.string s1, .string s2, .int .i64 2, .int .i64 0, .bool false, .int .i64 l1, .int .i64 l2] 40)).cell? ⟨w.heap.size, 4, none⟩ = some (.bool false) := rp.cell (i := 4) (by decide)
  have k5 : (w.alloc (.cells #[.string s1, .string s2, .int .i64 2, .int .i64 0, .bool false, .int .i64 l1, .int .i64 l2] 40)).cell? ⟨w.heap.size, 5, none⟩ = some (.int .i64 l1) := rp.cell (i := 5) (by decide)
  have k6 : (w.alloc (.cells #[.string s1, .string s2, .int .i64 2, .int .i64 0, .bool false, .int .i64 l1, .int .i64 l2] 40)).cell? ⟨w.heap.size, 6, none⟩ = some (.int .i64 l2) := rp.cell (i := 6) (by decide)
  have lp : w.heap.size < (w.alloc (.cells #[.string s1, .string s2, .int .i64 2, .int .i64 0, .bool false, .int .i64 l1, .int .i64 l2] 40)).heap.size := cell_lt k0
  clear rp
  go_wp2_with fail
  refine (H1.out _ _ E0.out).mono ?_
  clear H1 k0 k1 k2 k3 k4 k5 k6 lp
  rintro e w1 ⟨V1, (⟨b1, hb1, rfl, E1⟩ | ⟨n1, rfl⟩)⟩
  rotate_left
  · exact ⟨rfl, hfr.out _ _ _ _ (Pt.stop V1 n1)⟩
  have R1 : Hid (Wr (Sq B (fun k => P k ∨ k = w.heap.size) q) (w.alloc (.cells #[.string s1, .string s2, .int .i64 2, .int .i64 0, .bool false, .int .i64 l1, .int .i64 l2] 40)) w1) := R0.out.trans V1
  replace V1 : Hid _ := V1
  replace E1 : Hid _ := E1
  replace hb1 : Hid (o1 = some b1) := hb1
  have rp := (R1.out).row hnp.out hrow.out
  have k0 : w1.cell? ⟨w.heap.size, 0, none⟩ = some (.string s1) := rp.cell (i := 0) (by decide)
  have k1 : w1.cell? ⟨w.heap.size, 1, none⟩ = some (.string s2) := rp.cell (i := 1) (by decide)
  have k2 : w1.cell? ⟨w.heap.size, 2, none⟩ = some (.int .i64 2) := rp.cell (i := 2) (by decide)
  have k3 : w1.cell? ⟨w.heap.size, 3, none⟩ = some (.int .i64 0) := rp.cell (i := 3) (by decide)
  have k4 : w1.cell? ⟨w.heap.size, 4, none⟩ = some (.bool false) := rp.cell (i := 4) (by decide)
  have k5 : w1.cell? ⟨w.heap.size, 5, none⟩ = some (.int .i64 l1) := rp.cell (i := 5) (by decide)
  have k6 : w1.cell? ⟨w.heap.size, 6, none⟩ = some (.int .i64 l2) := rp.cell (i := 6) (by decide)
  have lp : w.heap.size < w1.heap.size := cell_lt k0
  clear rp
  go_wp2_with fail
  refine (H2.out _ _ E1.out).mono ?_
  clear H2 k0 k1 k2 k3 k4 k5 k6 lp
  rintro e w2 ⟨V2, (⟨b2, hb2, rfl, E2⟩ | ⟨n2, rfl⟩)⟩
  rotate_left
  · exact ⟨rfl, hfr.out _ _ _ _ (Pt.next hb1.out V1.out (Pt.stop V2 n2))⟩
  have R2 : Hid (Wr (Sq B (fun k => P k ∨ k = w.heap.size) q) (w.alloc (.cells #[.string s1, .string s2, .int .i64 2, .int .i64 0, .bool false, .int .i64 l1, .int .i64 l2] 40)) w2) := R1.out.trans V2
  replace V2 : Hid _ := V2
  replace E2 : Hid _ := E2
  replace hb2 : Hid (o2 = some b2) := hb2
  have rp := (R2.out).row hnp.out hrow.out
  have k0 : w2.cell? ⟨w.heap.size, 0, none⟩ = some (.string s1) := rp.cell (i := 0) (by decide)
  have k1 : w2.cell? ⟨w.heap.size, 1, none⟩ = some (.string s2) := rp.cell (i := 1) (by decide)
  have k2 : w2.cell? ⟨w.heap.size, 2, none⟩ = some (.int .i64 2) := rp.cell (i := 2) (by decide)
  have k3 : w2.cell? ⟨w.heap.size, 3, none⟩ = some (.int .i64 0) := rp.cell (i := 3) (by decide)
  have k4 : w2.cell? ⟨w.heap.size, 4, none⟩ = some (.bool false) := rp.cell (i := 4) (by decide)
  have k5 : w2.cell? ⟨w.heap.size, 5, none⟩ = some (.int .i64 l1) := rp.cell (i := 5) (by decide)
  have k6 : w2.cell? ⟨w.heap.size, 6, none⟩ = some (.int .i64 l2) := rp.cell (i := 6) (by decide)
  have lp : w.heap.size < w2.heap.size := cell_lt k0
  clear rp
  go_wp2_with fail
  refine (H3.out _ _ E2.out).mono ?_
  clear H3 k0 k1 k2 k3 k4 k5 k6 lp
  rintro e w3 ⟨V3, (⟨b3, hb3, rfl, E3⟩ | ⟨n3, rfl⟩)⟩
  rotate_left
  · exact ⟨rfl, hfr.out _ _ _ _ (Pt.next hb1.out V1.out (Pt.next hb2.out V2.out (Pt.stop V3 n3)))⟩
  have R3 : Hid (Wr (Sq B (fun k => P k ∨ k = w.heap.size) q) (w.alloc (.cells #[.string s1, .string s2, .int .i64 2, .int .i64 0, .bool false, .int .i64 l1, .int .i64 l2] 40)) w3) := R2.out.trans V3
  replace V3 : Hid _ := V3
  replace E3 : Hid _ := E3
  replace hb3 : Hid (o3 = some b3) := hb3
  have rp := (R3.out).row hnp.out hrow.out
  have k0 : w3.cell? ⟨w.heap.size, 0, none⟩ = some (.string s1) := rp.cell (i := 0) (by decide)
  have k1 : w3.cell? ⟨w.heap.size, 1, none⟩ = some (.string s2) := rp.cell (i := 1) (by decide)
  have k2 : w3.cell? ⟨w.heap.size, 2, none⟩ = some (.int .i64 2) := rp.cell (i := 2) (by decide)
  have k3 : w3.cell? ⟨w.heap.size, 3, none⟩ = some (.int .i64 0) := rp.cell (i := 3) (by decide)
  have k4 : w3.cell? ⟨w.heap.size, 4, none⟩ = some (.bool false) := rp.cell (i := 4) (by decide)
  have k5 : w3.cell? ⟨w.heap.size, 5, none⟩ = some (.int .i64 l1) := rp.cell (i := 5) (by decide)
  have k6 : w3.cell? ⟨w.heap.size, 6, none⟩ = some (.int .i64 l2) := rp.cell (i := 6) (by decide)
  have lp : w.heap.size < w3.heap.size := cell_lt k0
  clear rp
  have hrow1 : Hid ((w3.alloc (.cells #[.string s1, .string s2, .int .i64 2, .int .i64 0, .bool false, .int .i64 l1, .int .i64 l2] 40)).rowIs w.heap.size 40 7 (fun j => [.string s1, .string s2, .int .i64 2, .int .i64 0, .bool false, .int .i64 l1, .int .i64 l2].getD j undef)) := rowIs_later (La (Lz _)) (R3.out.row hnp.out hrow.out)
  have hrow2 : Hid ((w3.alloc (.cells #[.string s1, .string s2, .int .i64 2, .int .i64 0, .bool false, .int .i64 l1, .int .i64 l2] 40)).rowIs w3.heap.size 40 7 (fun j => [.string s1, .string s2, .int .i64 2, .int .i64 0, .bool false, .int .i64 l1, .int .i64 l2].getD j undef)) := (row_new w3 40 [.string s1, .string s2, .int .i64 2, .int .i64 0, .bool false, .int .i64 l1, .int .i64 l2])
  have F3 : Hid (Ew B (fun k => (fun k => P k ∨ k = w.heap.size) k ∨ k = w3.heap.size) q (w3.alloc (.cells #[.string s1, .string s2, .int .i64 2, .int .i64 0, .bool false, .int .i64 l1, .int .i64 l2] 40)) (d ++ b1 ++ b2 ++ b3)) := Ew.with_block E3.out (La (Lz _)) (by simp)
  have S3 : Hid (Wr (Sq B (fun k => (fun k => P k ∨ k = w.heap.size) k ∨ k = w3.heap.size) q) (w3.alloc (.cells #[.string s1, .string s2, .int .i64 2, .int .i64 0, .bool false, .int .i64 l1, .int .i64 l2] 40)) (w3.alloc (.cells #[.string s1, .string s2, .int .i64 2, .int .i64 0, .bool false, .int .i64 l1, .int .i64 l2] 40))) := Wr.refl _ _
  have hf2 : Hid (∀ (r : Value) (o : Ob) (e : Ending) (w' : World), Pt B (fun k => (fun k => P k ∨ k = w.heap.size) k ∨ k = w3.heap.size) q (w3.alloc (.cells #[.string s1, .string s2, .int .i64 2, .int .i64 0, .bool false, .int .i64 l1, .int .i64 l2] 40)) (d ++ b1 ++ b2 ++ b3) o r e w' → Pt B (fun k => P k ∨ k = w.heap.size) q w3 (d ++ b1 ++ b2 ++ b3) o r e w') := fun r o e w' h => (h.drop (fun k hk => Or.inl hk)).ahead (sq_later (La (Lz _)))
  have hq3 : q < w3.heap.size := Nat.lt_of_lt_of_le (show q < w.heap.size + 1 by omega) (by have := R3.out.size; simpa using this)
  have hn1 : Hid (¬ Sq B (fun k => (fun k => P k ∨ k = w.heap.size) k ∨ k = w3.heap.size) q w.heap.size) := fun x => by rcases x with x | x; omega; exact x.2 (Or.inl (Or.inr rfl))
  have hn2 : Hid (¬ Sq B (fun k => (fun k => P k ∨ k = w.heap.size) k ∨ k = w3.heap.size) q w3.heap.size) := fun x => by rcases x with x | x; omega; exact x.2 (Or.inr rfl)
  clear E0 hq hq3
  go_wp2_with fail
  refine (H4.out _ _ _ F3.out).mono ?_
  clear H4 k0 k1 k2 k3 k4 k5 k6 lp
  rintro e w4 ⟨V4, (⟨b4, hb4, rfl, F4⟩ | ⟨n4, rfl⟩)⟩
  rotate_left
  · exact ⟨rfl, hfr.out _ _ _ _ (Pt.next hb1.out V1.out (Pt.next hb2.out V2.out (Pt.next hb3.out V3.out (hf2.out _ _ _ _ (Pt.bad V4 n4)))))⟩
  have S4 : Hid (Wr (Sq B (fun k => (fun k => P k ∨ k = w.heap.size) k ∨ k = w3.heap.size) q) (w3.alloc (.cells #[.string s1, .string s2, .int .i64 2, .int .i64 0, .bool false, .int .i64 l1, .int .i64 l2] 40)) w4) := S3.out.trans V4
  replace V4 : Hid _ := V4
  replace F4 : Hid _ := F4
  replace hb4 : Hid (o4 = some b4) := hb4
  have rp := (S4.out).row hn1.out hrow1.out
  have k0 : w4.cell? ⟨w.heap.size, 0, none⟩ = some (.string s1) := rp.cell (i := 0) (by decide)
  have k1 : w4.cell? ⟨w.heap.size, 1, none⟩ = some (.string s2) := rp.cell (i := 1) (by decide)
  have k2 : w4.cell? ⟨w.heap.size, 2, none⟩ = some (.int .i64 2) := rp.cell (i := 2) (by decide)
  have k3 : w4.cell? ⟨w.heap.size, 3, none⟩ = some (.int .i64 0) := rp.cell (i := 3) (by decide)
  have k4 : w4.cell? ⟨w.heap.size, 4, none⟩ = some (.bool false) := rp.cell (i := 4) (by decide)
  have k5 : w4.cell? ⟨w.heap.size, 5, none⟩ = some (.int .i64 l1) := rp.cell (i := 5) (by decide)
  have k6 : w4.cell? ⟨w.heap.size, 6, none⟩ = some (.int .i64 l2) := rp.cell (i := 6) (by decide)
  have rp2 := (S4.out).row hn2.out hrow2.out
  have r0 : w4.cell? ⟨w3.heap.size, 0, none⟩ = some (.string s1) := rp2.cell (i := 0) (by decide)
  have r1 : w4.cell? ⟨w3.heap.size, 1, none⟩ = some (.string s2) := rp2.cell (i := 1) (by decide)
  have r2 : w4.cell? ⟨w3.heap.size, 2, none⟩ = some (.int .i64 2) := rp2.cell (i := 2) (by decide)
  have r3 : w4.cell? ⟨w3.heap.size, 3, none⟩ = some (.int .i64 0) := rp2.cell (i := 3) (by decide)
  have r4 : w4.cell? ⟨w3.heap.size, 4, none⟩ = some (.bool false) := rp2.cell (i := 4) (by decide)
  have r5 : w4.cell? ⟨w3.heap.size, 5, none⟩ = some (.int .i64 l1) := rp2.cell (i := 5) (by decide)
  have r6 : w4.cell? ⟨w3.heap.size, 6, none⟩ = some (.int .i64 l2) := rp2.cell (i := 6) (by decide)
  have lp : w.heap.size < w4.heap.size := cell_lt k0
  have lr : w3.heap.size < w4.heap.size := cell_lt r0
  clear rp rp2
  clear hrow hrow1 hrow2 hn1 hn2 hnp R0 R1 R2 R3 E1 E2 E3
  go_wp2_with (go_at_call 10; refine (hn.out _).mono ?_; rintro e w0 ⟨rfl, hw0⟩; obtain rfl := hw0.symm)
  go_end0
  exact hfr.out _ _ _ _ (Pt.next hb1.out V1.out (Pt.next hb2.out V2.out (Pt.next hb3.out V3.out (hf2.out _ _ _ _ (⟨V4.out, Or.inl ⟨b4, hb4.out, rfl, F4.out⟩⟩)))))
theorem imp2b (s1 s2 : ByteArray) (h1 : s1.size < 9223372036854775000) (h2 : s2.size < 9223372036854775000) (ty : Int) (mu : Bool) (l1 l2 : Int) (hz : ¬ (ty = 0 ∧ mu = false)) (h : Ew B P q w d) :
    Calls Try.prog 30 #[.pointer (some ⟨q, 0, none⟩), .agg #[.string s1, .string s2, .int .i64 2, .int .i64 ty, .bool mu, .int .i64 l1, .int .i64 l2]] w (Pt B P q w d (oB (eT s1) (oB (eT s2) (oB (eKi 2) (none)))) (.tuple #[])) := by
  have hq := h.lt_q
  have H1 : Hid (∀ (W : World) (d : List Int), Ew B (fun k => P k ∨ k = w.heap.size) q W d → Calls Try.prog 47 #[.pointer (some ⟨q, 0, none⟩), .string s1] W (Pt B (fun k => P k ∨ k = w.heap.size) q W d (eT s1) (.tuple #[]))) := fun W d h => name_any s1 h1 h
  have H2 : Hid (∀ (W : World) (d : List Int), Ew B (fun k => P k ∨ k = w.heap.size) q W d → Calls Try.prog 47 #[.pointer (some ⟨q, 0, none⟩), .string s2] W (Pt B (fun k => P k ∨ k = w.heap.size) q W d (eT s2) (.tuple #[]))) := fun W d h => name_any s2 h2 h
  have H3 : Hid (∀ (W : World) (d : List Int), Ew B (fun k => P k ∨ k = w.heap.size) q W d → Calls Try.prog 48 #[.pointer (some ⟨q, 0, none⟩), .int .i64 2] W (Pt B (fun k => P k ∨ k = w.heap.size) q W d (eKi 2) (.tuple #[]))) := fun W d h => kind_any 2 h
  have H4 : Hid (∀ (Q : Nat → Prop) (W : World) (d : List Int), Ew B Q q W d → Calls Try.prog 35 #[.pointer (some ⟨q, 0, none⟩), .agg #[.int .i64 l1, .int .i64 l2]] W (Pt B Q q W d (eLi (l1, l2)) (.tuple #[]))) := fun Q W d h => limits_any (l1, l2) h
  have hn : Hid (∀ w : World, Calls Try.prog 10 #[.bool false] w fun e w' => e = thn ∧ w' = w) := need_bad
  have hrow : Hid ((w.alloc (.cells #[.string s1, .string s2, .int .i64 2, .int .i64 ty, .bool mu, .int .i64 l1, .int .i64 l2] 40)).rowIs w.heap.size 40 7 (fun j => [.string s1, .string s2, .int .i64 2, .int .i64 ty, .bool mu, .int .i64 l1, .int .i64 l2].getD j undef)) := row_new w 40 [.string s1, .string s2, .int .i64 2, .int .i64 ty, .bool mu, .int .i64 l1, .int .i64 l2]
  have E0 : Hid (Ew B (fun k => P k ∨ k = w.heap.size) q (w.alloc (.cells #[.string s1, .string s2, .int .i64 2, .int .i64 ty, .bool mu, .int .i64 l1, .int .i64 l2] 40)) d) := h.with_block (La (Lz _)) (by simp)
  have R0 : Hid (Wr (Sq B (fun k => P k ∨ k = w.heap.size) q) (w.alloc (.cells #[.string s1, .string s2, .int .i64 2, .int .i64 ty, .bool mu, .int .i64 l1, .int .i64 l2] 40)) (w.alloc (.cells #[.string s1, .string s2, .int .i64 2, .int .i64 ty, .bool mu, .int .i64 l1, .int .i64 l2] 40))) := Wr.refl _ _
  have hfr : Hid (∀ (r : Value) (o : Ob) (e : Ending) (w' : World), Pt B (fun k => P k ∨ k = w.heap.size) q (w.alloc (.cells #[.string s1, .string s2, .int .i64 2, .int .i64 ty, .bool mu, .int .i64 l1, .int .i64 l2] 40)) d o r e w' → Pt B P q w d o r e w') := fun r o e w' h => (h.drop (fun k hk => Or.inl hk)).ahead (sq_later (La (Lz _)))
  have hnp : Hid (¬ Sq B (fun k => P k ∨ k = w.heap.size) q w.heap.size) := fun x => by rcases x with x | x; omega; exact x.2 (Or.inr rfl)
  clear h h1 h2
  generalize ho1 : eT s1 = o1 at *
  clear ho1
  generalize ho2 : eT s2 = o2 at *
  clear ho2
  generalize ho3 : eKi 2 = o3 at *
  clear ho3
  generalize ho4 : eLi (l1, l2) = o4 at *
  clear ho4
  go_enter Try.func30, Try.ntmps30
  have rp := (R0.out).row hnp.out hrow.out
  have k0 : (w.alloc (.cells #[.string s1, .string s2, .int .i64 2, .int .i64 ty, .bool mu, .int .i64 l1, .int .i64 l2] 40)).cell? ⟨w.heap.size, 0, none⟩ = some (.string s1) := rp.cell (i := 0) (by decide)
  have k1 : (w.alloc (.cells #[.string s1, .string s2, .int .i64 2, .int .i64 ty, .bool mu, .int .i64 l1, .int .i64 l2] 40)).cell? ⟨w.heap.size, 1, none⟩ = some (.string s2) := rp.cell (i := 1) (by decide)
  have k2 : (w.alloc (.cells #[.string s1, .string s2, .int .i64 2, .int .i64 ty, .bool mu, .int .i64 l1, .int .i64 l2] 40)).cell? ⟨w.heap.size, 2, none⟩ = some (.int .i64 2) := rp.cell (i := 2) (by decide)
  have k3 : (w.alloc (.cells #[.string s1, .string s2, .int .i64 2, .int .i64 ty, .bool mu, .int .i64 l1, .int .i64 l2] 40)).cell? ⟨w.heap.size, 3, none⟩ = some (.int .i64 ty) := rp.cell (i := 3) (by decide)
  have k4 : (w.alloc (.cells #[.string s1, .string s2, .int .i64 2, .int .i64 ty, .bool mu, .int .i64 l1, .int .i64 l2] 40)).cell? ⟨w.heap.size, 4, none⟩ = some (.bool mu) := rp.cell (i := 4) (by decide)
  have k5 : (w.alloc (.cells #[.string s1, .string s2, .int .i64 2, .int .i64 ty, .bool mu, .int .i64 l1, .int .i64 l2] 40)).cell? ⟨w.heap.size, 5, none⟩ = some (.int .i64 l1) := rp.cell (i := 5) (by decide)
  have k6 : (w.alloc (.cells #[.string s1, .string s2, .int .i64 2, .int .i64 ty, .bool mu, .int .i64 l1, .int .i64 l2] 40)).cell? ⟨w.heap.size, 6, none⟩ = some (.int .i64 l2) := rp.cell (i := 6) (by decide)
  have lp : w.heap.size < (w.alloc (.cells #[.string s1, .string s2, .int .i64 2, .int .i64 ty, .bool mu, .int .i64 l1, .int .i64 l2] 40)).heap.size := cell_lt k0
  clear rp
  go_wp2_with fail
  refine (H1.out _ _ E0.out).mono ?_
  clear H1 k0 k1 k2 k3 k4 k5 k6 lp
  rintro e w1 ⟨V1, (⟨b1, hb1, rfl, E1⟩ | ⟨n1, rfl⟩)⟩
  rotate_left
  · exact ⟨rfl, hfr.out _ _ _ _ (Pt.stop V1 n1)⟩
  have R1 : Hid (Wr (Sq B (fun k => P k ∨ k = w.heap.size) q) (w.alloc (.cells #[.string s1, .string s2, .int .i64 2, .int .i64 ty, .bool mu, .int .i64 l1, .int .i64 l2] 40)) w1) := R0.out.trans V1
  replace V1 : Hid _ := V1
  replace E1 : Hid _ := E1
  replace hb1 : Hid (o1 = some b1) := hb1
  have rp := (R1.out).row hnp.out hrow.out
  have k0 : w1.cell? ⟨w.heap.size, 0, none⟩ = some (.string s1) := rp.cell (i := 0) (by decide)
  have k1 : w1.cell? ⟨w.heap.size, 1, none⟩ = some (.string s2) := rp.cell (i := 1) (by decide)
  have k2 : w1.cell? ⟨w.heap.size, 2, none⟩ = some (.int .i64 2) := rp.cell (i := 2) (by decide)
  have k3 : w1.cell? ⟨w.heap.size, 3, none⟩ = some (.int .i64 ty) := rp.cell (i := 3) (by decide)
  have k4 : w1.cell? ⟨w.heap.size, 4, none⟩ = some (.bool mu) := rp.cell (i := 4) (by decide)
  have k5 : w1.cell? ⟨w.heap.size, 5, none⟩ = some (.int .i64 l1) := rp.cell (i := 5) (by decide)
  have k6 : w1.cell? ⟨w.heap.size, 6, none⟩ = some (.int .i64 l2) := rp.cell (i := 6) (by decide)
  have lp : w.heap.size < w1.heap.size := cell_lt k0
  clear rp
  go_wp2_with fail
  refine (H2.out _ _ E1.out).mono ?_
  clear H2 k0 k1 k2 k3 k4 k5 k6 lp
  rintro e w2 ⟨V2, (⟨b2, hb2, rfl, E2⟩ | ⟨n2, rfl⟩)⟩
  rotate_left
  · exact ⟨rfl, hfr.out _ _ _ _ (Pt.next hb1.out V1.out (Pt.stop V2 n2))⟩
  have R2 : Hid (Wr (Sq B (fun k => P k ∨ k = w.heap.size) q) (w.alloc (.cells #[.string s1, .string s2, .int .i64 2, .int .i64 ty, .bool mu, .int .i64 l1, .int .i64 l2] 40)) w2) := R1.out.trans V2
  replace V2 : Hid _ := V2
  replace E2 : Hid _ := E2
  replace hb2 : Hid (o2 = some b2) := hb2
  have rp := (R2.out).row hnp.out hrow.out
  have k0 : w2.cell? ⟨w.heap.size, 0, none⟩ = some (.string s1) := rp.cell (i := 0) (by decide)
  have k1 : w2.cell? ⟨w.heap.size, 1, none⟩ = some (.string s2) := rp.cell (i := 1) (by decide)
  have k2 : w2.cell? ⟨w.heap.size, 2, none⟩ = some (.int .i64 2) := rp.cell (i := 2) (by decide)
  have k3 : w2.cell? ⟨w.heap.size, 3, none⟩ = some (.int .i64 ty) := rp.cell (i := 3) (by decide)
  have k4 : w2.cell? ⟨w.heap.size, 4, none⟩ = some (.bool mu) := rp.cell (i := 4) (by decide)
  have k5 : w2.cell? ⟨w.heap.size, 5, none⟩ = some (.int .i64 l1) := rp.cell (i := 5) (by decide)
  have k6 : w2.cell? ⟨w.heap.size, 6, none⟩ = some (.int .i64 l2) := rp.cell (i := 6) (by decide)
  have lp : w.heap.size < w2.heap.size := cell_lt k0
  clear rp
  go_wp2_with fail
  refine (H3.out _ _ E2.out).mono ?_
  clear H3 k0 k1 k2 k3 k4 k5 k6 lp
  rintro e w3 ⟨V3, (⟨b3, hb3, rfl, E3⟩ | ⟨n3, rfl⟩)⟩
  rotate_left
  · exact ⟨rfl, hfr.out _ _ _ _ (Pt.next hb1.out V1.out (Pt.next hb2.out V2.out (Pt.stop V3 n3)))⟩
  have R3 : Hid (Wr (Sq B (fun k => P k ∨ k = w.heap.size) q) (w.alloc (.cells #[.string s1, .string s2, .int .i64 2, .int .i64 ty, .bool mu, .int .i64 l1, .int .i64 l2] 40)) w3) := R2.out.trans V3
  replace V3 : Hid _ := V3
  replace E3 : Hid _ := E3
  replace hb3 : Hid (o3 = some b3) := hb3
  have rp := (R3.out).row hnp.out hrow.out
  have k0 : w3.cell? ⟨w.heap.size, 0, none⟩ = some (.string s1) := rp.cell (i := 0) (by decide)
  have k1 : w3.cell? ⟨w.heap.size, 1, none⟩ = some (.string s2) := rp.cell (i := 1) (by decide)
  have k2 : w3.cell? ⟨w.heap.size, 2, none⟩ = some (.int .i64 2) := rp.cell (i := 2) (by decide)
  have k3 : w3.cell? ⟨w.heap.size, 3, none⟩ = some (.int .i64 ty) := rp.cell (i := 3) (by decide)
  have k4 : w3.cell? ⟨w.heap.size, 4, none⟩ = some (.bool mu) := rp.cell (i := 4) (by decide)
  have k5 : w3.cell? ⟨w.heap.size, 5, none⟩ = some (.int .i64 l1) := rp.cell (i := 5) (by decide)
  have k6 : w3.cell? ⟨w.heap.size, 6, none⟩ = some (.int .i64 l2) := rp.cell (i := 6) (by decide)
  have lp : w.heap.size < w3.heap.size := cell_lt k0
  clear rp
  have hrow1 : Hid ((w3.alloc (.cells #[.string s1, .string s2, .int .i64 2, .int .i64 0, .bool false, .int .i64 l1, .int .i64 l2] 40)).rowIs w.heap.size 40 7 (fun j => [.string s1, .string s2, .int .i64 2, .int .i64 ty, .bool mu, .int .i64 l1, .int .i64 l2].getD j undef)) := rowIs_later (La (Lz _)) (R3.out.row hnp.out hrow.out)
  have hrow2 : Hid ((w3.alloc (.cells #[.string s1, .string s2, .int .i64 2, .int .i64 0, .bool false, .int .i64 l1, .int .i64 l2] 40)).rowIs w3.heap.size 40 7 (fun j => [.string s1, .string s2, .int .i64 2, .int .i64 0, .bool false, .int .i64 l1, .int .i64 l2].getD j undef)) := (row_new w3 40 [.string s1, .string s2, .int .i64 2, .int .i64 0, .bool false, .int .i64 l1, .int .i64 l2])
  have F3 : Hid (Ew B (fun k => (fun k => P k ∨ k = w.heap.size) k ∨ k = w3.heap.size) q (w3.alloc (.cells #[.string s1, .string s2, .int .i64 2, .int .i64 0, .bool false, .int .i64 l1, .int .i64 l2] 40)) (d ++ b1 ++ b2 ++ b3)) := Ew.with_block E3.out (La (Lz _)) (by simp)
  have S3 : Hid (Wr (Sq B (fun k => (fun k => P k ∨ k = w.heap.size) k ∨ k = w3.heap.size) q) (w3.alloc (.cells #[.string s1, .string s2, .int .i64 2, .int .i64 0, .bool false, .int .i64 l1, .int .i64 l2] 40)) (w3.alloc (.cells #[.string s1, .string s2, .int .i64 2, .int .i64 0, .bool false, .int .i64 l1, .int .i64 l2] 40))) := Wr.refl _ _
  have hf2 : Hid (∀ (r : Value) (o : Ob) (e : Ending) (w' : World), Pt B (fun k => (fun k => P k ∨ k = w.heap.size) k ∨ k = w3.heap.size) q (w3.alloc (.cells #[.string s1, .string s2, .int .i64 2, .int .i64 0, .bool false, .int .i64 l1, .int .i64 l2] 40)) (d ++ b1 ++ b2 ++ b3) o r e w' → Pt B (fun k => P k ∨ k = w.heap.size) q w3 (d ++ b1 ++ b2 ++ b3) o r e w') := fun r o e w' h => (h.drop (fun k hk => Or.inl hk)).ahead (sq_later (La (Lz _)))
  have hq3 : q < w3.heap.size := Nat.lt_of_lt_of_le (show q < w.heap.size + 1 by omega) (by have := R3.out.size; simpa using this)
  have hn1 : Hid (¬ Sq B (fun k => (fun k => P k ∨ k = w.heap.size) k ∨ k = w3.heap.size) q w.heap.size) := fun x => by rcases x with x | x; omega; exact x.2 (Or.inl (Or.inr rfl))
  have hn2 : Hid (¬ Sq B (fun k => (fun k => P k ∨ k = w.heap.size) k ∨ k = w3.heap.size) q w3.heap.size) := fun x => by rcases x with x | x; omega; exact x.2 (Or.inr rfl)
  clear E0 hq hq3
  go_wp2_with fail
  refine (H4.out _ _ _ F3.out).mono ?_
  clear H4 k0 k1 k2 k3 k4 k5 k6 lp
  rintro e w4 ⟨V4, (⟨b4, hb4, rfl, F4⟩ | ⟨n4, rfl⟩)⟩
  rotate_left
  · exact ⟨rfl, hfr.out _ _ _ _ (Pt.next hb1.out V1.out (Pt.next hb2.out V2.out (Pt.next hb3.out V3.out (hf2.out _ _ _ _ (Pt.bad (S3.out.trans V4) (fit_none _))))))⟩
  have S4 : Hid (Wr (Sq B (fun k => (fun k => P k ∨ k = w.heap.size) k ∨ k = w3.heap.size) q) (w3.alloc (.cells #[.string s1, .string s2, .int .i64 2, .int .i64 0, .bool false, .int .i64 l1, .int .i64 l2] 40)) w4) := S3.out.trans V4
  replace V4 : Hid _ := V4
  replace F4 : Hid _ := F4
  replace hb4 : Hid (o4 = some b4) := hb4
  have rp := (S4.out).row hn1.out hrow1.out
  have k0 : w4.cell? ⟨w.heap.size, 0, none⟩ = some (.string s1) := rp.cell (i := 0) (by decide)
  have k1 : w4.cell? ⟨w.heap.size, 1, none⟩ = some (.string s2) := rp.cell (i := 1) (by decide)
  have k2 : w4.cell? ⟨w.heap.size, 2, none⟩ = some (.int .i64 2) := rp.cell (i := 2) (by decide)
  have k3 : w4.cell? ⟨w.heap.size, 3, none⟩ = some (.int .i64 ty) := rp.cell (i := 3) (by decide)
  have k4 : w4.cell? ⟨w.heap.size, 4, none⟩ = some (.bool mu) := rp.cell (i := 4) (by decide)
  have k5 : w4.cell? ⟨w.heap.size, 5, none⟩ = some (.int .i64 l1) := rp.cell (i := 5) (by decide)
  have k6 : w4.cell? ⟨w.heap.size, 6, none⟩ = some (.int .i64 l2) := rp.cell (i := 6) (by decide)
  have rp2 := (S4.out).row hn2.out hrow2.out
  have r0 : w4.cell? ⟨w3.heap.size, 0, none⟩ = some (.string s1) := rp2.cell (i := 0) (by decide)
  have r1 : w4.cell? ⟨w3.heap.size, 1, none⟩ = some (.string s2) := rp2.cell (i := 1) (by decide)
  have r2 : w4.cell? ⟨w3.heap.size, 2, none⟩ = some (.int .i64 2) := rp2.cell (i := 2) (by decide)
  have r3 : w4.cell? ⟨w3.heap.size, 3, none⟩ = some (.int .i64 0) := rp2.cell (i := 3) (by decide)
  have r4 : w4.cell? ⟨w3.heap.size, 4, none⟩ = some (.bool false) := rp2.cell (i := 4) (by decide)
  have r5 : w4.cell? ⟨w3.heap.size, 5, none⟩ = some (.int .i64 l1) := rp2.cell (i := 5) (by decide)
  have r6 : w4.cell? ⟨w3.heap.size, 6, none⟩ = some (.int .i64 l2) := rp2.cell (i := 6) (by decide)
  have lp : w.heap.size < w4.heap.size := cell_lt k0
  have lr : w3.heap.size < w4.heap.size := cell_lt r0
  clear rp rp2
  clear hrow hrow1 hrow2 hn1 hn2 hnp R0 R1 R2 R3 E1 E2 E3
  replace hz : Hid (¬ (ty = 0 ∧ mu = false)) := hz
  go_wp2_with (go_at_call 10; refine (hn.out _).mono ?_; rintro e w0 ⟨rfl, hw0⟩; obtain rfl := hw0.symm)
  all_goals first | exact ⟨rfl, hfr.out _ _ _ _ (Pt.next hb1.out V1.out (Pt.next hb2.out V2.out (Pt.next hb3.out V3.out (hf2.out _ _ _ _ (Pt.bad S4.out (fit_none _))))))⟩ | exact absurd (by first | exact ⟨rfl, rfl, rfl⟩ | exact ⟨rfl, rfl⟩ | (refine ⟨?_, ?_, ?_⟩ <;> assumption) | (refine ⟨?_, ?_⟩ <;> assumption) | simp_all) hz.out
theorem imp3 (s1 s2 : ByteArray) (h1 : s1.size < 9223372036854775000) (h2 : s2.size < 9223372036854775000) (ty : Int) (mu : Bool) (h : Ew B P q w d) :
    Calls Try.prog 30 #[.pointer (some ⟨q, 0, none⟩), .agg #[.string s1, .string s2, .int .i64 3, .int .i64 ty, .bool mu, .int .i64 0, .int .i64 0]] w (Pt B P q w d (oB (eT s1) (oB (eT s2) (oB (eKi 3) (oB (eK ty) (eB mu))))) (.tuple #[])) := by
  have hq := h.lt_q
  have H1 : Hid (∀ (W : World) (d : List Int), Ew B (fun k => P k ∨ k = w.heap.size) q W d → Calls Try.prog 47 #[.pointer (some ⟨q, 0, none⟩), .string s1] W (Pt B (fun k => P k ∨ k = w.heap.size) q W d (eT s1) (.tuple #[]))) := fun W d h => name_any s1 h1 h
  have H2 : Hid (∀ (W : World) (d : List Int), Ew B (fun k => P k ∨ k = w.heap.size) q W d → Calls Try.prog 47 #[.pointer (some ⟨q, 0, none⟩), .string s2] W (Pt B (fun k => P k ∨ k = w.heap.size) q W d (eT s2) (.tuple #[]))) := fun W d h => name_any s2 h2 h
  have H3 : Hid (∀ (W : World) (d : List Int), Ew B (fun k => P k ∨ k = w.heap.size) q W d → Calls Try.prog 48 #[.pointer (some ⟨q, 0, none⟩), .int .i64 3] W (Pt B (fun k => P k ∨ k = w.heap.size) q W d (eKi 3) (.tuple #[]))) := fun W d h => kind_any 3 h
  have H4 : Hid (∀ (Q : Nat → Prop) (W : World) (d : List Int), Ew B Q q W d → Calls Try.prog 46 #[.pointer (some ⟨q, 0, none⟩), .int .i64 ty] W (Pt B Q q W d (eK ty) (.tuple #[]))) := fun Q W d h => vtype_any ty h
  have H5 : Hid (∀ (Q : Nat → Prop) (W : World) (d : List Int), Ew B Q q W d → Calls Try.prog 49 #[.pointer (some ⟨q, 0, none⟩), .bool mu] W (Pt B Q q W d (eB mu) (.tuple #[]))) := fun Q W d h => flag_any mu h
  have hn : Hid (∀ w : World, Calls Try.prog 10 #[.bool true] w fun e w' => e = .returned (.tuple #[]) ∧ w' = w) := need_ok
  have hrow : Hid ((w.alloc (.cells #[.string s1, .string s2, .int .i64 3, .int .i64 ty, .bool mu, .int .i64 0, .int .i64 0] 40)).rowIs w.heap.size 40 7 (fun j => [.string s1, .string s2, .int .i64 3, .int .i64 ty, .bool mu, .int .i64 0, .int .i64 0].getD j undef)) := row_new w 40 [.string s1, .string s2, .int .i64 3, .int .i64 ty, .bool mu, .int .i64 0, .int .i64 0]
  have E0 : Hid (Ew B (fun k => P k ∨ k = w.heap.size) q (w.alloc (.cells #[.string s1, .string s2, .int .i64 3, .int .i64 ty, .bool mu, .int .i64 0, .int .i64 0] 40)) d) := h.with_block (La (Lz _)) (by simp)
  have R0 : Hid (Wr (Sq B (fun k => P k ∨ k = w.heap.size) q) (w.alloc (.cells #[.string s1, .string s2, .int .i64 3, .int .i64 ty, .bool mu, .int .i64 0, .int .i64 0] 40)) (w.alloc (.cells #[.string s1, .string s2, .int .i64 3, .int .i64 ty, .bool mu, .int .i64 0, .int .i64 0] 40))) := Wr.refl _ _
  have hfr : Hid (∀ (r : Value) (o : Ob) (e : Ending) (w' : World), Pt B (fun k => P k ∨ k = w.heap.size) q (w.alloc (.cells #[.string s1, .string s2, .int .i64 3, .int .i64 ty, .bool mu, .int .i64 0, .int .i64 0] 40)) d o r e w' → Pt B P q w d o r e w') := fun r o e w' h => (h.drop (fun k hk => Or.inl hk)).ahead (sq_later (La (Lz _)))
  have hnp : Hid (¬ Sq B (fun k => P k ∨ k = w.heap.size) q w.heap.size) := fun x => by rcases x with x | x; omega; exact x.2 (Or.inr rfl)
  clear h h1 h2
  generalize ho1 : eT s1 = o1 at *
  clear ho1
  generalize ho2 : eT s2 = o2 at *
  clear ho2
  generalize ho3 : eKi 3 = o3 at *
  clear ho3
  generalize ho4 : eK ty = o4 at *
  clear ho4
  generalize ho5 : eB mu = o5 at *
  clear ho5
  go_enter Try.func30, Try.ntmps30
  have rp := (R0.out).row hnp.out hrow.out
  have k0 : (w.alloc (.cells #[.string s1, .string s2, .int .i64 3, .int .i64 ty, .bool mu, .int .i64 0, .int .i64 0] 40)).cell? ⟨w.heap.size, 0, none⟩ = some (.string s1) := rp.cell (i := 0) (by decide)
  have k1 : (w.alloc (.cells #[.string s1, .string s2, .int .i64 3, .int .i64 ty, .bool mu, .int .i64 0, .int .i64 0] 40)).cell? ⟨w.heap.size, 1, none⟩ = some (.string s2) := rp.cell (i := 1) (by decide)
  have k2 : (w.alloc (.cells #[.string s1, .string s2, .int .i64 3, .int .i64 ty, .bool mu, .int .i64 0, .int .i64 0] 40)).cell? ⟨w.heap.size, 2, none⟩ = some (.int .i64 3) := rp.cell (i := 2) (by decide)
  have k3 : (w.alloc (.cells #[.string s1, .string s2, .int .i64 3, .int .i64 ty, .bool mu, .int .i64 0, .int .i64 0] 40)).cell? ⟨w.heap.size, 3, none⟩ = some (.int .i64 ty) := rp.cell (i := 3) (by decide)
  have k4 : (w.alloc (.cells #[.string s1, .string s2, .int .i64 3, .int .i64 ty, .bool mu, .int .i64 0, .int .i64 0] 40)).cell? ⟨w.heap.size, 4, none⟩ = some (.bool mu) := rp.cell (i := 4) (by decide)
  have k5 : (w.alloc (.cells #[.string s1, .string s2, .int .i64 3, .int .i64 ty, .bool mu, .int .i64 0, .int .i64 0] 40)).cell? ⟨w.heap.size, 5, none⟩ = some (.int .i64 0) := rp.cell (i := 5) (by decide)
  have k6 : (w.alloc (.cells #[.string s1, .string s2, .int .i64 3, .int .i64 ty, .bool mu, .int .i64 0, .int .i64 0] 40)).cell? ⟨w.heap.size, 6, none⟩ = some (.int .i64 0) := rp.cell (i := 6) (by decide)
  have lp : w.heap.size < (w.alloc (.cells #[.string s1, .string s2, .int .i64 3, .int .i64 ty, .bool mu, .int .i64 0, .int .i64 0] 40)).heap.size := cell_lt k0
  clear rp
  go_wp2_with fail
  refine (H1.out _ _ E0.out).mono ?_
  clear H1 k0 k1 k2 k3 k4 k5 k6 lp
  rintro e w1 ⟨V1, (⟨b1, hb1, rfl, E1⟩ | ⟨n1, rfl⟩)⟩
  rotate_left
  · exact ⟨rfl, hfr.out _ _ _ _ (Pt.stop V1 n1)⟩
  have R1 : Hid (Wr (Sq B (fun k => P k ∨ k = w.heap.size) q) (w.alloc (.cells #[.string s1, .string s2, .int .i64 3, .int .i64 ty, .bool mu, .int .i64 0, .int .i64 0] 40)) w1) := R0.out.trans V1
  replace V1 : Hid _ := V1
  replace E1 : Hid _ := E1
  replace hb1 : Hid (o1 = some b1) := hb1
  have rp := (R1.out).row hnp.out hrow.out
  have k0 : w1.cell? ⟨w.heap.size, 0, none⟩ = some (.string s1) := rp.cell (i := 0) (by decide)
  have k1 : w1.cell? ⟨w.heap.size, 1, none⟩ = some (.string s2) := rp.cell (i := 1) (by decide)
  have k2 : w1.cell? ⟨w.heap.size, 2, none⟩ = some (.int .i64 3) := rp.cell (i := 2) (by decide)
  have k3 : w1.cell? ⟨w.heap.size, 3, none⟩ = some (.int .i64 ty) := rp.cell (i := 3) (by decide)
  have k4 : w1.cell? ⟨w.heap.size, 4, none⟩ = some (.bool mu) := rp.cell (i := 4) (by decide)
  have k5 : w1.cell? ⟨w.heap.size, 5, none⟩ = some (.int .i64 0) := rp.cell (i := 5) (by decide)
  have k6 : w1.cell? ⟨w.heap.size, 6, none⟩ = some (.int .i64 0) := rp.cell (i := 6) (by decide)
  have lp : w.heap.size < w1.heap.size := cell_lt k0
  clear rp
  go_wp2_with fail
  refine (H2.out _ _ E1.out).mono ?_
  clear H2 k0 k1 k2 k3 k4 k5 k6 lp
  rintro e w2 ⟨V2, (⟨b2, hb2, rfl, E2⟩ | ⟨n2, rfl⟩)⟩
  rotate_left
  · exact ⟨rfl, hfr.out _ _ _ _ (Pt.next hb1.out V1.out (Pt.stop V2 n2))⟩
  have R2 : Hid (Wr (Sq B (fun k => P k ∨ k = w.heap.size) q) (w.alloc (.cells #[.string s1, .string s2, .int .i64 3, .int .i64 ty, .bool mu, .int .i64 0, .int .i64 0] 40)) w2) := R1.out.trans V2
  replace V2 : Hid _ := V2
  replace E2 : Hid _ := E2
  replace hb2 : Hid (o2 = some b2) := hb2
  have rp := (R2.out).row hnp.out hrow.out
  have k0 : w2.cell? ⟨w.heap.size, 0, none⟩ = some (.string s1) := rp.cell (i := 0) (by decide)
  have k1 : w2.cell? ⟨w.heap.size, 1, none⟩ = some (.string s2) := rp.cell (i := 1) (by decide)
  have k2 : w2.cell? ⟨w.heap.size, 2, none⟩ = some (.int .i64 3) := rp.cell (i := 2) (by decide)
  have k3 : w2.cell? ⟨w.heap.size, 3, none⟩ = some (.int .i64 ty) := rp.cell (i := 3) (by decide)
  have k4 : w2.cell? ⟨w.heap.size, 4, none⟩ = some (.bool mu) := rp.cell (i := 4) (by decide)
  have k5 : w2.cell? ⟨w.heap.size, 5, none⟩ = some (.int .i64 0) := rp.cell (i := 5) (by decide)
  have k6 : w2.cell? ⟨w.heap.size, 6, none⟩ = some (.int .i64 0) := rp.cell (i := 6) (by decide)
  have lp : w.heap.size < w2.heap.size := cell_lt k0
  clear rp
  go_wp2_with fail
  refine (H3.out _ _ E2.out).mono ?_
  clear H3 k0 k1 k2 k3 k4 k5 k6 lp
  rintro e w3 ⟨V3, (⟨b3, hb3, rfl, E3⟩ | ⟨n3, rfl⟩)⟩
  rotate_left
  · exact ⟨rfl, hfr.out _ _ _ _ (Pt.next hb1.out V1.out (Pt.next hb2.out V2.out (Pt.stop V3 n3)))⟩
  have R3 : Hid (Wr (Sq B (fun k => P k ∨ k = w.heap.size) q) (w.alloc (.cells #[.string s1, .string s2, .int .i64 3, .int .i64 ty, .bool mu, .int .i64 0, .int .i64 0] 40)) w3) := R2.out.trans V3
  replace V3 : Hid _ := V3
  replace E3 : Hid _ := E3
  replace hb3 : Hid (o3 = some b3) := hb3
  have rp := (R3.out).row hnp.out hrow.out
  have k0 : w3.cell? ⟨w.heap.size, 0, none⟩ = some (.string s1) := rp.cell (i := 0) (by decide)
  have k1 : w3.cell? ⟨w.heap.size, 1, none⟩ = some (.string s2) := rp.cell (i := 1) (by decide)
  have k2 : w3.cell? ⟨w.heap.size, 2, none⟩ = some (.int .i64 3) := rp.cell (i := 2) (by decide)
  have k3 : w3.cell? ⟨w.heap.size, 3, none⟩ = some (.int .i64 ty) := rp.cell (i := 3) (by decide)
  have k4 : w3.cell? ⟨w.heap.size, 4, none⟩ = some (.bool mu) := rp.cell (i := 4) (by decide)
  have k5 : w3.cell? ⟨w.heap.size, 5, none⟩ = some (.int .i64 0) := rp.cell (i := 5) (by decide)
  have k6 : w3.cell? ⟨w.heap.size, 6, none⟩ = some (.int .i64 0) := rp.cell (i := 6) (by decide)
  have lp : w.heap.size < w3.heap.size := cell_lt k0
  clear rp
  have hrow1 : Hid (((w3.alloc (.cells #[.string s1, .string s2, .int .i64 3, .int .i64 ty, .bool mu, .int .i64 0, .int .i64 0] 40)).drew).rowIs w.heap.size 40 7 (fun j => [.string s1, .string s2, .int .i64 3, .int .i64 ty, .bool mu, .int .i64 0, .int .i64 0].getD j undef)) := rowIs_later (Ld (La (Lz _))) (R3.out.row hnp.out hrow.out)
  have hrow2 : Hid (((w3.alloc (.cells #[.string s1, .string s2, .int .i64 3, .int .i64 ty, .bool mu, .int .i64 0, .int .i64 0] 40)).drew).rowIs w3.heap.size 40 7 (fun j => [.string s1, .string s2, .int .i64 3, .int .i64 ty, .bool mu, .int .i64 0, .int .i64 0].getD j undef)) := rowIs_later (Ld (Lz _)) (row_new w3 40 [.string s1, .string s2, .int .i64 3, .int .i64 ty, .bool mu, .int .i64 0, .int .i64 0])
  have F3 : Hid (Ew B (fun k => (fun k => P k ∨ k = w.heap.size) k ∨ k = w3.heap.size) q ((w3.alloc (.cells #[.string s1, .string s2, .int .i64 3, .int .i64 ty, .bool mu, .int .i64 0, .int .i64 0] 40)).drew) (d ++ b1 ++ b2 ++ b3)) := Ew.with_block E3.out (Ld (La (Lz _))) (by simp)
  have S3 : Hid (Wr (Sq B (fun k => (fun k => P k ∨ k = w.heap.size) k ∨ k = w3.heap.size) q) ((w3.alloc (.cells #[.string s1, .string s2, .int .i64 3, .int .i64 ty, .bool mu, .int .i64 0, .int .i64 0] 40)).drew) ((w3.alloc (.cells #[.string s1, .string s2, .int .i64 3, .int .i64 ty, .bool mu, .int .i64 0, .int .i64 0] 40)).drew)) := Wr.refl _ _
  have hf2 : Hid (∀ (r : Value) (o : Ob) (e : Ending) (w' : World), Pt B (fun k => (fun k => P k ∨ k = w.heap.size) k ∨ k = w3.heap.size) q ((w3.alloc (.cells #[.string s1, .string s2, .int .i64 3, .int .i64 ty, .bool mu, .int .i64 0, .int .i64 0] 40)).drew) (d ++ b1 ++ b2 ++ b3) o r e w' → Pt B (fun k => P k ∨ k = w.heap.size) q w3 (d ++ b1 ++ b2 ++ b3) o r e w') := fun r o e w' h => (h.drop (fun k hk => Or.inl hk)).ahead (sq_later (Ld (La (Lz _))))
  have hq3 : q < w3.heap.size := Nat.lt_of_lt_of_le (show q < w.heap.size + 1 by omega) (by have := R3.out.size; simpa using this)
  have hn1 : Hid (¬ Sq B (fun k => (fun k => P k ∨ k = w.heap.size) k ∨ k = w3.heap.size) q w.heap.size) := fun x => by rcases x with x | x; omega; exact x.2 (Or.inl (Or.inr rfl))
  have hn2 : Hid (¬ Sq B (fun k => (fun k => P k ∨ k = w.heap.size) k ∨ k = w3.heap.size) q w3.heap.size) := fun x => by rcases x with x | x; omega; exact x.2 (Or.inr rfl)
  clear E0 hq hq3
  go_wp2_with fail
  go_region_law (fail)
  all_goals
    go_wp2_with fail
    refine (H4.out _ _ _ F3.out).mono ?_
    clear H4 k0 k1 k2 k3 k4 k5 k6 lp
    rintro e w4 ⟨V4, (⟨b4, hb4, rfl, F4⟩ | ⟨n4, rfl⟩)⟩
    rotate_left
    · exact ⟨rfl, hfr.out _ _ _ _ (Pt.next hb1.out V1.out (Pt.next hb2.out V2.out (Pt.next hb3.out V3.out (hf2.out _ _ _ _ (Pt.stop V4 n4)))))⟩
    have S4 : Hid (Wr (Sq B (fun k => (fun k => P k ∨ k = w.heap.size) k ∨ k = w3.heap.size) q) ((w3.alloc (.cells #[.string s1, .string s2, .int .i64 3, .int .i64 ty, .bool mu, .int .i64 0, .int .i64 0] 40)).drew) w4) := S3.out.trans V4
    replace V4 : Hid _ := V4
    replace F4 : Hid _ := F4
    replace hb4 : Hid (o4 = some b4) := hb4
    have rp := (S4.out).row hn1.out hrow1.out
    have k0 : w4.cell? ⟨w.heap.size, 0, none⟩ = some (.string s1) := rp.cell (i := 0) (by decide)
    have k1 : w4.cell? ⟨w.heap.size, 1, none⟩ = some (.string s2) := rp.cell (i := 1) (by decide)
    have k2 : w4.cell? ⟨w.heap.size, 2, none⟩ = some (.int .i64 3) := rp.cell (i := 2) (by decide)
    have k3 : w4.cell? ⟨w.heap.size, 3, none⟩ = some (.int .i64 ty) := rp.cell (i := 3) (by decide)
    have k4 : w4.cell? ⟨w.heap.size, 4, none⟩ = some (.bool mu) := rp.cell (i := 4) (by decide)
    have k5 : w4.cell? ⟨w.heap.size, 5, none⟩ = some (.int .i64 0) := rp.cell (i := 5) (by decide)
    have k6 : w4.cell? ⟨w.heap.size, 6, none⟩ = some (.int .i64 0) := rp.cell (i := 6) (by decide)
    have rp2 := (S4.out).row hn2.out hrow2.out
    have r0 : w4.cell? ⟨w3.heap.size, 0, none⟩ = some (.string s1) := rp2.cell (i := 0) (by decide)
    have r1 : w4.cell? ⟨w3.heap.size, 1, none⟩ = some (.string s2) := rp2.cell (i := 1) (by decide)
    have r2 : w4.cell? ⟨w3.heap.size, 2, none⟩ = some (.int .i64 3) := rp2.cell (i := 2) (by decide)
    have r3 : w4.cell? ⟨w3.heap.size, 3, none⟩ = some (.int .i64 ty) := rp2.cell (i := 3) (by decide)
    have r4 : w4.cell? ⟨w3.heap.size, 4, none⟩ = some (.bool mu) := rp2.cell (i := 4) (by decide)
    have r5 : w4.cell? ⟨w3.heap.size, 5, none⟩ = some (.int .i64 0) := rp2.cell (i := 5) (by decide)
    have r6 : w4.cell? ⟨w3.heap.size, 6, none⟩ = some (.int .i64 0) := rp2.cell (i := 6) (by decide)
    have lp : w.heap.size < w4.heap.size := cell_lt k0
    have lr : w3.heap.size < w4.heap.size := cell_lt r0
    clear rp rp2
    go_wp2_with fail
    refine (H5.out _ _ _ F4.out).mono ?_
    clear H5 k0 k1 k2 k3 k4 k5 k6 lp r0 r1 r2 r3 r4 r5 r6 lr
    rintro e w5 ⟨V5, (⟨b5, hb5, rfl, F5⟩ | ⟨n5, rfl⟩)⟩
    rotate_left
    · exact ⟨rfl, hfr.out _ _ _ _ (Pt.next hb1.out V1.out (Pt.next hb2.out V2.out (Pt.next hb3.out V3.out (hf2.out _ _ _ _ (Pt.next hb4.out V4.out (Pt.bad V5 n5))))))⟩
    have S5 : Hid (Wr (Sq B (fun k => (fun k => P k ∨ k = w.heap.size) k ∨ k = w3.heap.size) q) ((w3.alloc (.cells #[.string s1, .string s2, .int .i64 3, .int .i64 ty, .bool mu, .int .i64 0, .int .i64 0] 40)).drew) w5) := S4.out.trans V5
    replace V5 : Hid _ := V5
    replace F5 : Hid _ := F5
    replace hb5 : Hid (o5 = some b5) := hb5
    have rp := (S5.out).row hn1.out hrow1.out
    have k0 : w5.cell? ⟨w.heap.size, 0, none⟩ = some (.string s1) := rp.cell (i := 0) (by decide)
    have k1 : w5.cell? ⟨w.heap.size, 1, none⟩ = some (.string s2) := rp.cell (i := 1) (by decide)
    have k2 : w5.cell? ⟨w.heap.size, 2, none⟩ = some (.int .i64 3) := rp.cell (i := 2) (by decide)
    have k3 : w5.cell? ⟨w.heap.size, 3, none⟩ = some (.int .i64 ty) := rp.cell (i := 3) (by decide)
    have k4 : w5.cell? ⟨w.heap.size, 4, none⟩ = some (.bool mu) := rp.cell (i := 4) (by decide)
    have k5 : w5.cell? ⟨w.heap.size, 5, none⟩ = some (.int .i64 0) := rp.cell (i := 5) (by decide)
    have k6 : w5.cell? ⟨w.heap.size, 6, none⟩ = some (.int .i64 0) := rp.cell (i := 6) (by decide)
    have rp2 := (S5.out).row hn2.out hrow2.out
    have r0 : w5.cell? ⟨w3.heap.size, 0, none⟩ = some (.string s1) := rp2.cell (i := 0) (by decide)
    have r1 : w5.cell? ⟨w3.heap.size, 1, none⟩ = some (.string s2) := rp2.cell (i := 1) (by decide)
    have r2 : w5.cell? ⟨w3.heap.size, 2, none⟩ = some (.int .i64 3) := rp2.cell (i := 2) (by decide)
    have r3 : w5.cell? ⟨w3.heap.size, 3, none⟩ = some (.int .i64 ty) := rp2.cell (i := 3) (by decide)
    have r4 : w5.cell? ⟨w3.heap.size, 4, none⟩ = some (.bool mu) := rp2.cell (i := 4) (by decide)
    have r5 : w5.cell? ⟨w3.heap.size, 5, none⟩ = some (.int .i64 0) := rp2.cell (i := 5) (by decide)
    have r6 : w5.cell? ⟨w3.heap.size, 6, none⟩ = some (.int .i64 0) := rp2.cell (i := 6) (by decide)
    have lp : w.heap.size < w5.heap.size := cell_lt k0
    have lr : w3.heap.size < w5.heap.size := cell_lt r0
    clear rp rp2
    clear hrow hrow1 hrow2 hn1 hn2 hnp R0 R1 R2 R3 E1 E2 E3
    go_wp2_with (go_at_call 10; refine (hn.out _).mono ?_; rintro e w0 ⟨rfl, hw0⟩; obtain rfl := hw0.symm)
    go_end0
    exact hfr.out _ _ _ _ (Pt.next hb1.out V1.out (Pt.next hb2.out V2.out (Pt.next hb3.out V3.out (hf2.out _ _ _ _ (Pt.next hb4.out V4.out (⟨V5.out, Or.inl ⟨b5, hb5.out, rfl, F5.out⟩⟩))))))
theorem imp3b (s1 s2 : ByteArray) (h1 : s1.size < 9223372036854775000) (h2 : s2.size < 9223372036854775000) (ty : Int) (mu : Bool) (l1 l2 : Int) (hz : ¬ (l1 = 0 ∧ l2 = 0)) (h : Ew B P q w d) :
    Calls Try.prog 30 #[.pointer (some ⟨q, 0, none⟩), .agg #[.string s1, .string s2, .int .i64 3, .int .i64 ty, .bool mu, .int .i64 l1, .int .i64 l2]] w (Pt B P q w d (oB (eT s1) (oB (eT s2) (oB (eKi 3) (none)))) (.tuple #[])) := by
  have hq := h.lt_q
  have H1 : Hid (∀ (W : World) (d : List Int), Ew B (fun k => P k ∨ k = w.heap.size) q W d → Calls Try.prog 47 #[.pointer (some ⟨q, 0, none⟩), .string s1] W (Pt B (fun k => P k ∨ k = w.heap.size) q W d (eT s1) (.tuple #[]))) := fun W d h => name_any s1 h1 h
  have H2 : Hid (∀ (W : World) (d : List Int), Ew B (fun k => P k ∨ k = w.heap.size) q W d → Calls Try.prog 47 #[.pointer (some ⟨q, 0, none⟩), .string s2] W (Pt B (fun k => P k ∨ k = w.heap.size) q W d (eT s2) (.tuple #[]))) := fun W d h => name_any s2 h2 h
  have H3 : Hid (∀ (W : World) (d : List Int), Ew B (fun k => P k ∨ k = w.heap.size) q W d → Calls Try.prog 48 #[.pointer (some ⟨q, 0, none⟩), .int .i64 3] W (Pt B (fun k => P k ∨ k = w.heap.size) q W d (eKi 3) (.tuple #[]))) := fun W d h => kind_any 3 h
  have H4 : Hid (∀ (Q : Nat → Prop) (W : World) (d : List Int), Ew B Q q W d → Calls Try.prog 46 #[.pointer (some ⟨q, 0, none⟩), .int .i64 ty] W (Pt B Q q W d (eK ty) (.tuple #[]))) := fun Q W d h => vtype_any ty h
  have H5 : Hid (∀ (Q : Nat → Prop) (W : World) (d : List Int), Ew B Q q W d → Calls Try.prog 49 #[.pointer (some ⟨q, 0, none⟩), .bool mu] W (Pt B Q q W d (eB mu) (.tuple #[]))) := fun Q W d h => flag_any mu h
  have hn : Hid (∀ w : World, Calls Try.prog 10 #[.bool false] w fun e w' => e = thn ∧ w' = w) := need_bad
  have hrow : Hid ((w.alloc (.cells #[.string s1, .string s2, .int .i64 3, .int .i64 ty, .bool mu, .int .i64 l1, .int .i64 l2] 40)).rowIs w.heap.size 40 7 (fun j => [.string s1, .string s2, .int .i64 3, .int .i64 ty, .bool mu, .int .i64 l1, .int .i64 l2].getD j undef)) := row_new w 40 [.string s1, .string s2, .int .i64 3, .int .i64 ty, .bool mu, .int .i64 l1, .int .i64 l2]
  have E0 : Hid (Ew B (fun k => P k ∨ k = w.heap.size) q (w.alloc (.cells #[.string s1, .string s2, .int .i64 3, .int .i64 ty, .bool mu, .int .i64 l1, .int .i64 l2] 40)) d) := h.with_block (La (Lz _)) (by simp)
  have R0 : Hid (Wr (Sq B (fun k => P k ∨ k = w.heap.size) q) (w.alloc (.cells #[.string s1, .string s2, .int .i64 3, .int .i64 ty, .bool mu, .int .i64 l1, .int .i64 l2] 40)) (w.alloc (.cells #[.string s1, .string s2, .int .i64 3, .int .i64 ty, .bool mu, .int .i64 l1, .int .i64 l2] 40))) := Wr.refl _ _
  have hfr : Hid (∀ (r : Value) (o : Ob) (e : Ending) (w' : World), Pt B (fun k => P k ∨ k = w.heap.size) q (w.alloc (.cells #[.string s1, .string s2, .int .i64 3, .int .i64 ty, .bool mu, .int .i64 l1, .int .i64 l2] 40)) d o r e w' → Pt B P q w d o r e w') := fun r o e w' h => (h.drop (fun k hk => Or.inl hk)).ahead (sq_later (La (Lz _)))
  have hnp : Hid (¬ Sq B (fun k => P k ∨ k = w.heap.size) q w.heap.size) := fun x => by rcases x with x | x; omega; exact x.2 (Or.inr rfl)
  clear h h1 h2
  generalize ho1 : eT s1 = o1 at *
  clear ho1
  generalize ho2 : eT s2 = o2 at *
  clear ho2
  generalize ho3 : eKi 3 = o3 at *
  clear ho3
  generalize ho4 : eK ty = o4 at *
  clear ho4
  generalize ho5 : eB mu = o5 at *
  clear ho5
  go_enter Try.func30, Try.ntmps30
  have rp := (R0.out).row hnp.out hrow.out
  have k0 : (w.alloc (.cells #[.string s1, .string s2, .int .i64 3, .int .i64 ty, .bool mu, .int .i64 l1, .int .i64 l2] 40)).cell? ⟨w.heap.size, 0, none⟩ = some (.string s1) := rp.cell (i := 0) (by decide)
  have k1 : (w.alloc (.cells #[.string s1, .string s2, .int .i64 3, .int .i64 ty, .bool mu, .int .i64 l1, .int .i64 l2] 40)).cell? ⟨w.heap.size, 1, none⟩ = some (.string s2) := rp.cell (i := 1) (by decide)
  have k2 : (w.alloc (.cells #[.string s1, .string s2, .int .i64 3, .int .i64 ty, .bool mu, .int .i64 l1, .int .i64 l2] 40)).cell? ⟨w.heap.size, 2, none⟩ = some (.int .i64 3) := rp.cell (i := 2) (by decide)
  have k3 : (w.alloc (.cells #[.string s1, .string s2, .int .i64 3, .int .i64 ty, .bool mu, .int .i64 l1, .int .i64 l2] 40)).cell? ⟨w.heap.size, 3, none⟩ = some (.int .i64 ty) := rp.cell (i := 3) (by decide)
  have k4 : (w.alloc (.cells #[.string s1, .string s2, .int .i64 3, .int .i64 ty, .bool mu, .int .i64 l1, .int .i64 l2] 40)).cell? ⟨w.heap.size, 4, none⟩ = some (.bool mu) := rp.cell (i := 4) (by decide)
  have k5 : (w.alloc (.cells #[.string s1, .string s2, .int .i64 3, .int .i64 ty, .bool mu, .int .i64 l1, .int .i64 l2] 40)).cell? ⟨w.heap.size, 5, none⟩ = some (.int .i64 l1) := rp.cell (i := 5) (by decide)
  have k6 : (w.alloc (.cells #[.string s1, .string s2, .int .i64 3, .int .i64 ty, .bool mu, .int .i64 l1, .int .i64 l2] 40)).cell? ⟨w.heap.size, 6, none⟩ = some (.int .i64 l2) := rp.cell (i := 6) (by decide)
  have lp : w.heap.size < (w.alloc (.cells #[.string s1, .string s2, .int .i64 3, .int .i64 ty, .bool mu, .int .i64 l1, .int .i64 l2] 40)).heap.size := cell_lt k0
  clear rp
  go_wp2_with fail
  refine (H1.out _ _ E0.out).mono ?_
  clear H1 k0 k1 k2 k3 k4 k5 k6 lp
  rintro e w1 ⟨V1, (⟨b1, hb1, rfl, E1⟩ | ⟨n1, rfl⟩)⟩
  rotate_left
  · exact ⟨rfl, hfr.out _ _ _ _ (Pt.stop V1 n1)⟩
  have R1 : Hid (Wr (Sq B (fun k => P k ∨ k = w.heap.size) q) (w.alloc (.cells #[.string s1, .string s2, .int .i64 3, .int .i64 ty, .bool mu, .int .i64 l1, .int .i64 l2] 40)) w1) := R0.out.trans V1
  replace V1 : Hid _ := V1
  replace E1 : Hid _ := E1
  replace hb1 : Hid (o1 = some b1) := hb1
  have rp := (R1.out).row hnp.out hrow.out
  have k0 : w1.cell? ⟨w.heap.size, 0, none⟩ = some (.string s1) := rp.cell (i := 0) (by decide)
  have k1 : w1.cell? ⟨w.heap.size, 1, none⟩ = some (.string s2) := rp.cell (i := 1) (by decide)
  have k2 : w1.cell? ⟨w.heap.size, 2, none⟩ = some (.int .i64 3) := rp.cell (i := 2) (by decide)
  have k3 : w1.cell? ⟨w.heap.size, 3, none⟩ = some (.int .i64 ty) := rp.cell (i := 3) (by decide)
  have k4 : w1.cell? ⟨w.heap.size, 4, none⟩ = some (.bool mu) := rp.cell (i := 4) (by decide)
  have k5 : w1.cell? ⟨w.heap.size, 5, none⟩ = some (.int .i64 l1) := rp.cell (i := 5) (by decide)
  have k6 : w1.cell? ⟨w.heap.size, 6, none⟩ = some (.int .i64 l2) := rp.cell (i := 6) (by decide)
  have lp : w.heap.size < w1.heap.size := cell_lt k0
  clear rp
  go_wp2_with fail
  refine (H2.out _ _ E1.out).mono ?_
  clear H2 k0 k1 k2 k3 k4 k5 k6 lp
  rintro e w2 ⟨V2, (⟨b2, hb2, rfl, E2⟩ | ⟨n2, rfl⟩)⟩
  rotate_left
  · exact ⟨rfl, hfr.out _ _ _ _ (Pt.next hb1.out V1.out (Pt.stop V2 n2))⟩
  have R2 : Hid (Wr (Sq B (fun k => P k ∨ k = w.heap.size) q) (w.alloc (.cells #[.string s1, .string s2, .int .i64 3, .int .i64 ty, .bool mu, .int .i64 l1, .int .i64 l2] 40)) w2) := R1.out.trans V2
  replace V2 : Hid _ := V2
  replace E2 : Hid _ := E2
  replace hb2 : Hid (o2 = some b2) := hb2
  have rp := (R2.out).row hnp.out hrow.out
  have k0 : w2.cell? ⟨w.heap.size, 0, none⟩ = some (.string s1) := rp.cell (i := 0) (by decide)
  have k1 : w2.cell? ⟨w.heap.size, 1, none⟩ = some (.string s2) := rp.cell (i := 1) (by decide)
  have k2 : w2.cell? ⟨w.heap.size, 2, none⟩ = some (.int .i64 3) := rp.cell (i := 2) (by decide)
  have k3 : w2.cell? ⟨w.heap.size, 3, none⟩ = some (.int .i64 ty) := rp.cell (i := 3) (by decide)
  have k4 : w2.cell? ⟨w.heap.size, 4, none⟩ = some (.bool mu) := rp.cell (i := 4) (by decide)
  have k5 : w2.cell? ⟨w.heap.size, 5, none⟩ = some (.int .i64 l1) := rp.cell (i := 5) (by decide)
  have k6 : w2.cell? ⟨w.heap.size, 6, none⟩ = some (.int .i64 l2) := rp.cell (i := 6) (by decide)
  have lp : w.heap.size < w2.heap.size := cell_lt k0
  clear rp
  go_wp2_with fail
  refine (H3.out _ _ E2.out).mono ?_
  clear H3 k0 k1 k2 k3 k4 k5 k6 lp
  rintro e w3 ⟨V3, (⟨b3, hb3, rfl, E3⟩ | ⟨n3, rfl⟩)⟩
  rotate_left
  · exact ⟨rfl, hfr.out _ _ _ _ (Pt.next hb1.out V1.out (Pt.next hb2.out V2.out (Pt.stop V3 n3)))⟩
  have R3 : Hid (Wr (Sq B (fun k => P k ∨ k = w.heap.size) q) (w.alloc (.cells #[.string s1, .string s2, .int .i64 3, .int .i64 ty, .bool mu, .int .i64 l1, .int .i64 l2] 40)) w3) := R2.out.trans V3
  replace V3 : Hid _ := V3
  replace E3 : Hid _ := E3
  replace hb3 : Hid (o3 = some b3) := hb3
  have rp := (R3.out).row hnp.out hrow.out
  have k0 : w3.cell? ⟨w.heap.size, 0, none⟩ = some (.string s1) := rp.cell (i := 0) (by decide)
  have k1 : w3.cell? ⟨w.heap.size, 1, none⟩ = some (.string s2) := rp.cell (i := 1) (by decide)
  have k2 : w3.cell? ⟨w.heap.size, 2, none⟩ = some (.int .i64 3) := rp.cell (i := 2) (by decide)
  have k3 : w3.cell? ⟨w.heap.size, 3, none⟩ = some (.int .i64 ty) := rp.cell (i := 3) (by decide)
  have k4 : w3.cell? ⟨w.heap.size, 4, none⟩ = some (.bool mu) := rp.cell (i := 4) (by decide)
  have k5 : w3.cell? ⟨w.heap.size, 5, none⟩ = some (.int .i64 l1) := rp.cell (i := 5) (by decide)
  have k6 : w3.cell? ⟨w.heap.size, 6, none⟩ = some (.int .i64 l2) := rp.cell (i := 6) (by decide)
  have lp : w.heap.size < w3.heap.size := cell_lt k0
  clear rp
  have hrow1 : Hid (((w3.alloc (.cells #[.string s1, .string s2, .int .i64 3, .int .i64 ty, .bool mu, .int .i64 0, .int .i64 0] 40)).drew).rowIs w.heap.size 40 7 (fun j => [.string s1, .string s2, .int .i64 3, .int .i64 ty, .bool mu, .int .i64 l1, .int .i64 l2].getD j undef)) := rowIs_later (Ld (La (Lz _))) (R3.out.row hnp.out hrow.out)
  have hrow2 : Hid (((w3.alloc (.cells #[.string s1, .string s2, .int .i64 3, .int .i64 ty, .bool mu, .int .i64 0, .int .i64 0] 40)).drew).rowIs w3.heap.size 40 7 (fun j => [.string s1, .string s2, .int .i64 3, .int .i64 ty, .bool mu, .int .i64 0, .int .i64 0].getD j undef)) := rowIs_later (Ld (Lz _)) (row_new w3 40 [.string s1, .string s2, .int .i64 3, .int .i64 ty, .bool mu, .int .i64 0, .int .i64 0])
  have F3 : Hid (Ew B (fun k => (fun k => P k ∨ k = w.heap.size) k ∨ k = w3.heap.size) q ((w3.alloc (.cells #[.string s1, .string s2, .int .i64 3, .int .i64 ty, .bool mu, .int .i64 0, .int .i64 0] 40)).drew) (d ++ b1 ++ b2 ++ b3)) := Ew.with_block E3.out (Ld (La (Lz _))) (by simp)
  have S3 : Hid (Wr (Sq B (fun k => (fun k => P k ∨ k = w.heap.size) k ∨ k = w3.heap.size) q) ((w3.alloc (.cells #[.string s1, .string s2, .int .i64 3, .int .i64 ty, .bool mu, .int .i64 0, .int .i64 0] 40)).drew) ((w3.alloc (.cells #[.string s1, .string s2, .int .i64 3, .int .i64 ty, .bool mu, .int .i64 0, .int .i64 0] 40)).drew)) := Wr.refl _ _
  have hf2 : Hid (∀ (r : Value) (o : Ob) (e : Ending) (w' : World), Pt B (fun k => (fun k => P k ∨ k = w.heap.size) k ∨ k = w3.heap.size) q ((w3.alloc (.cells #[.string s1, .string s2, .int .i64 3, .int .i64 ty, .bool mu, .int .i64 0, .int .i64 0] 40)).drew) (d ++ b1 ++ b2 ++ b3) o r e w' → Pt B (fun k => P k ∨ k = w.heap.size) q w3 (d ++ b1 ++ b2 ++ b3) o r e w') := fun r o e w' h => (h.drop (fun k hk => Or.inl hk)).ahead (sq_later (Ld (La (Lz _))))
  have hq3 : q < w3.heap.size := Nat.lt_of_lt_of_le (show q < w.heap.size + 1 by omega) (by have := R3.out.size; simpa using this)
  have hn1 : Hid (¬ Sq B (fun k => (fun k => P k ∨ k = w.heap.size) k ∨ k = w3.heap.size) q w.heap.size) := fun x => by rcases x with x | x; omega; exact x.2 (Or.inl (Or.inr rfl))
  have hn2 : Hid (¬ Sq B (fun k => (fun k => P k ∨ k = w.heap.size) k ∨ k = w3.heap.size) q w3.heap.size) := fun x => by rcases x with x | x; omega; exact x.2 (Or.inr rfl)
  clear E0 hq hq3
  go_wp2_with fail
  go_region_law (fail)
  all_goals
    go_wp2_with fail
    refine (H4.out _ _ _ F3.out).mono ?_
    clear H4 k0 k1 k2 k3 k4 k5 k6 lp
    rintro e w4 ⟨V4, (⟨b4, hb4, rfl, F4⟩ | ⟨n4, rfl⟩)⟩
    rotate_left
    · exact ⟨rfl, hfr.out _ _ _ _ (Pt.next hb1.out V1.out (Pt.next hb2.out V2.out (Pt.next hb3.out V3.out (hf2.out _ _ _ _ (Pt.bad (S3.out.trans V4) (fit_none _))))))⟩
    have S4 : Hid (Wr (Sq B (fun k => (fun k => P k ∨ k = w.heap.size) k ∨ k = w3.heap.size) q) ((w3.alloc (.cells #[.string s1, .string s2, .int .i64 3, .int .i64 ty, .bool mu, .int .i64 0, .int .i64 0] 40)).drew) w4) := S3.out.trans V4
    replace V4 : Hid _ := V4
    replace F4 : Hid _ := F4
    replace hb4 : Hid (o4 = some b4) := hb4
    have rp := (S4.out).row hn1.out hrow1.out
    have k0 : w4.cell? ⟨w.heap.size, 0, none⟩ = some (.string s1) := rp.cell (i := 0) (by decide)
    have k1 : w4.cell? ⟨w.heap.size, 1, none⟩ = some (.string s2) := rp.cell (i := 1) (by decide)
    have k2 : w4.cell? ⟨w.heap.size, 2, none⟩ = some (.int .i64 3) := rp.cell (i := 2) (by decide)
    have k3 : w4.cell? ⟨w.heap.size, 3, none⟩ = some (.int .i64 ty) := rp.cell (i := 3) (by decide)
    have k4 : w4.cell? ⟨w.heap.size, 4, none⟩ = some (.bool mu) := rp.cell (i := 4) (by decide)
    have k5 : w4.cell? ⟨w.heap.size, 5, none⟩ = some (.int .i64 l1) := rp.cell (i := 5) (by decide)
    have k6 : w4.cell? ⟨w.heap.size, 6, none⟩ = some (.int .i64 l2) := rp.cell (i := 6) (by decide)
    have rp2 := (S4.out).row hn2.out hrow2.out
    have r0 : w4.cell? ⟨w3.heap.size, 0, none⟩ = some (.string s1) := rp2.cell (i := 0) (by decide)
    have r1 : w4.cell? ⟨w3.heap.size, 1, none⟩ = some (.string s2) := rp2.cell (i := 1) (by decide)
    have r2 : w4.cell? ⟨w3.heap.size, 2, none⟩ = some (.int .i64 3) := rp2.cell (i := 2) (by decide)
    have r3 : w4.cell? ⟨w3.heap.size, 3, none⟩ = some (.int .i64 ty) := rp2.cell (i := 3) (by decide)
    have r4 : w4.cell? ⟨w3.heap.size, 4, none⟩ = some (.bool mu) := rp2.cell (i := 4) (by decide)
    have r5 : w4.cell? ⟨w3.heap.size, 5, none⟩ = some (.int .i64 0) := rp2.cell (i := 5) (by decide)
    have r6 : w4.cell? ⟨w3.heap.size, 6, none⟩ = some (.int .i64 0) := rp2.cell (i := 6) (by decide)
    have lp : w.heap.size < w4.heap.size := cell_lt k0
    have lr : w3.heap.size < w4.heap.size := cell_lt r0
    clear rp rp2
    go_wp2_with fail
    refine (H5.out _ _ _ F4.out).mono ?_
    clear H5 k0 k1 k2 k3 k4 k5 k6 lp r0 r1 r2 r3 r4 r5 r6 lr
    rintro e w5 ⟨V5, (⟨b5, hb5, rfl, F5⟩ | ⟨n5, rfl⟩)⟩
    rotate_left
    · exact ⟨rfl, hfr.out _ _ _ _ (Pt.next hb1.out V1.out (Pt.next hb2.out V2.out (Pt.next hb3.out V3.out (hf2.out _ _ _ _ (Pt.bad (S4.out.trans V5) (fit_none _))))))⟩
    have S5 : Hid (Wr (Sq B (fun k => (fun k => P k ∨ k = w.heap.size) k ∨ k = w3.heap.size) q) ((w3.alloc (.cells #[.string s1, .string s2, .int .i64 3, .int .i64 ty, .bool mu, .int .i64 0, .int .i64 0] 40)).drew) w5) := S4.out.trans V5
    replace V5 : Hid _ := V5
    replace F5 : Hid _ := F5
    replace hb5 : Hid (o5 = some b5) := hb5
    have rp := (S5.out).row hn1.out hrow1.out
    have k0 : w5.cell? ⟨w.heap.size, 0, none⟩ = some (.string s1) := rp.cell (i := 0) (by decide)
    have k1 : w5.cell? ⟨w.heap.size, 1, none⟩ = some (.string s2) := rp.cell (i := 1) (by decide)
    have k2 : w5.cell? ⟨w.heap.size, 2, none⟩ = some (.int .i64 3) := rp.cell (i := 2) (by decide)
    have k3 : w5.cell? ⟨w.heap.size, 3, none⟩ = some (.int .i64 ty) := rp.cell (i := 3) (by decide)
    have k4 : w5.cell? ⟨w.heap.size, 4, none⟩ = some (.bool mu) := rp.cell (i := 4) (by decide)
    have k5 : w5.cell? ⟨w.heap.size, 5, none⟩ = some (.int .i64 l1) := rp.cell (i := 5) (by decide)
    have k6 : w5.cell? ⟨w.heap.size, 6, none⟩ = some (.int .i64 l2) := rp.cell (i := 6) (by decide)
    have rp2 := (S5.out).row hn2.out hrow2.out
    have r0 : w5.cell? ⟨w3.heap.size, 0, none⟩ = some (.string s1) := rp2.cell (i := 0) (by decide)
    have r1 : w5.cell? ⟨w3.heap.size, 1, none⟩ = some (.string s2) := rp2.cell (i := 1) (by decide)
    have r2 : w5.cell? ⟨w3.heap.size, 2, none⟩ = some (.int .i64 3) := rp2.cell (i := 2) (by decide)
    have r3 : w5.cell? ⟨w3.heap.size, 3, none⟩ = some (.int .i64 ty) := rp2.cell (i := 3) (by decide)
    have r4 : w5.cell? ⟨w3.heap.size, 4, none⟩ = some (.bool mu) := rp2.cell (i := 4) (by decide)
    have r5 : w5.cell? ⟨w3.heap.size, 5, none⟩ = some (.int .i64 0) := rp2.cell (i := 5) (by decide)
    have r6 : w5.cell? ⟨w3.heap.size, 6, none⟩ = some (.int .i64 0) := rp2.cell (i := 6) (by decide)
    have lp : w.heap.size < w5.heap.size := cell_lt k0
    have lr : w3.heap.size < w5.heap.size := cell_lt r0
    clear rp rp2
    clear hrow hrow1 hrow2 hn1 hn2 hnp R0 R1 R2 R3 E1 E2 E3
    replace hz : Hid (¬ (l1 = 0 ∧ l2 = 0)) := hz
    go_wp2_with (go_at_call 10; refine (hn.out _).mono ?_; rintro e w0 ⟨rfl, hw0⟩; obtain rfl := hw0.symm)
    all_goals first | exact ⟨rfl, hfr.out _ _ _ _ (Pt.next hb1.out V1.out (Pt.next hb2.out V2.out (Pt.next hb3.out V3.out (hf2.out _ _ _ _ (Pt.bad S5.out (fit_none _))))))⟩ | exact absurd (by first | exact ⟨rfl, rfl, rfl⟩ | exact ⟨rfl, rfl⟩ | (refine ⟨?_, ?_, ?_⟩ <;> assumption) | (refine ⟨?_, ?_⟩ <;> assumption) | simp_all) hz.out
theorem imp_none (s1 s2 : ByteArray) (h1 : s1.size < 9223372036854775000) (h2 : s2.size < 9223372036854775000) (k ty : Int) (mu : Bool) (l1 l2 : Int) (hk : ¬ (0 ≤ k ∧ k ≤ 3)) (h : Ew B P q w d) :
    Calls Try.prog 30 #[.pointer (some ⟨q, 0, none⟩), .agg #[.string s1, .string s2, .int .i64 k, .int .i64 ty, .bool mu, .int .i64 l1, .int .i64 l2]] w (Pt B P q w d (oB (eT s1) (oB (eT s2) none)) (.tuple #[])) := by
  have hq := h.lt_q
  have e0 : eKi k = none := if_neg hk
  have H1 : Hid (∀ (W : World) (d : List Int), Ew B (fun k => P k ∨ k = w.heap.size) q W d → Calls Try.prog 47 #[.pointer (some ⟨q, 0, none⟩), .string s1] W (Pt B (fun k => P k ∨ k = w.heap.size) q W d (eT s1) (.tuple #[]))) := fun W d h => name_any s1 h1 h
  have H2 : Hid (∀ (W : World) (d : List Int), Ew B (fun k => P k ∨ k = w.heap.size) q W d → Calls Try.prog 47 #[.pointer (some ⟨q, 0, none⟩), .string s2] W (Pt B (fun k => P k ∨ k = w.heap.size) q W d (eT s2) (.tuple #[]))) := fun W d h => name_any s2 h2 h
  have H3 : Hid (∀ (W : World) (d : List Int), Ew B (fun k => P k ∨ k = w.heap.size) q W d → Calls Try.prog 48 #[.pointer (some ⟨q, 0, none⟩), .int .i64 k] W (Pt B (fun k => P k ∨ k = w.heap.size) q W d (none) (.tuple #[]))) := fun W d h => e0 ▸ kind_any k h
  have hrow : Hid ((w.alloc (.cells #[.string s1, .string s2, .int .i64 k, .int .i64 ty, .bool mu, .int .i64 l1, .int .i64 l2] 40)).rowIs w.heap.size 40 7 (fun j => [.string s1, .string s2, .int .i64 k, .int .i64 ty, .bool mu, .int .i64 l1, .int .i64 l2].getD j undef)) := row_new w 40 [.string s1, .string s2, .int .i64 k, .int .i64 ty, .bool mu, .int .i64 l1, .int .i64 l2]
  have E0 : Hid (Ew B (fun k => P k ∨ k = w.heap.size) q (w.alloc (.cells #[.string s1, .string s2, .int .i64 k, .int .i64 ty, .bool mu, .int .i64 l1, .int .i64 l2] 40)) d) := h.with_block (La (Lz _)) (by simp)
  have R0 : Hid (Wr (Sq B (fun k => P k ∨ k = w.heap.size) q) (w.alloc (.cells #[.string s1, .string s2, .int .i64 k, .int .i64 ty, .bool mu, .int .i64 l1, .int .i64 l2] 40)) (w.alloc (.cells #[.string s1, .string s2, .int .i64 k, .int .i64 ty, .bool mu, .int .i64 l1, .int .i64 l2] 40))) := Wr.refl _ _
  have hfr : Hid (∀ (r : Value) (o : Ob) (e : Ending) (w' : World), Pt B (fun k => P k ∨ k = w.heap.size) q (w.alloc (.cells #[.string s1, .string s2, .int .i64 k, .int .i64 ty, .bool mu, .int .i64 l1, .int .i64 l2] 40)) d o r e w' → Pt B P q w d o r e w') := fun r o e w' h => (h.drop (fun k hk => Or.inl hk)).ahead (sq_later (La (Lz _)))
  have hnp : Hid (¬ Sq B (fun k => P k ∨ k = w.heap.size) q w.heap.size) := fun x => by rcases x with x | x; omega; exact x.2 (Or.inr rfl)
  clear h h1 h2 e0 hk
  generalize ho1 : eT s1 = o1 at *
  clear ho1
  generalize ho2 : eT s2 = o2 at *
  clear ho2
  go_enter Try.func30, Try.ntmps30
  have rp := (R0.out).row hnp.out hrow.out
  have k0 : (w.alloc (.cells #[.string s1, .string s2, .int .i64 k, .int .i64 ty, .bool mu, .int .i64 l1, .int .i64 l2] 40)).cell? ⟨w.heap.size, 0, none⟩ = some (.string s1) := rp.cell (i := 0) (by decide)
  have k1 : (w.alloc (.cells #[.string s1, .string s2, .int .i64 k, .int .i64 ty, .bool mu, .int .i64 l1, .int .i64 l2] 40)).cell? ⟨w.heap.size, 1, none⟩ = some (.string s2) := rp.cell (i := 1) (by decide)
  have k2 : (w.alloc (.cells #[.string s1, .string s2, .int .i64 k, .int .i64 ty, .bool mu, .int .i64 l1, .int .i64 l2] 40)).cell? ⟨w.heap.size, 2, none⟩ = some (.int .i64 k) := rp.cell (i := 2) (by decide)
  have k3 : (w.alloc (.cells #[.string s1, .string s2, .int .i64 k, .int .i64 ty, .bool mu, .int .i64 l1, .int .i64 l2] 40)).cell? ⟨w.heap.size, 3, none⟩ = some (.int .i64 ty) := rp.cell (i := 3) (by decide)
  have k4 : (w.alloc (.cells #[.string s1, .string s2, .int .i64 k, .int .i64 ty, .bool mu, .int .i64 l1, .int .i64 l2] 40)).cell? ⟨w.heap.size, 4, none⟩ = some (.bool mu) := rp.cell (i := 4) (by decide)
  have k5 : (w.alloc (.cells #[.string s1, .string s2, .int .i64 k, .int .i64 ty, .bool mu, .int .i64 l1, .int .i64 l2] 40)).cell? ⟨w.heap.size, 5, none⟩ = some (.int .i64 l1) := rp.cell (i := 5) (by decide)
  have k6 : (w.alloc (.cells #[.string s1, .string s2, .int .i64 k, .int .i64 ty, .bool mu, .int .i64 l1, .int .i64 l2] 40)).cell? ⟨w.heap.size, 6, none⟩ = some (.int .i64 l2) := rp.cell (i := 6) (by decide)
  have lp : w.heap.size < (w.alloc (.cells #[.string s1, .string s2, .int .i64 k, .int .i64 ty, .bool mu, .int .i64 l1, .int .i64 l2] 40)).heap.size := cell_lt k0
  clear rp
  go_wp2_with fail
  refine (H1.out _ _ E0.out).mono ?_
  clear H1 k0 k1 k2 k3 k4 k5 k6 lp
  rintro e w1 ⟨V1, (⟨b1, hb1, rfl, E1⟩ | ⟨n1, rfl⟩)⟩
  rotate_left
  · exact ⟨rfl, hfr.out _ _ _ _ (Pt.stop V1 n1)⟩
  have R1 : Hid (Wr (Sq B (fun k => P k ∨ k = w.heap.size) q) (w.alloc (.cells #[.string s1, .string s2, .int .i64 k, .int .i64 ty, .bool mu, .int .i64 l1, .int .i64 l2] 40)) w1) := R0.out.trans V1
  replace V1 : Hid _ := V1
  replace E1 : Hid _ := E1
  replace hb1 : Hid (o1 = some b1) := hb1
  have rp := (R1.out).row hnp.out hrow.out
  have k0 : w1.cell? ⟨w.heap.size, 0, none⟩ = some (.string s1) := rp.cell (i := 0) (by decide)
  have k1 : w1.cell? ⟨w.heap.size, 1, none⟩ = some (.string s2) := rp.cell (i := 1) (by decide)
  have k2 : w1.cell? ⟨w.heap.size, 2, none⟩ = some (.int .i64 k) := rp.cell (i := 2) (by decide)
  have k3 : w1.cell? ⟨w.heap.size, 3, none⟩ = some (.int .i64 ty) := rp.cell (i := 3) (by decide)
  have k4 : w1.cell? ⟨w.heap.size, 4, none⟩ = some (.bool mu) := rp.cell (i := 4) (by decide)
  have k5 : w1.cell? ⟨w.heap.size, 5, none⟩ = some (.int .i64 l1) := rp.cell (i := 5) (by decide)
  have k6 : w1.cell? ⟨w.heap.size, 6, none⟩ = some (.int .i64 l2) := rp.cell (i := 6) (by decide)
  have lp : w.heap.size < w1.heap.size := cell_lt k0
  clear rp
  go_wp2_with fail
  refine (H2.out _ _ E1.out).mono ?_
  clear H2 k0 k1 k2 k3 k4 k5 k6 lp
  rintro e w2 ⟨V2, (⟨b2, hb2, rfl, E2⟩ | ⟨n2, rfl⟩)⟩
  rotate_left
  · exact ⟨rfl, hfr.out _ _ _ _ (Pt.next hb1.out V1.out (Pt.stop V2 n2))⟩
  have R2 : Hid (Wr (Sq B (fun k => P k ∨ k = w.heap.size) q) (w.alloc (.cells #[.string s1, .string s2, .int .i64 k, .int .i64 ty, .bool mu, .int .i64 l1, .int .i64 l2] 40)) w2) := R1.out.trans V2
  replace V2 : Hid _ := V2
  replace E2 : Hid _ := E2
  replace hb2 : Hid (o2 = some b2) := hb2
  have rp := (R2.out).row hnp.out hrow.out
  have k0 : w2.cell? ⟨w.heap.size, 0, none⟩ = some (.string s1) := rp.cell (i := 0) (by decide)
  have k1 : w2.cell? ⟨w.heap.size, 1, none⟩ = some (.string s2) := rp.cell (i := 1) (by decide)
  have k2 : w2.cell? ⟨w.heap.size, 2, none⟩ = some (.int .i64 k) := rp.cell (i := 2) (by decide)
  have k3 : w2.cell? ⟨w.heap.size, 3, none⟩ = some (.int .i64 ty) := rp.cell (i := 3) (by decide)
  have k4 : w2.cell? ⟨w.heap.size, 4, none⟩ = some (.bool mu) := rp.cell (i := 4) (by decide)
  have k5 : w2.cell? ⟨w.heap.size, 5, none⟩ = some (.int .i64 l1) := rp.cell (i := 5) (by decide)
  have k6 : w2.cell? ⟨w.heap.size, 6, none⟩ = some (.int .i64 l2) := rp.cell (i := 6) (by decide)
  have lp : w.heap.size < w2.heap.size := cell_lt k0
  clear rp
  go_wp2_with fail
  refine (H3.out _ _ E2.out).mono ?_
  clear H3 k0 k1 k2 k3 k4 k5 k6 lp
  rintro e w3 ⟨V3, (⟨b3, hb3, rfl, E3⟩ | ⟨n3, rfl⟩)⟩
  · cases hb3
  · exact ⟨rfl, hfr.out _ _ _ _ (Pt.next hb1.out V1.out (Pt.next hb2.out V2.out (Pt.bad V3 n3)))⟩
theorem eki (k : Int) (h : 0 ≤ k ∧ k ≤ 3) : eKi k = some [k] := if_pos h
theorem imported_any (x : Imp) (h1 : x.1.size < 9223372036854775000) (h2 : x.2.1.size < 9223372036854775000) (h : Ew B P q w d) :
    Calls Try.prog 30 #[.pointer (some ⟨q, 0, none⟩), .agg #[.string x.1, .string x.2.1, .int .i64 x.2.2.1, .int .i64 x.2.2.2.1, .bool x.2.2.2.2.1, .int .i64 x.2.2.2.2.2.1, .int .i64 x.2.2.2.2.2.2]] w (Pt B P q w d (eIm x) (.tuple #[])) := by
  obtain ⟨s1, s2, k, ty, mu, l1, l2⟩ := x
  show Calls Try.prog 30 _ w (Pt B P q w d (oB (eT s1) (oB (eT s2) (oB (eKi k) (eD k ty mu l1 l2)))) (.tuple #[]))
  unfold eD
  by_cases hk : 0 ≤ k ∧ k ≤ 3
  · have hk4 : k = 0 ∨ k = 1 ∨ k = 2 ∨ k = 3 := by omega
    rcases hk4 with rfl | rfl | rfl | rfl
    · rw [if_pos rfl]
      split
      · rename_i hz
        obtain ⟨rfl, rfl, rfl⟩ := hz
        exact imp0 s1 s2 h1 h2 ty h
      · rename_i hz
        exact imp0b s1 s2 h1 h2 ty mu l1 l2 hz h
    · rw [if_neg (by decide), if_pos rfl]
      split
      · rename_i hz
        obtain ⟨rfl, rfl⟩ := hz
        exact imp1 s1 s2 h1 h2 l1 l2 h
      · rename_i hz
        exact imp1b s1 s2 h1 h2 ty mu l1 l2 hz h
    · rw [if_neg (by decide), if_neg (by decide), if_pos rfl]
      split
      · rename_i hz
        obtain ⟨rfl, rfl⟩ := hz
        exact imp2 s1 s2 h1 h2 l1 l2 h
      · rename_i hz
        exact imp2b s1 s2 h1 h2 ty mu l1 l2 hz h
    · rw [if_neg (by decide), if_neg (by decide), if_neg (by decide)]
      split
      · rename_i hz
        obtain ⟨rfl, rfl⟩ := hz
        exact imp3 s1 s2 h1 h2 ty mu h
      · rename_i hz
        exact imp3b s1 s2 h1 h2 ty mu l1 l2 hz h
  · rw [show eKi k = none from if_neg hk, oB_none]
    exact imp_none s1 s2 h1 h2 k ty mu l1 l2 hk h
theorem list_imps (xs : List (Imp)) (A : Option Addr) (c : Nat) (Z : Nat → Prop) (hR : Rt fIm Z w A xs) (hZ : ∀ k, Z k → k < w.heap.size → ¬ Sq B P q k) (hl : xs.length ≤ 140737488351232) (hok : ∀ x ∈ xs, x.1.size < 9223372036854775000 ∧ x.2.1.size < 9223372036854775000) (h : Ew B P q w d) :
    Calls Try.prog 29 #[.pointer (some ⟨q, 0, none⟩), .slice A xs.length c, .int .i64 1024, .func (.func 30) #[.pointer (some ⟨q, 0, none⟩)] #[]] w (Pt B P q w d (eL 1024 eIm xs) (.int .i64 xs.length)) := by
  by_cases hm : xs.length ≤ 1024
  · have hn : Hid (∀ w : World, Calls Try.prog 10 #[.bool true] w fun e w' => e = .returned (.tuple #[]) ∧ w' = w) := need_ok
    have hN : Hid (Calls Try.prog 32 #[.pointer (some ⟨q, 0, none⟩), .int .i64 (xs.length : Int)] w (Pt B P q w d (some (lebL (xs.length : Int))) (.tuple #[]))) := by
      have := number_any (xs.length : Int) h
      rwa [len_wrap _ (by omega)] at this
    have hround : Hid (∀ (j : Nat) (hj : j < xs.length) (W : World) (d : List Int), Ew B P q W d → Wr (Sq B P q) w W → ∃ g o, A = some ⟨g, o, none⟩ ∧ W.cell? ⟨g, o + j * 7, none⟩ = some (.string xs[j].1) ∧ W.cell? ⟨g, o + j * 7 + 1, none⟩ = some (.string xs[j].2.1) ∧ W.cell? ⟨g, o + j * 7 + 2, none⟩ = some (.int .i64 xs[j].2.2.1) ∧ W.cell? ⟨g, o + j * 7 + 3, none⟩ = some (.int .i64 xs[j].2.2.2.1) ∧ W.cell? ⟨g, o + j * 7 + 4, none⟩ = some (.bool xs[j].2.2.2.2.1) ∧ W.cell? ⟨g, o + j * 7 + 5, none⟩ = some (.int .i64 xs[j].2.2.2.2.2.1) ∧ W.cell? ⟨g, o + j * 7 + 6, none⟩ = some (.int .i64 xs[j].2.2.2.2.2.2) ∧ ∀ W2, Later W W2 → Calls Try.prog 30 #[.pointer (some ⟨q, 0, none⟩), .agg #[.string xs[j].1, .string xs[j].2.1, .int .i64 xs[j].2.2.1, .int .i64 xs[j].2.2.2.1, .bool xs[j].2.2.2.2.1, .int .i64 xs[j].2.2.2.2.2.1, .int .i64 xs[j].2.2.2.2.2.2]] W2 (Pt B P q W2 d (eIm xs[j]) (.tuple #[]))) := fun j hj W d h V => by
      have hR2 : Rt fIm (fun k => Z k ∧ k < w.heap.size) W A xs := hR.move (fun _ => Nat.succ_pos _) fun k hk hl => ⟨⟨hk, hl⟩, V.block k hl (hZ k hk hl)⟩
      have hZ2 : ∀ k, (Z k ∧ k < w.heap.size) → k < W.heap.size → ¬ Sq B P q k := fun k hk _ => hZ k hk.1 hk.2
      obtain ⟨g, o, c, e, hz, hc, hi⟩ := rt_at 7 (fun _ => rfl) hR2 j hj
      obtain ⟨v0, _, rfl, h0, v1, _, rfl, h1, v2, _, rfl, h2, v3, _, rfl, h3, v4, _, rfl, h4, v5, _, rfl, h5, v6, _, rfl, h6, rfl⟩ := hi
      obtain rfl : v0 = .string xs[j].1 := h0
      obtain rfl : v1 = .string xs[j].2.1 := h1
      obtain rfl : v2 = .int .i64 xs[j].2.2.1 := h2
      obtain rfl : v3 = .int .i64 xs[j].2.2.2.1 := h3
      obtain rfl : v4 = .bool xs[j].2.2.2.2.1 := h4
      obtain rfl : v5 = .int .i64 xs[j].2.2.2.2.2.1 := h5
      obtain rfl : v6 = .int .i64 xs[j].2.2.2.2.2.2 := h6
      exact ⟨g, o, e, hc 0 _ rfl, hc 1 _ rfl, hc 2 _ rfl, hc 3 _ rfl, hc 4 _ rfl, hc 5 _ rfl, hc 6 _ rfl, fun W' hl => imported_any _ (hok _ (List.getElem_mem hj)).1 (hok _ (List.getElem_mem hj)).2 (h.later hl)⟩
    obtain ⟨n, hnx⟩ : ∃ n, n = xs.length := ⟨_, rfl⟩
    obtain ⟨D1, hD⟩ : ∃ D1, D1 = lebL (n : Int) := ⟨_, rfl⟩
    have hend : Hid (∀ j b, j = n → eA eIm (xs.take j) = some b → eL 1024 eIm xs = some (D1 ++ b)) := fun j b hj hb => by subst hj hD hnx; exact el_some hm hb
    have hbad : Hid (∀ (j : Nat) (hj : j < xs.length) (b : List Int), eA eIm (xs.take j) = some b → ¬ Fit (d ++ (D1 ++ b)) (eIm xs[j]) → ¬ Fit d (eL 1024 eIm xs)) := fun j hj b hb n => el_bad hj (by rw [hD, hnx]) hb n
    have hhd : Hid (¬ Fit d (some D1) → ¬ Fit d (eL 1024 eIm xs)) := fun n => by rw [hD, hnx] at n; exact el_head n
    have htk : Hid (∀ j (hj : j < xs.length), eA eIm (xs.take (j + 1)) = oB (eA eIm (xs.take j)) (eIm xs[j])) := fun j hj => ea_take eIm xs j hj
    have g1 : (n : Int) ≤ 1024 := by omega
    clear h hR hZ hl hm
    rw [← hnx, ← hD] at hN
    rw [← hnx]
    clear hD
    replace hnx : Hid (n = xs.length) := hnx
    generalize hO : eL 1024 eIm xs = O at *
    clear hO
    go_enter Try.func29, Try.ntmps29
    go_wp2_with (first | (go_at_call 10; refine (hn.out _).mono ?_; rintro e w0 ⟨rfl, hw0⟩; obtain rfl := hw0.symm) | (go_at_call 32; refine hN.out.mono ?_; rintro e w1 ⟨V1, (⟨b1, hb1, rfl, E1⟩ | ⟨n1, rfl⟩)⟩))
    · obtain rfl : D1 = b1 := Option.some.inj hb1
      replace V1 : Hid _ := V1
      replace E1 : Hid _ := E1
      clear hN hn hhd hb1
      go_loopw [22] (fun i wr => ∃ (j : Nat) (bj : List Int), i = .int .i64 (j : Nat) ∧ j ≤ n ∧ eA eIm (xs.take j) = some bj ∧ Ew B P q wr (d ++ (D1 ++ bj)) ∧ Wr (Sq B P q) w wr) (fun i _ => n - (intOf i).toNat)
      case atStart => exact ⟨0, [], rfl, Nat.zero_le _, rfl, by rw [List.append_nil]; exact E1.out, V1.out⟩
      case round =>
        obtain ⟨j, bj, rfl, hj, hb, hE, hV⟩ := hrel
        clear E1 V1
        by_cases hlt : j < n
        · have hl1 : (j : Int) < (n : Int) := by omega
          have hlx : j < xs.length := by have := hnx.out; omega
          obtain ⟨g, o, rfl, c0, c1, c2, c3, c4, c5, c6, hcall⟩ := hround.out j hlx wr _ hE hV
          have hl0 := cell_lt c0
          have hbd : Hid (¬ Fit (d ++ (D1 ++ bj)) (eIm xs[j]) → ¬ Fit d O) := fun n => hbad.out j hlx bj hb n
          have htk2 := htk.out j hlx
          rw [hb] at htk2
          replace htk2 : Hid (eA eIm (xs.take (j + 1)) = oB (some bj) (eIm xs[j])) := htk2
          replace hcall : Hid _ := hcall
          replace hV : Hid _ := hV
          clear hround hend hbad htk hb hE
          generalize eIm xs[j] = oj at *
          go_wp2_with fail
          refine Calls.mono (hcall.out _ (La (Lz _))) ?_
          clear hcall
          rintro e w2 ⟨V20, (⟨b2, hb2, rfl, E2⟩ | ⟨n2, rfl⟩)⟩
          · have V2 : Wr (Sq B P q) wr w2 := (sq_later (La (Lz _))).trans V20
            have hf : Hid (eA eIm (xs.take (j + 1)) = some (bj ++ b2) ∧ Ew B P q w2 (d ++ (D1 ++ (bj ++ b2))) ∧ Wr (Sq B P q) w w2) := ⟨by rw [htk2.out, hb2]; rfl, by rw [show d ++ (D1 ++ (bj ++ b2)) = d ++ (D1 ++ bj) ++ b2 by simp [List.append_assoc]]; exact E2, hV.out.trans V2⟩
            clear V2 V20 E2 hb2 htk2 hV hbd
            go_wp2_with fail
            go_roundw
            case rel => exact ⟨j + 1, bj ++ b2, by go_num, by omega, hf.out.1, hf.out.2.1, hf.out.2.2⟩
            case measure => simp [intOf]; omega
          · have V2 : Wr (Sq B P q) wr w2 := (sq_later (La (Lz _))).trans V20
            exact ⟨rfl, hV.out.trans V2, Or.inr ⟨hbd.out n2, rfl⟩⟩
        · have hl1 : ¬ (j : Int) < (n : Int) := by omega
          have hf : Hid (Pt B P q w d O (.int .i64 (n : Int)) (.returned (.int .i64 (n : Int))) wr) := ⟨hV, Or.inl ⟨D1 ++ bj, hend.out j bj (by omega) hb, rfl, hE⟩⟩
          clear hround hend hbad htk hb hE hV
          go_wp2_with fail
          go_ret
          exact hf.out
    · exact ⟨rfl, V1, Or.inr ⟨hhd.out n1, rfl⟩⟩
  · have hn : Hid (∀ w : World, Calls Try.prog 10 #[.bool false] w fun e w' => e = thn ∧ w' = w) := need_bad
    have hfin : Hid (Pt B P q w d (eL 1024 eIm xs) (.int .i64 xs.length) thn w) := Pt.bad (Wr.refl _ _) (el_many hm)
    have g : ¬ (xs.length : Int) ≤ 1024 := by omega
    clear h hR hZ hl hm
    generalize eL 1024 eIm xs = O at *
    generalize xs.length = n at *
    go_enter Try.func29, Try.ntmps29
    go_wp2_with (go_at_call 10; refine (hn.out _).mono ?_; rintro e w0 ⟨rfl, hw0⟩; obtain rfl := hw0.symm)
    exact ⟨rfl, hfin.out⟩
end Go.Proofs.Ytngciahmoenkiac.en
