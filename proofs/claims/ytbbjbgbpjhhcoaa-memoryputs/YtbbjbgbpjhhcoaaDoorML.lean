/- What the listed tables of package memory give the walks of this seat; the witness's start. -/
import Derived.Test.YtbbjbgbpjhhcoaaDoorMH
import Derived.LaidMore
import Derived.OpenShut
import Derived.Stop.Joined
import Derived.Stop.LaidErr
import Derived.Lib.LaidTab
import Derived.Deep.Strs
set_option linter.unusedVariables false
namespace Go.Proofs.YtbbjbgbpjhhcoaaDoor
open Go.ChangeShapes Go.WideShapes Go.ChangeAt Go.RowKit Go.Deep

theorem own : ownKnob Tryd.prog.godebug = none := by kernel_rfl
theorem gL : Tryd.prog.globalNamed "pelorus/access.all" = some 0 := by kernel_rfl
theorem gtL : (Tryd.prog.globals[0]?).map (·.type) = some 70 := by kernel_rfl
def tabs : List (String × DataW Unit) := [("pelorus/access.all", Rows.laid_pelorus_access_all)]
theorem door_met (os : Os) (args : Array Value) : laidMetH Tryd.prog tabs ((World.doorLaid Tryd.prog 400 os).forCall (fun _ _ => 0) ⟨#[], args, []⟩).memory :=
  laidMetH_of_parts3 (fuel := 8) (laidMet_of_run' 8 (by kernel_rfl) (by kernel_rfl)) (by kernel_rfl) (by kernel_rfl)
def accData (x : Nat × Nat × Bool) : DataW Unit := .agg [.lit (.int .i64 (x.1 : Int)), .lit (.int .i64 (x.2.1 : Int)), .lit (.bool x.2.2)]
theorem dL : (Rows.laid_pelorus_access_all : DataW Unit) = .agg (acTab.map accData) := rfl
theorem cells_of_acc {enc : TypeId × Value → Unit} {w : World} {base : Nat} {sp : Nat → Bool} {held : Bool} {fuel : Nat} {cs : List Value} {p : List MemPlace}
    (h : DataW.trod enc Tryd.prog w base sp held fuel 70 cs = some (.agg (acTab.map accData), p)) :
    ∀ k, k < 23 → cs[3 * k]? = some (.int .i64 (acAt k).1) ∧ cs[3 * k + 1]? = some (.int .i64 (acAt k).2.1) ∧ cs[3 * k + 2]? = some (.bool (acAt k).2.2) := by
  have hce : Tryd.prog.cellsOf 62 = 3 := by kernel_rfl
  have hct : Tryd.prog.cellsOf 70 = 69 := by kernel_rfl
  have hci : Tryd.prog.cellsOf 3 = 1 := by kernel_rfl
  have hcb : Tryd.prog.cellsOf 4 = 1 := by kernel_rfl
  cases fuel with
  | zero => simp [DataW.trod] at h
  | succ fuel =>
    simp only [DataW.trod, Tryd.underlying70, hce, hct] at h
    split at h
    · rename_i hl
      obtain ⟨xs, hm, hx⟩ := Option.map_eq_some_iff.1 h
      have hxs : xs.map (·.1) = acTab.map accData := by
        have := congrArg Prod.fst hx
        simpa using this
      intro k hk
      obtain ⟨y, hy, hf⟩ := Lib.mapM_at hm k k (by simp [hk])
      obtain ⟨y0, y1, y2, m, rfl, hlen, t0, t1, t2⟩ := trod_struct3 Tryd.underlying62 hf
      simp only [hci, hcb] at t0 t1 t2
      obtain ⟨n, c0, rfl, _⟩ := DataW.trod_int Tryd.underlying3 t0
      obtain ⟨b1, c1, rfl, _⟩ := DataW.trod_int Tryd.underlying3 t1
      obtain ⟨b2, c2, rfl⟩ := DataW.trod_bool Tryd.underlying4 t2
      have h2 : (xs.map (·.1))[k]? = some (.agg [.lit (.int .i64 n), .lit (.int .i64 b1), .lit (.bool b2)]) := by simp [hy]
      rw [hxs] at h2
      have h3 : (acTab.map accData)[k]? = some (accData (acAt k)) := by
        have hk' : k < acTab.length := hk
        simp [acAt, hk']
      rw [h3] at h2
      simp only [accData, Option.some.injEq, DataW.agg.injEq, List.cons.injEq, DataW.lit.injEq, Lit.int.injEq, Lit.bool.injEq, true_and, and_true] at h2
      obtain ⟨rfl, rfl, rfl⟩ := h2
      have g0 := congrArg (·[0]?) c0
      have g1 := congrArg (·[0]?) c1
      have g2 := congrArg (·[0]?) c2
      simp [List.getElem?_drop] at g0 g1 g2
      rw [Nat.mul_comm 3 k]
      exact ⟨g0, g1, g2⟩
    · cases h
theorem of_laid {W : World} (h : laidMetH Tryd.prog tabs W) : Acc W := by
  rw [MakeChecks.laidMetH_plain _ _ _ (by kernel_rfl)] at h
  unfold tabs at h
  rw [dL] at h
  obtain ⟨ps, ⟨g', t', cs, fuel, p, q, hg', ht', hvar, hd, _, _⟩, _⟩ := h
  obtain rfl := Option.some.inj (gL.symm.trans hg')
  obtain rfl := Option.some.inj (gtL.symm.trans ht')
  have hc := cells_of_acc hd
  refine fun k hk => ⟨?_, ?_, ?_⟩
  · rw [World.var?_cell gL hvar]; simpa using (hc k hk).1
  · rw [World.var?_cell gL hvar]; simpa using (hc k hk).2.1
  · rw [World.var?_cell gL hvar]; simpa using (hc k hk).2.2
end Go.Proofs.YtbbjbgbpjhhcoaaDoor
