/- What the listed tables of package memory give the walks of this seat; the witness's start. -/
import Derived.Test.YtbjbkhegfhfphaaDoorMH
import Derived.LaidMore
import Derived.OpenShut
import Derived.Stop.Joined
import Derived.Stop.LaidErr
import Derived.Lib.LaidTab
import Derived.Deep.Strs
set_option linter.unusedVariables false
namespace Go.Proofs.YtbjbkhegfhfphaaDoor
open Go.ChangeShapes Go.WideShapes Go.ChangeAt Go.RowKit Go.Deep

theorem own : ownKnob Tryd.prog.godebug = none := by kernel_rfl
theorem gL : Tryd.prog.globalNamed "pelorus/memory.loads" = some 1 := by kernel_rfl
theorem gS : Tryd.prog.globalNamed "pelorus/memory.storeSizes" = some 0 := by kernel_rfl
theorem gtL : (Tryd.prog.globals[1]?).map (·.type) = some 67 := by kernel_rfl
theorem gtS : (Tryd.prog.globals[0]?).map (·.type) = some 61 := by kernel_rfl
def tabs : List (String × DataW Unit) := [("pelorus/memory.loads", Rows.laid_pelorus_memory_loads), ("pelorus/memory.storeSizes", Rows.laid_pelorus_memory_storeSizes)]
theorem door_met (os : Os) (args : Array Value) : laidMetH Tryd.prog tabs ((World.doorLaid Tryd.prog 400 os).forCall (fun _ _ => 0) ⟨#[], args, []⟩).memory :=
  laidMetH_of_parts3 (fuel := 8) (laidMet_of_run' 8 (by kernel_rfl) (by kernel_rfl)) (by kernel_rfl) (by kernel_rfl)
theorem dS : (Rows.laid_pelorus_memory_storeSizes : DataW Unit) = Lib.tabData .i64 (stTab.map fun n : Nat => (n : Int)) := rfl
def accData (x : Nat × Bool × Bool) : DataW Unit := .agg [.lit (.int .i64 (x.1 : Int)), .lit (.bool x.2.1), .lit (.bool x.2.2)]
theorem dL : (Rows.laid_pelorus_memory_loads : DataW Unit) = .agg (ldTab.map accData) := rfl
theorem getD_map (l : List Nat) (j : Nat) : (l.map fun n : Nat => (n : Int)).getD j 0 = (l.getD j 0 : Int) := by
  simp only [List.getD_eq_getElem?_getD, List.getElem?_map]
  cases l[j]? <;> rfl
theorem cells_of_acc {enc : TypeId × Value → Unit} {w : World} {base : Nat} {sp : Nat → Bool} {held : Bool} {fuel : Nat} {cs : List Value} {p : List MemPlace}
    (h : DataW.trod enc Tryd.prog w base sp held fuel 67 cs = some (.agg (ldTab.map accData), p)) :
    ∀ k, k < 14 → cs[3 * k]? = some (.int .i64 (ldAt k).1) ∧ cs[3 * k + 1]? = some (.bool (ldAt k).2.1) ∧ cs[3 * k + 2]? = some (.bool (ldAt k).2.2) := by
  have hce : Tryd.prog.cellsOf 66 = 3 := by kernel_rfl
  have hct : Tryd.prog.cellsOf 67 = 42 := by kernel_rfl
  have hci : Tryd.prog.cellsOf 3 = 1 := by kernel_rfl
  have hcb : Tryd.prog.cellsOf 4 = 1 := by kernel_rfl
  cases fuel with
  | zero => simp [DataW.trod] at h
  | succ fuel =>
    simp only [DataW.trod, Tryd.underlying67, hce, hct] at h
    split at h
    · rename_i hl
      obtain ⟨xs, hm, hx⟩ := Option.map_eq_some_iff.1 h
      have hxs : xs.map (·.1) = ldTab.map accData := by
        have := congrArg Prod.fst hx
        simpa using this
      intro k hk
      obtain ⟨y, hy, hf⟩ := Lib.mapM_at hm k k (by simp [hk])
      obtain ⟨y0, y1, y2, m, rfl, hlen, t0, t1, t2⟩ := trod_struct3 Tryd.underlying66 hf
      simp only [hci, hcb] at t0 t1 t2
      obtain ⟨n, c0, rfl, _⟩ := DataW.trod_int Tryd.underlying3 t0
      obtain ⟨b1, c1, rfl⟩ := DataW.trod_bool Tryd.underlying4 t1
      obtain ⟨b2, c2, rfl⟩ := DataW.trod_bool Tryd.underlying4 t2
      have h2 : (xs.map (·.1))[k]? = some (.agg [.lit (.int .i64 n), .lit (.bool b1), .lit (.bool b2)]) := by simp [hy]
      rw [hxs] at h2
      have h3 : (ldTab.map accData)[k]? = some (accData (ldAt k)) := by
        have hk' : k < ldTab.length := hk
        simp [ldAt, hk']
      rw [h3] at h2
      simp only [accData, Option.some.injEq, DataW.agg.injEq, List.cons.injEq, DataW.lit.injEq, Lit.int.injEq, Lit.bool.injEq, true_and, and_true] at h2
      obtain ⟨rfl, rfl, rfl⟩ := h2
      have g0 := congrArg (·[0]?) c0
      have g1 := congrArg (·[0]?) c1
      have g2 := congrArg (·[0]?) c2
      simp [List.getElem?_drop] at g0 g1 g2
      rw [Nat.mul_comm 3 k]
      exact ⟨g0, g1, g2⟩
    · cases h
theorem of_laid {W : World} (h : laidMetH Tryd.prog tabs W) : Tabs W := by
  rw [MakeChecks.laidMetH_plain _ _ _ (by kernel_rfl)] at h
  have h2 : laidMet Tryd.prog [("pelorus/memory.storeSizes", Rows.laid_pelorus_memory_storeSizes)] W := laidMet.tail h
  unfold tabs at h
  rw [dL] at h
  rw [dS] at h2
  have t2 := Lib.tabIs_of_head gS gtS Tryd.underlying61 Tryd.underlying3 (by kernel_rfl) (by kernel_rfl) h2
  obtain ⟨ps, ⟨g', t', cs, fuel, p, q, hg', ht', hvar, hd, _, _⟩, _⟩ := h
  obtain rfl := Option.some.inj (gL.symm.trans hg')
  obtain rfl := Option.some.inj (gtL.symm.trans ht')
  have hc := cells_of_acc hd
  refine ⟨fun k hk => ⟨?_, ?_, ?_⟩, fun k hk => ?_⟩
  · rw [World.var?_cell gL hvar]; simpa using (hc k hk).1
  · rw [World.var?_cell gL hvar]; simpa using (hc k hk).2.1
  · rw [World.var?_cell gL hvar]; simpa using (hc k hk).2.2
  · have := t2.cell gS k (by simpa [stTab] using hk)
    rw [getD_map] at this
    exact this
end Go.Proofs.YtbjbkhegfhfphaaDoor
