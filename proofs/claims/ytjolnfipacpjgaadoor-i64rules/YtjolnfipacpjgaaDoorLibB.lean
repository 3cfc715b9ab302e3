/- Contracts of math/bits (ones of 64 bits) over this seat's translation: what each of the library's functions returns, the world as it was. -/
import Derived.Test.YtjolnfipacpjgaaDoorRows
import Derived.WalkKit
import Derived.ProofKit
import Derived.Deep.QuietTactic
import Derived.BigQuiet
import Derived.Lib.BitFns
import Derived.Test.YtjolnfipacpjgaaDoorMath
import Derived.Test.YtjolnfipacpjgaaDoorOnes
import Derived.Test.YtjolnfipacpjgaaDoorLib
namespace Go.Proofs.YtjolnfipacpjgaaDoor
open Go.RowKit

theorem oc64_core (x y1 y2 y3 y4 y5 y6 r : Int) (w : World) 
    (e1 : IntKind.u64.wrap (bits .and .u64 (x / 2) 6148914691236517205 + bits .and .u64 x 6148914691236517205) = y1)
    (e2 : IntKind.u64.wrap (bits .and .u64 (y1 / 4) 3689348814741910323 + bits .and .u64 y1 3689348814741910323) = y2)
    (e3 : bits .and .u64 (IntKind.u64.wrap (y2 / 16 + y2)) 1085102592571150095 = y3)
    (e4 : IntKind.u64.wrap (y3 + y3 / 256) = y4) (e5 : IntKind.u64.wrap (y4 + y4 / 65536) = y5) (e6 : IntKind.u64.wrap (y5 + y5 / 4294967296) = y6)
    (e7 : bits .and .i64 (wrap64 y6) 127 = r) :
    Calls Tryd.prog 39 #[.int .u64 x] w fun e w' => e = .returned (.int .i64 r) ∧ w' = w := by
  go_enter Tryd.func39, Tryd.ntmps39
  go_wp2
  go_ret
  exact ⟨rfl, rfl⟩

theorem oc64_any (x : Int) (w : World) (h0 : 0 ≤ x) (h1 : x ≤ 18446744073709551615) :
    Calls Tryd.prog 39 #[.int .u64 x] w fun e w' => e = .returned (.int .i64 (Lib.popAux 64 x.toNat)) ∧ w' = w := by
  have hn : x.toNat < 18446744073709551616 := by omega
  have hx : x = (x.toNat : Int) := by omega
  clear h0 h1
  generalize x.toNat = n at *
  subst hx
  obtain ⟨y1, y2, y3, y4, y5, y6, a1, a2, a3, a4, a5, a6, a7, c1, c2, c3, c4, c5, c6⟩ := BM.ones64_nat n hn
  refine oc64_core n y1 y2 y3 y4 y5 y6 _ w ?_ ?_ ?_ ?_ ?_ ?_ ?_
  · rw [BM.andlit _ _ (n / 2) 6148914691236517205 (by clear a1 a2 a3 a4 a5 a6 a7; omega) (by omega) (by clear a1 a2 a3 a4 a5 a6 a7; omega) (by decide), BM.andlit _ _ n 6148914691236517205 rfl (by omega) hn (by decide)]
    exact BM.wrap_sum _ _ _ a1 c1
  · rw [BM.andlit _ _ (y1 / 4) 3689348814741910323 (by clear a1 a2 a3 a4 a5 a6 a7; omega) (by omega) (by clear a1 a2 a3 a4 a5 a6 a7; omega) (by decide), BM.andlit _ _ y1 3689348814741910323 rfl (by omega) c1 (by decide)]
    exact BM.wrap_sum _ _ _ a2 (by clear a1 a2 a3 a4 a5 a6 a7; omega)
  · have t2 : IntKind.u64.wrap ((y2 : Int) / 16 + (y2 : Int)) = ((y2 / 16 + y2 : Nat) : Int) := by clear a1 a2 a3 a4 a5 a6 a7; rw [IntKind.wrap_u64]; omega
    rw [t2, BM.andlit _ _ (y2 / 16 + y2) 1085102592571150095 rfl (by omega) (by clear a1 a2 a3 a4 a5 a6 a7; omega) (by decide), a3]
  · clear a1 a2 a3 a5 a6 a7; rw [IntKind.wrap_u64]; omega
  · clear a1 a2 a3 a4 a6 a7; rw [IntKind.wrap_u64]; omega
  · clear a1 a2 a3 a4 a5 a7; rw [IntKind.wrap_u64]; omega
  · rw [BM.and127, ← a7]; clear a1 a2 a3 a4 a5 a6 a7; simp only [wrap64]; omega
end Go.Proofs.YtjolnfipacpjgaaDoor
