/- Contracts of math/bits (noughts at the low end) over this seat's translation: the library's table of places is read out of its variable. -/
import Derived.Test.YtjolnfipacpjgaaDoorRows
import Derived.WalkKit
import Derived.ProofKit
import Derived.Deep.QuietTactic
import Derived.BigQuiet
import Derived.Test.YtjolnfipacpjgaaDoorOnes
import Derived.Test.YtjolnfipacpjgaaDoorLib
namespace Go.Proofs.YtjolnfipacpjgaaDoor
open Go.RowKit

/-- The table in its variable. -/
def Tab (g : Nat) (tab : List Nat) (w : World) : Prop := ∀ j, j < tab.length → w.cell? ⟨g, j, none⟩ = some (.int .u8 (tab.getD j 0))
theorem Tab.drew {g : Nat} {tab : List Nat} {w : World} (h : Tab g tab w) (n : Nat) : Tab g tab (w.drewN n) := by
  intro j hj
  have := h j hj
  simpa using this

theorem tz64_core (x k idx : Nat) (w : World) (hx0 : ((x : Int) == 0) = false)
    (key : IntKind.u64.wrap (bits BinOp.and IntKind.u64 (x : Int) (IntKind.u64.wrap (-(x : Int))) * 285870213051353865) / 288230376151711744 = (idx : Int))
    (hi : idx < 64) (hk : k < 64) (hcell : w.cell? ⟨1, idx, none⟩ = some (.int .u8 k)) :
    Calls Tryd.prog 37 #[.int .u64 x] w fun e w' => e = .returned (.int .i64 k) ∧ w' = w := by
  go_enter Tryd.func37, Tryd.ntmps37
  go_wp2_with (simp only [key])
  go_ret
  exact ⟨rfl, rfl⟩
theorem tz64_zero (w : World) :
    Calls Tryd.prog 37 #[.int .u64 0] w fun e w' => e = .returned (.int .i64 64) ∧ w' = w := by
  go_enter Tryd.func37, Tryd.ntmps37
  go_wp2
  go_ret
  exact ⟨rfl, rfl⟩
theorem tz32_core (x k idx : Nat) (w : World) (hx0 : ((x : Int) == 0) = false)
    (key : bits BinOp.and IntKind.u32 (x : Int) (-(x : Int) % 4294967296) * 125613361 % 4294967296 / 134217728 = (idx : Int))
    (hi : idx < 32) (hk : k < 32) (hcell : w.cell? ⟨0, idx, none⟩ = some (.int .u8 k)) :
    Calls Tryd.prog 36 #[.int .u32 x] w fun e w' => e = .returned (.int .i64 k) ∧ w' = w := by
  go_enter Tryd.func36, Tryd.ntmps36
  go_wp2_with (simp only [key])
  go_ret
  exact ⟨rfl, rfl⟩
theorem tz32_zero (w : World) :
    Calls Tryd.prog 36 #[.int .u32 0] w fun e w' => e = .returned (.int .i64 32) ∧ w' = w := by
  go_enter Tryd.func36, Tryd.ntmps36
  go_wp2
  go_ret
  exact ⟨rfl, rfl⟩

/-- The product's top bits are the place at which the table holds the number of noughts. -/
theorem place64 (n : Nat) (hn : n < 18446744073709551616) (hz : n ≠ 0) : ∃ i : Nat, i < Lib.deBruijn64tab.length ∧ Lib.ctz 64 n < 64 ∧ Lib.deBruijn64tab.getD i 0 = Lib.ctz 64 n ∧
    IntKind.u64.wrap (bits BinOp.and IntKind.u64 (n : Int) (IntKind.u64.wrap (-(n : Int))) * 285870213051353865) / 288230376151711744 = (i : Int) := by
  have hb := Lib.lowest_bit 64 n hz hn
  have ht := Lib.deBruijn64_at _ hb.2
  refine ⟨_, ht.1, hb.2, ht.2, ?_⟩
  rw [BM.andlit n _ n (18446744073709551616 - n) rfl (by rw [IntKind.wrap_u64]; omega) hn (by omega)]
  rw [show n &&& (18446744073709551616 - n) = 2 ^ Lib.ctz 64 n from hb.1, IntKind.wrap_u64]
  generalize 2 ^ Lib.ctz 64 n = a
  omega
theorem place32 (n : Nat) (hn : n < 4294967296) (hz : n ≠ 0) : ∃ i : Nat, i < Lib.deBruijn32tab.length ∧ Lib.ctz 32 n < 32 ∧ Lib.deBruijn32tab.getD i 0 = Lib.ctz 32 n ∧
    bits BinOp.and IntKind.u32 (n : Int) (-(n : Int) % 4294967296) * 125613361 % 4294967296 / 134217728 = (i : Int) := by
  have hb := Lib.lowest_bit 32 n hz hn
  have ht := Lib.deBruijn32_at _ hb.2
  refine ⟨_, ht.1, hb.2, ht.2, ?_⟩
  have e : -(n : Int) % 4294967296 = ((4294967296 - n : Nat) : Int) := by omega
  rw [e, u32_and_nat n (4294967296 - n) hn (by omega)]
  rw [show n &&& (4294967296 - n) = 2 ^ Lib.ctz 32 n from hb.1]
  generalize 2 ^ Lib.ctz 32 n = a
  omega

theorem tz64_any (x : Int) (w : World) (h0 : 0 ≤ x) (h1 : x ≤ 18446744073709551615) (hT : Tab 1 Lib.deBruijn64tab w) :
    Calls Tryd.prog 37 #[.int .u64 x] w fun e w' => e = .returned (.int .i64 (Lib.ctz 64 x.toNat)) ∧ w' = w := by
  have hn : x.toNat < 18446744073709551616 := by omega
  have hx : x = (x.toNat : Int) := by omega
  clear h0 h1
  generalize x.toNat = n at *
  subst hx
  by_cases hz : n = 0
  · subst hz; exact tz64_zero w
  · obtain ⟨i, hi, hk, htab, key⟩ := place64 n hn hz
    have hcell := hT i hi
    rw [htab] at hcell
    exact tz64_core n _ i w (by simp; omega) key hi hk hcell
theorem tz32_any (x : Int) (w : World) (h0 : 0 ≤ x) (h1 : x ≤ 4294967295) (hT : Tab 0 Lib.deBruijn32tab w) :
    Calls Tryd.prog 36 #[.int .u32 x] w fun e w' => e = .returned (.int .i64 (Lib.ctz 32 x.toNat)) ∧ w' = w := by
  have hn : x.toNat < 4294967296 := by omega
  have hx : x = (x.toNat : Int) := by omega
  clear h0 h1
  generalize x.toNat = n at *
  subst hx
  by_cases hz : n = 0
  · subst hz; exact tz32_zero w
  · obtain ⟨i, hi, hk, htab, key⟩ := place32 n hn hz
    have hcell := hT i hi
    rw [htab] at hcell
    exact tz32_core n _ i w (by simp; omega) key hi hk hcell
end Go.Proofs.YtjolnfipacpjgaaDoor
