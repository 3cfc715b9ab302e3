/- Contracts of math/bits over this seat's translation: what each of the library's functions returns, the world as it was. -/
import Derived.Test.YtdfgcagbpndabaaGreatDoorRows
import Derived.WalkKit
import Derived.ProofKit
import Derived.Deep.QuietTactic
import Derived.BigQuiet
import Derived.Lib.BitFns
import Derived.Test.YtdfgcagbpndabaaGreatDoorZI
set_option linter.unusedVariables false
set_option maxHeartbeats 4000000
set_option maxRecDepth 100000
namespace Go.Proofs.YtdfgcagbpndabaaGreatDoor
open Go.RowKit
theorem ret_int {k : IntKind} {a b : Int} (h : a = b) : Ending.returned (.int k a) = .returned (.int k b) := by rw [h]
theorem len_close (c : Nat) (x b : Int) (hb0 : 0 ≤ b) (hb1 : b ≤ 255) (hc : c ≤ 64) (h : Lib.bitLen x.toNat = c + Lib.bitLen b.toNat) :
    wrap64 (c + wrap64 (Lib.len8 b)) = (Lib.bitLen x.toNat : Int) := by
  rw [h, Lib.len8_of b hb0 hb1]
  have l := Lib.bitLen_le8' b hb0 hb1
  simp only [wrap64]
  omega
theorem len_close0 (x : Int) (hb0 : 0 ≤ x) (hb1 : x ≤ 255) :
    wrap64 (wrap64 (Lib.len8 x)) = (Lib.bitLen x.toNat : Int) := by
  rw [Lib.len8_of x hb0 hb1]
  have l := Lib.bitLen_le8' x hb0 hb1
  simp only [wrap64]
  omega
theorem len32_any (x : Int) (w : World) (h0 : 0 ≤ x) (h1 : x ≤ 4294967295) :
    Calls Tryz.prog 161 #[.int .u32 x] w fun e w' => e = .returned (.int .i64 (Lib.bitLen x.toNat)) ∧ w' = w := by
  rcases (by omega : x ≤ 255 ∨ (256 ≤ x ∧ x < 65536) ∨ (65536 ≤ x ∧ x < 16777216) ∨ 16777216 ≤ x) with hx | ⟨hx, hy⟩ | ⟨hx, hy⟩ | hx
  · go_enter Tryz.func161, Tryz.ntmps161
    go_wp2
    go_ret
    exact ⟨ret_int (len_close0 x h0 hx), rfl⟩
  · have hz : x / 256 ≤ 255 := by omega
    have hz0 : 0 ≤ x / 256 := by omega
    go_enter Tryz.func161, Tryz.ntmps161
    go_wp2
    go_ret
    exact ⟨ret_int (len_close 8 x _ hz0 hz (by decide) (by rw [Lib.bitLen_shift8 x.toNat (by omega) (by omega)]; congr 2; omega)), rfl⟩
  · have hz : x / 65536 ≤ 255 := by omega
    have hz0 : 0 ≤ x / 65536 := by omega
    go_enter Tryz.func161, Tryz.ntmps161
    go_wp2
    go_ret
    exact ⟨ret_int (len_close 16 x _ hz0 hz (by decide) (by rw [Lib.bitLen_shift16 x.toNat (by omega) (by omega)]; congr 2; omega)), rfl⟩
  · have hz : x / 65536 / 256 ≤ 255 := by omega
    have hz0 : 0 ≤ x / 65536 / 256 := by omega
    go_enter Tryz.func161, Tryz.ntmps161
    go_wp2
    go_ret
    exact ⟨ret_int (len_close 24 x _ hz0 hz (by decide) (by rw [Lib.bitLen_shift24 x.toNat (by omega) (by omega)]; congr 2; omega)), rfl⟩
theorem len64_any (x : Int) (w : World) (h0 : 0 ≤ x) (h1 : x ≤ 18446744073709551615) :
    Calls Tryz.prog 162 #[.int .u64 x] w fun e w' => e = .returned (.int .i64 (Lib.bitLen x.toNat)) ∧ w' = w := by
  rcases (by omega : x < 4294967296 ∨ 4294967296 ≤ x) with hs | hs
  · rcases (by omega : x ≤ 255 ∨ (256 ≤ x ∧ x < 65536) ∨ (65536 ≤ x ∧ x < 16777216) ∨ 16777216 ≤ x) with hx | ⟨hx, hy⟩ | ⟨hx, hy⟩ | hx
    · go_enter Tryz.func162, Tryz.ntmps162
      go_wp2
      go_ret
      exact ⟨ret_int (len_close0 x h0 hx), rfl⟩
    · have hz : x / 256 ≤ 255 := by omega
      have hz0 : 0 ≤ x / 256 := by omega
      go_enter Tryz.func162, Tryz.ntmps162
      go_wp2
      go_ret
      exact ⟨ret_int (len_close 8 x _ hz0 hz (by decide) (by rw [Lib.bitLen_shift8 x.toNat (by omega) (by omega)]; congr 2; omega)), rfl⟩
    · have hz : x / 65536 ≤ 255 := by omega
      have hz0 : 0 ≤ x / 65536 := by omega
      go_enter Tryz.func162, Tryz.ntmps162
      go_wp2
      go_ret
      exact ⟨ret_int (len_close 16 x _ hz0 hz (by decide) (by rw [Lib.bitLen_shift16 x.toNat (by omega) (by omega)]; congr 2; omega)), rfl⟩
    · have hz : x / 65536 / 256 ≤ 255 := by omega
      have hz0 : 0 ≤ x / 65536 / 256 := by omega
      go_enter Tryz.func162, Tryz.ntmps162
      go_wp2
      go_ret
      exact ⟨ret_int (len_close 24 x _ hz0 hz (by decide) (by rw [Lib.bitLen_shift24 x.toNat (by omega) (by omega)]; congr 2; omega)), rfl⟩
  · rcases (by omega : (x < 1099511627776) ∨ (1099511627776 ≤ x ∧ x < 281474976710656) ∨ (281474976710656 ≤ x ∧ x < 72057594037927936) ∨ 72057594037927936 ≤ x) with hx | ⟨hx, hy⟩ | ⟨hx, hy⟩ | hx
    · have hz : x / 4294967296 ≤ 255 := by omega
      have hz0 : 0 ≤ x / 4294967296 := by omega
      go_enter Tryz.func162, Tryz.ntmps162
      go_wp2
      go_ret
      exact ⟨ret_int (len_close 32 x _ hz0 hz (by decide) (by rw [Lib.bitLen_shift32 x.toNat (by omega) (by omega)]; congr 2; omega)), rfl⟩
    · have hz : x / 4294967296 / 256 ≤ 255 := by omega
      have hz0 : 0 ≤ x / 4294967296 / 256 := by omega
      go_enter Tryz.func162, Tryz.ntmps162
      go_wp2
      go_ret
      exact ⟨ret_int (len_close 40 x _ hz0 hz (by decide) (by rw [Lib.bitLen_shift40 x.toNat (by omega) (by omega)]; congr 2; omega)), rfl⟩
    · have hz : x / 4294967296 / 65536 ≤ 255 := by omega
      have hz0 : 0 ≤ x / 4294967296 / 65536 := by omega
      go_enter Tryz.func162, Tryz.ntmps162
      go_wp2
      go_ret
      exact ⟨ret_int (len_close 48 x _ hz0 hz (by decide) (by rw [Lib.bitLen_shift48 x.toNat (by omega) (by omega)]; congr 2; omega)), rfl⟩
    · have hz : x / 4294967296 / 65536 / 256 ≤ 255 := by omega
      have hz0 : 0 ≤ x / 4294967296 / 65536 / 256 := by omega
      go_enter Tryz.func162, Tryz.ntmps162
      go_wp2
      go_ret
      exact ⟨ret_int (len_close 56 x _ hz0 hz (by decide) (by rw [Lib.bitLen_shift56 x.toNat (by omega) (by omega)]; congr 2; omega)), rfl⟩
theorem lz32_any (x : Int) (w : World) (h0 : 0 ≤ x) (h1 : x ≤ 4294967295) :
    Calls Tryz.prog 137 #[.int .u32 x] w fun e w' => e = .returned (.int .i64 (32 - (Lib.bitLen x.toNat : Int))) ∧ w' = w := by
  have l := Lib.bitLen_le x.toNat 32 (by decide) (by omega)
  go_enter Tryz.func137, Tryz.ntmps137
  go_wp2_with (go_at_call 161; refine (len32_any x _ h0 h1).mono ?_; rintro e w' ⟨rfl, rfl⟩)
  go_ret
  exact ⟨rfl, rfl⟩
theorem lz64_any (x : Int) (w : World) (h0 : 0 ≤ x) (h1 : x ≤ 18446744073709551615) :
    Calls Tryz.prog 138 #[.int .u64 x] w fun e w' => e = .returned (.int .i64 (64 - (Lib.bitLen x.toNat : Int))) ∧ w' = w := by
  have l := Lib.bitLen_le x.toNat 64 (by decide) (by omega)
  go_enter Tryz.func138, Tryz.ntmps138
  go_wp2_with (go_at_call 162; refine (len64_any x _ h0 h1).mono ?_; rintro e w' ⟨rfl, rfl⟩)
  go_ret
  exact ⟨rfl, rfl⟩
theorem rl32_any (x k : Int) (w : World) (h0 : 0 ≤ x) (h1 : x ≤ 4294967295) (hk0 : 0 ≤ k) (hk1 : k ≤ 31) :
    Calls Tryz.prog 168 #[.int .u32 x, .int .i64 k] w fun e w' => e = .returned (.int .u32 (BM.rotl 32 x.toNat k.toNat)) ∧ w' = w := by
  have hk := BM.uand31 k hk0 hk1
  go_enter Tryz.func168, Tryz.ntmps168
  go_wp2
  go_ret
  exact ⟨ret_int (BM.or32 x k h0 h1 hk0 hk1), rfl⟩
theorem rl64_any (x k : Int) (w : World) (h0 : 0 ≤ x) (h1 : x ≤ 18446744073709551615) (hk0 : 0 ≤ k) (hk1 : k ≤ 63) :
    Calls Tryz.prog 169 #[.int .u64 x, .int .i64 k] w fun e w' => e = .returned (.int .u64 (BM.rotl 64 x.toNat k.toNat)) ∧ w' = w := by
  have hk := BM.uand63 k hk0 hk1
  go_enter Tryz.func169, Tryz.ntmps169
  go_wp2
  go_ret
  exact ⟨ret_int (BM.or64 x k h0 h1 hk0 hk1), rfl⟩
theorem oc32_any (x : Int) (w : World) (h0 : 0 ≤ x) (h1 : x ≤ 4294967295) :
    Calls Tryz.prog 141 #[.int .u32 x] w fun e w' => e = .returned (.int .i64 (Lib.popAux 32 x.toNat)) ∧ ∃ n, w' = w.drewN n := by
  have b0 : 0 ≤ x / 16777216 := by omega
  have b1 : x / 16777216 ≤ 255 := by omega
  have m0 := BM.u32and255 x h0 h1
  have m1 := BM.u32and255 (x / 256) (by omega) (by omega)
  have m2 := BM.u32and255 (x / 65536) (by omega) (by omega)
  go_enter Tryz.func141, Tryz.ntmps141
  go_wp2
  go_quiet (fail)
  go_wp2
  go_ret
  exact ⟨ret_int (BM.ones32 x h0 h1), _, rfl⟩
end Go.Proofs.YtdfgcagbpndabaaGreatDoor
namespace Go.Proofs.YtdfgcagbpndabaaGreatDoor
open Go.RowKit
theorem oc64_core (x y1 y2 y3 y4 y5 y6 r : Int) (w : World) 
    (e1 : IntKind.u64.wrap (bits .and .u64 (x / 2) 6148914691236517205 + bits .and .u64 x 6148914691236517205) = y1)
    (e2 : IntKind.u64.wrap (bits .and .u64 (y1 / 4) 3689348814741910323 + bits .and .u64 y1 3689348814741910323) = y2)
    (e3 : bits .and .u64 (IntKind.u64.wrap (y2 / 16 + y2)) 1085102592571150095 = y3)
    (e4 : IntKind.u64.wrap (y3 + y3 / 256) = y4) (e5 : IntKind.u64.wrap (y4 + y4 / 65536) = y5) (e6 : IntKind.u64.wrap (y5 + y5 / 4294967296) = y6)
    (e7 : bits .and .i64 (wrap64 y6) 127 = r) :
    Calls Tryz.prog 142 #[.int .u64 x] w fun e w' => e = .returned (.int .i64 r) ∧ w' = w := by
  go_enter Tryz.func142, Tryz.ntmps142
  go_wp2
  go_ret
  exact ⟨rfl, rfl⟩
theorem oc64_any (x : Int) (w : World) (h0 : 0 ≤ x) (h1 : x ≤ 18446744073709551615) :
    Calls Tryz.prog 142 #[.int .u64 x] w fun e w' => e = .returned (.int .i64 (Lib.popAux 64 x.toNat)) ∧ w' = w := by
  have hn : x.toNat < 18446744073709551616 := by omega
  have hx : x = (x.toNat : Int) := by omega
  clear h0 h1
  generalize x.toNat = n at *
  subst hx
  obtain ⟨y1, y2, y3, y4, y5, y6, a1, a2, a3, a4, a5, a6, a7, c1, c2, c3, c4, c5, c6⟩ := BM.ones64_nat n hn
  refine oc64_core n y1 y2 y3 y4 y5 y6 _ w ?_ ?_ ?_ ?_ ?_ ?_ ?_
  · rw [BM.andlit _ _ (n / 2) 6148914691236517205 (by clear a1 a2 a3 a4 a5 a6 a7; omega) (by omega) (by clear a1 a2 a3 a4 a5 a6 a7; omega) (by decide), BM.andlit _ _ n 6148914691236517205 rfl (by omega) hn (by decide)]
    exact BM.wrap_sum _ _ _ a1 c1
  · rw [BM.andlit _ _ (y1 / 4) 3689348814741910323 (by clear a1 a2 a3 a4 a5 a6 a7; omega) (by omega) (by clear a1 a2 a3 a4 a5 a6 a7; omega) (by decide), BM.andlit _ _ y1 3689348814741910323 rfl (by omega) c1 (by decide)]
    exact BM.wrap_sum _ _ _ a2 (by clear a1 a2 a3 a4 a5 a6 a7; omega)
  · have t2 : IntKind.u64.wrap ((y2 : Int) / 16 + (y2 : Int)) = ((y2 / 16 + y2 : Nat) : Int) := by clear a1 a2 a3 a4 a5 a6 a7; rw [IntKind.wrap_u64]; omega
    rw [t2, BM.andlit _ _ (y2 / 16 + y2) 1085102592571150095 rfl (by omega) (by clear a1 a2 a3 a4 a5 a6 a7; omega) (by decide), a3]
  · clear a1 a2 a3 a5 a6 a7; rw [IntKind.wrap_u64]; omega
  · clear a1 a2 a3 a4 a6 a7; rw [IntKind.wrap_u64]; omega
  · clear a1 a2 a3 a4 a5 a7; rw [IntKind.wrap_u64]; omega
  · rw [BM.and127, ← a7]; clear a1 a2 a3 a4 a5 a6 a7; simp only [wrap64]; omega
end Go.Proofs.YtdfgcagbpndabaaGreatDoor
namespace Go.Proofs.YtdfgcagbpndabaaGreatDoor
open Go.RowKit
def Tab (g : Nat) (tab : List Nat) (w : World) : Prop := ∀ j, j < tab.length → w.cell? ⟨g, j, none⟩ = some (.int .u8 (tab.getD j 0))
theorem tz64_core (x k idx : Nat) (w : World) (hx0 : ((x : Int) == 0) = false)
    (key : IntKind.u64.wrap (bits BinOp.and IntKind.u64 (x : Int) (IntKind.u64.wrap (-(x : Int))) * 285870213051353865) / 288230376151711744 = (idx : Int))
    (hi : idx < 64) (hk : k < 64) (hcell : w.cell? ⟨2, idx, none⟩ = some (.int .u8 k)) :
    Calls Tryz.prog 140 #[.int .u64 x] w fun e w' => e = .returned (.int .i64 k) ∧ w' = w := by
  go_enter Tryz.func140, Tryz.ntmps140
  go_wp2_with (simp only [key])
  go_ret
  exact ⟨rfl, rfl⟩
theorem tz64_zero (w : World) :
    Calls Tryz.prog 140 #[.int .u64 0] w fun e w' => e = .returned (.int .i64 64) ∧ w' = w := by
  go_enter Tryz.func140, Tryz.ntmps140
  go_wp2
  go_ret
  exact ⟨rfl, rfl⟩
theorem tz32_core (x k idx : Nat) (w : World) (hx0 : ((x : Int) == 0) = false)
    (key : bits BinOp.and IntKind.u32 (x : Int) (-(x : Int) % 4294967296) * 125613361 % 4294967296 / 134217728 = (idx : Int))
    (hi : idx < 32) (hk : k < 32) (hcell : w.cell? ⟨1, idx, none⟩ = some (.int .u8 k)) :
    Calls Tryz.prog 139 #[.int .u32 x] w fun e w' => e = .returned (.int .i64 k) ∧ w' = w := by
  go_enter Tryz.func139, Tryz.ntmps139
  go_wp2_with (simp only [key])
  go_ret
  exact ⟨rfl, rfl⟩
theorem tz32_zero (w : World) :
    Calls Tryz.prog 139 #[.int .u32 0] w fun e w' => e = .returned (.int .i64 32) ∧ w' = w := by
  go_enter Tryz.func139, Tryz.ntmps139
  go_wp2
  go_ret
  exact ⟨rfl, rfl⟩
theorem place64 (n : Nat) (hn : n < 18446744073709551616) (hz : n ≠ 0) : ∃ i : Nat, i < Lib.deBruijn64tab.length ∧ Lib.ctz 64 n < 64 ∧ Lib.deBruijn64tab.getD i 0 = Lib.ctz 64 n ∧
    IntKind.u64.wrap (bits BinOp.and IntKind.u64 (n : Int) (IntKind.u64.wrap (-(n : Int))) * 285870213051353865) / 288230376151711744 = (i : Int) := by
  have hb := Lib.lowest_bit 64 n hz hn
  have ht := Lib.deBruijn64_at _ hb.2
  refine ⟨_, ht.1, hb.2, ht.2, ?_⟩
  rw [BM.andlit n _ n (18446744073709551616 - n) rfl (by rw [IntKind.wrap_u64]; omega) hn (by omega)]
  rw [show n &&& (18446744073709551616 - n) = 2 ^ Lib.ctz 64 n from hb.1, IntKind.wrap_u64]
  generalize 2 ^ Lib.ctz 64 n = a
  omega
theorem place32 (n : Nat) (hn : n < 4294967296) (hz : n ≠ 0) : ∃ i : Nat, i < Lib.deBruijn32tab.length ∧ Lib.ctz 32 n < 32 ∧ Lib.deBruijn32tab.getD i 0 = Lib.ctz 32 n ∧
    bits BinOp.and IntKind.u32 (n : Int) (-(n : Int) % 4294967296) * 125613361 % 4294967296 / 134217728 = (i : Int) := by
  have hb := Lib.lowest_bit 32 n hz hn
  have ht := Lib.deBruijn32_at _ hb.2
  refine ⟨_, ht.1, hb.2, ht.2, ?_⟩
  have e : -(n : Int) % 4294967296 = ((4294967296 - n : Nat) : Int) := by omega
  rw [e, u32_and_nat n (4294967296 - n) hn (by omega)]
  rw [show n &&& (4294967296 - n) = 2 ^ Lib.ctz 32 n from hb.1]
  generalize 2 ^ Lib.ctz 32 n = a
  omega
theorem tz64_any (x : Int) (w : World) (h0 : 0 ≤ x) (h1 : x ≤ 18446744073709551615) (hT : Tab 2 Lib.deBruijn64tab w) :
    Calls Tryz.prog 140 #[.int .u64 x] w fun e w' => e = .returned (.int .i64 (Lib.ctz 64 x.toNat)) ∧ w' = w := by
  have hn : x.toNat < 18446744073709551616 := by omega
  have hx : x = (x.toNat : Int) := by omega
  clear h0 h1
  generalize x.toNat = n at *
  subst hx
  by_cases hz : n = 0
  · subst hz; exact tz64_zero w
  · obtain ⟨i, hi, hk, htab, key⟩ := place64 n hn hz
    have hcell := hT i hi
    rw [htab] at hcell
    exact tz64_core n _ i w (by simp; omega) key hi hk hcell
theorem tz32_any (x : Int) (w : World) (h0 : 0 ≤ x) (h1 : x ≤ 4294967295) (hT : Tab 1 Lib.deBruijn32tab w) :
    Calls Tryz.prog 139 #[.int .u32 x] w fun e w' => e = .returned (.int .i64 (Lib.ctz 32 x.toNat)) ∧ w' = w := by
  have hn : x.toNat < 4294967296 := by omega
  have hx : x = (x.toNat : Int) := by omega
  clear h0 h1
  generalize x.toNat = n at *
  subst hx
  by_cases hz : n = 0
  · subst hz; exact tz32_zero w
  · obtain ⟨i, hi, hk, htab, key⟩ := place32 n hn hz
    have hcell := hT i hi
    rw [htab] at hcell
    exact tz32_core n _ i w (by simp; omega) key hi hk hcell
end Go.Proofs.YtdfgcagbpndabaaGreatDoor
namespace Go.Proofs.YtdfgcagbpndabaaGreatDoor
open Go.RowKit
theorem num_any (n : Int) (w : World) :
    Calls Tryz.prog 12 #[.int .i64 n] w fun e w' => e = .returned (.int .i64 n) ∧ w' = w := by
  go_enter Tryz.func12, Tryz.ntmps12
  go_wp2
  go_ret
  exact ⟨rfl, rfl⟩
theorem below_any (a b : Int) (w : World) :
    Calls Tryz.prog 148 #[.int .i64 a, .int .i64 b] w fun e w' => e = .returned (.bool (decide (IntKind.u64.wrap a < IntKind.u64.wrap b))) ∧ w' = w := by
  go_enter Tryz.func148, Tryz.ntmps148
  go_wp2
  go_ret
  exact ⟨rfl, rfl⟩
theorem low_any (x : Int) (w : World) :
    Calls Tryz.prog 45 #[.int .i64 x] w fun e w' => e = .returned (.int .i64 (x % 4294967296)) ∧ w' = w := by
  go_enter Tryz.func45, Tryz.ntmps45
  go_wp2
  go_ret
  exact ⟨rfl, rfl⟩
theorem sign_any (x : Int) (w : World) :
    Calls Tryz.prog 47 #[.int .i64 x] w fun e w' => e = .returned (.int .i64 (wrap32 (x % 4294967296))) ∧ w' = w := by
  go_enter Tryz.func47, Tryz.ntmps47
  go_wp2
  go_ret
  exact ⟨ret_int (by simp only [wrap64, wrap32]; omega), rfl⟩
theorem width_ok (n : Int) (w : World) (h : n = 32 ∨ n = 64) :
    Calls Tryz.prog 136 #[.int .i64 n] w fun e w' => e = .returned (.bool true) ∧ w' = w := by
  rcases h with rfl | rfl
  all_goals
    go_enter Tryz.func136, Tryz.ntmps136
    go_wp2
    go_ret
    exact ⟨rfl, rfl⟩
def uquo (a b : Int) : Int := wrap64 (IntKind.u64.wrap ((IntKind.u64.wrap a).tdiv (IntKind.u64.wrap b)))
def urem (a b : Int) : Int := wrap64 (IntKind.u64.wrap a % IntKind.u64.wrap b)
theorem div_some (a b : Int) (w : World) (hb : (b == 0) = false) (ha : 0 ≤ IntKind.u64.wrap a) (hu : 1 ≤ IntKind.u64.wrap b) :
    Calls Tryz.prog 149 #[.int .i64 a, .int .i64 b] w fun e w' => (e = .returned (.tuple #[.int .i64 (uquo a b), .int .i64 (urem a b), .int .i64 0])) ∧ ∃ n, w' = w.drewN n := by
  have hu0 : (IntKind.u64.wrap b == 0) = false := by simp; omega
  go_enter Tryz.func149, Tryz.ntmps149
  go_wp2
  go_quiet (fail)
  go_wp2
  go_ret3
  exact ⟨rfl, _, rfl⟩
theorem clz_32 (x : Int) (w : World) :
    Calls Tryz.prog 89 #[.int .i64 x, .int .i64 32] w fun e w' => e = .returned (.tuple #[.int .i64 (32 - (Lib.bitLen (x % 4294967296).toNat : Int)), .int .i64 0]) ∧ w' = w := by
  go_enter Tryz.func89, Tryz.ntmps89
  go_wp2_with (first | (go_at_call 136; refine (width_ok _ _ (Or.inl rfl)).mono ?_; rintro e w' ⟨rfl, rfl⟩) | (go_at_call 137; refine (lz32_any _ _ (by omega) (by omega)).mono ?_; rintro e w' ⟨rfl, rfl⟩))
  go_ret2
  exact ⟨rfl, rfl⟩
theorem u64_pos (x : Int) : 0 ≤ IntKind.u64.wrap x ∧ IntKind.u64.wrap x ≤ 18446744073709551615 := by rw [IntKind.wrap_u64]; omega
theorem clz_64 (x : Int) (w : World) :
    Calls Tryz.prog 89 #[.int .i64 x, .int .i64 64] w fun e w' => e = .returned (.tuple #[.int .i64 (64 - (Lib.bitLen (IntKind.u64.wrap x).toNat : Int)), .int .i64 0]) ∧ w' = w := by
  go_enter Tryz.func89, Tryz.ntmps89
  go_wp2_with (first | (go_at_call 136; refine (width_ok _ _ (Or.inr rfl)).mono ?_; rintro e w' ⟨rfl, rfl⟩) | (go_at_call 138; refine (lz64_any _ _ (u64_pos x).1 (u64_pos x).2).mono ?_; rintro e w' ⟨rfl, rfl⟩))
  go_ret2
  exact ⟨rfl, rfl⟩
theorem ctz_32 (x : Int) (w : World) (hT : Tab 1 Lib.deBruijn32tab w) :
    Calls Tryz.prog 90 #[.int .i64 x, .int .i64 32] w fun e w' => e = .returned (.tuple #[.int .i64 (Lib.ctz 32 (x % 4294967296).toNat), .int .i64 0]) ∧ w' = w := by
  have C : Hid (Tab 1 Lib.deBruijn32tab w) := hT
  clear hT
  go_enter Tryz.func90, Tryz.ntmps90
  go_wp2_with (first | (go_at_call 136; refine (width_ok _ _ (Or.inl rfl)).mono ?_; rintro e w' ⟨rfl, rfl⟩) | (go_at_call 139; refine (tz32_any _ _ (by omega) (by omega) C.out).mono ?_; rintro e w' ⟨rfl, rfl⟩))
  go_ret2
  exact ⟨rfl, rfl⟩
theorem ctz_64 (x : Int) (w : World) (hT : Tab 2 Lib.deBruijn64tab w) :
    Calls Tryz.prog 90 #[.int .i64 x, .int .i64 64] w fun e w' => e = .returned (.tuple #[.int .i64 (Lib.ctz 64 (IntKind.u64.wrap x).toNat), .int .i64 0]) ∧ w' = w := by
  have C : Hid (Tab 2 Lib.deBruijn64tab w) := hT
  clear hT
  go_enter Tryz.func90, Tryz.ntmps90
  go_wp2_with (first | (go_at_call 136; refine (width_ok _ _ (Or.inr rfl)).mono ?_; rintro e w' ⟨rfl, rfl⟩) | (go_at_call 140; refine (tz64_any _ _ (u64_pos x).1 (u64_pos x).2 C.out).mono ?_; rintro e w' ⟨rfl, rfl⟩))
  go_ret2
  exact ⟨rfl, rfl⟩
theorem pop_32 (x : Int) (w : World) :
    Calls Tryz.prog 91 #[.int .i64 x, .int .i64 32] w fun e w' => e = .returned (.tuple #[.int .i64 (Lib.popAux 32 (x % 4294967296).toNat), .int .i64 0]) ∧ ∃ n, w' = w.drewN n := by
  go_enter Tryz.func91, Tryz.ntmps91
  go_wp2_with (first | (go_at_call 136; refine (width_ok _ _ (Or.inl rfl)).mono ?_; rintro e w' ⟨rfl, rfl⟩) | (go_at_call 141; refine (oc32_any _ _ (by omega) (by omega)).mono ?_; rintro e w' ⟨rfl, n, rfl⟩))
  go_ret2
  exact ⟨rfl, _, rfl⟩
theorem pop_64 (x : Int) (w : World) :
    Calls Tryz.prog 91 #[.int .i64 x, .int .i64 64] w fun e w' => e = .returned (.tuple #[.int .i64 (Lib.popAux 64 (IntKind.u64.wrap x).toNat), .int .i64 0]) ∧ w' = w := by
  go_enter Tryz.func91, Tryz.ntmps91
  go_wp2_with (first | (go_at_call 136; refine (width_ok _ _ (Or.inr rfl)).mono ?_; rintro e w' ⟨rfl, rfl⟩) | (go_at_call 142; refine (oc64_any _ _ (u64_pos x).1 (u64_pos x).2).mono ?_; rintro e w' ⟨rfl, rfl⟩))
  go_ret2
  exact ⟨rfl, rfl⟩
theorem rot_32 (x b : Int) (w : World) :
    Calls Tryz.prog 147 #[.int .i64 x, .int .i64 b, .int .i64 32] w fun e w' => e = .returned (.tuple #[.int .i64 (BM.rotl 32 (x % 4294967296).toNat (b % 32).toNat), .int .i64 0]) ∧ w' = w := by
  have hr := BM.rotl_lt 32 (x % 4294967296).toNat (b % 32).toNat (by omega) (by omega)
  have hb := BM.and31 b
  go_enter Tryz.func147, Tryz.ntmps147
  go_wp2_with (first | (go_at_call 136; refine (width_ok _ _ (Or.inl rfl)).mono ?_; rintro e w' ⟨rfl, rfl⟩) | (go_at_call 168; refine (rl32_any _ _ _ (by omega) (by omega) (by omega) (by omega)).mono ?_; rintro e w' ⟨rfl, rfl⟩))
  go_ret2
  exact ⟨rfl, rfl⟩
theorem rot_64 (x b : Int) (w : World) :
    Calls Tryz.prog 147 #[.int .i64 x, .int .i64 b, .int .i64 64] w fun e w' => e = .returned (.tuple #[.int .i64 (wrap64 (BM.rotl 64 (IntKind.u64.wrap x).toNat (b % 64).toNat)), .int .i64 0]) ∧ w' = w := by
  have hb := BM.and63 b
  go_enter Tryz.func147, Tryz.ntmps147
  go_wp2_with (first | (go_at_call 136; refine (width_ok _ _ (Or.inr rfl)).mono ?_; rintro e w' ⟨rfl, rfl⟩) | (go_at_call 169; refine (rl64_any _ _ _ (u64_pos x).1 (u64_pos x).2 (by omega) (by omega)).mono ?_; rintro e w' ⟨rfl, rfl⟩))
  go_ret2
  exact ⟨rfl, rfl⟩
end Go.Proofs.YtdfgcagbpndabaaGreatDoor
