/- Contracts of math/bits over this seat's translation: what each of the library's functions returns, the world as it was. -/
import Derived.Test.YtjolnfipacpjgaaDoorRows
import Derived.WalkKit
import Derived.ProofKit
import Derived.Deep.QuietTactic
import Derived.BigQuiet
import Derived.Lib.BitFns
import Derived.Test.YtjolnfipacpjgaaDoorMath
import Derived.Test.YtjolnfipacpjgaaDoorOnes
namespace Go.Proofs.YtjolnfipacpjgaaDoor
open Go.RowKit

theorem ret_int {k : IntKind} {a b : Int} (h : a = b) : Ending.returned (.int k a) = .returned (.int k b) := by rw [h]

theorem len_close (c : Nat) (x b : Int) (hb0 : 0 ≤ b) (hb1 : b ≤ 255) (hc : c ≤ 64) (h : Lib.bitLen x.toNat = c + Lib.bitLen b.toNat) :
    wrap64 (c + wrap64 (Lib.len8 b)) = (Lib.bitLen x.toNat : Int) := by
  rw [h, Lib.len8_of b hb0 hb1]
  have l := Lib.bitLen_le8' b hb0 hb1
  simp only [wrap64]
  omega

theorem len_close0 (x : Int) (hb0 : 0 ≤ x) (hb1 : x ≤ 255) :
    wrap64 (wrap64 (Lib.len8 x)) = (Lib.bitLen x.toNat : Int) := by
  rw [Lib.len8_of x hb0 hb1]
  have l := Lib.bitLen_le8' x hb0 hb1
  simp only [wrap64]
  omega

set_option maxHeartbeats 1000000 in
set_option maxRecDepth 100000 in
theorem len32_any (x : Int) (w : World) (h0 : 0 ≤ x) (h1 : x ≤ 4294967295) :
    Calls Tryd.prog 45 #[.int .u32 x] w fun e w' => e = .returned (.int .i64 (Lib.bitLen x.toNat)) ∧ w' = w := by
  rcases (by omega : x ≤ 255 ∨ (256 ≤ x ∧ x < 65536) ∨ (65536 ≤ x ∧ x < 16777216) ∨ 16777216 ≤ x) with hx | ⟨hx, hy⟩ | ⟨hx, hy⟩ | hx
  · go_enter Tryd.func45, Tryd.ntmps45
    go_wp2
    go_ret
    exact ⟨ret_int (len_close0 x h0 hx), rfl⟩
  · have hz : x / 256 ≤ 255 := by omega
    have hz0 : 0 ≤ x / 256 := by omega
    go_enter Tryd.func45, Tryd.ntmps45
    go_wp2
    go_ret
    exact ⟨ret_int (len_close 8 x _ hz0 hz (by decide) (by rw [Lib.bitLen_shift8 x.toNat (by omega) (by omega)]; congr 2; omega)), rfl⟩
  · have hz : x / 65536 ≤ 255 := by omega
    have hz0 : 0 ≤ x / 65536 := by omega
    go_enter Tryd.func45, Tryd.ntmps45
    go_wp2
    go_ret
    exact ⟨ret_int (len_close 16 x _ hz0 hz (by decide) (by rw [Lib.bitLen_shift16 x.toNat (by omega) (by omega)]; congr 2; omega)), rfl⟩
  · have hz : x / 65536 / 256 ≤ 255 := by omega
    have hz0 : 0 ≤ x / 65536 / 256 := by omega
    go_enter Tryd.func45, Tryd.ntmps45
    go_wp2
    go_ret
    exact ⟨ret_int (len_close 24 x _ hz0 hz (by decide) (by rw [Lib.bitLen_shift24 x.toNat (by omega) (by omega)]; congr 2; omega)), rfl⟩

set_option maxHeartbeats 2000000 in
set_option maxRecDepth 100000 in
theorem len64_any (x : Int) (w : World) (h0 : 0 ≤ x) (h1 : x ≤ 18446744073709551615) :
    Calls Tryd.prog 46 #[.int .u64 x] w fun e w' => e = .returned (.int .i64 (Lib.bitLen x.toNat)) ∧ w' = w := by
  rcases (by omega : x < 4294967296 ∨ 4294967296 ≤ x) with hs | hs
  · rcases (by omega : x ≤ 255 ∨ (256 ≤ x ∧ x < 65536) ∨ (65536 ≤ x ∧ x < 16777216) ∨ 16777216 ≤ x) with hx | ⟨hx, hy⟩ | ⟨hx, hy⟩ | hx
    · go_enter Tryd.func46, Tryd.ntmps46
      go_wp2
      go_ret
      exact ⟨ret_int (len_close0 x h0 hx), rfl⟩
    · have hz : x / 256 ≤ 255 := by omega
      have hz0 : 0 ≤ x / 256 := by omega
      go_enter Tryd.func46, Tryd.ntmps46
      go_wp2
      go_ret
      exact ⟨ret_int (len_close 8 x _ hz0 hz (by decide) (by rw [Lib.bitLen_shift8 x.toNat (by omega) (by omega)]; congr 2; omega)), rfl⟩
    · have hz : x / 65536 ≤ 255 := by omega
      have hz0 : 0 ≤ x / 65536 := by omega
      go_enter Tryd.func46, Tryd.ntmps46
      go_wp2
      go_ret
      exact ⟨ret_int (len_close 16 x _ hz0 hz (by decide) (by rw [Lib.bitLen_shift16 x.toNat (by omega) (by omega)]; congr 2; omega)), rfl⟩
    · have hz : x / 65536 / 256 ≤ 255 := by omega
      have hz0 : 0 ≤ x / 65536 / 256 := by omega
      go_enter Tryd.func46, Tryd.ntmps46
      go_wp2
      go_ret
      exact ⟨ret_int (len_close 24 x _ hz0 hz (by decide) (by rw [Lib.bitLen_shift24 x.toNat (by omega) (by omega)]; congr 2; omega)), rfl⟩
  · rcases (by omega : (x < 1099511627776) ∨ (1099511627776 ≤ x ∧ x < 281474976710656) ∨ (281474976710656 ≤ x ∧ x < 72057594037927936) ∨ 72057594037927936 ≤ x) with hx | ⟨hx, hy⟩ | ⟨hx, hy⟩ | hx
    · have hz : x / 4294967296 ≤ 255 := by omega
      have hz0 : 0 ≤ x / 4294967296 := by omega
      go_enter Tryd.func46, Tryd.ntmps46
      go_wp2
      go_ret
      exact ⟨ret_int (len_close 32 x _ hz0 hz (by decide) (by rw [Lib.bitLen_shift32 x.toNat (by omega) (by omega)]; congr 2; omega)), rfl⟩
    · have hz : x / 4294967296 / 256 ≤ 255 := by omega
      have hz0 : 0 ≤ x / 4294967296 / 256 := by omega
      go_enter Tryd.func46, Tryd.ntmps46
      go_wp2
      go_ret
      exact ⟨ret_int (len_close 40 x _ hz0 hz (by decide) (by rw [Lib.bitLen_shift40 x.toNat (by omega) (by omega)]; congr 2; omega)), rfl⟩
    · have hz : x / 4294967296 / 65536 ≤ 255 := by omega
      have hz0 : 0 ≤ x / 4294967296 / 65536 := by omega
      go_enter Tryd.func46, Tryd.ntmps46
      go_wp2
      go_ret
      exact ⟨ret_int (len_close 48 x _ hz0 hz (by decide) (by rw [Lib.bitLen_shift48 x.toNat (by omega) (by omega)]; congr 2; omega)), rfl⟩
    · have hz : x / 4294967296 / 65536 / 256 ≤ 255 := by omega
      have hz0 : 0 ≤ x / 4294967296 / 65536 / 256 := by omega
      go_enter Tryd.func46, Tryd.ntmps46
      go_wp2
      go_ret
      exact ⟨ret_int (len_close 56 x _ hz0 hz (by decide) (by rw [Lib.bitLen_shift56 x.toNat (by omega) (by omega)]; congr 2; omega)), rfl⟩

theorem lz32_any (x : Int) (w : World) (h0 : 0 ≤ x) (h1 : x ≤ 4294967295) :
    Calls Tryd.prog 34 #[.int .u32 x] w fun e w' => e = .returned (.int .i64 (32 - (Lib.bitLen x.toNat : Int))) ∧ w' = w := by
  have l := Lib.bitLen_le x.toNat 32 (by decide) (by omega)
  go_enter Tryd.func34, Tryd.ntmps34
  go_wp2_with (go_at_call 45; refine (len32_any x _ h0 h1).mono ?_; rintro e w' ⟨rfl, rfl⟩)
  go_ret
  exact ⟨rfl, rfl⟩

theorem lz64_any (x : Int) (w : World) (h0 : 0 ≤ x) (h1 : x ≤ 18446744073709551615) :
    Calls Tryd.prog 35 #[.int .u64 x] w fun e w' => e = .returned (.int .i64 (64 - (Lib.bitLen x.toNat : Int))) ∧ w' = w := by
  have l := Lib.bitLen_le x.toNat 64 (by decide) (by omega)
  go_enter Tryd.func35, Tryd.ntmps35
  go_wp2_with (go_at_call 46; refine (len64_any x _ h0 h1).mono ?_; rintro e w' ⟨rfl, rfl⟩)
  go_ret
  exact ⟨rfl, rfl⟩

theorem rl32_any (x k : Int) (w : World) (h0 : 0 ≤ x) (h1 : x ≤ 4294967295) (hk0 : 0 ≤ k) (hk1 : k ≤ 31) :
    Calls Tryd.prog 47 #[.int .u32 x, .int .i64 k] w fun e w' => e = .returned (.int .u32 (BM.rotl 32 x.toNat k.toNat)) ∧ w' = w := by
  have hk := BM.uand31 k hk0 hk1
  go_enter Tryd.func47, Tryd.ntmps47
  go_wp2
  go_ret
  exact ⟨ret_int (BM.or32 x k h0 h1 hk0 hk1), rfl⟩

theorem rl64_any (x k : Int) (w : World) (h0 : 0 ≤ x) (h1 : x ≤ 18446744073709551615) (hk0 : 0 ≤ k) (hk1 : k ≤ 63) :
    Calls Tryd.prog 48 #[.int .u64 x, .int .i64 k] w fun e w' => e = .returned (.int .u64 (BM.rotl 64 x.toNat k.toNat)) ∧ w' = w := by
  have hk := BM.uand63 k hk0 hk1
  go_enter Tryd.func48, Tryd.ntmps48
  go_wp2
  go_ret
  exact ⟨ret_int (BM.or64 x k h0 h1 hk0 hk1), rfl⟩

theorem oc32_any (x : Int) (w : World) (h0 : 0 ≤ x) (h1 : x ≤ 4294967295) :
    Calls Tryd.prog 38 #[.int .u32 x] w fun e w' => e = .returned (.int .i64 (Lib.popAux 32 x.toNat)) ∧ ∃ n, w' = w.drewN n := by
  have b0 : 0 ≤ x / 16777216 := by omega
  have b1 : x / 16777216 ≤ 255 := by omega
  have m0 := BM.u32and255 x h0 h1
  have m1 := BM.u32and255 (x / 256) (by omega) (by omega)
  have m2 := BM.u32and255 (x / 65536) (by omega) (by omega)
  go_enter Tryd.func38, Tryd.ntmps38
  go_wp2
  go_quiet (fail)
  go_wp2
  go_ret
  exact ⟨ret_int (BM.ones32 x h0 h1), _, rfl⟩

end Go.Proofs.YtjolnfipacpjgaaDoor
