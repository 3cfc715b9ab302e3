/- Over this seat's translation: small contracts of package memory. -/
import Derived.Test.YtbbjbgbpjhhcoaaDoorRows
import Derived.WalkKit
import Derived.ProofKit
import Derived.Deep.QuietTactic
import Derived.BigQuiet
import Derived.Test.YtbbjbgbpjhhcoaaDoorMA
import Derived.Test.YtbbjbgbpjhhcoaaDoorMB
import Derived.Test.YtbbjbgbpjhhcoaaDoorAC
set_option linter.unusedVariables false
set_option linter.unusedSimpArgs false
set_option maxRecDepth 100000
namespace Go.Proofs.YtbbjbgbpjhhcoaaDoor
open Go.RowKit Go.BY

theorem num_any (n : Int) (w : World) :
    Calls Tryd.prog 11 #[.int .i64 n] w fun e w' => e = .returned (.int .i64 n) ∧ w' = w := by
  go_enter Tryd.func11, Tryd.ntmps11
  go_wp2
  go_ret
  exact ⟨rfl, rfl⟩
theorem low_any (x : Int) (w : World) :
    Calls Tryd.prog 38 #[.int .i64 x] w fun e w' => e = .returned (.int .i64 (x % 4294967296)) ∧ w' = w := by
  go_enter Tryd.func38, Tryd.ntmps38
  go_wp2
  go_ret
  exact ⟨rfl, rfl⟩
theorem addr_any (x : Int) (w : World) :
    Calls Tryd.prog 27 #[.int .i64 x] w fun e w' => e = .returned (.bool (x % 4294967296 == x)) ∧ w' = w := by
  go_enter Tryd.func27, Tryd.ntmps27
  go_wp2_with (go_at_call 38; refine (low_any _ _).mono ?_; rintro e w' ⟨rfl, rfl⟩)
  go_ret
  exact ⟨rfl, rfl⟩
theorem fits_any (p : Nat) (A : Option Addr) (n cap : Nat) (at_ off sz : Int) (w : World) (c0 : w.cell? ⟨p, 0, none⟩ = some (.slice A n cap)) :
    Calls Tryd.prog 29 #[.pointer (some ⟨p, 0, none⟩), .int .i64 at_, .int .i64 off, .int .i64 sz] w fun e w' => e = .returned (.bool (decide (off ≤ wrap64 (wrap64 (n - sz) - at_)))) ∧ w' = w := by
  go_enter Tryd.func29, Tryd.ntmps29
  go_wp2
  go_ret
  exact ⟨rfl, rfl⟩
theorem read_any (p b n a sz : Nat) (f : Nat → Nat) (hf : ∀ i, f i < 256) (hs : 1 ≤ sz) (hs8 : sz ≤ 8) (hfit : a + sz ≤ n) (hn : n ≤ 140737488351232) (w : World) (c0 : w.cell? ⟨p, 0, none⟩ = some (.slice (some ⟨b, 0, none⟩) n n)) (hb : ∀ i, i < n → w.cell? ⟨b, i, none⟩ = some (.int .u8 (f i : Nat))) :
    Calls Tryd.prog 35 #[.pointer (some ⟨p, 0, none⟩), .int .i64 (a : Nat), .int .i64 (sz : Nat)] w fun e w' => e = .returned (.int .u64 (wd f a sz : Nat)) ∧ w' = w := by
  go_enter Tryd.func35, Tryd.ntmps35
  go_wp2
  go_loopw [7, 20] (fun v i wr => ∃ k : Nat, k ≤ sz ∧ i = .int .i64 (k : Nat) ∧ v = .int .u64 (wd f a k : Nat) ∧ wr = w) (fun _ i _ => sz - (intOf i).toNat)
  case atStart => exact ⟨0, Nat.zero_le _, rfl, rfl, rfl⟩
  case round =>
    obtain ⟨k, hk, rfl, rfl, rfl⟩ := hrel
    by_cases hlt : k < sz
    · have hc := hb (a + k) (by omega)
      go_wp2
      go_roundw
      case rel => exact ⟨k + 1, by omega, by go_num, by rw [or_step f a k hf (by omega)], trivial⟩
      case measure => simp [intOf]; omega
    · have hke : k = sz := by omega
      subst hke
      go_wp2
      go_ret
      exact ⟨rfl, rfl⟩
/-- a memory: a struct at p, its bytes f in the row b -/
def Mem (T : TypeId) (w : World) (p b n : Nat) (most : Int) (f : Nat → Nat) : Prop :=
  p ≠ b ∧ w.rowIs p T 2 (fun i => if i = 0 then .slice (some ⟨b, 0, none⟩) n n else .int .i64 most) ∧ w.rowIs b 5 n (fun i => .int .u8 (f i : Nat)) ∧ (∀ i, f i < 256) ∧ n ≤ 1048576
namespace Mem
variable {T : TypeId} {w w' : World} {p b n : Nat} {most : Int} {f : Nat → Nat}
theorem c0 (h : Mem T w p b n most f) : w.cell? ⟨p, 0, none⟩ = some (.slice (some ⟨b, 0, none⟩) n n) := h.2.1.cell (i := 0) (by decide)
theorem c1 (h : Mem T w p b n most f) : w.cell? ⟨p, 1, none⟩ = some (.int .i64 most) := h.2.1.cell (i := 1) (by decide)
theorem by_ (h : Mem T w p b n most f) (i : Nat) (hi : i < n) : w.cell? ⟨b, i, none⟩ = some (.int .u8 (f i : Nat)) := h.2.2.1.cell hi
theorem later (h : Mem T w p b n most f) (hl : Later w w') : Mem T w' p b n most f := ⟨h.1, rowIs_later hl h.2.1, rowIs_later hl h.2.2.1, h.2.2.2⟩
theorem turn (h : Mem T w p b n most f) {k : Nat} (hl : Turned k w w') (hp : p ≠ k) (hb : b ≠ k) : Mem T w' p b n most f := ⟨h.1, hl.row h.2.1 hp, hl.row h.2.2.1 hb, h.2.2.2⟩
theorem lt (h : Mem T w p b n most f) : p < w.heap.size ∧ b < w.heap.size := ⟨h.2.1.lt, h.2.2.1.lt⟩
end Mem
theorem shr_byte (x k : Nat) : IntKind.u8.wrap ((x : Int) / 2 ^ (8 * k)) = ((byt x k : Nat) : Int) := by
  have e : (2 : Int) ^ (8 * k) = ((256 ^ k : Nat) : Int) := by rw [Int.pow_mul]; simp
  rw [IntKind.wrap_u8, e, byt]; omega
theorem wrote {T : TypeId} {w : World} {p b n a k x : Nat} {most : Int} {f : Nat → Nat} (h : Mem T w p b n most (put f a k x)) :
    Mem T (w.setCell ⟨b, a + k, none⟩ (.int .u8 ((x : Int) / 2 ^ (8 * k) % 256))).drew p b n most (put f a (k + 1) x) := by
  refine ⟨h.1, (h.2.1.setOther h.1 _).drew, ((h.2.2.1.set (a + k) _).congr fun i hi => ?_).drew, fun i => ?_, h.2.2.2.2⟩
  · rw [← put_succ]
    have e : (x : Int) / 2 ^ (8 * k) % 256 = ((byt x k : Nat) : Int) := by
      rw [← shr_byte, IntKind.wrap_u8]
    show (if i = a + k then _ else _) = Value.int IntKind.u8 ((if i = a + k then byt x k else put f a k x i : Nat) : Int)
    by_cases hi : i = a + k
    · rw [if_pos hi, if_pos hi, e]
    · rw [if_neg hi, if_neg hi]
  · rw [← put_succ]
    show (if i = a + k then byt x k else put f a k x i) < 256
    split
    · exact byt_lt _ _
    · exact h.2.2.2.1 i
theorem write_any (T : TypeId) (p b n a sz x : Nat) (most : Int) (f : Nat → Nat) (hs8 : sz ≤ 8) (hx : x < 18446744073709551616) (hfit : a + sz ≤ n) (w : World) (hm : Hid (Mem T w p b n most f)) :
    Calls Tryd.prog 30 #[.pointer (some ⟨p, 0, none⟩), .int .i64 (a : Nat), .int .i64 (sz : Nat), .int .u64 (x : Nat)] w fun e w' => e = .returned (.tuple #[]) ∧ Turned b w w' ∧ Mem T w' p b n most (put f a sz x) := by
  have hn := hm.out.2.2.2.2
  go_enter Tryd.func30, Tryd.ntmps30
  go_wp2
  go_loopw [10] (fun i wr => ∃ k : Nat, k ≤ sz ∧ i = .int .i64 (k : Nat) ∧ Turned b w wr ∧ Mem T wr p b n most (put f a k x)) (fun i _ => sz - (intOf i).toNat)
  case atStart => exact ⟨0, Nat.zero_le _, rfl, Turned.refl hm.out.2.2.1, by rw [put_zero]; exact hm.out⟩
  case round =>
    obtain ⟨k, hk, rfl, ht, hmr⟩ := hrel
    replace ht : Hid (Turned b w wr) := ht
    replace hmr : Hid (Mem T wr p b n most (put f a k x)) := hmr
    by_cases hlt : k < sz
    · have hc := hmr.out.c0
      have hcb := hmr.out.by_ (a + k) (by omega)
      have hfr := hmr.out.2.2.1.frozen (a + k)
      go_wp2
      go_region
      go_wp2
      go_roundw
      case rel => exact ⟨k + 1, by omega, by go_num, (ht.out.set hm.out.2.2.1 _ _).later (Ld (Lz _)), wrote hmr.out⟩
      case measure => simp [intOf]; omega
    · have hke : k = sz := by omega
      subst hke
      go_wp2
      go_end0
      exact ⟨rfl, ht.out, hmr.out⟩
/-- whether a type has 64 bits -/
def wideT (t : Nat) : Bool := t == 126 || t == 124
theorem result_any (sz ty : Nat) (s : Bool) (x : Nat) (hx : x < 18446744073709551616) (hty : 124 ≤ ty ∧ ty ≤ 127) (hs : s = true → (sz = 1 ∨ sz = 2 ∨ sz = 4) ∧ x < 256 ^ sz) (w : World) :
    Calls Tryd.prog 34 #[.agg #[.int .i64 (sz : Nat), .int .i64 (ty : Nat), .bool s], .int .u64 (x : Nat)] w fun e w' => e = .returned (.int .i64 (lv sz s (wideT ty) x)) ∧ Later w w' := by
  rcases (by omega : ty = 124 ∨ ty = 125 ∨ ty = 126 ∨ ty = 127) with rfl | rfl | rfl | rfl
  all_goals
    clear hty
    cases s
    · go_enter Tryd.func34, Tryd.ntmps34
      go_wp2_with (go_at_call 38; refine (low_any _ _).mono ?_; rintro e w' ⟨rfl, rfl⟩)
      go_ret
      exact ⟨by simp [lv, wideT], La (Lz _)⟩
    · obtain ⟨h1, h2⟩ := hs rfl
      rcases h1 with rfl | rfl | rfl
      · have e := sx1 x (by simpa using h2)
        go_enter Tryd.func34, Tryd.ntmps34
        go_wp2_with (go_at_call 38; refine (low_any _ _).mono ?_; rintro e w' ⟨rfl, rfl⟩)
        go_ret
        exact ⟨by simp [lv, wideT, e], La (Lz _)⟩
      · have e := sx2 x (by simpa using h2)
        go_enter Tryd.func34, Tryd.ntmps34
        go_wp2_with (go_at_call 38; refine (low_any _ _).mono ?_; rintro e w' ⟨rfl, rfl⟩)
        go_ret
        exact ⟨by simp [lv, wideT, e], La (Lz _)⟩
      · have e := sx4 x (by simpa using h2)
        go_enter Tryd.func34, Tryd.ntmps34
        go_wp2_with (go_at_call 38; refine (low_any _ _).mono ?_; rintro e w' ⟨rfl, rfl⟩)
        go_ret
        exact ⟨by simp [lv, wideT, e], La (Lz _)⟩
end Go.Proofs.YtbbjbgbpjhhcoaaDoor
