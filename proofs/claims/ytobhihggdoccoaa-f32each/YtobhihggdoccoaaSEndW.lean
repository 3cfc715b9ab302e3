/- Over this seat's translation: the document's Un and Bin of floats, by what they call. -/
import Derived.Test.YtobhihggdoccoaaSRef
import Derived.Test.YtobhihggdoccoaaFMask
import Derived.Test.YtobhihggdoccoaaFFar2
import Derived.WalkLawsBesides
import Derived.RegionCalls
import Derived.Deep.RegionWith
namespace Go.Proofs.Ytobhihggdoccoaa.S
open Go.RowKit
set_option linter.unusedVariables false

theorem rlow_any (x : Int) (w : World) :
    Calls Try.prog 26 #[.int .i64 x] w fun e w' => e = .returned (.int .i64 (x % 4294967296)) ∧ w' = w := by
  have h := FM.and32 x
  go_enter Try.func26, Try.ntmps26
  go_wp2
  go_ret
  exact ⟨rfl, rfl⟩
set_option maxRecDepth 100000 in
set_option maxHeartbeats 4000000 in
theorem un_w (op a k x z zi : Int) (h1 : ¬ op < 139) (h2 : ¬ 145 < op) (hk : IntKind.i64.wrap (op - 139) = k) (hxx : a % 4294967296 = x) (hux : IntKind.u64.wrap x = x) (hc : Hid (∀ w : World, Calls Try.prog 25 #[fm, .int .i64 k, .int .u64 x] w fun e w' => e = .returned (.int .u64 z) ∧ Later w w')) (hz : IntKind.i64.wrap z = zi) (w : World) :
    Calls Try.prog 10 #[.int .i64 op, .int .i64 a] w fun e w' => e = .returned (.tuple #[.int .i64 zi, .int .i64 0]) ∧ Later w w' := by
  go_enter Try.func10, Try.ntmps10
  go_wp2_with fail
  refine (single_any _).mono ?_
  rintro e w' ⟨rfl, bs1, n1, rfl⟩
  go_wp2_with fail
  refine (rlow_any a _).mono ?_
  rintro e w' ⟨rfl, rfl⟩
  rw [hxx]
  go_wp2_with fail
  refine (hc.out _).mono ?_
  rintro e w' ⟨rfl, bs2, n2, rfl⟩
  go_wp2
  go_ret2
  exact ⟨rfl, (by repeat (first | exact Later.refl _ | refine Later.alloc ?_ | refine Later.far ?_ | refine Later.drewN ?_ | refine Later.drew ?_))⟩
set_option maxRecDepth 100000 in
set_option maxHeartbeats 4000000 in
theorem un_bad (op a : Int) (h : op < 139 ∨ 145 < op) (w : World) :
    Calls Try.prog 10 #[.int .i64 op, .int .i64 a] w fun e w' => e = .returned (.tuple #[.int .i64 0, .int .i64 400]) ∧ Later w w' := by
  rcases h with h | h
  · go_enter Try.func10, Try.ntmps10
    go_wp2
    go_ret2
    exact ⟨rfl, (by repeat (first | exact Later.refl _ | refine Later.alloc ?_ | refine Later.far ?_ | refine Later.drewN ?_ | refine Later.drew ?_))⟩
  · have h' : ¬ op < 139 := by omega
    go_enter Try.func10, Try.ntmps10
    go_wp2
    go_ret2
    exact ⟨rfl, (by repeat (first | exact Later.refl _ | refine Later.alloc ?_ | refine Later.far ?_ | refine Later.drewN ?_ | refine Later.drew ?_))⟩
set_option maxRecDepth 100000 in
set_option maxHeartbeats 4000000 in
theorem cmp_w (op a b k x y z : Int) (h1 : 91 ≤ op) (h2 : op ≤ 96) (hk : IntKind.i64.wrap (op - 91) = k) (hxx : a % 4294967296 = x) (hux : IntKind.u64.wrap x = x) (hxy : b % 4294967296 = y) (huy : IntKind.u64.wrap y = y) (hc : Hid (∀ w : World, Calls Try.prog 32 #[fm, .int .i64 k, .int .u64 x, .int .u64 y] w fun e w' => e = .returned (.int .i64 z) ∧ Later w w')) (w : World) :
    Calls Try.prog 12 #[.int .i64 op, .int .i64 a, .int .i64 b] w fun e w' => e = .returned (.tuple #[.int .i64 z, .int .i64 0]) ∧ Later w w' := by
  go_enter Try.func12, Try.ntmps12
  go_wp2_with fail
  refine (rlow_any a _).mono ?_
  rintro e w' ⟨rfl, rfl⟩
  rw [hxx]
  go_wp2_with fail
  refine (rlow_any b _).mono ?_
  rintro e w' ⟨rfl, rfl⟩
  rw [hxy]
  go_wp2_with fail
  refine (single_any _).mono ?_
  rintro e w' ⟨rfl, bs3, n3, rfl⟩
  go_wp2_with fail
  refine (hc.out _).mono ?_
  rintro e w' ⟨rfl, bs4, n4, rfl⟩
  go_wp2
  go_ret2
  exact ⟨rfl, (by repeat (first | exact Later.refl _ | refine Later.alloc ?_ | refine Later.far ?_ | refine Later.drewN ?_ | refine Later.drew ?_))⟩
set_option maxRecDepth 100000 in
set_option maxHeartbeats 4000000 in
theorem bin_w (op a b k x y z zi : Int) (h0 : 91 ≤ op) (h1 : ¬ op ≤ 96) (h2 : 146 ≤ op) (h3 : op ≤ 152) (hk : IntKind.i64.wrap (op - 146) = k) (hxx : a % 4294967296 = x) (hux : IntKind.u64.wrap x = x) (hxy : b % 4294967296 = y) (huy : IntKind.u64.wrap y = y) (hc : Hid (∀ w : World, Calls Try.prog 33 #[fm, .int .i64 k, .int .u64 x, .int .u64 y] w fun e w' => e = .returned (.int .u64 z) ∧ Later w w')) (hz : IntKind.i64.wrap z = zi) (w : World) :
    Calls Try.prog 12 #[.int .i64 op, .int .i64 a, .int .i64 b] w fun e w' => e = .returned (.tuple #[.int .i64 zi, .int .i64 0]) ∧ Later w w' := by
  go_enter Try.func12, Try.ntmps12
  go_wp2_with fail
  refine (rlow_any a _).mono ?_
  rintro e w' ⟨rfl, rfl⟩
  rw [hxx]
  go_wp2_with fail
  refine (rlow_any b _).mono ?_
  rintro e w' ⟨rfl, rfl⟩
  rw [hxy]
  go_wp2_with fail
  refine (single_any _).mono ?_
  rintro e w' ⟨rfl, bs5, n5, rfl⟩
  go_wp2_with fail
  refine (hc.out _).mono ?_
  rintro e w' ⟨rfl, bs6, n6, rfl⟩
  go_wp2
  go_ret2
  exact ⟨rfl, (by repeat (first | exact Later.refl _ | refine Later.alloc ?_ | refine Later.far ?_ | refine Later.drewN ?_ | refine Later.drew ?_))⟩
set_option maxRecDepth 100000 in
set_option maxHeartbeats 4000000 in
theorem bin_bad (op a b : Int) (h : ¬ ((91 ≤ op ∧ op ≤ 96) ∨ (146 ≤ op ∧ op ≤ 152))) (w : World) :
    Calls Try.prog 12 #[.int .i64 op, .int .i64 a, .int .i64 b] w fun e w' => e = .returned (.tuple #[.int .i64 0, .int .i64 400]) ∧ Later w w' := by
  have hc : op < 91 ∨ (96 < op ∧ op < 146) ∨ 152 < op := by omega
  clear h
  rcases hc with h | ⟨h, h'⟩ | h
  · have h4 : ¬ (91 ≤ op) := by omega
    have h5 : ¬ (146 ≤ op) := by omega
    go_enter Try.func12, Try.ntmps12
    go_wp2_with (go_at_call 26; refine (rlow_any _ _).mono ?_; rintro e w' ⟨rfl, rfl⟩)
    go_ret2
    exact ⟨rfl, (by repeat (first | exact Later.refl _ | refine Later.alloc ?_ | refine Later.far ?_ | refine Later.drewN ?_ | refine Later.drew ?_))⟩
  · have h4 : 91 ≤ op := by omega
    have h6 : ¬ (op ≤ 96) := by omega
    have h5 : ¬ (146 ≤ op) := by omega
    go_enter Try.func12, Try.ntmps12
    go_wp2_with (go_at_call 26; refine (rlow_any _ _).mono ?_; rintro e w' ⟨rfl, rfl⟩)
    go_ret2
    exact ⟨rfl, (by repeat (first | exact Later.refl _ | refine Later.alloc ?_ | refine Later.far ?_ | refine Later.drewN ?_ | refine Later.drew ?_))⟩
  · have h4 : 91 ≤ op := by omega
    have h6 : ¬ (op ≤ 96) := by omega
    have h5 : 146 ≤ op := by omega
    have h7 : ¬ (op ≤ 152) := by omega
    go_enter Try.func12, Try.ntmps12
    go_wp2_with (go_at_call 26; refine (rlow_any _ _).mono ?_; rintro e w' ⟨rfl, rfl⟩)
    go_ret2
    exact ⟨rfl, (by repeat (first | exact Later.refl _ | refine Later.alloc ?_ | refine Later.far ?_ | refine Later.drewN ?_ | refine Later.drew ?_))⟩
end Go.Proofs.Ytobhihggdoccoaa.S
