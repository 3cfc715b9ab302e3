/- Contract of the document's rounding (pelorusref4), over this seat's translation: the walks. -/
import Derived.Test.YtdfgcagbpndabaaGreatDoorZSA
import Derived.Test.YtdfgcagbpndabaaGreatDoorZB
import Derived.WalkLawsBesides
set_option linter.unusedVariables false
set_option maxHeartbeats 4000000
set_option maxRecDepth 100000
namespace Go.Proofs.YtdfgcagbpndabaaGreatDoor.S
open Go.RowKit
open Go.FM (W64 two bl lost)
theorem round_zero (neg : Bool) (e : Int) (w : World) :
    RW Tryz.prog 122 #[fm, .bool neg, .int .u64 0, .int .u64 0, .int .i64 e] w (.int .u64 (sgn neg)) := by
  go_enter Tryz.func122, Tryz.ntmps122
  go_wp2_with (go_at_call 127; refine (signed_any _ _).mono ?_; rintro e w' ⟨rfl, bs, n, rfl⟩)
  go_ret
  exact ⟨rfl, (by repeat first | exact Lz _ | apply La | apply Lv | apply Ln | apply Ld)⟩
theorem inf_any (neg : Bool) (w : World) :
    RW Tryz.prog 124 #[fm, .bool neg] w (.int .u64 (sgn neg + 2139095040)) := by
  cases neg
  · exact inf_false w
  · exact inf_true w
theorem long_eq (hi lo n : Nat) (hhi : hi < W64) (hlo : lo < W64) (hn : Hid (bl (two hi lo) = n)) (w : World) :
    Calls Tryz.prog 153 #[.int .u64 (hi : Nat), .int .u64 (lo : Nat)] w fun e w' => e = .returned (.int .i64 (n : Nat)) ∧ w' = w := by
  have := long_any hi lo hhi hlo w
  rw [hn.out] at this
  exact this
theorem round_pos1 (neg : Bool) (hi lo n A m mm : Nat) (e b p1 p2 p3 E c K : Int) (E1 X : Int)
    (hhi : hi < W64) (hlo : lo < W64) (hz : ¬ bits .or .u64 (hi : Int) (lo : Int) = 0) (hn : Hid (bl (two hi lo) = n)) (e1 : IntKind.i64.wrap ((n : Int) - 23) = p1) (e2 : IntKind.i64.wrap (p1 - 1) = p2) (e3 : IntKind.i64.wrap (-149 - e) = p3) (hb : (if p2 < p3 then p3 else p2) = b) (hb0 : 0 ≤ b) (hb1 : b ≤ 20000) (eE : e + b = E) (hd : RL Tryz.prog 121 #[.int .u64 (hi : Nat), .int .u64 (lo : Nat), .int .i64 b] (.tuple #[.int .u64 (A : Nat), .int .u64 (m : Nat), .int .i64 c]))
    (he : -10000 ≤ e) (he1 : e ≤ 10000) (hE0 : -149 ≤ E) (hE1 : E ≤ 20000) (hmm : bits .and .u64 (m : Int) 1 = (mm : Int)) (hm : (m : Int) ≤ 16777216) (hu : (c = 1 ∧ (m : Int) + 1 = K) ∨ (c = 0 ∧ mm = 1 ∧ (m : Int) + 1 = K) ∨ (c = 0 ∧ mm = 0 ∧ (m : Int) = K) ∨ (c = -1 ∧ (m : Int) = K) ∨ (c = 2 ∧ (m : Int) = K)) (hK : K = 16777216) (eE1 : E + 1 = E1) (eX : E1 + 149 + 1 = X) (hX : 255 ≤ X) (w : World) :
    RW Tryz.prog 122 #[fm, .bool neg, .int .u64 (hi : Nat), .int .u64 (lo : Nat), .int .i64 e] w (.int .u64 (sgn neg + 2139095040)) := by
  subst hK
  rcases hu with ⟨rfl, hu⟩ | ⟨rfl, rfl, hu⟩ | ⟨rfl, rfl, hu⟩ | ⟨rfl, hu⟩ | ⟨rfl, hu⟩
  all_goals
    try (have hmm2 : bits .and .u64 16777216 1 = 0 := by rw [← hu]; exact hmm)
    go_enter Tryz.func122, Tryz.ntmps122
    go_wp2_with fail
    refine wp_region_quiet_far (by kernel_rfl) (by kernel_rfl) ?_
    repeat (quiet_step (first | (go_at_call 153; exact Calls.far_of_same (long_eq hi lo n hhi hlo hn _)) | (go_at_call 151; exact Calls.far_of (least_any _))))
    refine wpQuiet_nil ?_
    rintro _ ⟨⟨bs, n⟩, rfl⟩
    go_wp2_with fail
    refine (hd.out _).mono ?_
    rintro e2 w2 ⟨rfl, bs2, n2, rfl⟩
    go_wp2_with (first | (go_at_call 127; refine (signed_any _ _).mono ?_; rintro e w' ⟨rfl, bs, n, rfl⟩) | (go_at_call 151; refine (least_any _).mono ?_; rintro e w' ⟨rfl, bs, n, rfl⟩) | (go_at_call 150; refine (top_any _).mono ?_; rintro e w' ⟨rfl, bs, n, rfl⟩) | (go_at_call 124; refine (inf_any _ _).mono ?_; rintro e w' ⟨rfl, bs, n, rfl⟩))
    go_ret
    exact ⟨rfl, (by repeat first | exact Lz _ | apply La | apply Lv | apply Ln | apply Ld)⟩
theorem round_pos4 (neg : Bool) (hi lo n A m mm : Nat) (e b p1 p2 p3 E c K : Int) (X : Int)
    (hhi : hi < W64) (hlo : lo < W64) (hz : ¬ bits .or .u64 (hi : Int) (lo : Int) = 0) (hn : Hid (bl (two hi lo) = n)) (e1 : IntKind.i64.wrap ((n : Int) - 23) = p1) (e2 : IntKind.i64.wrap (p1 - 1) = p2) (e3 : IntKind.i64.wrap (-149 - e) = p3) (hb : (if p2 < p3 then p3 else p2) = b) (hb0 : 0 ≤ b) (hb1 : b ≤ 20000) (eE : e + b = E) (hd : RL Tryz.prog 121 #[.int .u64 (hi : Nat), .int .u64 (lo : Nat), .int .i64 b] (.tuple #[.int .u64 (A : Nat), .int .u64 (m : Nat), .int .i64 c]))
    (he : -10000 ≤ e) (he1 : e ≤ 10000) (hE0 : -149 ≤ E) (hE1 : E ≤ 20000) (hmm : bits .and .u64 (m : Int) 1 = (mm : Int)) (hm : (m : Int) ≤ 16777216) (hu : (c = 1 ∧ (m : Int) + 1 = K) ∨ (c = 0 ∧ mm = 1 ∧ (m : Int) + 1 = K) ∨ (c = 0 ∧ mm = 0 ∧ (m : Int) = K) ∨ (c = -1 ∧ (m : Int) = K) ∨ (c = 2 ∧ (m : Int) = K)) (hK : 8388608 ≤ K) (hK1 : K < 16777216) (eX : E + 149 + 1 = X) (hX : 255 ≤ X) (w : World) :
    RW Tryz.prog 122 #[fm, .bool neg, .int .u64 (hi : Nat), .int .u64 (lo : Nat), .int .i64 e] w (.int .u64 (sgn neg + 2139095040)) := by
  rcases hu with ⟨rfl, hu⟩ | ⟨rfl, rfl, hu⟩ | ⟨rfl, rfl, hu⟩ | ⟨rfl, hu⟩ | ⟨rfl, hu⟩
  all_goals
    try (have hmm2 : bits .and .u64 K 1 = 0 := by rw [← hu]; exact hmm)
    go_enter Tryz.func122, Tryz.ntmps122
    go_wp2_with fail
    refine wp_region_quiet_far (by kernel_rfl) (by kernel_rfl) ?_
    repeat (quiet_step (first | (go_at_call 153; exact Calls.far_of_same (long_eq hi lo n hhi hlo hn _)) | (go_at_call 151; exact Calls.far_of (least_any _))))
    refine wpQuiet_nil ?_
    rintro _ ⟨⟨bs, n⟩, rfl⟩
    go_wp2_with fail
    refine (hd.out _).mono ?_
    rintro e2 w2 ⟨rfl, bs2, n2, rfl⟩
    go_wp2_with (first | (go_at_call 127; refine (signed_any _ _).mono ?_; rintro e w' ⟨rfl, bs, n, rfl⟩) | (go_at_call 151; refine (least_any _).mono ?_; rintro e w' ⟨rfl, bs, n, rfl⟩) | (go_at_call 150; refine (top_any _).mono ?_; rintro e w' ⟨rfl, bs, n, rfl⟩) | (go_at_call 124; refine (inf_any _ _).mono ?_; rintro e w' ⟨rfl, bs, n, rfl⟩))
    go_ret
    exact ⟨rfl, (by repeat first | exact Lz _ | apply La | apply Lv | apply Ln | apply Ld)⟩
end Go.Proofs.YtdfgcagbpndabaaGreatDoor.S
namespace Go.Proofs.YtdfgcagbpndabaaGreatDoor.S
open Go.RowKit
open Go.FM (W64 two bl lost)
theorem round_pos2 (neg : Bool) (hi lo n A m mm : Nat) (e b p1 p2 p3 E c K : Int) (E1 X : Int) (Y F S1 Z : Nat)
    (hhi : hi < W64) (hlo : lo < W64) (hz : ¬ bits .or .u64 (hi : Int) (lo : Int) = 0) (hn : Hid (bl (two hi lo) = n)) (e1 : IntKind.i64.wrap ((n : Int) - 23) = p1) (e2 : IntKind.i64.wrap (p1 - 1) = p2) (e3 : IntKind.i64.wrap (-149 - e) = p3) (hb : (if p2 < p3 then p3 else p2) = b) (hb0 : 0 ≤ b) (hb1 : b ≤ 20000) (eE : e + b = E) (hd : RL Tryz.prog 121 #[.int .u64 (hi : Nat), .int .u64 (lo : Nat), .int .i64 b] (.tuple #[.int .u64 (A : Nat), .int .u64 (m : Nat), .int .i64 c]))
    (he : -10000 ≤ e) (he1 : e ≤ 10000) (hE0 : -149 ≤ E) (hE1 : E ≤ 20000) (hmm : bits .and .u64 (m : Int) 1 = (mm : Int)) (hm : (m : Int) ≤ 16777216) (hu : (c = 1 ∧ (m : Int) + 1 = K) ∨ (c = 0 ∧ mm = 1 ∧ (m : Int) + 1 = K) ∨ (c = 0 ∧ mm = 0 ∧ (m : Int) = K) ∨ (c = -1 ∧ (m : Int) = K) ∨ (c = 2 ∧ (m : Int) = K)) (hK : K = 16777216) (eE1 : E + 1 = E1) (eX : E1 + 149 + 1 = X) (hX : X < 255) (hX0 : 0 ≤ X) (eY : IntKind.u64.wrap (X * 8388608) = (Y : Int)) (eXu : IntKind.u64.wrap X = X) (eF : bits .and .u64 8388608 8388607 = (F : Int)) (eS : bits .or .u64 (sgn neg) (Y : Int) = (S1 : Int)) (eZ : bits .or .u64 (S1 : Int) (F : Int) = (Z : Int)) (w : World) :
    RW Tryz.prog 122 #[fm, .bool neg, .int .u64 (hi : Nat), .int .u64 (lo : Nat), .int .i64 e] w (.int .u64 (Z : Nat)) := by
  subst hK
  rcases hu with ⟨rfl, hu⟩ | ⟨rfl, rfl, hu⟩ | ⟨rfl, rfl, hu⟩ | ⟨rfl, hu⟩ | ⟨rfl, hu⟩
  all_goals
    try (have hmm2 : bits .and .u64 16777216 1 = 0 := by rw [← hu]; exact hmm)
    go_enter Tryz.func122, Tryz.ntmps122
    go_wp2_with fail
    refine wp_region_quiet_far (by kernel_rfl) (by kernel_rfl) ?_
    repeat (quiet_step (first | (go_at_call 153; exact Calls.far_of_same (long_eq hi lo n hhi hlo hn _)) | (go_at_call 151; exact Calls.far_of (least_any _))))
    refine wpQuiet_nil ?_
    rintro _ ⟨⟨bs, n⟩, rfl⟩
    go_wp2_with fail
    refine (hd.out _).mono ?_
    rintro e2 w2 ⟨rfl, bs2, n2, rfl⟩
    go_wp2_with (first | (go_at_call 127; refine (signed_any _ _).mono ?_; rintro e w' ⟨rfl, bs, n, rfl⟩) | (go_at_call 151; refine (least_any _).mono ?_; rintro e w' ⟨rfl, bs, n, rfl⟩) | (go_at_call 150; refine (top_any _).mono ?_; rintro e w' ⟨rfl, bs, n, rfl⟩) | (go_at_call 124; refine (inf_any _ _).mono ?_; rintro e w' ⟨rfl, bs, n, rfl⟩))
    refine wp_region_quiet_far2 (by kernel_rfl) (by kernel_rfl) ?_
    repeat (quiet_step ((go_at_call 127; exact Calls.far_of (signed_any _ _))))
    refine wpQuiet_nil ?_
    rintro _ ⟨⟨bs, n⟩, rfl⟩
    go_wp2
    go_ret
    exact ⟨rfl, (by repeat first | exact Lz _ | apply La | apply Lv | apply Ln | apply Ld)⟩
end Go.Proofs.YtdfgcagbpndabaaGreatDoor.S
namespace Go.Proofs.YtdfgcagbpndabaaGreatDoor.S
open Go.RowKit
open Go.FM (W64 two bl lost)
theorem round_pos5 (neg : Bool) (hi lo n A m mm : Nat) (e b p1 p2 p3 E c K : Int) (X : Int) (Y F S1 Z : Nat)
    (hhi : hi < W64) (hlo : lo < W64) (hz : ¬ bits .or .u64 (hi : Int) (lo : Int) = 0) (hn : Hid (bl (two hi lo) = n)) (e1 : IntKind.i64.wrap ((n : Int) - 23) = p1) (e2 : IntKind.i64.wrap (p1 - 1) = p2) (e3 : IntKind.i64.wrap (-149 - e) = p3) (hb : (if p2 < p3 then p3 else p2) = b) (hb0 : 0 ≤ b) (hb1 : b ≤ 20000) (eE : e + b = E) (hd : RL Tryz.prog 121 #[.int .u64 (hi : Nat), .int .u64 (lo : Nat), .int .i64 b] (.tuple #[.int .u64 (A : Nat), .int .u64 (m : Nat), .int .i64 c]))
    (he : -10000 ≤ e) (he1 : e ≤ 10000) (hE0 : -149 ≤ E) (hE1 : E ≤ 20000) (hmm : bits .and .u64 (m : Int) 1 = (mm : Int)) (hm : (m : Int) ≤ 16777216) (hu : (c = 1 ∧ (m : Int) + 1 = K) ∨ (c = 0 ∧ mm = 1 ∧ (m : Int) + 1 = K) ∨ (c = 0 ∧ mm = 0 ∧ (m : Int) = K) ∨ (c = -1 ∧ (m : Int) = K) ∨ (c = 2 ∧ (m : Int) = K)) (hK : 8388608 ≤ K) (hK1 : K < 16777216) (eX : E + 149 + 1 = X) (hX : X < 255) (hX0 : 0 ≤ X) (eY : IntKind.u64.wrap (X * 8388608) = (Y : Int)) (eXu : IntKind.u64.wrap X = X) (eF : bits .and .u64 K 8388607 = (F : Int)) (eS : bits .or .u64 (sgn neg) (Y : Int) = (S1 : Int)) (eZ : bits .or .u64 (S1 : Int) (F : Int) = (Z : Int)) (w : World) :
    RW Tryz.prog 122 #[fm, .bool neg, .int .u64 (hi : Nat), .int .u64 (lo : Nat), .int .i64 e] w (.int .u64 (Z : Nat)) := by
  rcases hu with ⟨rfl, hu⟩ | ⟨rfl, rfl, hu⟩ | ⟨rfl, rfl, hu⟩ | ⟨rfl, hu⟩ | ⟨rfl, hu⟩
  all_goals
    try (have hmm2 : bits .and .u64 K 1 = 0 := by rw [← hu]; exact hmm)
    go_enter Tryz.func122, Tryz.ntmps122
    go_wp2_with fail
    refine wp_region_quiet_far (by kernel_rfl) (by kernel_rfl) ?_
    repeat (quiet_step (first | (go_at_call 153; exact Calls.far_of_same (long_eq hi lo n hhi hlo hn _)) | (go_at_call 151; exact Calls.far_of (least_any _))))
    refine wpQuiet_nil ?_
    rintro _ ⟨⟨bs, n⟩, rfl⟩
    go_wp2_with fail
    refine (hd.out _).mono ?_
    rintro e2 w2 ⟨rfl, bs2, n2, rfl⟩
    go_wp2_with (first | (go_at_call 127; refine (signed_any _ _).mono ?_; rintro e w' ⟨rfl, bs, n, rfl⟩) | (go_at_call 151; refine (least_any _).mono ?_; rintro e w' ⟨rfl, bs, n, rfl⟩) | (go_at_call 150; refine (top_any _).mono ?_; rintro e w' ⟨rfl, bs, n, rfl⟩) | (go_at_call 124; refine (inf_any _ _).mono ?_; rintro e w' ⟨rfl, bs, n, rfl⟩))
    refine wp_region_quiet_far2 (by kernel_rfl) (by kernel_rfl) ?_
    repeat (quiet_step ((go_at_call 127; exact Calls.far_of (signed_any _ _))))
    refine wpQuiet_nil ?_
    rintro _ ⟨⟨bs, n⟩, rfl⟩
    go_wp2
    go_ret
    exact ⟨rfl, (by repeat first | exact Lz _ | apply La | apply Lv | apply Ln | apply Ld)⟩
end Go.Proofs.YtdfgcagbpndabaaGreatDoor.S
namespace Go.Proofs.YtdfgcagbpndabaaGreatDoor.S
open Go.RowKit
open Go.FM (W64 two bl lost)
theorem round_pos3 (neg : Bool) (hi lo n A m mm : Nat) (e b p1 p2 p3 E c K : Int) (Z : Nat)
    (hhi : hi < W64) (hlo : lo < W64) (hz : ¬ bits .or .u64 (hi : Int) (lo : Int) = 0) (hn : Hid (bl (two hi lo) = n)) (e1 : IntKind.i64.wrap ((n : Int) - 23) = p1) (e2 : IntKind.i64.wrap (p1 - 1) = p2) (e3 : IntKind.i64.wrap (-149 - e) = p3) (hb : (if p2 < p3 then p3 else p2) = b) (hb0 : 0 ≤ b) (hb1 : b ≤ 20000) (eE : e + b = E) (hd : RL Tryz.prog 121 #[.int .u64 (hi : Nat), .int .u64 (lo : Nat), .int .i64 b] (.tuple #[.int .u64 (A : Nat), .int .u64 (m : Nat), .int .i64 c]))
    (he : -10000 ≤ e) (he1 : e ≤ 10000) (hE0 : -149 ≤ E) (hE1 : E ≤ 20000) (hmm : bits .and .u64 (m : Int) 1 = (mm : Int)) (hm : (m : Int) ≤ 16777216) (hu : (c = 1 ∧ (m : Int) + 1 = K) ∨ (c = 0 ∧ mm = 1 ∧ (m : Int) + 1 = K) ∨ (c = 0 ∧ mm = 0 ∧ (m : Int) = K) ∨ (c = -1 ∧ (m : Int) = K) ∨ (c = 2 ∧ (m : Int) = K)) (hK : K < 8388608) (eZ : bits .or .u64 (sgn neg) K = (Z : Int)) (hK0 : 0 ≤ K) (w : World) :
    RW Tryz.prog 122 #[fm, .bool neg, .int .u64 (hi : Nat), .int .u64 (lo : Nat), .int .i64 e] w (.int .u64 (Z : Nat)) := by
  rcases hu with ⟨rfl, hu⟩ | ⟨rfl, rfl, hu⟩ | ⟨rfl, rfl, hu⟩ | ⟨rfl, hu⟩ | ⟨rfl, hu⟩
  all_goals
    try (have hmm2 : bits .and .u64 K 1 = 0 := by rw [← hu]; exact hmm)
    go_enter Tryz.func122, Tryz.ntmps122
    go_wp2_with fail
    refine wp_region_quiet_far (by kernel_rfl) (by kernel_rfl) ?_
    repeat (quiet_step (first | (go_at_call 153; exact Calls.far_of_same (long_eq hi lo n hhi hlo hn _)) | (go_at_call 151; exact Calls.far_of (least_any _))))
    refine wpQuiet_nil ?_
    rintro _ ⟨⟨bs, n⟩, rfl⟩
    go_wp2_with fail
    refine (hd.out _).mono ?_
    rintro e2 w2 ⟨rfl, bs2, n2, rfl⟩
    go_wp2_with (first | (go_at_call 127; refine (signed_any _ _).mono ?_; rintro e w' ⟨rfl, bs, n, rfl⟩) | (go_at_call 151; refine (least_any _).mono ?_; rintro e w' ⟨rfl, bs, n, rfl⟩) | (go_at_call 150; refine (top_any _).mono ?_; rintro e w' ⟨rfl, bs, n, rfl⟩) | (go_at_call 124; refine (inf_any _ _).mono ?_; rintro e w' ⟨rfl, bs, n, rfl⟩))
    go_ret
    exact ⟨rfl, (by repeat first | exact Lz _ | apply La | apply Lv | apply Ln | apply Ld)⟩
theorem round_neg3 (neg : Bool) (hi lo n A m mm : Nat) (e b p1 p2 p3 E c K : Int) (k lo2 : Nat) (Z : Nat)
    (hhi : hi < W64) (hlo : lo < W64) (hz : ¬ bits .or .u64 (hi : Int) (lo : Int) = 0) (hn : Hid (bl (two hi lo) = n)) (e1 : IntKind.i64.wrap ((n : Int) - 23) = p1) (e2 : IntKind.i64.wrap (p1 - 1) = p2) (e3 : IntKind.i64.wrap (-149 - e) = p3) (hb : (if p2 < p3 then p3 else p2) = -(k : Int)) (hk : k ≤ 64) (hk0 : 0 < k) (el : IntKind.u64.wrap ((lo : Int) * 2 ^ k) = (lo2 : Int)) (eE : e + -(k : Int) = E) (hd : RL Tryz.prog 121 #[.int .u64 0, .int .u64 (lo2 : Nat), .int .i64 (-(k : Int))] (.tuple #[.int .u64 (A : Nat), .int .u64 (m : Nat), .int .i64 c]))
    (he : -10000 ≤ e) (he1 : e ≤ 10000) (hE0 : -149 ≤ E) (hE1 : E ≤ 20000) (hmm : bits .and .u64 (m : Int) 1 = (mm : Int)) (hm : (m : Int) ≤ 16777216) (hu : (m : Int) = K) (hc2 : c = 2) (hK : K < 8388608) (eZ : bits .or .u64 (sgn neg) K = (Z : Int)) (hK0 : 0 ≤ K) (w : World) :
    RW Tryz.prog 122 #[fm, .bool neg, .int .u64 (hi : Nat), .int .u64 (lo : Nat), .int .i64 e] w (.int .u64 (Z : Nat)) := by
  subst hc2
  all_goals
    try (have hmm2 : bits .and .u64 K 1 = 0 := by rw [← hu]; exact hmm)
    go_enter Tryz.func122, Tryz.ntmps122
    go_wp2_with fail
    refine wp_region_quiet_far (by kernel_rfl) (by kernel_rfl) ?_
    repeat (quiet_step (first | (go_at_call 153; exact Calls.far_of_same (long_eq hi lo n hhi hlo hn _)) | (go_at_call 151; exact Calls.far_of (least_any _))))
    refine wpQuiet_nil ?_
    rintro _ ⟨⟨bs, n⟩, rfl⟩
    go_wp2_with fail
    refine (hd.out _).mono ?_
    rintro e2 w2 ⟨rfl, bs2, n2, rfl⟩
    go_wp2_with (first | (go_at_call 127; refine (signed_any _ _).mono ?_; rintro e w' ⟨rfl, bs, n, rfl⟩) | (go_at_call 151; refine (least_any _).mono ?_; rintro e w' ⟨rfl, bs, n, rfl⟩) | (go_at_call 150; refine (top_any _).mono ?_; rintro e w' ⟨rfl, bs, n, rfl⟩) | (go_at_call 124; refine (inf_any _ _).mono ?_; rintro e w' ⟨rfl, bs, n, rfl⟩))
    go_ret
    exact ⟨rfl, (by repeat first | exact Lz _ | apply La | apply Lv | apply Ln | apply Ld)⟩
theorem round_neg4 (neg : Bool) (hi lo n A m mm : Nat) (e b p1 p2 p3 E c K : Int) (k lo2 : Nat) (X : Int)
    (hhi : hi < W64) (hlo : lo < W64) (hz : ¬ bits .or .u64 (hi : Int) (lo : Int) = 0) (hn : Hid (bl (two hi lo) = n)) (e1 : IntKind.i64.wrap ((n : Int) - 23) = p1) (e2 : IntKind.i64.wrap (p1 - 1) = p2) (e3 : IntKind.i64.wrap (-149 - e) = p3) (hb : (if p2 < p3 then p3 else p2) = -(k : Int)) (hk : k ≤ 64) (hk0 : 0 < k) (el : IntKind.u64.wrap ((lo : Int) * 2 ^ k) = (lo2 : Int)) (eE : e + -(k : Int) = E) (hd : RL Tryz.prog 121 #[.int .u64 0, .int .u64 (lo2 : Nat), .int .i64 (-(k : Int))] (.tuple #[.int .u64 (A : Nat), .int .u64 (m : Nat), .int .i64 c]))
    (he : -10000 ≤ e) (he1 : e ≤ 10000) (hE0 : -149 ≤ E) (hE1 : E ≤ 20000) (hmm : bits .and .u64 (m : Int) 1 = (mm : Int)) (hm : (m : Int) ≤ 16777216) (hu : (m : Int) = K) (hc2 : c = 2) (hK : 8388608 ≤ K) (hK1 : K < 16777216) (eX : E + 149 + 1 = X) (hX : 255 ≤ X) (w : World) :
    RW Tryz.prog 122 #[fm, .bool neg, .int .u64 (hi : Nat), .int .u64 (lo : Nat), .int .i64 e] w (.int .u64 (sgn neg + 2139095040)) := by
  subst hc2
  all_goals
    try (have hmm2 : bits .and .u64 K 1 = 0 := by rw [← hu]; exact hmm)
    go_enter Tryz.func122, Tryz.ntmps122
    go_wp2_with fail
    refine wp_region_quiet_far (by kernel_rfl) (by kernel_rfl) ?_
    repeat (quiet_step (first | (go_at_call 153; exact Calls.far_of_same (long_eq hi lo n hhi hlo hn _)) | (go_at_call 151; exact Calls.far_of (least_any _))))
    refine wpQuiet_nil ?_
    rintro _ ⟨⟨bs, n⟩, rfl⟩
    go_wp2_with fail
    refine (hd.out _).mono ?_
    rintro e2 w2 ⟨rfl, bs2, n2, rfl⟩
    go_wp2_with (first | (go_at_call 127; refine (signed_any _ _).mono ?_; rintro e w' ⟨rfl, bs, n, rfl⟩) | (go_at_call 151; refine (least_any _).mono ?_; rintro e w' ⟨rfl, bs, n, rfl⟩) | (go_at_call 150; refine (top_any _).mono ?_; rintro e w' ⟨rfl, bs, n, rfl⟩) | (go_at_call 124; refine (inf_any _ _).mono ?_; rintro e w' ⟨rfl, bs, n, rfl⟩))
    go_ret
    exact ⟨rfl, (by repeat first | exact Lz _ | apply La | apply Lv | apply Ln | apply Ld)⟩
theorem round_neg5 (neg : Bool) (hi lo n A m mm : Nat) (e b p1 p2 p3 E c K : Int) (k lo2 : Nat) (X : Int) (Y F S1 Z : Nat)
    (hhi : hi < W64) (hlo : lo < W64) (hz : ¬ bits .or .u64 (hi : Int) (lo : Int) = 0) (hn : Hid (bl (two hi lo) = n)) (e1 : IntKind.i64.wrap ((n : Int) - 23) = p1) (e2 : IntKind.i64.wrap (p1 - 1) = p2) (e3 : IntKind.i64.wrap (-149 - e) = p3) (hb : (if p2 < p3 then p3 else p2) = -(k : Int)) (hk : k ≤ 64) (hk0 : 0 < k) (el : IntKind.u64.wrap ((lo : Int) * 2 ^ k) = (lo2 : Int)) (eE : e + -(k : Int) = E) (hd : RL Tryz.prog 121 #[.int .u64 0, .int .u64 (lo2 : Nat), .int .i64 (-(k : Int))] (.tuple #[.int .u64 (A : Nat), .int .u64 (m : Nat), .int .i64 c]))
    (he : -10000 ≤ e) (he1 : e ≤ 10000) (hE0 : -149 ≤ E) (hE1 : E ≤ 20000) (hmm : bits .and .u64 (m : Int) 1 = (mm : Int)) (hm : (m : Int) ≤ 16777216) (hu : (m : Int) = K) (hc2 : c = 2) (hK : 8388608 ≤ K) (hK1 : K < 16777216) (eX : E + 149 + 1 = X) (hX : X < 255) (hX0 : 0 ≤ X) (eY : IntKind.u64.wrap (X * 8388608) = (Y : Int)) (eXu : IntKind.u64.wrap X = X) (eF : bits .and .u64 K 8388607 = (F : Int)) (eS : bits .or .u64 (sgn neg) (Y : Int) = (S1 : Int)) (eZ : bits .or .u64 (S1 : Int) (F : Int) = (Z : Int)) (w : World) :
    RW Tryz.prog 122 #[fm, .bool neg, .int .u64 (hi : Nat), .int .u64 (lo : Nat), .int .i64 e] w (.int .u64 (Z : Nat)) := by
  subst hc2
  all_goals
    try (have hmm2 : bits .and .u64 K 1 = 0 := by rw [← hu]; exact hmm)
    go_enter Tryz.func122, Tryz.ntmps122
    go_wp2_with fail
    refine wp_region_quiet_far (by kernel_rfl) (by kernel_rfl) ?_
    repeat (quiet_step (first | (go_at_call 153; exact Calls.far_of_same (long_eq hi lo n hhi hlo hn _)) | (go_at_call 151; exact Calls.far_of (least_any _))))
    refine wpQuiet_nil ?_
    rintro _ ⟨⟨bs, n⟩, rfl⟩
    go_wp2_with fail
    refine (hd.out _).mono ?_
    rintro e2 w2 ⟨rfl, bs2, n2, rfl⟩
    go_wp2_with (first | (go_at_call 127; refine (signed_any _ _).mono ?_; rintro e w' ⟨rfl, bs, n, rfl⟩) | (go_at_call 151; refine (least_any _).mono ?_; rintro e w' ⟨rfl, bs, n, rfl⟩) | (go_at_call 150; refine (top_any _).mono ?_; rintro e w' ⟨rfl, bs, n, rfl⟩) | (go_at_call 124; refine (inf_any _ _).mono ?_; rintro e w' ⟨rfl, bs, n, rfl⟩))
    refine wp_region_quiet_far2 (by kernel_rfl) (by kernel_rfl) ?_
    repeat (quiet_step ((go_at_call 127; exact Calls.far_of (signed_any _ _))))
    refine wpQuiet_nil ?_
    rintro _ ⟨⟨bs, n⟩, rfl⟩
    go_wp2
    go_ret
    exact ⟨rfl, (by repeat first | exact Lz _ | apply La | apply Lv | apply Ln | apply Ld)⟩
end Go.Proofs.YtdfgcagbpndabaaGreatDoor.S
