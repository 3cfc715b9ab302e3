/- Over this seat's translation: the types of operations, by package apply and by the document. -/
import Derived.Test.YtdfgcagbpndabaaGreatDoorRows
import Derived.WalkKit
import Derived.ProofKit
import Derived.Test.YtdfgcagbpndabaaGreatDoorZA
import Derived.Test.YtdfgcagbpndabaaGreatDoorVL
set_option linter.unusedVariables false
set_option maxHeartbeats 4000000
set_option maxRecDepth 100000
namespace Go.Proofs.YtdfgcagbpndabaaGreatDoor
open Go.RowKit Go.AM
theorem isNum_any (op : Int) (w : World) :
    Calls Tryz.prog 18 #[.int .i64 op] w fun e w' => e = .returned (.bool (decide (69 ≤ op ∧ op ≤ 191))) ∧ w' = w := by
  by_cases h : 69 ≤ op
  · have h2 : decide (69 ≤ op ∧ op ≤ 191) = decide (op ≤ 191) := decide_eq_decide.2 ⟨fun g => g.2, fun g => ⟨h, g⟩⟩
    rw [h2]
    clear h2
    go_enter Tryz.func18, Tryz.ntmps18
    go_wp2
    go_ret
    exact ⟨rfl, rfl⟩
  · rw [decide_eq_false (fun g => h g.1)]
    go_enter Tryz.func18, Tryz.ntmps18
    go_wp2
    go_ret
    exact ⟨rfl, rfl⟩
theorem one_any (p r : Int) (w : World) :
    RW Tryz.prog 29 #[.int .i64 p, .int .i64 r] w (.agg #[.int .i64 p, .int .i64 1, .int .i64 r]) := by
  go_enter Tryz.func29, Tryz.ntmps29
  go_wp2
  refine bodyPost_ret (v := .agg #[.int .i64 p, .int .i64 1, .int .i64 r]) (by simp [results, Tryz.results29, go_sem]) rfl ⟨rfl, (by repeat first | exact Lz _ | apply La | apply Lv | apply Ln | apply Ld)⟩
theorem two_any (p r : Int) (w : World) :
    RW Tryz.prog 30 #[.int .i64 p, .int .i64 r] w (.agg #[.int .i64 p, .int .i64 2, .int .i64 r]) := by
  go_enter Tryz.func30, Tryz.ntmps30
  go_wp2
  refine bodyPost_ret (v := .agg #[.int .i64 p, .int .i64 2, .int .i64 r]) (by simp [results, Tryz.results30, go_sem]) rfl ⟨rfl, (by repeat first | exact Lz _ | apply La | apply Lv | apply Ln | apply Ld)⟩
theorem acv_core (op p r : Int) (h : Cnv op p r) (w : World) :
    RW Tryz.prog 31 #[.int .i64 op] w (.agg #[.int .i64 p, .int .i64 1, .int .i64 r]) := by
  rcases h with ⟨rfl, rfl, rfl⟩ | ⟨rfl, rfl, rfl⟩ | ⟨rfl, rfl, rfl⟩ | ⟨rfl, rfl, rfl⟩ | ⟨rfl, rfl, rfl⟩ | ⟨rfl, rfl, rfl⟩ | ⟨rfl, rfl, rfl⟩ | ⟨rfl, rfl, rfl⟩ | ⟨rfl, rfl, rfl⟩ | ⟨rfl, rfl, rfl⟩ | ⟨rfl, rfl, rfl⟩ | ⟨rfl, rfl, rfl⟩ | ⟨rfl, rfl, rfl⟩ | ⟨rfl, rfl, rfl⟩ | ⟨rfl, rfl, rfl⟩ | ⟨rfl, rfl, rfl⟩ | ⟨rfl, rfl, rfl⟩ | ⟨rfl, rfl, rfl⟩ | ⟨rfl, rfl, rfl⟩ | ⟨rfl, rfl, rfl⟩ | ⟨rfl, rfl, rfl⟩ | ⟨rfl, rfl, rfl⟩ | ⟨rfl, rfl, rfl⟩ | ⟨rfl, rfl, rfl⟩ | ⟨rfl, rfl, rfl⟩ | F
  all_goals first | exact F.elim | skip
  all_goals
    go_enter Tryz.func31, Tryz.ntmps31
    go_wp2_with (go_at_call 29; refine (one_any _ _ _).mono ?_; rintro e w' ⟨rfl, bs, n, rfl⟩)
    refine bodyPost_ret (v := .agg #[.int .i64 _, .int .i64 1, .int .i64 _]) (by simp [results, Tryz.results31, go_sem]) rfl ⟨rfl, (by repeat first | exact Lz _ | apply La | apply Lv | apply Ln | apply Ld)⟩
theorem shp_core (op p c r : Int) (h : Grp op p c r) (w : World) :
    RW Tryz.prog 19 #[.int .i64 op] w (.agg #[.int .i64 p, .int .i64 c, .int .i64 r]) := by
  rcases h with ⟨a, b, rfl, rfl, rfl⟩ | ⟨a, b, rfl, rfl, rfl⟩ | ⟨a, b, rfl, rfl, rfl⟩ | ⟨a, b, rfl, rfl, rfl⟩ | ⟨a, b, rfl, rfl, rfl⟩ | ⟨a, b, rfl, rfl, rfl⟩ | ⟨a, b, rfl, rfl, rfl⟩ | ⟨a, b, rfl, rfl, rfl⟩ | ⟨a, b, rfl, rfl, rfl⟩ | ⟨a, b, rfl, rfl, rfl⟩ | ⟨a, b, rfl, rfl, rfl⟩ | ⟨a, b, rfl, rfl, rfl⟩ | ⟨a, b, rfl, rfl, rfl⟩ | ⟨a, b, rfl, rfl, rfl⟩ | F
  all_goals first | exact F.elim | skip
  all_goals
    go_enter Tryz.func19, Tryz.ntmps19
    go_wp2_with (first | (go_at_call 29; refine (one_any _ _ _).mono ?_; rintro e w' ⟨rfl, bs, n, rfl⟩) | (go_at_call 30; refine (two_any _ _ _).mono ?_; rintro e w' ⟨rfl, bs, n, rfl⟩))
    refine bodyPost_ret (v := .agg #[.int .i64 _, .int .i64 _, .int .i64 _]) (by simp [results, Tryz.results19, go_sem]) rfl ⟨rfl, (by repeat first | exact Lz _ | apply La | apply Lv | apply Ln | apply Ld)⟩
theorem shape_any (op : Int) (h0 : 69 ≤ op) (h1 : op ≤ 191) (w : World) :
    RW Tryz.prog 19 #[.int .i64 op] w (.agg #[.int .i64 (kP op), .int .i64 (kC op), .int .i64 (kR op)]) := by
  by_cases h : op ≤ 166
  · exact shp_core op _ _ _ (grp_k op h0 h) w
  · rw [kC_conv op (by omega)]
    have hc : RL Tryz.prog 31 #[.int .i64 op] (.agg #[.int .i64 (kP op), .int .i64 1, .int .i64 (kR op)]) := acv_core op _ _ (cnv_k op (by omega) h1)
    have h2 : 167 ≤ op := by omega
    clear h h0 h1
    generalize kP op = p at *
    generalize kR op = r at *
    go_enter Tryz.func19, Tryz.ntmps19
    go_wp2_with (go_at_call 31; refine (hc.out _).mono ?_; rintro e w' ⟨rfl, bs, n, rfl⟩)
    refine bodyPost_ret (v := .agg #[.int .i64 p, .int .i64 1, .int .i64 r]) (by simp [results, Tryz.results19, go_sem]) rfl ⟨rfl, (by repeat first | exact Lz _ | apply La | apply Lv | apply Ln | apply Ld)⟩
theorem kinds_core (op p c r : Int) (h : Grp op p c r) (w : World) :
    Calls Tryz.prog 21 #[.int .i64 op] w fun e w' => e = .returned (.tuple #[.int .i64 p, .int .i64 c, .int .i64 r]) ∧ w' = w := by
  rcases h with ⟨a, b, rfl, rfl, rfl⟩ | ⟨a, b, rfl, rfl, rfl⟩ | ⟨a, b, rfl, rfl, rfl⟩ | ⟨a, b, rfl, rfl, rfl⟩ | ⟨a, b, rfl, rfl, rfl⟩ | ⟨a, b, rfl, rfl, rfl⟩ | ⟨a, b, rfl, rfl, rfl⟩ | ⟨a, b, rfl, rfl, rfl⟩ | ⟨a, b, rfl, rfl, rfl⟩ | ⟨a, b, rfl, rfl, rfl⟩ | ⟨a, b, rfl, rfl, rfl⟩ | ⟨a, b, rfl, rfl, rfl⟩ | ⟨a, b, rfl, rfl, rfl⟩ | ⟨a, b, rfl, rfl, rfl⟩ | F
  all_goals first | exact F.elim | skip
  all_goals
    go_enter Tryz.func21, Tryz.ntmps21
    go_wp2
    go_ret3
    exact ⟨rfl, rfl⟩
theorem kinds_any (op : Int) (h0 : 69 ≤ op) (h1 : op ≤ 166) (w : World) :
    Calls Tryz.prog 21 #[.int .i64 op] w fun e w' => e = .returned (.tuple #[.int .i64 (kP op), .int .i64 (kC op), .int .i64 (kR op)]) ∧ w' = w := kinds_core op _ _ _ (grp_k op h0 h1) w
end Go.Proofs.YtdfgcagbpndabaaGreatDoor
