/- Contracts of the document's conversions (pelorusref4), over this seat's translation: a float in another format; Conv. -/
import Derived.Test.YtdfgcagbpndabaaGreatDoorZSM
import Derived.Test.YtdfgcagbpndabaaGreatDoorZDM
import Derived.WalkLawsBesides
import Derived.RegionCalls
import Derived.Deep.RegionWith
set_option linter.unusedVariables false
set_option maxHeartbeats 4000000
set_option maxRecDepth 100000
namespace Go.Proofs.YtdfgcagbpndabaaGreatDoor.X
open Go.RowKit
open Go.FM (W64 two bl lost isN qn sw otherW fromW truncI tcut tval fits bitsI ofI)
theorem narrow_nan0 (x m E v : Int) (s i : Bool) (z : Nat) (hz : IntKind.i64.wrap (z : Int) = v) (ha : RL Tryz.prog 119 #[D.fm, .int .u64 x] (D.fv s i true m E)) (hn : RL Tryz.prog 123 #[S.fm] (.int .u64 (z : Nat))) (w : World) :
    RW Tryz.prog 71 #[D.fm, S.fm, .int .u64 x] w (.int .i64 v) := by
  go_enter Tryz.func71, Tryz.ntmps71
  go_wp2_with fail
  refine (ha.out _).mono ?_
  rintro e w' ⟨rfl, bs1, n1, rfl⟩
  go_wp2_with fail
  refine (hn.out _).mono ?_
  rintro e w' ⟨rfl, bs2, n2, rfl⟩
  go_wp2
  go_ret
  exact ⟨rfl, (by repeat first | exact Lz _ | apply La | apply Lv | apply Ln | apply Ld)⟩
theorem narrow_inf0 (x m E v : Int) (s : Bool) (z : Nat) (hz : IntKind.i64.wrap (z : Int) = v) (ha : RL Tryz.prog 119 #[D.fm, .int .u64 x] (D.fv s true false m E)) (hn : RL Tryz.prog 124 #[S.fm, .bool s] (.int .u64 (z : Nat))) (w : World) :
    RW Tryz.prog 71 #[D.fm, S.fm, .int .u64 x] w (.int .i64 v) := by
  go_enter Tryz.func71, Tryz.ntmps71
  go_wp2_with fail
  refine (ha.out _).mono ?_
  rintro e w' ⟨rfl, bs3, n3, rfl⟩
  go_wp2_with fail
  refine (hn.out _).mono ?_
  rintro e w' ⟨rfl, bs4, n4, rfl⟩
  go_wp2
  go_ret
  exact ⟨rfl, (by repeat first | exact Lz _ | apply La | apply Lv | apply Ln | apply Ld)⟩
theorem narrow_fin0 (x m E v : Int) (s : Bool) (z : Nat) (hz : IntKind.i64.wrap (z : Int) = v) (ha : RL Tryz.prog 119 #[D.fm, .int .u64 x] (D.fv s false false m E)) (hn : RL Tryz.prog 122 #[S.fm, .bool s, .int .u64 0, .int .u64 m, .int .i64 E] (.int .u64 (z : Nat))) (w : World) :
    RW Tryz.prog 71 #[D.fm, S.fm, .int .u64 x] w (.int .i64 v) := by
  go_enter Tryz.func71, Tryz.ntmps71
  go_wp2_with fail
  refine (ha.out _).mono ?_
  rintro e w' ⟨rfl, bs5, n5, rfl⟩
  go_wp2_with fail
  refine (hn.out _).mono ?_
  rintro e w' ⟨rfl, bs6, n6, rfl⟩
  go_wp2
  go_ret
  exact ⟨rfl, (by repeat first | exact Lz _ | apply La | apply Lv | apply Ln | apply Ld)⟩
theorem longer_nan0 (x m E v : Int) (s i : Bool) (z : Nat) (hz : IntKind.i64.wrap (z : Int) = v) (ha : RL Tryz.prog 119 #[S.fm, .int .u64 x] (S.fv s i true m E)) (hn : RL Tryz.prog 123 #[D.fm] (.int .u64 (z : Nat))) (w : World) :
    RW Tryz.prog 71 #[S.fm, D.fm, .int .u64 x] w (.int .i64 v) := by
  go_enter Tryz.func71, Tryz.ntmps71
  go_wp2_with fail
  refine (ha.out _).mono ?_
  rintro e w' ⟨rfl, bs7, n7, rfl⟩
  go_wp2_with fail
  refine (hn.out _).mono ?_
  rintro e w' ⟨rfl, bs8, n8, rfl⟩
  go_wp2
  go_ret
  exact ⟨rfl, (by repeat first | exact Lz _ | apply La | apply Lv | apply Ln | apply Ld)⟩
theorem longer_inf0 (x m E v : Int) (s : Bool) (z : Nat) (hz : IntKind.i64.wrap (z : Int) = v) (ha : RL Tryz.prog 119 #[S.fm, .int .u64 x] (S.fv s true false m E)) (hn : RL Tryz.prog 124 #[D.fm, .bool s] (.int .u64 (z : Nat))) (w : World) :
    RW Tryz.prog 71 #[S.fm, D.fm, .int .u64 x] w (.int .i64 v) := by
  go_enter Tryz.func71, Tryz.ntmps71
  go_wp2_with fail
  refine (ha.out _).mono ?_
  rintro e w' ⟨rfl, bs9, n9, rfl⟩
  go_wp2_with fail
  refine (hn.out _).mono ?_
  rintro e w' ⟨rfl, bs10, n10, rfl⟩
  go_wp2
  go_ret
  exact ⟨rfl, (by repeat first | exact Lz _ | apply La | apply Lv | apply Ln | apply Ld)⟩
theorem longer_fin0 (x m E v : Int) (s : Bool) (z : Nat) (hz : IntKind.i64.wrap (z : Int) = v) (ha : RL Tryz.prog 119 #[S.fm, .int .u64 x] (S.fv s false false m E)) (hn : RL Tryz.prog 122 #[D.fm, .bool s, .int .u64 0, .int .u64 m, .int .i64 E] (.int .u64 (z : Nat))) (w : World) :
    RW Tryz.prog 71 #[S.fm, D.fm, .int .u64 x] w (.int .i64 v) := by
  go_enter Tryz.func71, Tryz.ntmps71
  go_wp2_with fail
  refine (ha.out _).mono ?_
  rintro e w' ⟨rfl, bs11, n11, rfl⟩
  go_wp2_with fail
  refine (hn.out _).mono ?_
  rintro e w' ⟨rfl, bs12, n12, rfl⟩
  go_wp2
  go_ret
  exact ⟨rfl, (by repeat first | exact Lz _ | apply La | apply Lv | apply Ln | apply Ld)⟩
theorem write_fin (f g : Ieee.Format) (x : Nat) (h : FM.rg f x < f.infRung) : otherW f g x = g.nearest (FM.sg f x) (FM.mag f (FM.rg f x)) (FM.plc f (FM.rg f x)) := by
  unfold FM.otherW
  rw [if_neg (by unfold isN; omega), FM.read_num f x h]
  rfl
theorem write_inf (f g : Ieee.Format) (hf : 2 ≤ f.exponentBits) (x : Nat) (h : FM.rg f x = f.infRung) : otherW f g x = g.word (FM.sg f x) g.infRung := by
  unfold FM.otherW
  rw [if_neg (by unfold isN; omega), FM.read_inf f hf x h]
  rfl
theorem other_lt32 (x : Nat) : otherW Ieee.double Ieee.single x < 4294967296 := by
  unfold FM.otherW; split
  · decide +kernel
  · exact Ieee.Format.write_lt Ieee.single _
theorem wrap_small (z : Nat) (h : z < 4294967296) : IntKind.i64.wrap (z : Int) = (z : Int) := by rw [IntKind.wrap_i64]; omega
theorem infS (b : Bool) : RL Tryz.prog 124 #[S.fm, .bool b] (.int .u64 ((Ieee.single.word b Ieee.single.infRung : Nat) : Int)) := by
  cases b
  · rw [show Ieee.single.word false Ieee.single.infRung = 2139095040 from by decide +kernel]; exact fun w => S.inf_false w
  · rw [show Ieee.single.word true Ieee.single.infRung = 4286578688 from by decide +kernel]; exact fun w => S.inf_true w
theorem infD (b : Bool) : RL Tryz.prog 124 #[D.fm, .bool b] (.int .u64 ((Ieee.double.word b Ieee.double.infRung : Nat) : Int)) := by
  cases b
  · rw [show Ieee.double.word false Ieee.double.infRung = 9218868437227405312 from by decide +kernel]; exact fun w => D.inf_false w
  · rw [show Ieee.double.word true Ieee.double.infRung = 18442240474082181120 from by decide +kernel]; exact fun w => D.inf_true w
theorem narrow_any (x : Nat) (hx : x < 18446744073709551616) (w : World) :
    RW Tryz.prog 71 #[D.fm, S.fm, .int .u64 (x : Int)] w (.int .i64 ((otherW Ieee.double Ieee.single x : Nat) : Int)) := by
  have hw : IntKind.i64.wrap ((otherW Ieee.double Ieee.single x : Nat) : Int) = ((otherW Ieee.double Ieee.single x : Nat) : Int) := wrap_small _ (other_lt32 x)
  rcases Nat.lt_trichotomy (FM.rg Ieee.double x) Ieee.double.infRung with h | h | h
  · rw [write_fin _ _ x h] at hw ⊢
    have hmb := FM.mag_lt Ieee.double (FM.rg Ieee.double x)
    have hpl := FM.plc_ge Ieee.double (FM.rg Ieee.double x)
    have hpt : FM.plc Ieee.double (FM.rg Ieee.double x) ≤ 971 := D.plc_topV (FM.rg Ieee.double x) h
    rw [D.ff_bin] at hmb
    rw [D.ff_least] at hpl
    have f1 : FM.mag Ieee.double (FM.rg Ieee.double x) < W64 := by simp only [W64]; omega
    have f2 : -10000 ≤ FM.plc Ieee.double (FM.rg Ieee.double x) := by omega
    have f3 : FM.plc Ieee.double (FM.rg Ieee.double x) ≤ 10000 := by omega
    exact narrow_fin0 x _ _ _ _ _ hw (fun w => D.apart_fin x hx h w) (fun w => S.round_one _ _ _ f1 f2 f3 w) w
  · rw [write_inf _ _ (by decide) x h] at hw ⊢
    exact narrow_inf0 x _ _ _ _ _ hw (fun w => D.apart_inf x hx h w) (infS _).out w
  · rw [FM.other_nan _ _ x h, show qn Ieee.single = 2143289344 from by decide +kernel] at hw ⊢
    exact narrow_nan0 x _ _ _ _ _ _ hw (fun w => D.apart_nan x hx h w) (fun w => S.nan_any w) w
theorem longer_any (x : Nat) (hx : x < 4294967296) (w : World) :
    RW Tryz.prog 71 #[S.fm, D.fm, .int .u64 (x : Int)] w (.int .i64 (sw (otherW Ieee.single Ieee.double x))) := by
  have hw : IntKind.i64.wrap ((otherW Ieee.single Ieee.double x : Nat) : Int) = (sw (otherW Ieee.single Ieee.double x)) := rfl
  rcases Nat.lt_trichotomy (FM.rg Ieee.single x) Ieee.single.infRung with h | h | h
  · rw [write_fin _ _ x h] at hw ⊢
    have hmb := FM.mag_lt Ieee.single (FM.rg Ieee.single x)
    have hpl := FM.plc_ge Ieee.single (FM.rg Ieee.single x)
    have hpt : FM.plc Ieee.single (FM.rg Ieee.single x) ≤ 104 := S.plc_topV (FM.rg Ieee.single x) h
    rw [S.ff_bin] at hmb
    rw [S.ff_least] at hpl
    have f1 : FM.mag Ieee.single (FM.rg Ieee.single x) < W64 := by simp only [W64]; omega
    have f2 : -10000 ≤ FM.plc Ieee.single (FM.rg Ieee.single x) := by omega
    have f3 : FM.plc Ieee.single (FM.rg Ieee.single x) ≤ 10000 := by omega
    exact longer_fin0 x _ _ _ _ _ hw (fun w => S.apart_fin x hx h w) (fun w => D.round_one _ _ _ f1 f2 f3 w) w
  · rw [write_inf _ _ (by decide) x h] at hw ⊢
    exact longer_inf0 x _ _ _ _ _ hw (fun w => S.apart_inf x hx h w) (infD _).out w
  · rw [FM.other_nan _ _ x h, show qn Ieee.double = 9221120237041090560 from by decide +kernel] at hw ⊢
    exact longer_nan0 x _ _ _ _ _ _ hw (fun w => S.apart_nan x hx h w) (fun w => D.nan_any w) w
theorem xret {k : IntKind} {a b : Int} (h : a = b) : Ending.returned (.int k a) = .returned (.int k b) := by rw [h]
theorem rsign_any (x : Int) (w : World) :
    Calls Tryz.prog 69 #[.int .i64 x] w fun e w' => e = .returned (.int .i64 (FM.s32 x)) ∧ w' = w := by
  have hd : x % 4294967296 < 2147483648 ∨ 2147483648 ≤ x % 4294967296 := by omega
  have H1 : Hid (x % 4294967296 < 2147483648 → x % 4294967296 = FM.s32 x) := by show _ → _; unfold FM.s32; omega
  have H2 : Hid (2147483648 ≤ x % 4294967296 → x % 4294967296 - 4294967296 = FM.s32 x) := by show _ → _; unfold FM.s32; omega
  have hb : 0 ≤ x % 4294967296 ∧ x % 4294967296 < 4294967296 := by omega
  rcases hd with hd | hd
  · go_enter Tryz.func69, Tryz.ntmps69
    go_wp2_with (go_at_call 65; refine (S.rlow_any _ _).mono ?_; rintro e w' ⟨rfl, rfl⟩)
    go_ret
    exact ⟨xret (H1.out hd), rfl⟩
  · go_enter Tryz.func69, Tryz.ntmps69
    go_wp2_with (go_at_call 65; refine (S.rlow_any _ _).mono ?_; rintro e w' ⟨rfl, rfl⟩)
    go_ret
    exact ⟨xret (H2.out hd), rfl⟩
theorem conv167 (a : Int) (q : Nat) (hq : Hid (a % 4294967296 = (q : Int))) (hl : q < 4294967296) (x : Nat) (hu : IntKind.u64.wrap a = (x : Int)) (hi : IntKind.i64.wrap (q : Int) = (q : Int)) (w : World) :
    RW Tryz.prog 36 #[.int .i64 167, .int .i64 a] w (.tuple #[.int .i64 (q : Int), .int .i64 0]) := by
  have hql : (q : Int) ≤ 4294967295 := by omega
  clear hl
  go_enter Tryz.func36, Tryz.ntmps36
  go_wp2_with (first | (go_at_call 65; refine (S.rlow_any _ _).mono ?_; rintro e w' ⟨rfl, rfl⟩; rw [hq.out]))
  go_ret2
  exact ⟨rfl, (by repeat first | exact Lz _ | apply La | apply Lv | apply Ln | apply Ld)⟩
theorem conv173 (a : Int) (q : Nat) (hq : Hid (a % 4294967296 = (q : Int))) (hl : q < 4294967296) (x : Nat) (hu : IntKind.u64.wrap a = (x : Int)) (hi : IntKind.i64.wrap (q : Int) = (q : Int)) (w : World) :
    RW Tryz.prog 36 #[.int .i64 173, .int .i64 a] w (.tuple #[.int .i64 (q : Int), .int .i64 0]) := by
  have hql : (q : Int) ≤ 4294967295 := by omega
  clear hl
  go_enter Tryz.func36, Tryz.ntmps36
  go_wp2_with (first | (go_at_call 65; refine (S.rlow_any _ _).mono ?_; rintro e w' ⟨rfl, rfl⟩; rw [hq.out]))
  go_ret2
  exact ⟨rfl, (by repeat first | exact Lz _ | apply La | apply Lv | apply Ln | apply Ld)⟩
theorem conv188 (a : Int) (q : Nat) (hq : Hid (a % 4294967296 = (q : Int))) (hl : q < 4294967296) (x : Nat) (hu : IntKind.u64.wrap a = (x : Int)) (hi : IntKind.i64.wrap (q : Int) = (q : Int)) (w : World) :
    RW Tryz.prog 36 #[.int .i64 188, .int .i64 a] w (.tuple #[.int .i64 (q : Int), .int .i64 0]) := by
  have hql : (q : Int) ≤ 4294967295 := by omega
  clear hl
  go_enter Tryz.func36, Tryz.ntmps36
  go_wp2_with (first | (go_at_call 65; refine (S.rlow_any _ _).mono ?_; rintro e w' ⟨rfl, rfl⟩; rw [hq.out]))
  go_ret2
  exact ⟨rfl, (by repeat first | exact Lz _ | apply La | apply Lv | apply Ln | apply Ld)⟩
theorem conv190 (a : Int) (q : Nat) (hq : Hid (a % 4294967296 = (q : Int))) (hl : q < 4294967296) (x : Nat) (hu : IntKind.u64.wrap a = (x : Int)) (hi : IntKind.i64.wrap (q : Int) = (q : Int)) (w : World) :
    RW Tryz.prog 36 #[.int .i64 190, .int .i64 a] w (.tuple #[.int .i64 (q : Int), .int .i64 0]) := by
  have hql : (q : Int) ≤ 4294967295 := by omega
  clear hl
  go_enter Tryz.func36, Tryz.ntmps36
  go_wp2_with (first | (go_at_call 65; refine (S.rlow_any _ _).mono ?_; rintro e w' ⟨rfl, rfl⟩; rw [hq.out]))
  go_ret2
  exact ⟨rfl, (by repeat first | exact Lz _ | apply La | apply Lv | apply Ln | apply Ld)⟩
theorem conv189 (a : Int) (q : Nat) (hq : Hid (a % 4294967296 = (q : Int))) (hl : q < 4294967296) (x : Nat) (hu : IntKind.u64.wrap a = (x : Int)) (hi : IntKind.i64.wrap (q : Int) = (q : Int)) (w : World) :
    RW Tryz.prog 36 #[.int .i64 189, .int .i64 a] w (.tuple #[.int .i64 a, .int .i64 0]) := by
  have hql : (q : Int) ≤ 4294967295 := by omega
  clear hl
  go_enter Tryz.func36, Tryz.ntmps36
  go_wp2_with (first | (go_at_call 65; refine (S.rlow_any _ _).mono ?_; rintro e w' ⟨rfl, rfl⟩; rw [hq.out]))
  go_ret2
  exact ⟨rfl, (by repeat first | exact Lz _ | apply La | apply Lv | apply Ln | apply Ld)⟩
theorem conv191 (a : Int) (q : Nat) (hq : Hid (a % 4294967296 = (q : Int))) (hl : q < 4294967296) (x : Nat) (hu : IntKind.u64.wrap a = (x : Int)) (hi : IntKind.i64.wrap (q : Int) = (q : Int)) (w : World) :
    RW Tryz.prog 36 #[.int .i64 191, .int .i64 a] w (.tuple #[.int .i64 a, .int .i64 0]) := by
  have hql : (q : Int) ≤ 4294967295 := by omega
  clear hl
  go_enter Tryz.func36, Tryz.ntmps36
  go_wp2_with (first | (go_at_call 65; refine (S.rlow_any _ _).mono ?_; rintro e w' ⟨rfl, rfl⟩; rw [hq.out]))
  go_ret2
  exact ⟨rfl, (by repeat first | exact Lz _ | apply La | apply Lv | apply Ln | apply Ld)⟩
theorem conv172 (a : Int) (q : Nat) (hq : Hid (a % 4294967296 = (q : Int))) (hl : q < 4294967296) (x : Nat) (hu : IntKind.u64.wrap a = (x : Int)) (hi : IntKind.i64.wrap (q : Int) = (q : Int)) (w : World) :
    RW Tryz.prog 36 #[.int .i64 172, .int .i64 a] w (.tuple #[.int .i64 (FM.s32 a), .int .i64 0]) := by
  have hql : (q : Int) ≤ 4294967295 := by omega
  clear hl
  go_enter Tryz.func36, Tryz.ntmps36
  go_wp2_with (first | (go_at_call 65; refine (S.rlow_any _ _).mono ?_; rintro e w' ⟨rfl, rfl⟩; rw [hq.out]) | (go_at_call 69; refine (rsign_any _ _).mono ?_; rintro e w' ⟨rfl, rfl⟩))
  go_ret2
  exact ⟨rfl, (by repeat first | exact Lz _ | apply La | apply Lv | apply Ln | apply Ld)⟩
theorem conv168 (a : Int) (q : Nat) (hq : Hid (a % 4294967296 = (q : Int))) (hl : q < 4294967296) (x : Nat) (hu : IntKind.u64.wrap a = (x : Int)) (hi : IntKind.i64.wrap (q : Int) = (q : Int)) (v E : Int) (ht : RL Tryz.prog 66 #[S.fm, .int .u64 (q : Int), .int .i64 32, .bool true] (.tuple #[.int .i64 v, .int .i64 E])) (w : World) :
    RW Tryz.prog 36 #[.int .i64 168, .int .i64 a] w (.tuple #[.int .i64 v, .int .i64 E]) := by
  have hql : (q : Int) ≤ 4294967295 := by omega
  clear hl
  go_enter Tryz.func36, Tryz.ntmps36
  go_wp2_with (first | (go_at_call 65; refine (S.rlow_any _ _).mono ?_; rintro e w' ⟨rfl, rfl⟩; rw [hq.out]) | (go_at_call 67; refine (S.single_any _).mono ?_; rintro e w' ⟨rfl, bsS, nS, rfl⟩) | (go_at_call 66; refine (ht.out _).mono ?_; rintro e w' ⟨rfl, bsT, nT, rfl⟩))
  go_ret2
  exact ⟨rfl, (by repeat first | exact Lz _ | apply La | apply Lv | apply Ln | apply Ld)⟩
theorem conv169 (a : Int) (q : Nat) (hq : Hid (a % 4294967296 = (q : Int))) (hl : q < 4294967296) (x : Nat) (hu : IntKind.u64.wrap a = (x : Int)) (hi : IntKind.i64.wrap (q : Int) = (q : Int)) (v E : Int) (ht : RL Tryz.prog 66 #[S.fm, .int .u64 (q : Int), .int .i64 32, .bool false] (.tuple #[.int .i64 v, .int .i64 E])) (w : World) :
    RW Tryz.prog 36 #[.int .i64 169, .int .i64 a] w (.tuple #[.int .i64 v, .int .i64 E]) := by
  have hql : (q : Int) ≤ 4294967295 := by omega
  clear hl
  go_enter Tryz.func36, Tryz.ntmps36
  go_wp2_with (first | (go_at_call 65; refine (S.rlow_any _ _).mono ?_; rintro e w' ⟨rfl, rfl⟩; rw [hq.out]) | (go_at_call 67; refine (S.single_any _).mono ?_; rintro e w' ⟨rfl, bsS, nS, rfl⟩) | (go_at_call 66; refine (ht.out _).mono ?_; rintro e w' ⟨rfl, bsT, nT, rfl⟩))
  go_ret2
  exact ⟨rfl, (by repeat first | exact Lz _ | apply La | apply Lv | apply Ln | apply Ld)⟩
theorem conv174 (a : Int) (q : Nat) (hq : Hid (a % 4294967296 = (q : Int))) (hl : q < 4294967296) (x : Nat) (hu : IntKind.u64.wrap a = (x : Int)) (hi : IntKind.i64.wrap (q : Int) = (q : Int)) (v E : Int) (ht : RL Tryz.prog 66 #[S.fm, .int .u64 (q : Int), .int .i64 64, .bool true] (.tuple #[.int .i64 v, .int .i64 E])) (w : World) :
    RW Tryz.prog 36 #[.int .i64 174, .int .i64 a] w (.tuple #[.int .i64 v, .int .i64 E]) := by
  have hql : (q : Int) ≤ 4294967295 := by omega
  clear hl
  go_enter Tryz.func36, Tryz.ntmps36
  go_wp2_with (first | (go_at_call 65; refine (S.rlow_any _ _).mono ?_; rintro e w' ⟨rfl, rfl⟩; rw [hq.out]) | (go_at_call 67; refine (S.single_any _).mono ?_; rintro e w' ⟨rfl, bsS, nS, rfl⟩) | (go_at_call 66; refine (ht.out _).mono ?_; rintro e w' ⟨rfl, bsT, nT, rfl⟩))
  go_ret2
  exact ⟨rfl, (by repeat first | exact Lz _ | apply La | apply Lv | apply Ln | apply Ld)⟩
theorem conv175 (a : Int) (q : Nat) (hq : Hid (a % 4294967296 = (q : Int))) (hl : q < 4294967296) (x : Nat) (hu : IntKind.u64.wrap a = (x : Int)) (hi : IntKind.i64.wrap (q : Int) = (q : Int)) (v E : Int) (ht : RL Tryz.prog 66 #[S.fm, .int .u64 (q : Int), .int .i64 64, .bool false] (.tuple #[.int .i64 v, .int .i64 E])) (w : World) :
    RW Tryz.prog 36 #[.int .i64 175, .int .i64 a] w (.tuple #[.int .i64 v, .int .i64 E]) := by
  have hql : (q : Int) ≤ 4294967295 := by omega
  clear hl
  go_enter Tryz.func36, Tryz.ntmps36
  go_wp2_with (first | (go_at_call 65; refine (S.rlow_any _ _).mono ?_; rintro e w' ⟨rfl, rfl⟩; rw [hq.out]) | (go_at_call 67; refine (S.single_any _).mono ?_; rintro e w' ⟨rfl, bsS, nS, rfl⟩) | (go_at_call 66; refine (ht.out _).mono ?_; rintro e w' ⟨rfl, bsT, nT, rfl⟩))
  go_ret2
  exact ⟨rfl, (by repeat first | exact Lz _ | apply La | apply Lv | apply Ln | apply Ld)⟩
theorem conv170 (a : Int) (q : Nat) (hq : Hid (a % 4294967296 = (q : Int))) (hl : q < 4294967296) (x : Nat) (hu : IntKind.u64.wrap a = (x : Int)) (hi : IntKind.i64.wrap (q : Int) = (q : Int)) (v E : Int) (ht : RL Tryz.prog 66 #[D.fm, .int .u64 (x : Int), .int .i64 32, .bool true] (.tuple #[.int .i64 v, .int .i64 E])) (w : World) :
    RW Tryz.prog 36 #[.int .i64 170, .int .i64 a] w (.tuple #[.int .i64 v, .int .i64 E]) := by
  have hql : (q : Int) ≤ 4294967295 := by omega
  clear hl
  go_enter Tryz.func36, Tryz.ntmps36
  go_wp2_with (first | (go_at_call 65; refine (S.rlow_any _ _).mono ?_; rintro e w' ⟨rfl, rfl⟩; rw [hq.out]) | (go_at_call 68; refine (D.single_any _).mono ?_; rintro e w' ⟨rfl, bsD, nD, rfl⟩) | (go_at_call 66; refine (ht.out _).mono ?_; rintro e w' ⟨rfl, bsT, nT, rfl⟩))
  go_ret2
  exact ⟨rfl, (by repeat first | exact Lz _ | apply La | apply Lv | apply Ln | apply Ld)⟩
theorem conv171 (a : Int) (q : Nat) (hq : Hid (a % 4294967296 = (q : Int))) (hl : q < 4294967296) (x : Nat) (hu : IntKind.u64.wrap a = (x : Int)) (hi : IntKind.i64.wrap (q : Int) = (q : Int)) (v E : Int) (ht : RL Tryz.prog 66 #[D.fm, .int .u64 (x : Int), .int .i64 32, .bool false] (.tuple #[.int .i64 v, .int .i64 E])) (w : World) :
    RW Tryz.prog 36 #[.int .i64 171, .int .i64 a] w (.tuple #[.int .i64 v, .int .i64 E]) := by
  have hql : (q : Int) ≤ 4294967295 := by omega
  clear hl
  go_enter Tryz.func36, Tryz.ntmps36
  go_wp2_with (first | (go_at_call 65; refine (S.rlow_any _ _).mono ?_; rintro e w' ⟨rfl, rfl⟩; rw [hq.out]) | (go_at_call 68; refine (D.single_any _).mono ?_; rintro e w' ⟨rfl, bsD, nD, rfl⟩) | (go_at_call 66; refine (ht.out _).mono ?_; rintro e w' ⟨rfl, bsT, nT, rfl⟩))
  go_ret2
  exact ⟨rfl, (by repeat first | exact Lz _ | apply La | apply Lv | apply Ln | apply Ld)⟩
theorem conv176 (a : Int) (q : Nat) (hq : Hid (a % 4294967296 = (q : Int))) (hl : q < 4294967296) (x : Nat) (hu : IntKind.u64.wrap a = (x : Int)) (hi : IntKind.i64.wrap (q : Int) = (q : Int)) (v E : Int) (ht : RL Tryz.prog 66 #[D.fm, .int .u64 (x : Int), .int .i64 64, .bool true] (.tuple #[.int .i64 v, .int .i64 E])) (w : World) :
    RW Tryz.prog 36 #[.int .i64 176, .int .i64 a] w (.tuple #[.int .i64 v, .int .i64 E]) := by
  have hql : (q : Int) ≤ 4294967295 := by omega
  clear hl
  go_enter Tryz.func36, Tryz.ntmps36
  go_wp2_with (first | (go_at_call 65; refine (S.rlow_any _ _).mono ?_; rintro e w' ⟨rfl, rfl⟩; rw [hq.out]) | (go_at_call 68; refine (D.single_any _).mono ?_; rintro e w' ⟨rfl, bsD, nD, rfl⟩) | (go_at_call 66; refine (ht.out _).mono ?_; rintro e w' ⟨rfl, bsT, nT, rfl⟩))
  go_ret2
  exact ⟨rfl, (by repeat first | exact Lz _ | apply La | apply Lv | apply Ln | apply Ld)⟩
theorem conv177 (a : Int) (q : Nat) (hq : Hid (a % 4294967296 = (q : Int))) (hl : q < 4294967296) (x : Nat) (hu : IntKind.u64.wrap a = (x : Int)) (hi : IntKind.i64.wrap (q : Int) = (q : Int)) (v E : Int) (ht : RL Tryz.prog 66 #[D.fm, .int .u64 (x : Int), .int .i64 64, .bool false] (.tuple #[.int .i64 v, .int .i64 E])) (w : World) :
    RW Tryz.prog 36 #[.int .i64 177, .int .i64 a] w (.tuple #[.int .i64 v, .int .i64 E]) := by
  have hql : (q : Int) ≤ 4294967295 := by omega
  clear hl
  go_enter Tryz.func36, Tryz.ntmps36
  go_wp2_with (first | (go_at_call 65; refine (S.rlow_any _ _).mono ?_; rintro e w' ⟨rfl, rfl⟩; rw [hq.out]) | (go_at_call 68; refine (D.single_any _).mono ?_; rintro e w' ⟨rfl, bsD, nD, rfl⟩) | (go_at_call 66; refine (ht.out _).mono ?_; rintro e w' ⟨rfl, bsT, nT, rfl⟩))
  go_ret2
  exact ⟨rfl, (by repeat first | exact Lz _ | apply La | apply Lv | apply Ln | apply Ld)⟩
theorem conv178 (a : Int) (q : Nat) (hq : Hid (a % 4294967296 = (q : Int))) (hl : q < 4294967296) (x : Nat) (hu : IntKind.u64.wrap a = (x : Int)) (hi : IntKind.i64.wrap (q : Int) = (q : Int)) (v : Int) (ht : RL Tryz.prog 70 #[S.fm, .int .i64 (FM.s32 a), .bool true] (.int .i64 v)) (w : World) :
    RW Tryz.prog 36 #[.int .i64 178, .int .i64 a] w (.tuple #[.int .i64 v, .int .i64 0]) := by
  have hql : (q : Int) ≤ 4294967295 := by omega
  clear hl
  go_enter Tryz.func36, Tryz.ntmps36
  go_wp2_with (first | (go_at_call 65; refine (S.rlow_any _ _).mono ?_; rintro e w' ⟨rfl, rfl⟩; rw [hq.out]) | (go_at_call 67; refine (S.single_any _).mono ?_; rintro e w' ⟨rfl, bsS, nS, rfl⟩) | (go_at_call 69; refine (rsign_any _ _).mono ?_; rintro e w' ⟨rfl, rfl⟩) | (go_at_call 70; refine (ht.out _).mono ?_; rintro e w' ⟨rfl, bsT, nT, rfl⟩))
  go_ret2
  exact ⟨rfl, (by repeat first | exact Lz _ | apply La | apply Lv | apply Ln | apply Ld)⟩
theorem conv179 (a : Int) (q : Nat) (hq : Hid (a % 4294967296 = (q : Int))) (hl : q < 4294967296) (x : Nat) (hu : IntKind.u64.wrap a = (x : Int)) (hi : IntKind.i64.wrap (q : Int) = (q : Int)) (v : Int) (ht : RL Tryz.prog 70 #[S.fm, .int .i64 (q : Int), .bool false] (.int .i64 v)) (w : World) :
    RW Tryz.prog 36 #[.int .i64 179, .int .i64 a] w (.tuple #[.int .i64 v, .int .i64 0]) := by
  have hql : (q : Int) ≤ 4294967295 := by omega
  clear hl
  go_enter Tryz.func36, Tryz.ntmps36
  go_wp2_with (first | (go_at_call 65; refine (S.rlow_any _ _).mono ?_; rintro e w' ⟨rfl, rfl⟩; rw [hq.out]) | (go_at_call 67; refine (S.single_any _).mono ?_; rintro e w' ⟨rfl, bsS, nS, rfl⟩) | (go_at_call 70; refine (ht.out _).mono ?_; rintro e w' ⟨rfl, bsT, nT, rfl⟩))
  go_ret2
  exact ⟨rfl, (by repeat first | exact Lz _ | apply La | apply Lv | apply Ln | apply Ld)⟩
theorem conv180 (a : Int) (q : Nat) (hq : Hid (a % 4294967296 = (q : Int))) (hl : q < 4294967296) (x : Nat) (hu : IntKind.u64.wrap a = (x : Int)) (hi : IntKind.i64.wrap (q : Int) = (q : Int)) (v : Int) (ht : RL Tryz.prog 70 #[S.fm, .int .i64 a, .bool true] (.int .i64 v)) (w : World) :
    RW Tryz.prog 36 #[.int .i64 180, .int .i64 a] w (.tuple #[.int .i64 v, .int .i64 0]) := by
  have hql : (q : Int) ≤ 4294967295 := by omega
  clear hl
  go_enter Tryz.func36, Tryz.ntmps36
  go_wp2_with (first | (go_at_call 65; refine (S.rlow_any _ _).mono ?_; rintro e w' ⟨rfl, rfl⟩; rw [hq.out]) | (go_at_call 67; refine (S.single_any _).mono ?_; rintro e w' ⟨rfl, bsS, nS, rfl⟩) | (go_at_call 70; refine (ht.out _).mono ?_; rintro e w' ⟨rfl, bsT, nT, rfl⟩))
  go_ret2
  exact ⟨rfl, (by repeat first | exact Lz _ | apply La | apply Lv | apply Ln | apply Ld)⟩
theorem conv181 (a : Int) (q : Nat) (hq : Hid (a % 4294967296 = (q : Int))) (hl : q < 4294967296) (x : Nat) (hu : IntKind.u64.wrap a = (x : Int)) (hi : IntKind.i64.wrap (q : Int) = (q : Int)) (v : Int) (ht : RL Tryz.prog 70 #[S.fm, .int .i64 a, .bool false] (.int .i64 v)) (w : World) :
    RW Tryz.prog 36 #[.int .i64 181, .int .i64 a] w (.tuple #[.int .i64 v, .int .i64 0]) := by
  have hql : (q : Int) ≤ 4294967295 := by omega
  clear hl
  go_enter Tryz.func36, Tryz.ntmps36
  go_wp2_with (first | (go_at_call 65; refine (S.rlow_any _ _).mono ?_; rintro e w' ⟨rfl, rfl⟩; rw [hq.out]) | (go_at_call 67; refine (S.single_any _).mono ?_; rintro e w' ⟨rfl, bsS, nS, rfl⟩) | (go_at_call 70; refine (ht.out _).mono ?_; rintro e w' ⟨rfl, bsT, nT, rfl⟩))
  go_ret2
  exact ⟨rfl, (by repeat first | exact Lz _ | apply La | apply Lv | apply Ln | apply Ld)⟩
theorem conv183 (a : Int) (q : Nat) (hq : Hid (a % 4294967296 = (q : Int))) (hl : q < 4294967296) (x : Nat) (hu : IntKind.u64.wrap a = (x : Int)) (hi : IntKind.i64.wrap (q : Int) = (q : Int)) (v : Int) (ht : RL Tryz.prog 70 #[D.fm, .int .i64 (FM.s32 a), .bool true] (.int .i64 v)) (w : World) :
    RW Tryz.prog 36 #[.int .i64 183, .int .i64 a] w (.tuple #[.int .i64 v, .int .i64 0]) := by
  have hql : (q : Int) ≤ 4294967295 := by omega
  clear hl
  go_enter Tryz.func36, Tryz.ntmps36
  go_wp2_with (first | (go_at_call 65; refine (S.rlow_any _ _).mono ?_; rintro e w' ⟨rfl, rfl⟩; rw [hq.out]) | (go_at_call 68; refine (D.single_any _).mono ?_; rintro e w' ⟨rfl, bsD, nD, rfl⟩) | (go_at_call 69; refine (rsign_any _ _).mono ?_; rintro e w' ⟨rfl, rfl⟩) | (go_at_call 70; refine (ht.out _).mono ?_; rintro e w' ⟨rfl, bsT, nT, rfl⟩))
  go_ret2
  exact ⟨rfl, (by repeat first | exact Lz _ | apply La | apply Lv | apply Ln | apply Ld)⟩
theorem conv184 (a : Int) (q : Nat) (hq : Hid (a % 4294967296 = (q : Int))) (hl : q < 4294967296) (x : Nat) (hu : IntKind.u64.wrap a = (x : Int)) (hi : IntKind.i64.wrap (q : Int) = (q : Int)) (v : Int) (ht : RL Tryz.prog 70 #[D.fm, .int .i64 (q : Int), .bool false] (.int .i64 v)) (w : World) :
    RW Tryz.prog 36 #[.int .i64 184, .int .i64 a] w (.tuple #[.int .i64 v, .int .i64 0]) := by
  have hql : (q : Int) ≤ 4294967295 := by omega
  clear hl
  go_enter Tryz.func36, Tryz.ntmps36
  go_wp2_with (first | (go_at_call 65; refine (S.rlow_any _ _).mono ?_; rintro e w' ⟨rfl, rfl⟩; rw [hq.out]) | (go_at_call 68; refine (D.single_any _).mono ?_; rintro e w' ⟨rfl, bsD, nD, rfl⟩) | (go_at_call 70; refine (ht.out _).mono ?_; rintro e w' ⟨rfl, bsT, nT, rfl⟩))
  go_ret2
  exact ⟨rfl, (by repeat first | exact Lz _ | apply La | apply Lv | apply Ln | apply Ld)⟩
theorem conv185 (a : Int) (q : Nat) (hq : Hid (a % 4294967296 = (q : Int))) (hl : q < 4294967296) (x : Nat) (hu : IntKind.u64.wrap a = (x : Int)) (hi : IntKind.i64.wrap (q : Int) = (q : Int)) (v : Int) (ht : RL Tryz.prog 70 #[D.fm, .int .i64 a, .bool true] (.int .i64 v)) (w : World) :
    RW Tryz.prog 36 #[.int .i64 185, .int .i64 a] w (.tuple #[.int .i64 v, .int .i64 0]) := by
  have hql : (q : Int) ≤ 4294967295 := by omega
  clear hl
  go_enter Tryz.func36, Tryz.ntmps36
  go_wp2_with (first | (go_at_call 65; refine (S.rlow_any _ _).mono ?_; rintro e w' ⟨rfl, rfl⟩; rw [hq.out]) | (go_at_call 68; refine (D.single_any _).mono ?_; rintro e w' ⟨rfl, bsD, nD, rfl⟩) | (go_at_call 70; refine (ht.out _).mono ?_; rintro e w' ⟨rfl, bsT, nT, rfl⟩))
  go_ret2
  exact ⟨rfl, (by repeat first | exact Lz _ | apply La | apply Lv | apply Ln | apply Ld)⟩
theorem conv186 (a : Int) (q : Nat) (hq : Hid (a % 4294967296 = (q : Int))) (hl : q < 4294967296) (x : Nat) (hu : IntKind.u64.wrap a = (x : Int)) (hi : IntKind.i64.wrap (q : Int) = (q : Int)) (v : Int) (ht : RL Tryz.prog 70 #[D.fm, .int .i64 a, .bool false] (.int .i64 v)) (w : World) :
    RW Tryz.prog 36 #[.int .i64 186, .int .i64 a] w (.tuple #[.int .i64 v, .int .i64 0]) := by
  have hql : (q : Int) ≤ 4294967295 := by omega
  clear hl
  go_enter Tryz.func36, Tryz.ntmps36
  go_wp2_with (first | (go_at_call 65; refine (S.rlow_any _ _).mono ?_; rintro e w' ⟨rfl, rfl⟩; rw [hq.out]) | (go_at_call 68; refine (D.single_any _).mono ?_; rintro e w' ⟨rfl, bsD, nD, rfl⟩) | (go_at_call 70; refine (ht.out _).mono ?_; rintro e w' ⟨rfl, bsT, nT, rfl⟩))
  go_ret2
  exact ⟨rfl, (by repeat first | exact Lz _ | apply La | apply Lv | apply Ln | apply Ld)⟩
theorem conv182 (a : Int) (q : Nat) (hq : Hid (a % 4294967296 = (q : Int))) (hl : q < 4294967296) (x : Nat) (hu : IntKind.u64.wrap a = (x : Int)) (hi : IntKind.i64.wrap (q : Int) = (q : Int)) (v : Int) (ht : RL Tryz.prog 71 #[D.fm, S.fm, .int .u64 (x : Int)] (.int .i64 v)) (w : World) :
    RW Tryz.prog 36 #[.int .i64 182, .int .i64 a] w (.tuple #[.int .i64 v, .int .i64 0]) := by
  have hql : (q : Int) ≤ 4294967295 := by omega
  clear hl
  go_enter Tryz.func36, Tryz.ntmps36
  go_wp2_with (first | (go_at_call 65; refine (S.rlow_any _ _).mono ?_; rintro e w' ⟨rfl, rfl⟩; rw [hq.out]) | (go_at_call 67; refine (S.single_any _).mono ?_; rintro e w' ⟨rfl, bsS, nS, rfl⟩) | (go_at_call 68; refine (D.single_any _).mono ?_; rintro e w' ⟨rfl, bsD, nD, rfl⟩) | (go_at_call 71; refine (ht.out _).mono ?_; rintro e w' ⟨rfl, bsT, nT, rfl⟩))
  go_ret2
  exact ⟨rfl, (by repeat first | exact Lz _ | apply La | apply Lv | apply Ln | apply Ld)⟩
theorem conv187 (a : Int) (q : Nat) (hq : Hid (a % 4294967296 = (q : Int))) (hl : q < 4294967296) (x : Nat) (hu : IntKind.u64.wrap a = (x : Int)) (hi : IntKind.i64.wrap (q : Int) = (q : Int)) (v : Int) (ht : RL Tryz.prog 71 #[S.fm, D.fm, .int .u64 (q : Int)] (.int .i64 v)) (w : World) :
    RW Tryz.prog 36 #[.int .i64 187, .int .i64 a] w (.tuple #[.int .i64 v, .int .i64 0]) := by
  have hql : (q : Int) ≤ 4294967295 := by omega
  clear hl
  go_enter Tryz.func36, Tryz.ntmps36
  go_wp2_with (first | (go_at_call 65; refine (S.rlow_any _ _).mono ?_; rintro e w' ⟨rfl, rfl⟩; rw [hq.out]) | (go_at_call 67; refine (S.single_any _).mono ?_; rintro e w' ⟨rfl, bsS, nS, rfl⟩) | (go_at_call 68; refine (D.single_any _).mono ?_; rintro e w' ⟨rfl, bsD, nD, rfl⟩) | (go_at_call 71; refine (ht.out _).mono ?_; rintro e w' ⟨rfl, bsT, nT, rfl⟩))
  go_ret2
  exact ⟨rfl, (by repeat first | exact Lz _ | apply La | apply Lv | apply Ln | apply Ld)⟩
theorem conv_bad (op : Int) (a : Int) (q : Nat) (hq : Hid (a % 4294967296 = (q : Int))) (hl : q < 4294967296) (x : Nat) (hu : IntKind.u64.wrap a = (x : Int)) (hi : IntKind.i64.wrap (q : Int) = (q : Int)) (h : op < 167 ∨ 191 < op) (w : World) :
    RW Tryz.prog 36 #[.int .i64 op, .int .i64 a] w (.tuple #[.int .i64 0, .int .i64 600]) := by
  have h167 : ¬ op = 167 := by omega
  have h168 : ¬ op = 168 := by omega
  have h169 : ¬ op = 169 := by omega
  have h170 : ¬ op = 170 := by omega
  have h171 : ¬ op = 171 := by omega
  have h172 : ¬ op = 172 := by omega
  have h173 : ¬ op = 173 := by omega
  have h174 : ¬ op = 174 := by omega
  have h175 : ¬ op = 175 := by omega
  have h176 : ¬ op = 176 := by omega
  have h177 : ¬ op = 177 := by omega
  have h178 : ¬ op = 178 := by omega
  have h179 : ¬ op = 179 := by omega
  have h180 : ¬ op = 180 := by omega
  have h181 : ¬ op = 181 := by omega
  have h182 : ¬ op = 182 := by omega
  have h183 : ¬ op = 183 := by omega
  have h184 : ¬ op = 184 := by omega
  have h185 : ¬ op = 185 := by omega
  have h186 : ¬ op = 186 := by omega
  have h187 : ¬ op = 187 := by omega
  have h188 : ¬ op = 188 := by omega
  have h189 : ¬ op = 189 := by omega
  have h190 : ¬ op = 190 := by omega
  have h191 : ¬ op = 191 := by omega
  have hql : (q : Int) ≤ 4294967295 := by omega
  clear hl h
  go_enter Tryz.func36, Tryz.ntmps36
  go_wp2_with (go_at_call 65; refine (S.rlow_any _ _).mono ?_; rintro e w' ⟨rfl, rfl⟩; rw [hq.out])
  go_ret2
  exact ⟨rfl, (by repeat first | exact Lz _ | apply La | apply Lv | apply Ln | apply Ld)⟩
theorem conv_any (op a : Int) (h0 : -9223372036854775808 ≤ a) (h1 : a ≤ 9223372036854775807) (w : World) :
    RW Tryz.prog 36 #[.int .i64 op, .int .i64 a] w (.tuple #[.int .i64 (ofI op a).1, .int .i64 (ofI op a).2]) := by
  obtain ⟨q, q1, q2, q3⟩ : ∃ q : Nat, a % 4294967296 = (q : Int) ∧ q < 4294967296 ∧ (a % 4294967296).toNat = q := ⟨(a % 4294967296).toNat, by omega, by omega, rfl⟩
  obtain ⟨x, x1, x2, x3⟩ : ∃ x : Nat, a % 18446744073709551616 = (x : Int) ∧ x < 18446744073709551616 ∧ (a % 18446744073709551616).toNat = x := ⟨(a % 18446744073709551616).toNat, by omega, by omega, rfl⟩
  have hu : IntKind.u64.wrap a = (x : Int) := by rw [IntKind.wrap_u64]; exact x1
  have hi : IntKind.i64.wrap (q : Int) = (q : Int) := by rw [IntKind.wrap_i64]; omega
  have s0 : -9223372036854775808 ≤ FM.s32 a ∧ FM.s32 a ≤ 9223372036854775807 := by unfold FM.s32; omega
  by_cases hb : op < 167 ∨ 191 < op
  · rw [FM.of_bad op a hb]; exact conv_bad op a q q1 q2 x hu hi hb w
  have hc : op = 167 ∨ op = 168 ∨ op = 169 ∨ op = 170 ∨ op = 171 ∨ op = 172 ∨ op = 173 ∨ op = 174 ∨ op = 175 ∨ op = 176 ∨ op = 177 ∨ op = 178 ∨ op = 179 ∨ op = 180 ∨ op = 181 ∨ op = 182 ∨ op = 183 ∨ op = 184 ∨ op = 185 ∨ op = 186 ∨ op = 187 ∨ op = 188 ∨ op = 189 ∨ op = 190 ∨ op = 191 := by omega
  clear hb
  rcases hc with rfl | rfl | rfl | rfl | rfl | rfl | rfl | rfl | rfl | rfl | rfl | rfl | rfl | rfl | rfl | rfl | rfl | rfl | rfl | rfl | rfl | rfl | rfl | rfl | rfl
  · rw [FM.of_167, q1]; exact conv167 a q q1 q2 x hu hi w
  · rw [FM.of_168, q3]; exact conv168 a q q1 q2 x hu hi _ _ (fun w => S.trunc_any q 32 true q2 (by decide) w) w
  · rw [FM.of_169, q3]; exact conv169 a q q1 q2 x hu hi _ _ (fun w => S.trunc_any q 32 false q2 (by decide) w) w
  · rw [FM.of_170, x3]; exact conv170 a q q1 q2 x hu hi _ _ (fun w => D.trunc_any x 32 true x2 (by decide) w) w
  · rw [FM.of_171, x3]; exact conv171 a q q1 q2 x hu hi _ _ (fun w => D.trunc_any x 32 false x2 (by decide) w) w
  · rw [FM.of_172]; exact conv172 a q q1 q2 x hu hi w
  · rw [FM.of_173, q1]; exact conv173 a q q1 q2 x hu hi w
  · rw [FM.of_174, q3]; exact conv174 a q q1 q2 x hu hi _ _ (fun w => S.trunc_any q 64 true q2 (by decide) w) w
  · rw [FM.of_175, q3]; exact conv175 a q q1 q2 x hu hi _ _ (fun w => S.trunc_any q 64 false q2 (by decide) w) w
  · rw [FM.of_176, x3]; exact conv176 a q q1 q2 x hu hi _ _ (fun w => D.trunc_any x 64 true x2 (by decide) w) w
  · rw [FM.of_177, x3]; exact conv177 a q q1 q2 x hu hi _ _ (fun w => D.trunc_any x 64 false x2 (by decide) w) w
  · rw [FM.of_178]; exact conv178 a q q1 q2 x hu hi _ (fun w => S.from_s (FM.s32 a) s0.1 s0.2 w) w
  · rw [FM.of_179, q1]; exact conv179 a q q1 q2 x hu hi _ (fun w => S.from_u (q : Int) q (by omega) w) w
  · rw [FM.of_180]; exact conv180 a q q1 q2 x hu hi _ (fun w => S.from_s a h0 h1 w) w
  · rw [FM.of_181, x1]; exact conv181 a q q1 q2 x hu hi _ (fun w => S.from_u a x x1 w) w
  · rw [FM.of_182, x3]; exact conv182 a q q1 q2 x hu hi _ (fun w => narrow_any x x2 w) w
  · rw [FM.of_183]; exact conv183 a q q1 q2 x hu hi _ (fun w => D.from_s (FM.s32 a) s0.1 s0.2 w) w
  · rw [FM.of_184, q1]; exact conv184 a q q1 q2 x hu hi _ (fun w => D.from_u (q : Int) q (by omega) w) w
  · rw [FM.of_185]; exact conv185 a q q1 q2 x hu hi _ (fun w => D.from_s a h0 h1 w) w
  · rw [FM.of_186, x1]; exact conv186 a q q1 q2 x hu hi _ (fun w => D.from_u a x x1 w) w
  · rw [FM.of_187, q3]; exact conv187 a q q1 q2 x hu hi _ (fun w => longer_any q q2 w) w
  · rw [FM.of_188, q1]; exact conv188 a q q1 q2 x hu hi w
  · rw [FM.of_189]; exact conv189 a q q1 q2 x hu hi w
  · rw [FM.of_190, q1]; exact conv190 a q q1 q2 x hu hi w
  · rw [FM.of_191]; exact conv191 a q q1 q2 x hu hi w
end Go.Proofs.YtdfgcagbpndabaaGreatDoor.X
