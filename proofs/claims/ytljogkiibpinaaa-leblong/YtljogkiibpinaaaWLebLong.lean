/- 'LebLong' of package peloruslaw12 returns true at every two ints: each number has longer forms up to its bound, which are read alike. No condition. -/
import Derived.Test.YtljogkiibpinaaaLW
import Derived.Test.YtljogkiibpinaaaLY
import Derived.LoopTactic
import Derived.OpenShut
import Derived.ChangeMaps5
import Derived.ShutString
import Derived.SizedLaws
set_option linter.unusedVariables false
set_option linter.unusedSimpArgs false
set_option maxRecDepth 100000
set_option maxHeartbeats 8000000
namespace Go.Proofs.Ytljogkiibpinaaa.lebLong
open Go.ChangeShapes Go.WideShapes Go.ChangeAt Go.RowKit
theorem wrap_small (z : Int) (h : 0 ≤ z) (h2 : z ≤ 9223372036854775807) : wrap64 z = z := by
  unfold wrap64
  omega
theorem at_y (x : Int) : ∃ y : Int, bits .and .i64 x 2147483647 = y ∧ 0 ≤ y ∧ y < 2147483648 := ⟨x % 2147483648, by rw [show (2147483647 : Int) = ((2 ^ 31 : Nat) - 1 : Int) by decide, BM.and_mask x 31 (by decide)]; omega, by omega, by omega⟩
theorem at_m (x : Int) : ∃ m : Nat, bits .and .i64 x 3 = (m : Int) ∧ m < 4 := ⟨(x % 4).toNat, by rw [show (3 : Int) = ((2 ^ 2 : Nat) - 1 : Int) by decide, BM.and_mask x 2 (by decide)]; omega, by omega⟩
theorem leb_la (y : Int) (hy : 0 ≤ y ∧ y < 2147483648) : (lebL y).length = 5 → la (lebL y) < 16 := by
  rw [leb32 y (by omega)]
  intro h
  exact (lebF_la 4 y 16 hy.1 (by omega) h).2
/-- a form of y in a row: read without sign, with sign -/
def Un (y : Int) (e : List Int) : Prop := Fm y e ∧ e.length ≤ 5 ∧ (e.length = 5 → la e < 16)
def Sn (y : Int) (e : List Int) : Prop := Fm y e ∧ e.length ≤ 5 ∧ la e < 64 ∧ (e.length = 5 → la e < 8)
theorem Un.pd {y : Int} {e : List Int} (h : Un y e) (hl : e.length < 5) : Un y (pd e) := by
  obtain ⟨h1, h2, _⟩ := fm_pd h.1
  exact ⟨h1, by rw [pd_len]; omega, fun _ => by rw [h2]; decide⟩
theorem Sn.pd {y : Int} {e : List Int} (h : Sn y e) (hl : e.length < 5) : Sn y (pd e) := by
  obtain ⟨h1, h2, _⟩ := fm_pd h.1
  exact ⟨h1, by rw [pd_len]; omega, by rw [h2]; decide, fun _ => by rw [h2]; decide⟩
/-- one round: the last part's 128 set, a nought appended: what stands then -/
theorem step {wr : World} {B g cap : Nat} {e : List Int} {y : Int} (hW : Bw wr B g cap e) (hF : Fm y e) (hB : B ≤ wr.heap.size) (hg : g < wr.heap.size) (he : e.length < 5) : ∃ (L g3 cap3 : Nat) (w3 : World), e.length = L + 1 ∧
    wr.cell? ⟨g, L, none⟩ = some (.int .u8 (la e)) ∧ wr.frozen? ⟨g, L, none⟩ = false ∧ Hid (bits .or .u8 (la e) 128 = la e + 128) ∧
    Hid ((Builtin.append_ #[31, 31] 31 #[.slice (some ⟨g, 0, none⟩) (L + 1) cap, .slice (some ⟨wr.heap.size, 0, none⟩) 1 1]).run Try.prog ((wr.setCell ⟨g, L, none⟩ (.int .u8 (la e + 128))).alloc (.cells #[.int .u8 0] 5)) = .ok (.slice (some ⟨g3, 0, none⟩) (L + 1 + 1) cap3) w3) ∧
    Below B wr w3 ∧ Bw w3 B g3 cap3 (pd e) ∧ g3 < w3.heap.size ∧ (g3 = g ∨ wr.heap.size ≤ g3) ∧ ∀ k, k < wr.heap.size → k ≠ g → w3.heap[k]? = wr.heap[k]? := by
  obtain ⟨hi, hla, hla0, hla1⟩ := fm_last hF
  obtain ⟨c0, f0, _⟩ := hW.at_ hi
  rw [hla] at c0
  obtain ⟨W2, B2⟩ := hW.set (e.length - 1) hi (la e + 128)
  have hsz : ∀ L, (wr.setCell ⟨g, L, none⟩ (.int .u8 (la e + 128))).heap.size = wr.heap.size := fun L => setCells_size g [.int .u8 (la e + 128)] L wr
  have hls : (e.set (e.length - 1) (la e + 128)).length = e.length := List.length_set
  obtain ⟨g3, cap3, w3, r3, B3, W3, hg3, hg4, hk⟩ := W2.more (by rw [hsz]; exact hB) 0 (by omega) (by rw [hsz]; exact hg)
  obtain ⟨L, hLe⟩ : ∃ L, e.length = L + 1 := ⟨e.length - 1, by omega⟩
  rw [hls, hLe, Nat.add_sub_cancel, hsz] at r3
  rw [hLe, Nat.add_sub_cancel] at c0 f0
  refine ⟨L, g3, cap3, w3, hLe, c0, f0, or_128b (la e) ⟨hla0, hla1⟩, r3, B2.trans B3, W3, hg3, ?_, fun k h1 h2 => ?_⟩
  · rw [hsz] at hg4
    exact hg4
  · rw [hk k (by rw [hsz]; exact h1) h2]
    exact setCells_other g k h2 [.int .u8 (la e + 128)] (e.length - 1) wr
theorem core (x pad : Int) (w : World) :
    Calls Try.prog 8 #[.int .i64 x, .int .i64 pad] w fun e w' => e = .returned (.bool true) ∧ Below w.heap.size w w' := by
  obtain ⟨y, hy, hy1⟩ := at_y x
  obtain ⟨m, hm, hm2⟩ := at_m pad
  have h1 : Hid (∀ w : World, Calls Try.prog 13 #[.int .i64 y] w fun e w' => e = .returned (.string (strOfNums (lebL y))) ∧ Later w w') := fun w => put_any y (by omega) w
  have h2 : Hid (∀ w : World, Calls Try.prog 15 #[.int .i64 y] w fun e w' => e = .returned (.string (strOfNums (slebL y))) ∧ Later w w') := fun w => puts_any y (by omega) w
  have U0 : Hid (Un y (lebL y)) := ⟨(fm_leb y (by omega)).1, (fm_leb y (by omega)).2, leb_la y hy1⟩
  have S0 : Hid (Sn y (slebL y)) := fm_sleb y hy1
  replace hy1 : Hid (0 ≤ y ∧ y < 2147483648) := hy1
  go_enter Try.func8, Try.ntmps8
  go_wp2_with fail
  refine (awake_any _).mono ?_
  rintro e v1 ⟨rfl, l1⟩
  go_wp2_with fail
  refine (h1.out _).mono ?_
  rintro e v2 ⟨rfl, l2⟩
  go_wp2_with fail
  refine (h2.out _).mono ?_
  rintro e v3 ⟨rfl, l3⟩
  have L3 : Later w v3 := (l1.trans l2).trans l3
  obtain ⟨c4, v4, hcv4, B4, W4, z4⟩ := bw_conv w.heap.size (lebL y) (lebL_byte y) v3 L3.size
  obtain ⟨c5, v5, hcv5, B5, W5, z5⟩ := bw_conv w.heap.size (slebL y) (slebF_byte 9 y) v4 (Nat.le_trans L3.size B4.size)
  have B5b : ∀ k, k < v4.heap.size → v5.heap[k]? = v4.heap[k]? := by
    obtain ⟨c6, v6, hcv6, B6, _, _⟩ := bw_conv v4.heap.size (slebL y) (slebF_byte 9 y) v4 (Nat.le_refl _)
    rw [hcv6] at hcv5
    injection hcv5 with _ e6
    rw [← e6]
    exact B6.block
  have BL5 : Hid (Below w.heap.size w v5) := ((below_later L3 (Nat.le_refl _)).trans B4).trans B5
  have WU : Hid (Bw v5 w.heap.size v3.heap.size c4 (lebL y)) := W4.keep (B5b v3.heap.size (by omega))
  have hmm : Hid (m < 4) := hm2
  have hz5 : Hid (v4.heap.size < v5.heap.size ∧ v3.heap.size < v5.heap.size ∧ v3.heap.size ≠ v4.heap.size) := ⟨by omega, by omega, by omega⟩
  replace W5 : Hid (Bw v5 w.heap.size v4.heap.size c5 (slebL y)) := W5
  clear B5b l1 l2 l3 L3 B4 B5 W4 h1 h2 z4 z5
  go_wp2_with fail
  clear hy hm
  go_loopw [9, 11] (fun v i wr => ∃ (j g cap : Nat) (e : List Int), j ≤ 1 + m ∧ i = .int .i64 (j : Nat) ∧ v = .slice (some ⟨g, 0, none⟩) e.length cap ∧ Un y e ∧ Below w.heap.size w wr ∧ Bw wr w.heap.size g cap e ∧ g < wr.heap.size ∧ v4.heap.size ≠ g ∧ v4.heap.size < wr.heap.size ∧ Bw wr w.heap.size v4.heap.size c5 (slebL y)) (fun v i _ => 1 + m - (intOf i).toNat)
  case atStart => exact ⟨0, _, _, lebL y, by omega, rfl, rfl, U0.out, BL5.out, WU.out, hz5.out.2.1, Ne.symm hz5.out.2.2, hz5.out.1, W5.out⟩
  case round =>
    clear BL5 WU W5 U0 hz5 hcv4 hcv5
    obtain ⟨j, g, cap, e, hj, rfl, rfl, hU, hB, hW, hg, hne, hgo, hO⟩ := hrel
    by_cases hlt : j < 1 + m ∧ e.length < 5
    · obtain ⟨L, g3, cap3, w3, hLe, c0, f0, hor', r3, B3, W3, hg3, hg4, hk⟩ := step hW hU.1 hB.size hg hlt.2
      have hfin : Hid (∃ (j' g' cap' : Nat) (e' : List Int), j' ≤ 1 + m ∧ Value.int .i64 ((j + 1 : Nat) : Int) = .int .i64 (j' : Nat) ∧ Value.slice (some ⟨g3, 0, none⟩) (L + 1 + 1) cap3 = .slice (some ⟨g', 0, none⟩) e'.length cap' ∧ Un y e' ∧ Below w.heap.size w w3 ∧ Bw w3 w.heap.size g' cap' e' ∧ g' < w3.heap.size ∧ v4.heap.size ≠ g' ∧ v4.heap.size < w3.heap.size ∧ Bw w3 w.heap.size v4.heap.size c5 (slebL y)) := ⟨j + 1, g3, cap3, pd e, by omega, rfl, by rw [pd_len, hLe], hU.pd hlt.2, hB.trans B3, W3, hg3, by omega, Nat.lt_of_lt_of_le hgo B3.size, hO.keep (hk _ hgo hne)⟩
      have hl1 : (j : Int) < 1 + (m : Int) := by omega
      have hl2 : (L : Int) + 1 < 5 := by omega
      have hwL : wrap64 (L : Int) = (L : Int) := wrap_small _ (by omega) (by omega)
      have hms : Hid (1 + m - (j + 1) < 1 + m - j) := (show 1 + m - (j + 1) < 1 + m - j by omega)
      rw [hLe]
      have hor := hor'.out
      clear hU hB hW hne hO B3 W3 hg3 hg4 hk hor' hLe hlt hj hgo
      go_wp2_with (at_builtin; refine wpList_app rfl _ _ 31 rfl _ _ _ rfl rfl r3.out ?_)
      go_roundw
      case rel =>
        obtain ⟨j', g', cap', e', a1, a2, a3, a4⟩ := hfin.out
        exact ⟨j', g', cap', e', a1, by rw [← a2]; go_num, a3, a4⟩
      case measure => simp [intOf]; exact hms.out
    · have hl1 : ¬ ((j : Int) < 1 + (m : Int)) ∨ ((j : Int) < 1 + (m : Int) ∧ ¬ ((e.length : Int) < 5)) := by omega
      clear hlt
      replace hU : Hid (Un y e) := hU
      replace hB : Hid (Below w.heap.size w wr) := hB
      replace hW : Hid (Bw wr w.heap.size g cap e) := hW
      replace hO : Hid (Bw wr w.heap.size v4.heap.size c5 (slebL y)) := hO
      have hq : Hid (g < wr.heap.size ∧ v4.heap.size ≠ g ∧ v4.heap.size < wr.heap.size) := ⟨hg, hne, hgo⟩
      clear hg hne hgo hj
      rcases hl1 with hl1 | ⟨hl1, hl2⟩
      all_goals
        go_wp2_with fail
        obtain ⟨gu, cu, eu, hgu⟩ : ∃ gu cu eu, gu = g ∧ cu = cap ∧ eu = e := ⟨_, _, _, rfl, rfl, rfl⟩
        obtain ⟨rfl, rfl, rfl⟩ := hgu
        have hU0 := hU
        clear hU
        go_loopw [10, 12] (fun v i wr => ∃ (j g cap : Nat) (e : List Int), j ≤ 1 + m ∧ i = .int .i64 (j : Nat) ∧ v = .slice (some ⟨g, 0, none⟩) e.length cap ∧ Sn y e ∧ Below w.heap.size w wr ∧ Bw wr w.heap.size g cap e ∧ g < wr.heap.size ∧ gu ≠ g ∧ gu < wr.heap.size ∧ Bw wr w.heap.size gu cu eu) (fun v i _ => 1 + m - (intOf i).toNat)
        case atStart => exact ⟨0, _, _, slebL y, by omega, rfl, rfl, S0.out, hB.out, hO.out, hq.out.2.2, Ne.symm hq.out.2.1, hq.out.1, hW.out⟩
        case round =>
          clear S0
          obtain ⟨j, g, cap, e, hj, rfl, rfl, hU, hB, hW, hg, hne, hgo, hO⟩ := hrel
          by_cases hlt : j < 1 + m ∧ e.length < 5
          · obtain ⟨L, g3, cap3, w3, hLe, c0, f0, hor', r3, B3, W3, hg3, hg4, hk⟩ := step hW hU.1 hB.size hg hlt.2
            have hfin : Hid (∃ (j' g' cap' : Nat) (e' : List Int), j' ≤ 1 + m ∧ Value.int .i64 ((j + 1 : Nat) : Int) = .int .i64 (j' : Nat) ∧ Value.slice (some ⟨g3, 0, none⟩) (L + 1 + 1) cap3 = .slice (some ⟨g', 0, none⟩) e'.length cap' ∧ Sn y e' ∧ Below w.heap.size w w3 ∧ Bw w3 w.heap.size g' cap' e' ∧ g' < w3.heap.size ∧ gu ≠ g' ∧ gu < w3.heap.size ∧ Bw w3 w.heap.size gu cu eu) := ⟨j + 1, g3, cap3, pd e, by omega, rfl, by rw [pd_len, hLe], hU.pd hlt.2, hB.trans B3, W3, hg3, by omega, Nat.lt_of_lt_of_le hgo B3.size, hO.keep (hk _ hgo hne)⟩
            have hl1 : (j : Int) < 1 + (m : Int) := by omega
            have hl2 : (L : Int) + 1 < 5 := by omega
            have hwL : wrap64 (L : Int) = (L : Int) := wrap_small _ (by omega) (by omega)
            have hms : Hid (1 + m - (j + 1) < 1 + m - j) := (show 1 + m - (j + 1) < 1 + m - j by omega)
            rw [hLe]
            have hor := hor'.out
            clear hU hB hW hne hO B3 W3 hg3 hg4 hk hor' hLe hlt hj hgo
            go_wp2_with (at_builtin; refine wpList_app rfl _ _ 31 rfl _ _ _ rfl rfl r3.out ?_)
            go_roundw
            case rel =>
              obtain ⟨j', g', cap', e', a1, a2, a3, a4⟩ := hfin.out
              exact ⟨j', g', cap', e', a1, by rw [← a2]; go_num, a3, a4⟩
            case measure => simp [intOf]; exact hms.out
          · have hl1 : ¬ ((j : Int) < 1 + (m : Int)) ∨ ((j : Int) < 1 + (m : Int) ∧ ¬ ((e.length : Int) < 5)) := by omega
            clear hlt
            have cv1 := hO.str (m := eu.length) (c := cu) (Nat.le_refl _) hU0.out.1.2.2
            rw [List.take_length] at cv1
            have z1 : (strOfNums eu).size = eu.length := strOfNums_size eu
            have z2 : (strOfNums e).size = e.length := strOfNums_size e
            have u5 := hU0.out.2.1
            have s5 := hU.2.1
            have hg1 : Hid (∀ W : World, Calls Try.prog 9 #[.string (strOfNums eu), .int .i64 0, .int .i64 32] W fun e' w' => e' = .returned (.tuple #[.int .i64 y, .int .i64 (eu.length : Int), .int .i64 0]) ∧ Later W w') := fun W => get_is _ 0 32 _ _ _ (fm_get hU0.out.1 (by have := hy1.out; omega) u5 hU0.out.2.2) (by omega) (by decide) (by decide) W
            have hg2 : Hid (∀ W : World, Calls Try.prog 11 #[.string (strOfNums e), .int .i64 0, .int .i64 32] W fun e' w' => e' = .returned (.tuple #[.int .i64 y, .int .i64 (e.length : Int), .int .i64 0]) ∧ Later W w') := fun W => gets_is _ 0 32 _ _ _ (fm_gets hU.1 hy1.out s5 hU.2.2.1 hU.2.2.2) (by omega) (by decide) (by decide) W
            have hpos := pts_pos hU.1.1
            have hcv2 : Hid (∀ W : World, Later wr W → (convert 31 9 (.slice (some ⟨g, 0, none⟩) e.length cap)).run Try.prog W = .ok (.string (strOfNums e)) W) := fun W hl => by
              have := (hW.later hl (by have := hW.2.1; omega)).str (m := e.length) (c := cap) (Nat.le_refl _) hU.1.2.2
              rwa [List.take_length] at this
            have hwb : w.heap.size ≤ wr.heap.size := hB.size
            replace hB : Hid (Below w.heap.size w wr) := hB
            generalize strOfNums eu = S1 at *
            generalize strOfNums e = S2 at *
            clear hU hW hO hne hgo hg hj z1 z2 u5 s5 hpos hU0
            rcases hl1 with hl1 | ⟨hl1, hl2⟩
            all_goals
              go_wp2_with fail
              refine (hg1.out _).mono ?_
              rintro e v8 ⟨rfl, l8⟩
              have cv2 := hcv2.out v8 l8
              have B8 : Hid (Below w.heap.size w v8) := hB.out.trans (below_later l8 hwb)
              have hs8 : w.heap.size ≤ v8.heap.size := Nat.le_trans hwb l8.size
              clear cv1 l8 hcv2 hwb
              go_wp2_with fail
              refine (hg2.out _).mono ?_
              rintro e v9 ⟨rfl, l9⟩
              have B9 : Hid (Below w.heap.size w v9) := B8.out.trans (below_later l9 hs8)
              clear cv2 l9 B8 hl1 hg1 hg2 hB hs8 hmm hm2
              go_wp2_with (go_at_call 17; refine (num_any _ _).mono ?_; rintro e w' ⟨rfl, hw⟩; obtain rfl : v9 = w' := hw.symm)
              go_ret
              exact ⟨rfl, B9.out⟩
theorem walk (x pad : Int) (w : World) :
    Calls Try.prog 8 #[.int .i64 x, .int .i64 pad] w fun e w' => e = .returned (.bool true) ∧ Below w.heap.size w w' := core x pad w

set_option maxRecDepth 100000 in
theorem lifted (os : Os) (started : os.Started) (H : Type) (enc : TypeId × Value → H) :
    ReturnsInHanded {} Try.checked os 8 .any (Rows.lebLongSpec.pre6 enc Try.prog Try.f8 Rows.lebLongRow.domain false) (Rows.lebLongSpec.post enc Try.prog Try.f8 false true false false) := by
  refine returnsInHanded_of_change_sized (C := Try.checked) own started (by kernel_rfl) Try.func8
    (ChangeSpec.witness6 (enc := enc) (C := Try.checked) false ⟨#[], #[.int .i64 0, .int .i64 0], []⟩ 8 (by kernel_rfl) (by kernel_rfl) (by kernel_rfl) (by kernel_rfl)) ?_
  intro W base args ds gs before hval0 hW _ _ _
  have hval : ∀ (j : Nat) t v, Try.f8.params[j]? = some t → args[j]? = some v → Value.okWide Try.prog W .any base t v := hval0
  have hW' := hW
  obtain ⟨p, q, hA0, hV, rfl, hfz, hnd⟩ := hW
  have hA : DataW.TrodAll enc Try.prog W 0 (fun _ => true) true Try.f8.params.toList args.toList ds p := hA0
  rw [Try.params8] at hA hval
  obtain ⟨v0, vs0, d0, ds0, p0, q0, hargs, rfl, rfl, h0, r0⟩ := trodAll_cons hA
  obtain ⟨v1, vs1, d1, ds1, p1, q1, rfl, rfl, rfl, h1, r1⟩ := trodAll_cons r0
  obtain ⟨rfl, rfl, rfl⟩ := trodAll_nil r1
  obtain rfl : args = #[v0, v1] := by cases args; simp_all
  obtain ⟨rfl, rfl⟩ := trodVars_none hV
  obtain ⟨a0, rfl, rfl, rfl, w0⟩ := open_int Try.underlying3 (hval 0 3 v0 rfl rfl) h0
  obtain ⟨a1, rfl, rfl, rfl, w1⟩ := open_int Try.underlying3 (hval 1 3 v1 rfl rfl) h1
  clear hA0 hval0
  simp only [List.append_nil, List.nil_append] at hW'
  have hlt : ∀ x ∈ ([] : List MemPlace), x.block < W.heap.size := fun x hx => by simpa using hW'.lt x hx
  refine (walk a0 a1 W ).mono fun e W' ⟨he, hbel⟩ => ?_
  subst he
  have hx : ∀ sp : Nat → Bool, (∀ p ∈ ([] : List MemPlace), sp p.block = true) → DataW.TrodAll enc Try.prog W' 0 sp true [3, 3] [.int .i64 a0, .int .i64 a1] [.lit (.int .i64 a0), .lit (.int .i64 a1)] (([] : List MemPlace)) := fun sp hsp => by simpa using (trodAll_cons_mk (shut_int Try.underlying3 w0) (trodAll_cons_mk (shut_int Try.underlying3 w1) trodAll_mk0))
  exact ⟨_, rfl, post_none hW' (fun _ _ _ => (trodAll_cons_mk (shut_bool Try.underlying4 _) trodAll_mk0)) (fun sp => hx sp (fun p hp => absurd hp List.not_mem_nil)) (fun _ => rfl) (hbel.frame _) (ok_one (by kernel_rfl) rfl (okWide_bool_mk Try.underlying4 _))⟩

theorem over : Rows.lebLongRow.holds Try.pinned (OpenSpec.ofChange Rows.lebLongSpec) :=
  OpenClaim.holds_of_wide 8 Try.f8 rfl rfl rfl rfl rfl rfl rfl ⟨rfl, rfl, rfl, rfl, rfl⟩ rfl rfl rfl rfl rfl (by kernel_rfl) Try.func8 (by kernel_rfl)
    (of_decide_eq_true (by kernel_rfl)) (by unfold Func.isWrapper; first | (rw [if_pos (by decide +kernel)]; kernel_rfl) | (rw [if_neg (by decide +kernel)]; exact ⟨rfl, rfl⟩))
    (fun os started H enc _ => lifted os started H enc)


theorem proved : Rows.LebLongSaid := over
end Go.Proofs.Ytljogkiibpinaaa.lebLong
namespace Go.Proofs.Ytljogkiibpinaaa
theorem lebLong_holds : Rows.LebLongSaid := lebLong.proved
#print axioms lebLong_holds
end Go.Proofs.Ytljogkiibpinaaa
