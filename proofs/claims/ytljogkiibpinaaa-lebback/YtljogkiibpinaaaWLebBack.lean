/- 'LebBack' of package peloruslaw12 returns true at every int, every text and every int: numbers come back, wherever they stand, in longer forms too. No condition. -/
import Derived.Test.YtljogkiibpinaaaLW
import Derived.Test.YtljogkiibpinaaaLY
import Derived.LoopTactic
import Derived.OpenShut
import Derived.ChangeMaps5
import Derived.ShutString
import Derived.SizedLaws
set_option linter.unusedVariables false
set_option linter.unusedSimpArgs false
set_option maxRecDepth 100000
set_option maxHeartbeats 8000000
namespace Go.Proofs.Ytljogkiibpinaaa.lebBack
open Go.ChangeShapes Go.WideShapes Go.ChangeAt Go.RowKit
theorem wrap_small (z : Int) (h : 0 ≤ z) (h2 : z ≤ 9223372036854775807) : wrap64 z = z := by
  unfold wrap64
  omega
def lenV : Value → Nat
  | .slice _ n _ => n
  | _ => 0
/-- what the calls at x answer, behind pre -/
theorem facts (x : Int) (hx : -9223372036854775808 ≤ x ∧ x ≤ 9223372036854775807) (p : ByteArray) (hp : p.size ≤ 140737488351232) : ∃ s t : ByteArray, s.size ≤ 10 ∧ t.size ≤ 10 ∧
    wrap64 ((p.size : Int) + (s.size : Int)) = (p.size : Int) + (s.size : Int) ∧ wrap64 ((p.size : Int) + (t.size : Int)) = (p.size : Int) + (t.size : Int) ∧
    Hid (∀ w : World, Calls Try.prog 13 #[.int .i64 x] w fun e w' => e = .returned (.string s) ∧ Later w w') ∧
    Hid (∀ w : World, Calls Try.prog 15 #[.int .i64 x] w fun e w' => e = .returned (.string t) ∧ Later w w') ∧
    Hid (∀ w : World, Calls Try.prog 9 #[.string (p ++ s ++ { data := #[122] }), .int .i64 (p.size : Int), .int .i64 64] w fun e w' => e = .returned (.tuple #[.int .i64 x, .int .i64 ((p.size : Int) + (s.size : Int)), .int .i64 0]) ∧ Later w w') ∧
    Hid (∀ w : World, Calls Try.prog 11 #[.string (p ++ t ++ { data := #[122] }), .int .i64 (p.size : Int), .int .i64 64] w fun e w' => e = .returned (.tuple #[.int .i64 x, .int .i64 ((p.size : Int) + (t.size : Int)), .int .i64 0]) ∧ Later w w') := by
  have b1 := bl_left { data := #[122] } (bl_right p (bl_num (lebL x) (lebL_byte x)))
  have b2 := bl_left { data := #[122] } (bl_right p (bl_num (slebL x) (slebF_byte 9 x)))
  rw [Nat.add_zero] at b1 b2
  have z1 : (strOfNums (lebL x)).size = (lebL x).length := strOfNums_size _
  have z2 : (strOfNums (slebL x)).size = (slebL x).length := strOfNums_size _
  have l1 : (lebL x).length ≤ 10 := lebF_len 9 _
  have l2 : (slebL x).length ≤ 10 := slebF_len 9 _
  have y1 : (p ++ strOfNums (lebL x) ++ { data := #[122] }).size = p.size + (lebL x).length + 1 := by rw [ByteArray.size_append, ByteArray.size_append, z1]; rfl
  have y2 : (p ++ strOfNums (slebL x) ++ { data := #[122] }).size = p.size + (slebL x).length + 1 := by rw [ByteArray.size_append, ByteArray.size_append, z2]; rfl
  refine ⟨strOfNums (lebL x), strOfNums (slebL x), by omega, by omega, wrap_small _ (by omega) (by omega), wrap_small _ (by omega) (by omega), fun w => put_any x hx w, fun w => puts_any x hx w, fun w => ?_, fun w => ?_⟩
  · refine get_is _ _ 64 _ _ _ ?_ (by omega) (by omega) (by decide) w
    rw [get_put64 x hx _ _ b1, z1]
    refine Prod.ext rfl (Prod.ext ?_ rfl)
    show ((p.size + (lebL x).length : Nat) : Int) = (p.size : Int) + ((lebL x).length : Int)
    omega
  · refine gets_is _ _ 64 _ _ _ ?_ (by omega) (by omega) (by decide) w
    rw [gets_put64 x hx _ _ b2, z2]
    refine Prod.ext rfl (Prod.ext ?_ rfl)
    show ((p.size + (slebL x).length : Nat) : Int) = (p.size : Int) + ((slebL x).length : Int)
    omega
theorem at_y (x : Int) : ∃ y : Int, bits .and .i64 x 1048575 = y ∧ 0 ≤ y ∧ y < 1048576 := ⟨x % 1048576, by rw [show (1048575 : Int) = ((2 ^ 20 : Nat) - 1 : Int) by decide, BM.and_mask x 20 (by decide)]; omega, by omega, by omega⟩
theorem at_m (x : Int) : ∃ m : Nat, bits .and .i64 x 1 = (m : Int) ∧ m < 2 := ⟨(x % 2).toNat, by rw [show (1 : Int) = ((2 ^ 1 : Nat) - 1 : Int) by decide, BM.and_mask x 1 (by decide)]; omega, by omega⟩
theorem len3 (y : Int) (h : 0 ≤ y ∧ y < 1048576) : (lebL y).length ≤ 3 := by
  unfold lebL
  rw [show y % 18446744073709551616 = y by omega, lebF_less 2 7 y h.1 (by omega)]
  exact lebF_len 2 y
theorem wraps (n m : Nat) (hn : n ≤ 10) (hm : m < 2) : wrap64 ((n : Int) + 1) = (n : Int) + 1 ∧ wrap64 ((n : Int) + 1 + (m : Int)) = ((n + 1 + m : Nat) : Int) := ⟨wrap_small _ (by omega) (by omega), by rw [wrap_small _ (by omega) (by omega)]; omega⟩
theorem core (x : Int) (hx : -9223372036854775808 ≤ x ∧ x ≤ 9223372036854775807) (p : ByteArray) (hp : p.size ≤ 140737488351232) (more : Int) (w : World) :
    Calls Try.prog 4 #[.int .i64 x, .string p, .int .i64 more] w fun e w' => e = .returned (.bool true) ∧ Below w.heap.size w w' := by
  obtain ⟨s, t, zs, zt, e1, e2, h1, h2, h3, h4⟩ := facts x hx p hp
  obtain ⟨y, hy, hy1⟩ := at_y x
  obtain ⟨m, hm, hm2⟩ := at_m more
  have h5 : Hid (∀ w : World, Calls Try.prog 13 #[.int .i64 y] w fun e w' => e = .returned (.string (strOfNums (lebL y))) ∧ Later w w') := fun w => put_any y (by omega) w
  have l3 := len3 y hy1
  obtain ⟨F0, hz⟩ := fm_leb y (by omega)
  clear hz
  replace F0 : Hid (Fm y (lebL y)) := F0
  obtain ⟨w1, w2⟩ := wraps (lebL y).length m (by omega) hm2
  replace hy1 : Hid (0 ≤ y ∧ y < 1048576) := hy1
  clear hx
  go_enter Try.func4, Try.ntmps4
  go_wp2_with fail
  refine (awake_any _).mono ?_
  rintro e v1 ⟨rfl, l1⟩
  go_wp2_with fail
  refine (h1.out _).mono ?_
  rintro e v2 ⟨rfl, l2⟩
  go_wp2_with fail
  refine (h2.out _).mono ?_
  rintro e v3 ⟨rfl, l3'⟩
  go_wp2_with fail
  refine (h3.out _).mono ?_
  rintro e v4 ⟨rfl, l4⟩
  go_wp2_with fail
  refine (h4.out _).mono ?_
  rintro e v5 ⟨rfl, l5⟩
  have L5 : Later w v5 := (((l1.trans l2).trans l3').trans l4).trans l5
  clear l1 l2 l3' l4 l5 h1 h2 h3 h4
  go_wp2_with (go_at_call 17; refine (num_any _ _).mono ?_; rintro e w' ⟨rfl, hw⟩; obtain rfl : v5 = w' := hw.symm)
  refine (h5.out _).mono ?_
  rintro e v6 ⟨rfl, l6⟩
  have L6 : Later w v6 := L5.trans l6
  obtain ⟨K, hK, w2'⟩ : ∃ K, (lebL y).length + 1 + m = K ∧ wrap64 (((lebL y).length : Int) + 1 + (m : Int)) = (K : Int) := ⟨_, rfl, w2⟩
  clear w2
  replace w1 : Hid _ := w1
  replace w2' : Hid _ := w2'
  replace hm : Hid _ := hm
  replace hy : Hid _ := hy
  clear e1 e2
  obtain ⟨cap0, v7, hcv, B7, W7, z7⟩ := bw_conv w.heap.size (lebL y) (lebL_byte y) v6 L6.size
  have BL7 : Hid (Below w.heap.size w v7) := (below_later L6 (Nat.le_refl _)).trans B7
  have g7 : v6.heap.size < v7.heap.size := by omega
  replace W7 : Hid (Bw v7 w.heap.size v6.heap.size cap0 (lebL y)) := W7
  clear L5 l6 L6 B7 h5
  have w1' := w1.out
  have w2 := w2'.out
  have hm' := hm.out
  go_wp2_with fail
  clear w1 w1' w2 w2' hm hm'
  go_loopw [15] (fun v wr => ∃ (g cap : Nat) (e : List Int), v = .slice (some ⟨g, 0, none⟩) e.length cap ∧ (lebL y).length ≤ e.length ∧ e.length ≤ K ∧ Fm y e ∧ Below w.heap.size w wr ∧ Bw wr w.heap.size g cap e ∧ g < wr.heap.size ∧ ((lebL y).length < e.length → la e = 0 ∧ Mor (e.take (e.length - 1)))) (fun v _ => K - lenV v)
  case atStart => exact ⟨_, _, lebL y, rfl, Nat.le_refl _, by omega, F0.out, BL7.out, W7.out, g7, fun h => by omega⟩
  case round =>
    clear BL7 W7 g7 hcv F0 z7
    obtain ⟨g, cap, e, rfl, he0, heK, hF, hB, hW, hg, hL⟩ := hrel
    have he5 : e.length ≤ 5 := by omega
    by_cases hlt : e.length < K
    · have hl1 : (e.length : Int) < (K : Int) := by omega
      obtain ⟨hi, hla, hla0, hla1⟩ := fm_last hF
      obtain ⟨c0, f0, _⟩ := hW.at_ hi
      rw [hla] at c0
      have hor' : Hid (bits .or .u8 (la e) 128 = la e + 128) := or_128b (la e) ⟨hla0, hla1⟩
      obtain ⟨W2, B2⟩ := hW.set (e.length - 1) hi (la e + 128)
      have hB2 := hB.trans B2
      have hs2 : g < (wr.setCell ⟨g, e.length - 1, none⟩ (.int .u8 (la e + 128))).heap.size := by rw [show (wr.setCell ⟨g, e.length - 1, none⟩ (.int .u8 (la e + 128))).heap.size = wr.heap.size from setCells_size g [.int .u8 (la e + 128)] (e.length - 1) wr]; exact hg
      have hls : (e.set (e.length - 1) (la e + 128)).length = e.length := List.length_set
      obtain ⟨g3, cap3, w3, r3, B3, W3, hg3, _⟩ := W2.more (Nat.le_trans hB2.size (Nat.le_refl _)) 0 (by omega) hs2
      rw [hls] at r3
      obtain ⟨F4, la4, M4⟩ := fm_pd hF
      have hlp := pd_len e
      have hfin : Hid (∃ (g cap' : Nat) (e' : List Int), Value.slice (some ⟨g3, 0, none⟩) (e.length + 1) cap3 = .slice (some ⟨g, 0, none⟩) e'.length cap' ∧ (lebL y).length ≤ e'.length ∧ e'.length ≤ K ∧ Fm y e' ∧ Below w.heap.size w w3 ∧ Bw w3 w.heap.size g cap' e' ∧ g < w3.heap.size ∧ ((lebL y).length < e'.length → la e' = 0 ∧ Mor (e'.take (e'.length - 1)))) := ⟨g3, cap3, pd e, by rw [hlp], by omega, by omega, F4, hB2.trans B3, W3, hg3, fun _ => ⟨la4, by rw [hlp, Nat.add_sub_cancel]; exact M4⟩⟩
      obtain ⟨L, hLe⟩ : ∃ L, e.length = L + 1 := ⟨e.length - 1, by omega⟩
      rw [hLe, Nat.add_sub_cancel] at c0 f0 r3
      rw [show (wr.setCell ⟨g, L, none⟩ (.int .u8 (la e + 128))).heap.size = wr.heap.size from setCells_size g [.int .u8 (la e + 128)] L wr] at r3
      rw [hLe] at hl1 hfin
      rw [hLe]
      have hms : Hid (K - (L + 1 + 1) < K - (L + 1)) := (show K - (L + 1 + 1) < K - (L + 1) by omega)
      have hl2 : (L : Int) + 1 < ((lebL y).length : Int) + 1 + (m : Int) := by omega
      have hwL : wrap64 (L : Int) = (L : Int) := wrap_small _ (by omega) (by omega)
      replace r3 : Hid _ := r3
      clear hF hB hW hL W2 B2 hB2 B3 W3 hg3 F4 la4 M4 hls hla hla0 hla1 hs2 hlp
      clear hl1 hlt he0 heK he5 hi hLe
      clear hK l3 hp zs zt hm2
      have hor := hor'.out
      clear hor'
      go_wp2_with (at_builtin; refine wpList_app rfl _ _ 31 rfl _ _ _ rfl rfl r3.out ?_)
      go_roundw
      case rel => exact hfin.out
      case measure => exact hms.out
    · have hke : e.length = (lebL y).length + 1 + m := by omega
      obtain ⟨la4, M4⟩ := hL (by omega)
      have hcl := hW.2.1
      have cv1 := hW.str (m := e.length) (c := cap) (Nat.le_refl _) hF.2.2
      rw [List.take_length] at cv1
      have hsz : (strOfNums e).size = e.length := strOfNums_size e
      have hz2 : (strOfNums (e.take ((lebL y).length + m))).size = (lebL y).length + m := by rw [strOfNums_size, List.length_take]; omega
      have hg1 : Hid (∀ W : World, Calls Try.prog 9 #[.string (strOfNums e), .int .i64 0, .int .i64 32] W fun e' w' => e' = .returned (.tuple #[.int .i64 y, .int .i64 (((lebL y).length : Int) + 1 + (m : Int)), .int .i64 0]) ∧ Later W w') := fun W => get_is _ 0 32 _ _ _ (by rw [fm_get hF (by have := hy1.out; omega) he5 (fun _ => by rw [la4]; decide), hke]; refine Prod.ext rfl (Prod.ext ?_ rfl); show (((lebL y).length + 1 + m : Nat) : Int) = ((lebL y).length : Int) + 1 + (m : Int); omega) (by omega) (by decide) (by decide) W
      have hg2 : Hid (∀ W : World, Calls Try.prog 9 #[.string (strOfNums (e.take ((lebL y).length + m))), .int .i64 0, .int .i64 32] W fun e' w' => e' = .returned (.tuple #[.int .i64 0, .int .i64 0, .int .i64 1201]) ∧ Later W w') := fun W => get_is _ 0 32 _ _ _ (fm_cut _ (by omega) (by rw [hke, show (lebL y).length + 1 + m - 1 = (lebL y).length + m by omega] at M4; exact M4) hF.2.2 (by omega)) (by omega) (by decide) (by decide) W
      have hwl : Hid (wrap64 (((lebL y).length : Int) + 1 + (m : Int) - 1) = (((lebL y).length + m : Nat) : Int)) := by
        show _ = _
        rw [wrap_small _ (by omega) (by omega)]
        omega
      have hJc : (((lebL y).length + m : Nat) : Int) ≤ (cap : Int) := by omega
      have hcv2 : Hid (∀ W : World, Later wr W → (convert 31 9 (.slice (some ⟨g, 0, none⟩) ((lebL y).length + m) cap)).run Try.prog W = .ok (.string (strOfNums (e.take ((lebL y).length + m)))) W) := fun W hl => (hW.later hl (by omega)).str (by omega) hF.2.2
      replace hB : Hid (Below w.heap.size w wr) := hB
      rw [hke] at cv1
      rw [hke]
      generalize strOfNums e = S1 at *
      generalize (lebL y).length + m = J at *
      generalize strOfNums (e.take J) = S2 at *
      have hwb : w.heap.size ≤ wr.heap.size := hB.out.size
      clear hF hW hL la4 M4 hlt he0 heK he5 hke hK l3 hp zs zt hm2 hcl hsz hz2
      go_wp2_with fail
      refine (hg1.out _).mono ?_
      rintro e v8 ⟨rfl, l8⟩
      have cv2 := hcv2.out v8 l8
      have B8 : Hid (Below w.heap.size w v8) := hB.out.trans (below_later l8 hwb)
      have hs8 : w.heap.size ≤ v8.heap.size := Nat.le_trans hwb l8.size
      have hwl2 := hwl.out
      clear cv1 l8 hcv2 hwb
      go_wp2_with fail
      refine (hg2.out _).mono ?_
      rintro e v9 ⟨rfl, l9⟩
      have B9 : Hid (Below w.heap.size w v9) := B8.out.trans (below_later l9 hs8)
      have hy2 := hy.out
      clear cv2 l9 B8
      go_wp2_with (go_at_call 17; refine (num_any _ _).mono ?_; rintro e w' ⟨rfl, hw⟩; obtain rfl : v9 = w' := hw.symm)
      go_ret
      exact ⟨rfl, B9.out⟩
theorem walk (x : Int) (hx : -9223372036854775808 ≤ x ∧ x ≤ 9223372036854775807) (p : ByteArray) (hp : p.size ≤ 140737488351232) (more : Int) (w : World) :
    Calls Try.prog 4 #[.int .i64 x, .string p, .int .i64 more] w fun e w' => e = .returned (.bool true) ∧ Below w.heap.size w w' := core x hx p hp more w

set_option maxRecDepth 100000 in
theorem lifted (os : Os) (started : os.Started) (H : Type) (enc : TypeId × Value → H) :
    ReturnsInHanded {} Try.checked os 4 .any (Rows.lebBackSpec.pre6 enc Try.prog Try.f4 Rows.lebBackRow.domain false) (Rows.lebBackSpec.post enc Try.prog Try.f4 false true false false) := by
  refine returnsInHanded_of_change_sized (C := Try.checked) own started (by kernel_rfl) Try.func4
    (ChangeSpec.witness6 (enc := enc) (C := Try.checked) false ⟨#[], #[.int .i64 0, .string ⟨#[]⟩, .int .i64 0], []⟩ 8 (by kernel_rfl) (by kernel_rfl) (by kernel_rfl) (by kernel_rfl)) ?_
  intro W base args ds gs before hval0 hW _ hsz0 _
  have hval : ∀ (j : Nat) t v, Try.f4.params[j]? = some t → args[j]? = some v → Value.okWide Try.prog W .any base t v := hval0
  have hW' := hW
  obtain ⟨p, q, hA0, hV, rfl, hfz, hnd⟩ := hW
  have hA : DataW.TrodAll enc Try.prog W 0 (fun _ => true) true Try.f4.params.toList args.toList ds p := hA0
  rw [Try.params4] at hA hval
  obtain ⟨v0, vs0, d0, ds0, p0, q0, hargs, rfl, rfl, h0, r0⟩ := trodAll_cons hA
  obtain ⟨v1, vs1, d1, ds1, p1, q1, rfl, rfl, rfl, h1, r1⟩ := trodAll_cons r0
  obtain ⟨v2, vs2, d2, ds2, p2, q2, rfl, rfl, rfl, h2, r2⟩ := trodAll_cons r1
  obtain ⟨rfl, rfl, rfl⟩ := trodAll_nil r2
  obtain rfl : args = #[v0, v1, v2] := by cases args; simp_all
  obtain ⟨rfl, rfl⟩ := trodVars_none hV
  obtain ⟨a0, rfl, rfl, rfl, w0⟩ := open_int Try.underlying3 (hval 0 3 v0 rfl rfl) h0
  obtain ⟨a1, rfl, rfl, rfl, w1⟩ := ChangeMaps.open_string Try.underlying9 (hval 1 9 v1 rfl rfl) h1
  have hs1 : a1.size ≤ 140737488351232 := by
    have hs := sized_string hsz0 (j := 1) (t := 9) (bytes := a1.data.toList) rfl rfl
    unfold reachBytes at hs
    simpa using hs
  obtain ⟨a2, rfl, rfl, rfl, w2⟩ := open_int Try.underlying3 (hval 2 3 v2 rfl rfl) h2
  clear hA0 hval0
  simp only [List.append_nil, List.nil_append] at hW'
  have hlt : ∀ x ∈ ([] : List MemPlace), x.block < W.heap.size := fun x hx => by simpa using hW'.lt x hx
  refine (walk a0 (wf_i64 w0) a1 hs1 a2 W ).mono fun e W' ⟨he, hbel⟩ => ?_
  subst he
  have hx : ∀ sp : Nat → Bool, (∀ p ∈ ([] : List MemPlace), sp p.block = true) → DataW.TrodAll enc Try.prog W' 0 sp true [3, 9, 3] [.int .i64 a0, .string a1, .int .i64 a2] [.lit (.int .i64 a0), .lit (.string a1.data.toList), .lit (.int .i64 a2)] (([] : List MemPlace)) := fun sp hsp => by simpa using (trodAll_cons_mk (shut_int Try.underlying3 w0) (trodAll_cons_mk (ChangeMaps.shut_string Try.underlying9 w1) (trodAll_cons_mk (shut_int Try.underlying3 w2) trodAll_mk0)))
  exact ⟨_, rfl, post_none hW' (fun _ _ _ => (trodAll_cons_mk (shut_bool Try.underlying4 _) trodAll_mk0)) (fun sp => hx sp (fun p hp => absurd hp List.not_mem_nil)) (fun _ => rfl) (hbel.frame _) (ok_one (by kernel_rfl) rfl (okWide_bool_mk Try.underlying4 _))⟩

theorem over : Rows.lebBackRow.holds Try.pinned (OpenSpec.ofChange Rows.lebBackSpec) :=
  OpenClaim.holds_of_wide 4 Try.f4 rfl rfl rfl rfl rfl rfl rfl ⟨rfl, rfl, rfl, rfl, rfl⟩ rfl rfl rfl rfl rfl (by kernel_rfl) Try.func4 (by kernel_rfl)
    (of_decide_eq_true (by kernel_rfl)) (by unfold Func.isWrapper; first | (rw [if_pos (by decide +kernel)]; kernel_rfl) | (rw [if_neg (by decide +kernel)]; exact ⟨rfl, rfl⟩))
    (fun os started H enc _ => lifted os started H enc)


theorem proved : Rows.LebBackSaid := over
end Go.Proofs.Ytljogkiibpinaaa.lebBack
namespace Go.Proofs.Ytljogkiibpinaaa
theorem lebBack_holds : Rows.LebBackSaid := lebBack.proved
#print axioms lebBack_holds
end Go.Proofs.Ytljogkiibpinaaa
