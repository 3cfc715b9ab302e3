/- 'InstrBack' of package peloruslaw14 returns true at every list of instructions, text and int: instructions come back, with bytes about them; cut ones do not. No condition. -/
import Derived.Test.YtkdfmgdadnlnlaaIAW
import Derived.Test.YtkdfmgdadnlnlaaXO
import Derived.Test.YtkdfmgdadnlnlaaXQ
import Derived.LoopTactic
import Derived.OpenShut
import Derived.ChangeMaps5
import Derived.ShutString
import Derived.SizedLaws
set_option linter.unusedVariables false
set_option linter.unusedSimpArgs false
set_option maxRecDepth 100000
set_option maxHeartbeats 8000000
namespace Go.Proofs.Ytkdfmgdadnlnlaa.instrBack
open Go.ChangeShapes Go.WideShapes Go.ChangeAt Go.RowKit
theorem wrap_small (z : Int) (h : 0 ≤ z) (h2 : z ≤ 9223372036854775807) : wrap64 z = z := by
  unfold wrap64
  omega
theorem at_j (cut : Int) (n : Nat) (hn : 0 < n) (hn2 : n ≤ 1000000000000) : ∃ j : Nat, wrap64 ((IntKind.u64.wrap cut).tmod (n : Int)) = (j : Int) ∧ j < n := by
  have h0 : 0 ≤ IntKind.u64.wrap cut := by rw [IntKind.wrap_u64]; omega
  have h1 := Int.emod_nonneg (IntKind.u64.wrap cut) (show (n : Int) ≠ 0 by omega)
  have h2 := Int.emod_lt_of_pos (IntKind.u64.wrap cut) (show 0 < (n : Int) by omega)
  refine ⟨((IntKind.u64.wrap cut) % (n : Int)).toNat, ?_, by omega⟩
  rw [Int.tmod_eq_emod_of_nonneg h0, wrap_small _ h1 (by omega)]
  omega
theorem ext_take (b : List Int) (j : Nat) : (strOfNums b).extract 0 j = strOfNums (b.take j) := by
  apply ByteArray.ext
  rw [ByteArray.data_extract]
  simp [strOfNums]
theorem back (f : Fs) (ho : f.Ok) (hc : (ck f 0 0).1 = 0) (pre q : ByteArray) : unI (pre ++ strOfNums (ltB f ++ [11]) ++ q) (pre.size : Int) = (f, (pre.size : Int) + ((strOfNums (ltB f ++ [11])).size : Int), 0) := by
  have hby : ∀ b ∈ ltB f ++ [11], 0 ≤ b ∧ b < 256 := by
    intro b hb
    rcases List.mem_append.1 hb with hb | hb
    · exact ltB_byte f b hb
    · simp at hb; omega
  have hb : bl (pre ++ strOfNums (ltB f ++ [11]) ++ q) pre.size (ltB f ++ [11]) := by
    have := bl_left q (bl_right pre (bl_num _ hby))
    rwa [Nat.add_zero] at this
  have hsz : (pre ++ strOfNums (ltB f ++ [11]) ++ q).size = pre.size + ((ltB f).length + 1) + q.size := by rw [ByteArray.size_append, ByteArray.size_append, strOfNums_size]; simp
  have h := rl_back f 0 0 pre.size ((pre ++ strOfNums (ltB f ++ [11]) ++ q).size + 1) false 11 ho hc hb (Or.inl rfl) (by omega)
  unfold unI
  rw [if_pos ⟨by omega, by rw [hsz]; omega⟩, h]
  simp only
  rw [if_pos trivial, strOfNums_size]
  refine Prod.ext rfl (Prod.ext ?_ rfl)
  simp only [List.length_append, List.length_singleton]
  omega
theorem cut_ (f : Fs) (ho : f.Ok) (hc : (ck f 0 0).1 = 0) (j : Nat) (hj : j ≤ (ltB f).length) : unI ((strOfNums (ltB f ++ [11])).extract 0 j) 0 = (.nil, 0, 1401) := by
  rw [ext_take, List.take_append_of_le_length hj]
  have hby : ∀ b ∈ (ltB f).take j, 0 ≤ b ∧ b < 256 := fun b hb => ltB_byte f b (List.mem_of_mem_take hb)
  have hl : ((ltB f).take j).length = j := by simp; omega
  have hsz : (strOfNums ((ltB f).take j)).size = j := by rw [strOfNums_size, hl]
  have h := rl_cut (s := strOfNums ((ltB f).take j)) f 0 0 0 ((strOfNums ((ltB f).take j)).size + 1) j false ho hc hj (bl_num _ hby) (by omega) (by omega)
  unfold unI
  rw [if_pos ⟨by decide, by omega⟩]
  rw [show (((0 : Nat) : Int)) = 0 from rfl] at h
  rw [if_neg (by rw [h]; decide), h]
theorem walk (A : Option Addr) (n c : Nat) (pre : ByteArray) (hp : pre.size ≤ 140737488351232) (cut : Int) (w : World) (h : ∃ f : Fs, n = f.len ∧ Tr (· < w.heap.size) w A f ∧ f.Ok ∧ n * 112 ≤ 140737488351232) :
    Calls Try.prog 6 #[.slice A n c, .string pre, .int .i64 cut] w fun e w' => e = .returned (.bool true) ∧ Later w w' := by
  obtain ⟨f, rfl, hT, ho, hn⟩ := h
  have h2 : Hid (∀ (Z : Nat → Prop) (W : World) (B : Option Addr) (k : Nat), Tr Z W B f → Calls Try.prog 10 #[.slice B f.len k] W fun e w' => e = .returned (.tuple #[.string (strOfNums (puR f).1), .int .i64 (puR f).2]) ∧ Hid (Later W w')) := fun Z W B k hB => iput_any f ho hn Z W B k hB
  have h6 : Hid (∀ (Z Y : Nat → Prop) (W : World) (B C : Option Addr) (k k' : Nat), Tr Z W B f → Tr Y W C f → Calls Try.prog 15 #[.slice B f.len k, .slice C f.len k'] W fun e w' => e = .returned (.bool true) ∧ Hid (Later W w')) := fun Z Y W B C k k' hB hC => sameI_any f.sz f (Nat.le_refl _) ho hn Z Y W B C k k' hB hC
  replace hT : Hid (Tr (· < w.heap.size) w A f) := hT
  by_cases hc : (ck f 0 0).1 = 0
  · have hpu : puR f = (ltB f ++ [11], 0) := by unfold puR; rw [if_pos hc]
    rw [hpu] at h2
    have hlen := ltB_len f 0 0 (by decide) (by decide) hc
    have hrng := (ck_rng f 0 0 (by decide) (by decide)).2.2.1 hc
    have hbk := back f ho hc pre ⟨#[113]⟩
    have hct := cut_ f ho hc
    have hsz : (strOfNums (ltB f ++ [11])).size = (ltB f).length + 1 := by rw [strOfNums_size]; simp
    obtain ⟨j, hj, hj2⟩ := at_j cut (strOfNums (ltB f ++ [11])).size (by omega) (by omega)
    have hcj := hct j (by omega)
    have hlim : (strOfNums (ltB f ++ [11])).size ≤ 1000000000000 := by omega
    clear hct hlen hrng hpu
    generalize strOfNums (ltB f ++ [11]) = t at *
    have hz : (pre ++ t ++ ⟨#[113]⟩ : ByteArray).size = pre.size + t.size + 1 := by rw [ByteArray.size_append, ByteArray.size_append]; rfl
    have h3 : Hid (∀ W : World, Calls Try.prog 17 #[.string (pre ++ t ++ ⟨#[113]⟩), .int .i64 (pre.size : Int)] W fun e' w' => ∃ A' c', e' = .returned (.tuple #[.slice A' f.len c', .int .i64 ((pre.size : Int) + (t.size : Int)), .int .i64 0]) ∧ Hid (Tr (W.heap.size ≤ ·) w' A' f) ∧ Hid (Later W w')) := fun W => iget_is _ _ _ _ _ hbk (by omega) (by omega) W
    have h4 : Hid (∀ W : World, Calls Try.prog 17 #[.string (t.extract 0 j), .int .i64 0] W fun e' w' => ∃ A' c', e' = .returned (.tuple #[.slice A' Fs.nil.len c', .int .i64 0, .int .i64 1401]) ∧ Hid (Tr (W.heap.size ≤ ·) w' A' .nil) ∧ Hid (Later W w')) := fun W => iget_is _ _ _ _ _ hcj (by rw [ByteArray.size_extract]; omega) (by decide) W
    have hw : wrap64 ((pre.size : Int) + (t.size : Int)) = (pre.size : Int) + (t.size : Int) := wrap_small _ (by omega) (by omega)
    have ht0 : ((t.size : Int) == 0) = false := beq_eq_false_iff_ne.2 (by omega)
    have hte : ¬ t = ByteArray.empty := by
      intro e
      have : t.size = 0 := by rw [e]; rfl
      omega
    have hjt : (j : Int) ≤ (t.size : Int) := by omega
    have hts : (t.size : Int) ≤ 18446744073709551615 := by omega
    clear hbk hcj hc ho hsz hj2 hz
    generalize f.len = n at *
    go_enter Try.func6, Try.ntmps6
    go_wp2_with fail
    refine (awake_any _).mono ?_
    rintro e w1 ⟨rfl, l1⟩
    go_wp2_with fail
    refine (h2.out _ _ _ _ (hT.out.later l1)).mono ?_
    clear h2
    rintro e w2 ⟨rfl, l2⟩
    go_wp2_with (go_at_call 12; refine (num_any _ _).mono ?_; rintro e w' ⟨rfl, hw⟩; have hw := hw.symm; subst hw)
    refine (h3.out _).mono ?_
    clear h3
    rintro e w3 ⟨A3, c3, rfl, T3, l3⟩
    go_wp2_with fail
    refine (h4.out _).mono ?_
    clear h4
    rintro e w4 ⟨A4, c4, rfl, T4, l4⟩
    have L4 : Hid (Later w w4) := ((l1.trans l2.out).trans l3.out).trans l4.out
    have T34 : Hid (Tr (w2.heap.size ≤ ·) w4 A3 f) := T3.out.later l4.out
    have Tw4 : Hid (Tr (· < w.heap.size) w4 A f) := hT.out.later L4.out
    clear hj hjt hts ht0 hT T3 T4 l1 l2 l3 l4
    go_wp2_with (first | (go_at_call 12; refine (num_any _ _).mono ?_; rintro e w' ⟨rfl, hw⟩; have hw := hw.symm; subst hw) | (go_at_call 15; refine (h6.out _ _ _ _ _ _ _ T34.out Tw4.out).mono ?_; clear h6; rintro e w6 ⟨rfl, l6⟩))
    go_ret
    exact ⟨rfl, L4.out.trans l6.out⟩
  · have hpu : puR f = ([], (ck f 0 0).1) := by unfold puR; rw [if_neg hc]
    rw [hpu] at h2
    have hc2 : ((ck f 0 0).1 != 0) = true := by simpa using hc
    generalize (ck f 0 0).1 = E at *
    rw [show strOfNums [] = (⟨#[]⟩ : ByteArray) from rfl] at h2
    clear ho hc hpu h6
    generalize f.len = n at *
    go_enter Try.func6, Try.ntmps6
    go_wp2_with fail
    refine (awake_any _).mono ?_
    rintro e w1 ⟨rfl, l1⟩
    go_wp2_with fail
    refine (h2.out _ _ _ _ (hT.out.later l1)).mono ?_
    clear h2
    rintro e w2 ⟨rfl, l2⟩
    go_wp2_with (go_at_call 12; refine (num_any _ _).mono ?_; rintro e w' ⟨rfl, hw⟩; have hw := hw.symm; subst hw)
    go_ret
    exact ⟨rfl, l1.trans l2.out⟩

set_option maxRecDepth 100000 in
theorem lifted (os : Os) (started : os.Started) (H : Type) (enc : TypeId × Value → H) :
    ReturnsInHanded {} Try.checked os 6 .any (Rows.instrBackSpec.pre6 enc Try.prog Try.f6 Rows.instrBackRow.domain false) (Rows.instrBackSpec.post enc Try.prog Try.f6 false true false false) := by
  refine returnsInHanded_of_change_sized (C := Try.checked) own started (by kernel_rfl) Try.func6
    (ChangeSpec.witness6 (enc := enc) (C := Try.checked) false ⟨#[], #[.slice none 0 0, .string ⟨#[]⟩, .int .i64 0], []⟩ 8 (by kernel_rfl) (by kernel_rfl) (by kernel_rfl) (by kernel_rfl)) ?_
  intro W base args ds gs before hval0 hW _ hsz0 _
  have hval : ∀ (j : Nat) t v, Try.f6.params[j]? = some t → args[j]? = some v → Value.okWide Try.prog W .any base t v := hval0
  have hW' := hW
  obtain ⟨p, q, hA0, hV, rfl, hfz, hnd⟩ := hW
  have hA : DataW.TrodAll enc Try.prog W 0 (fun _ => true) true Try.f6.params.toList args.toList ds p := hA0
  rw [Try.params6] at hA hval
  obtain ⟨v0, vs0, d0, ds0, p0, q0, hargs, rfl, rfl, h0, r0⟩ := trodAll_cons hA
  obtain ⟨v1, vs1, d1, ds1, p1, q1, rfl, rfl, rfl, h1, r1⟩ := trodAll_cons r0
  obtain ⟨v2, vs2, d2, ds2, p2, q2, rfl, rfl, rfl, h2, r2⟩ := trodAll_cons r1
  obtain ⟨rfl, rfl, rfl⟩ := trodAll_nil r2
  obtain rfl : args = #[v0, v1, v2] := by cases args; simp_all
  obtain ⟨rfl, rfl⟩ := trodVars_none hV
  obtain ⟨A0, n0, c0, rfl⟩ := okWide_slice Try.underlying22 (hval 0 22 v0 rfl rfl)
  have hw0 : ∀ x ∈ d0.weights Try.prog 22, x ≤ reachBytes := fun x hx => of_decide_eq_true (List.all_eq_true.1 hsz0 _ (DataW.weights_mem_each (j := 0) (t := 22) (d := d0) rfl rfl x hx))
  obtain ⟨a1, rfl, rfl, rfl, w1⟩ := ChangeMaps.open_string Try.underlying9 (hval 1 9 v1 rfl rfl) h1
  have hs1 : a1.size ≤ 140737488351232 := by
    have hs := sized_string hsz0 (j := 1) (t := 9) (bytes := a1.data.toList) rfl rfl
    unfold reachBytes at hs
    simpa using hs
  obtain ⟨a2, rfl, rfl, rfl, w2⟩ := open_int Try.underlying3 (hval 2 3 v2 rfl rfl) h2
  clear hA0 hval0
  simp only [List.append_nil, List.nil_append] at hW'
  have hlt : ∀ x ∈ p0, x.block < W.heap.size := fun x hx => by simpa using hW'.lt x hx
  refine (walk A0 n0 c0 a1 hs1 a2 W (view_trees h0 hw0)).mono fun e W' ⟨he, hl⟩ => ?_
  subst he
  have hbel : Below W.heap.size W W' := by obtain ⟨bs, nn, rfl⟩ := hl; exact ⟨rfl, rfl, rfl, by rw [World.far_size]; omega, fun k hk => World.far_block W bs nn k hk⟩
  have hx : ∀ sp : Nat → Bool, (∀ p ∈ p0, sp p.block = true) → DataW.TrodAll enc Try.prog W' 0 sp true [22, 9, 3] [.slice A0 n0 c0, .string a1, .int .i64 a2] [d0, .lit (.string a1.data.toList), .lit (.int .i64 a2)] (p0) := fun sp hsp => by simpa using (trodAll_cons_mk (WideElems.Trod_stays (by kernel_rfl) (by kernel_rfl) (of_decide_eq_true (by kernel_rfl)) h0 (fun x hx => hbel.same (hlt x (by simp [hx]))) (fun x hx => hsp x (by simp [hx]))) (trodAll_cons_mk (ChangeMaps.shut_string Try.underlying9 w1) (trodAll_cons_mk (shut_int Try.underlying3 w2) trodAll_mk0)))
  exact ⟨_, rfl, post_kept (pa := p0) (pv := []) hW' (fun _ _ _ => (trodAll_cons_mk (shut_bool Try.underlying4 _) trodAll_mk0)) (fun sp hsp => hx sp hsp) (fun _ _ => rfl) (by simp) (hbel.frame _) hbel.block (ok_one (by kernel_rfl) rfl (okWide_bool_mk Try.underlying4 _))⟩

theorem over : Rows.instrBackRow.holds Try.pinned (OpenSpec.ofChange Rows.instrBackSpec) :=
  OpenClaim.holds_of_wide 6 Try.f6 rfl rfl rfl rfl rfl rfl rfl ⟨rfl, rfl, rfl, rfl, rfl⟩ rfl rfl rfl rfl rfl (by kernel_rfl) Try.func6 (by kernel_rfl)
    (of_decide_eq_true (by kernel_rfl)) (by unfold Func.isWrapper; first | (rw [if_pos (by decide +kernel)]; kernel_rfl) | (rw [if_neg (by decide +kernel)]; exact ⟨rfl, rfl⟩))
    (fun os started H enc _ => lifted os started H enc)


theorem proved : Rows.InstrBackSaid := over
end Go.Proofs.Ytkdfmgdadnlnlaa.instrBack
namespace Go.Proofs.Ytkdfmgdadnlnlaa
theorem instrBack_holds : Rows.InstrBackSaid := instrBack.proved
#print axioms instrBack_holds
end Go.Proofs.Ytkdfmgdadnlnlaa
