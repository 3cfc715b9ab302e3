/- 'NameBack' of package peloruslaw13 returns true at every two texts and every int: names come back, with bytes about them. No condition. -/
import Derived.Test.YthbagkaodcplmaaOW
import Derived.LoopTactic
import Derived.OpenShut
import Derived.ChangeMaps5
import Derived.ShutString
import Derived.SizedLaws
set_option linter.unusedVariables false
set_option linter.unusedSimpArgs false
set_option maxRecDepth 100000
set_option maxHeartbeats 8000000
namespace Go.Proofs.Ythbagkaodcplmaa.nameBack
open Go.ChangeShapes Go.WideShapes Go.ChangeAt Go.RowKit
theorem wrap_small (z : Int) (h : 0 ≤ z) (h2 : z ≤ 9223372036854775807) : wrap64 z = z := by
  unfold wrap64
  omega
theorem ext_mid (a b c : ByteArray) : (a ++ b ++ c).extract a.size (a.size + b.size) = b := by
  apply ByteArray.ext
  rw [ByteArray.data_extract, ByteArray.data_append, ByteArray.data_append]
  apply Array.ext_getElem?
  intro i
  rw [Array.getElem?_extract]
  have ha : a.data.size = a.size := rfl
  have hb : b.data.size = b.size := rfl
  have hc : c.data.size = c.size := rfl
  by_cases hi : i < b.size
  · rw [if_pos (by simp; omega), Array.getElem?_append_left (by simp; omega), Array.getElem?_append_right (by omega)]
    congr 1
    omega
  · rw [if_neg (by simp; omega), Array.getElem?_eq_none (by omega)]
theorem leb_one (n : Nat) (h : n ≤ 64) : lebL (n : Int) = [(n : Int)] := by
  have hh : ∀ n : Fin 65, lebL ((n.val : Nat) : Int) = [((n.val : Nat) : Int)] := by decide +kernel
  exact hh ⟨n, by omega⟩
theorem un_ok (X : ByteArray) (a : Int) (n to : Nat) (h : ulR X a 32 = ((n : Int), (to : Int), 0)) (h1 : to + n ≤ X.size) (h2 : n ≤ 64) (h3 : utfR (X.extract to (to + n)) = true) : unR X a = (X.extract to (to + n), (to : Int) + (n : Int), 0) := by
  unfold unR
  rw [h]
  simp only [Int.toNat_natCast]
  rw [if_pos ⟨trivial, by omega⟩, if_neg (by omega), if_pos h3]
theorem un_short (X : ByteArray) (a k to : Int) (h : ulR X a 32 = (k, to, 0)) (h1 : (X.size : Int) - to < k) : unR X a = (⟨#[]⟩, 0, 1300) := by
  unfold unR
  rw [h]
  simp only
  rw [if_neg (by omega)]
theorem un_err (X : ByteArray) (a k to e : Int) (h : ulR X a 32 = (k, to, e)) (h1 : ¬ e = 0) : unR X a = (⟨#[]⟩, 0, 1300) := by
  unfold unR
  rw [h]
  simp only
  rw [if_neg (fun hh => h1 hh.1)]
/-- what is read of a name that was written -/
theorem back (s p z : ByteArray) (hs : s.size ≤ 64) (hu : utfR s = true) : unR (p ++ (strOfNums [(s.size : Int)] ++ s) ++ z) (p.size : Int) = (s, (p.size : Int) + ((strOfNums [(s.size : Int)] ++ s).size : Int), 0) := by
  have hb : bl (p ++ (strOfNums [(s.size : Int)] ++ s) ++ z) p.size (lebL (s.size : Int)) := by
    rw [leb_one s.size hs]
    have := bl_left z (bl_right p (bl_left s (bl_num [(s.size : Int)] (by simp; omega))))
    rwa [Nat.add_zero] at this
  have hul := get_put32 (s.size : Int) (by omega) _ _ hb
  rw [leb_one s.size hs] at hul
  have e1 : p ++ (strOfNums [(s.size : Int)] ++ s) ++ z = (p ++ strOfNums [(s.size : Int)]) ++ s ++ z := by rw [← ByteArray.append_assoc]
  have e2 : (p ++ strOfNums [(s.size : Int)]).size = p.size + 1 := by rw [ByteArray.size_append, strOfNums_size]; rfl
  have e3 := ext_mid (p ++ strOfNums [(s.size : Int)]) s z
  rw [← e1, e2] at e3
  have e4 : (p ++ (strOfNums [(s.size : Int)] ++ s) ++ z).size = p.size + 1 + s.size + z.size := by rw [e1, ByteArray.size_append, ByteArray.size_append, e2]
  have e5 : (strOfNums [(s.size : Int)] ++ s).size = 1 + s.size := by rw [ByteArray.size_append, strOfNums_size]; rfl
  rw [un_ok _ _ s.size (p.size + 1) (by rw [hul]; rfl) (by omega) hs (by rw [e3]; exact hu), e3, e5]
  refine Prod.ext rfl (Prod.ext ?_ rfl)
  show ((p.size + 1 : Nat) : Int) + (s.size : Int) = (p.size : Int) + ((1 + s.size : Nat) : Int)
  omega
/-- what is cut is none -/
theorem cut_ (s : ByteArray) (hs : s.size ≤ 64) (j : Nat) (hj : j < 1 + s.size) : unR ((strOfNums [(s.size : Int)] ++ s).extract 0 j) 0 = (⟨#[]⟩, 0, 1300) := by
  have e5 : (strOfNums [(s.size : Int)] ++ s).size = 1 + s.size := by rw [ByteArray.size_append, strOfNums_size]; rfl
  have e6 : ((strOfNums [(s.size : Int)] ++ s).extract 0 j).size = j := by rw [ByteArray.size_extract]; omega
  by_cases h0 : j = 0
  · subst h0
    exact un_err _ 0 0 0 1201 (ul_cut _ 0 [] 32 5 (Or.inl ⟨rfl, rfl⟩) (Nat.zero_le _) trivial (by rw [e6]; rfl) (by decide)) (by decide)
  · have hb : bl ((strOfNums [(s.size : Int)] ++ s).extract 0 j) 0 (lebL (s.size : Int)) := by
      rw [leb_one s.size hs]
      refine ⟨by omega, ?_, by show 0 + 1 ≤ _; omega⟩
      rw [bt_get, ByteArray.data_extract, ByteArray.data_append, Array.getElem?_extract, if_pos (by simp; have : (strOfNums [(s.size : Int)]).data.size = 1 := rfl; have : s.data.size = s.size := rfl; omega)]
      rw [Array.getElem?_append_left (by show 0 + 0 < 1; omega)]
      show ((some (UInt8.ofNat (s.size : Int).toNat)).map fun b => (b.toNat : Int)).getD 0 = (s.size : Int)
      simp
      omega
    have hul := get_put32 (s.size : Int) (by omega) _ _ hb
    rw [leb_one s.size hs] at hul
    refine un_short _ 0 (s.size : Int) 1 (by rw [show ((0 : Nat) : Int) = 0 from rfl] at hul; rw [hul]; rfl) ?_
    rw [e6]
    omega
theorem at_j (cut : Int) (n : Nat) (hn : 0 < n) (hn2 : n ≤ 100) : ∃ j : Nat, wrap64 ((IntKind.u64.wrap cut).tmod (n : Int)) = (j : Int) ∧ j < n := by
  have h0 : 0 ≤ IntKind.u64.wrap cut := by rw [IntKind.wrap_u64]; omega
  have h1 := Int.emod_nonneg (IntKind.u64.wrap cut) (show (n : Int) ≠ 0 by omega)
  have h2 := Int.emod_lt_of_pos (IntKind.u64.wrap cut) (show 0 < (n : Int) by omega)
  refine ⟨((IntKind.u64.wrap cut) % (n : Int)).toNat, ?_, by omega⟩
  rw [Int.tmod_eq_emod_of_nonneg h0, wrap_small _ h1 (by omega)]
  omega
theorem walk (s : ByteArray) (hs : s.size ≤ 140737488351232) (p : ByteArray) (hp : p.size ≤ 140737488351232) (cut : Int) (w : World) :
    Calls Try.prog 4 #[.string s, .string p, .int .i64 cut] w fun e w' => e = .returned (.bool true) ∧ Later w w' := by
  by_cases h : s.size ≤ 64 ∧ utfR s = true
  · obtain ⟨h64, hu⟩ := h
    have hnm : nmR s = (strOfNums [(s.size : Int)] ++ s, 0) := by
      unfold nmR
      rw [if_neg (by omega), if_pos hu, leb_one s.size h64]
    have hmay : mayN s = true := by unfold mayN; rw [decide_eq_true h64, hu]; rfl
    have hbk := back s p ⟨#[122]⟩ h64 hu
    have hct := cut_ s h64
    have e5 : (strOfNums [(s.size : Int)] ++ s).size = 1 + s.size := by rw [ByteArray.size_append, strOfNums_size]; rfl
    generalize strOfNums [(s.size : Int)] ++ s = t at *
    have h1 : Hid (∀ w : World, Calls Try.prog 7 #[.string s] w fun e w' => e = .returned (.tuple #[.string t, .int .i64 0]) ∧ Later w w') := fun w => nput_is s t 0 hnm (by omega) w
    have h2 : Hid (∀ w : World, Calls Try.prog 11 #[.string s] w fun e w' => e = .returned (.bool true) ∧ Later w w') := fun w => may_is s true hmay (by omega) w
    have hz : (p ++ t ++ ⟨#[122]⟩ : ByteArray).size = p.size + t.size + 1 := by rw [ByteArray.size_append, ByteArray.size_append]; rfl
    have h3 : Hid (∀ w : World, Calls Try.prog 9 #[.string (p ++ t ++ ⟨#[122]⟩), .int .i64 (p.size : Int)] w fun e w' => e = .returned (.tuple #[.string s, .int .i64 ((p.size : Int) + (t.size : Int)), .int .i64 0]) ∧ Later w w') := fun w => nget_is _ _ _ _ _ hbk (by omega) (by omega) w
    obtain ⟨j, hj, hj2⟩ := at_j cut t.size (by omega) (by omega)
    have h4 : Hid (∀ w : World, Calls Try.prog 9 #[.string (t.extract 0 j), .int .i64 0] w fun e w' => e = .returned (.tuple #[.string ⟨#[]⟩, .int .i64 0, .int .i64 1300]) ∧ Later w w') := fun w => nget_is _ _ _ _ _ (hct j (by omega)) (by rw [ByteArray.size_extract]; omega) (by decide) w
    have hw1 : Hid (wrap64 ((p.size : Int) + (t.size : Int)) = (p.size : Int) + (t.size : Int)) := wrap_small _ (by omega) (by omega)
    have ht0 : ((t.size : Int) == 0) = false := beq_eq_false_iff_ne.2 (by omega)
    have ht65 : t.size ≤ 65 := by omega
    have hjt : (j : Int) ≤ (t.size : Int) := by omega
    have hts : (t.size : Int) ≤ 18446744073709551615 := by omega
    clear hbk hct hnm hmay e5 hz hu h64
    have hw := hw1.out
    clear hw1
    go_enter Try.func4, Try.ntmps4
    go_wp2_with fail
    refine (awake_any _).mono ?_
    rintro e w' ⟨rfl, bs, n, rfl⟩
    go_wp2_with fail
    refine (h1.out _).mono ?_
    rintro e w' ⟨rfl, bs1, n1, rfl⟩
    go_wp2_with (go_at_call 13; refine (num_any _ _).mono ?_; rintro e w' ⟨rfl, rfl⟩)
    refine (h3.out _).mono ?_
    rintro e w' ⟨rfl, bs2, n2, rfl⟩
    go_wp2_with fail
    refine (h4.out _).mono ?_
    rintro e w' ⟨rfl, bs3, n3, rfl⟩
    clear hj hjt hts ht0
    go_wp2_with (first | (go_at_call 13; refine (num_any _ _).mono ?_; rintro e w' ⟨rfl, rfl⟩) | (go_at_call 11; refine (h2.out _).mono ?_; rintro e w' ⟨rfl, bs4, n4, rfl⟩))
    go_ret
    exact ⟨rfl, by repeat first | exact Lz _ | apply La | apply Lv | apply Ld | apply Ln⟩
  · have hnm : ∃ c, nmR s = (⟨#[]⟩, c) ∧ ¬ c = 0 := by
      unfold nmR
      by_cases h6 : 64 < s.size
      · exact ⟨1301, if_pos h6, by decide⟩
      · exact ⟨1300, by rw [if_neg h6, if_neg (fun hu => h ⟨by omega, hu⟩)], by decide⟩
    obtain ⟨c, hnm, hc⟩ := hnm
    have hmay : mayN s = false := by
      unfold mayN
      cases hu : utfR s with
      | false => simp
      | true => rw [decide_eq_false (fun h6 => h ⟨h6, hu⟩)]; rfl
    have h1 : Hid (∀ w : World, Calls Try.prog 7 #[.string s] w fun e w' => e = .returned (.tuple #[.string ⟨#[]⟩, .int .i64 c]) ∧ Later w w') := fun w => nput_is s _ c hnm (by omega) w
    have h2 : Hid (∀ w : World, Calls Try.prog 11 #[.string s] w fun e w' => e = .returned (.bool false) ∧ Later w w') := fun w => may_is s false hmay (by omega) w
    have hc2 : (c != 0) = true := by simpa using hc
    clear h hnm hmay hc hs hp
    go_enter Try.func4, Try.ntmps4
    go_wp2_with (first | (go_at_call 14; refine (awake_any _).mono ?_; rintro e w' ⟨rfl, bs, n, rfl⟩) | (go_at_call 7; refine (h1.out _).mono ?_; rintro e w' ⟨rfl, bs, n, rfl⟩) | (go_at_call 11; refine (h2.out _).mono ?_; rintro e w' ⟨rfl, bs, n, rfl⟩) | (go_at_call 13; refine (num_any _ _).mono ?_; rintro e w' ⟨rfl, rfl⟩))
    go_ret
    exact ⟨rfl, by repeat first | exact Lz _ | apply La | apply Lv | apply Ld | apply Ln⟩

set_option maxRecDepth 100000 in
theorem lifted (os : Os) (started : os.Started) (H : Type) (enc : TypeId × Value → H) :
    ReturnsInHanded {} Try.checked os 4 .any (Rows.nameBackSpec.pre6 enc Try.prog Try.f4 Rows.nameBackRow.domain false) (Rows.nameBackSpec.post enc Try.prog Try.f4 false true false false) := by
  refine returnsInHanded_of_change_sized (C := Try.checked) own started (by kernel_rfl) Try.func4
    (ChangeSpec.witness6 (enc := enc) (C := Try.checked) false ⟨#[], #[.string ⟨#[]⟩, .string ⟨#[]⟩, .int .i64 0], []⟩ 8 (by kernel_rfl) (by kernel_rfl) (by kernel_rfl) (by kernel_rfl)) ?_
  intro W base args ds gs before hval0 hW _ hsz0 _
  have hval : ∀ (j : Nat) t v, Try.f4.params[j]? = some t → args[j]? = some v → Value.okWide Try.prog W .any base t v := hval0
  have hW' := hW
  obtain ⟨p, q, hA0, hV, rfl, hfz, hnd⟩ := hW
  have hA : DataW.TrodAll enc Try.prog W 0 (fun _ => true) true Try.f4.params.toList args.toList ds p := hA0
  rw [Try.params4] at hA hval
  obtain ⟨v0, vs0, d0, ds0, p0, q0, hargs, rfl, rfl, h0, r0⟩ := trodAll_cons hA
  obtain ⟨v1, vs1, d1, ds1, p1, q1, rfl, rfl, rfl, h1, r1⟩ := trodAll_cons r0
  obtain ⟨v2, vs2, d2, ds2, p2, q2, rfl, rfl, rfl, h2, r2⟩ := trodAll_cons r1
  obtain ⟨rfl, rfl, rfl⟩ := trodAll_nil r2
  obtain rfl : args = #[v0, v1, v2] := by cases args; simp_all
  obtain ⟨rfl, rfl⟩ := trodVars_none hV
  obtain ⟨a0, rfl, rfl, rfl, w0⟩ := ChangeMaps.open_string Try.underlying9 (hval 0 9 v0 rfl rfl) h0
  have hs0 : a0.size ≤ 140737488351232 := by
    have hs := sized_string hsz0 (j := 0) (t := 9) (bytes := a0.data.toList) rfl rfl
    unfold reachBytes at hs
    simpa using hs
  obtain ⟨a1, rfl, rfl, rfl, w1⟩ := ChangeMaps.open_string Try.underlying9 (hval 1 9 v1 rfl rfl) h1
  have hs1 : a1.size ≤ 140737488351232 := by
    have hs := sized_string hsz0 (j := 1) (t := 9) (bytes := a1.data.toList) rfl rfl
    unfold reachBytes at hs
    simpa using hs
  obtain ⟨a2, rfl, rfl, rfl, w2⟩ := open_int Try.underlying3 (hval 2 3 v2 rfl rfl) h2
  clear hA0 hval0
  simp only [List.append_nil, List.nil_append] at hW'
  have hlt : ∀ x ∈ ([] : List MemPlace), x.block < W.heap.size := fun x hx => by simpa using hW'.lt x hx
  refine (walk a0 hs0 a1 hs1 a2 W ).mono fun e W' ⟨he, hl⟩ => ?_
  subst he
  have hbel : Below W.heap.size W W' := by obtain ⟨bs, nn, rfl⟩ := hl; exact ⟨rfl, rfl, rfl, by rw [World.far_size]; omega, fun k hk => World.far_block W bs nn k hk⟩
  have hx : ∀ sp : Nat → Bool, (∀ p ∈ ([] : List MemPlace), sp p.block = true) → DataW.TrodAll enc Try.prog W' 0 sp true [9, 9, 3] [.string a0, .string a1, .int .i64 a2] [.lit (.string a0.data.toList), .lit (.string a1.data.toList), .lit (.int .i64 a2)] (([] : List MemPlace)) := fun sp hsp => by simpa using (trodAll_cons_mk (ChangeMaps.shut_string Try.underlying9 w0) (trodAll_cons_mk (ChangeMaps.shut_string Try.underlying9 w1) (trodAll_cons_mk (shut_int Try.underlying3 w2) trodAll_mk0)))
  exact ⟨_, rfl, post_none hW' (fun _ _ _ => (trodAll_cons_mk (shut_bool Try.underlying4 _) trodAll_mk0)) (fun sp => hx sp (fun p hp => absurd hp List.not_mem_nil)) (fun _ => rfl) (hbel.frame _) (ok_one (by kernel_rfl) rfl (okWide_bool_mk Try.underlying4 _))⟩

theorem over : Rows.nameBackRow.holds Try.pinned (OpenSpec.ofChange Rows.nameBackSpec) :=
  OpenClaim.holds_of_wide 4 Try.f4 rfl rfl rfl rfl rfl rfl rfl ⟨rfl, rfl, rfl, rfl, rfl⟩ rfl rfl rfl rfl rfl (by kernel_rfl) Try.func4 (by kernel_rfl)
    (of_decide_eq_true (by kernel_rfl)) (by unfold Func.isWrapper; first | (rw [if_pos (by decide +kernel)]; kernel_rfl) | (rw [if_neg (by decide +kernel)]; exact ⟨rfl, rfl⟩))
    (fun os started H enc _ => lifted os started H enc)


theorem proved : Rows.NameBackSaid := over
end Go.Proofs.Ythbagkaodcplmaa.nameBack
namespace Go.Proofs.Ythbagkaodcplmaa
theorem nameBack_holds : Rows.NameBackSaid := nameBack.proved
#print axioms nameBack_holds
end Go.Proofs.Ythbagkaodcplmaa
