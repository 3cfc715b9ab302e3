/- 'LebSizes' of package peloruslaw12 returns true at every two ints: as few parts as hold a number; too many are refused. No condition. -/
import Derived.Test.YtljogkiibpinaaaLW
import Derived.LoopTactic
import Derived.OpenShut
import Derived.ChangeMaps5
import Derived.ShutString
import Derived.SizedLaws
set_option linter.unusedVariables false
set_option linter.unusedSimpArgs false
set_option maxRecDepth 100000
set_option maxHeartbeats 8000000
namespace Go.Proofs.Ytljogkiibpinaaa.lebSizes
open Go.ChangeShapes Go.WideShapes Go.ChangeAt Go.RowKit
theorem byte1 (c : Int) (hc : 0 ≤ c ∧ c < 256) (W : World) : (convert 31 9 (.slice (some ⟨W.heap.size, 0, none⟩) 1 1)).run Try.prog (W.alloc (.cells #[.int .u8 c] 5)) = .ok (.string (strOfNums [c])) (W.alloc (.cells #[.int .u8 c] 5)) := by
  have hB : Lib.Bytes (W.alloc (.cells #[.int .u8 c] 5)) W.heap.size 0 (strOfNums [c]) := Lib.bytes_of_nums (n := 1) rfl (by simpa using hc) (fun i hi => by
    obtain rfl : i = 0 := by omega
    simp [go_sem])
  exact Lib.run_convert_whole (P := Try.prog) _ 31 5 9 Try.underlying31 Try.underlying5 Try.underlying9 W.heap.size 0 _ hB 1
theorem bl_cat {p q : ByteArray} {d e : List Int} (h1 : bl p 0 d) (hd : d.length = p.size) (h2 : bl q 0 e) : bl (p ++ q) 0 (d ++ e) := by
  refine bl_app.2 ⟨bl_left q h1, ?_⟩
  rw [Nat.zero_add, hd]
  exact bl_right p h2
theorem sizes (B : Nat) (h : B < 63) : (lebL (2 ^ B)).length = B / 7 + 1 ∧ (slebL (2 ^ B)).length = (B + 1) / 7 + 1 ∧ (slebL (-(2 ^ B))).length = B / 7 + 1 ∧ (0 : Int) < 2 ^ B ∧ (2 : Int) ^ B ≤ 4611686018427387904 := by
  have hh : ∀ B : Fin 63, (lebL (2 ^ B.val)).length = B.val / 7 + 1 ∧ (slebL (2 ^ B.val)).length = (B.val + 1) / 7 + 1 ∧ (slebL (-(2 ^ B.val))).length = B.val / 7 + 1 ∧ (0 : Int) < 2 ^ B.val ∧ (2 : Int) ^ B.val ≤ 4611686018427387904 := by decide +kernel
  exact hh ⟨B, h⟩
theorem facts (B : Nat) (h : B < 63) (c d : Int) (hc : 0 ≤ c ∧ c < 128) (hd : 0 ≤ d ∧ d ≤ 111) : ∃ (P : Int) (t1 t2 t3 : ByteArray), wrap64 (2 ^ B) = P ∧ wrap64 (-P) = -P ∧ t1.size = B / 7 + 1 ∧ t2.size = (B + 1) / 7 + 1 ∧ t3.size = B / 7 + 1 ∧
    Hid (∀ w : World, Calls Try.prog 13 #[.int .i64 P] w fun e w' => e = .returned (.string t1) ∧ Later w w') ∧
    Hid (∀ w : World, Calls Try.prog 15 #[.int .i64 P] w fun e w' => e = .returned (.string t2) ∧ Later w w') ∧
    Hid (∀ w : World, Calls Try.prog 15 #[.int .i64 (-P)] w fun e w' => e = .returned (.string t3) ∧ Later w w') ∧
    Hid (∀ w : World, Calls Try.prog 9 #[.string ({ data := #[128, 128, 128, 128, 128] } ++ strOfNums [c]), .int .i64 0, .int .i64 32] w fun e w' => e = .returned (.tuple #[.int .i64 0, .int .i64 0, .int .i64 1200]) ∧ Later w w') ∧
    Hid (∀ w : World, Calls Try.prog 9 #[.string ({ data := #[128, 128, 128, 128, 128] } ++ strOfNums [c]), .int .i64 0, .int .i64 64] w fun e w' => e = .returned (.tuple #[.int .i64 (c * 34359738368), .int .i64 6, .int .i64 0]) ∧ Later w w') ∧
    Hid (∀ w : World, Calls Try.prog 9 #[.string ({ data := #[128, 128, 128, 128] } ++ strOfNums [16 + d]), .int .i64 0, .int .i64 32] w fun e w' => e = .returned (.tuple #[.int .i64 0, .int .i64 0, .int .i64 1200]) ∧ Later w w') := by
  obtain ⟨s1, s2, s3, s4, s5⟩ := sizes B h
  have b1 : bl ({ data := #[128, 128, 128, 128, 128] } ++ strOfNums [c]) 0 ([128, 128, 128, 128, 128] ++ [c]) := bl_cat (show bl (strOfNums [128, 128, 128, 128, 128]) 0 [128, 128, 128, 128, 128] from bl_num _ (by decide)) rfl (bl_num [c] (by simpa using (by omega : 0 ≤ c ∧ c < 256)))
  have b2 : bl ({ data := #[128, 128, 128, 128] } ++ strOfNums [16 + d]) 0 ([128, 128, 128, 128] ++ [16 + d]) := bl_cat (show bl (strOfNums [128, 128, 128, 128]) 0 [128, 128, 128, 128] from bl_num _ (by decide)) rfl (bl_num [16 + d] (by simpa using (by omega : 0 ≤ 16 + d ∧ 16 + d < 256)))
  have z1 : ({ data := #[128, 128, 128, 128, 128] } ++ strOfNums [c] : ByteArray).size = 6 := by rw [ByteArray.size_append, strOfNums_size]; rfl
  have z2 : ({ data := #[128, 128, 128, 128] } ++ strOfNums [16 + d] : ByteArray).size = 5 := by rw [ByteArray.size_append, strOfNums_size]; rfl
  refine ⟨2 ^ B, strOfNums (lebL (2 ^ B)), strOfNums (slebL (2 ^ B)), strOfNums (slebL (-(2 ^ B))), by generalize (2 : Int) ^ B = Q at *; unfold wrap64; omega, by generalize (2 : Int) ^ B = Q at *; unfold wrap64; omega, by rw [strOfNums_size]; exact s1, by rw [strOfNums_size]; exact s2, by rw [strOfNums_size]; exact s3, fun w => put_any _ (by generalize (2 : Int) ^ B = Q at *; omega) w, fun w => puts_any _ (by generalize (2 : Int) ^ B = Q at *; omega) w, fun w => puts_any _ (by generalize (2 : Int) ^ B = Q at *; omega) w, fun w => ?_, fun w => ?_, fun w => ?_⟩
  · exact get_is _ 0 32 _ _ _ (ul_mor _ 0 [128, 128, 128, 128, 128] 32 5 (Or.inl ⟨rfl, rfl⟩) (bl_app.1 b1).1 (by simp [Mor]) (by decide)) (by omega) (by decide) (by decide) w
  · refine get_is _ 0 64 _ _ _ ?_ (by omega) (by decide) (by decide) w
    have := ul_of _ 0 ([128, 128, 128, 128, 128] ++ [c]) 64 10 (Or.inr ⟨rfl, rfl⟩) b1 (by simp [Pts]; omega) (by simp) (fun e => by simp at e)
    rw [show ((0 : Nat) : Int) = 0 from rfl] at this
    rw [this]
    refine Prod.ext ?_ rfl
    show wrap64 (un ([128, 128, 128, 128, 128] ++ [c]) 0) = c * 34359738368
    simp only [un, List.cons_append, List.nil_append]
    unfold wrap64
    omega
  · refine get_is _ 0 32 _ _ _ ?_ (by omega) (by decide) (by decide) w
    exact ul_high _ 0 ([128, 128, 128, 128] ++ [16 + d]) 32 5 (Or.inl ⟨rfl, rfl⟩) b2 (by simp [Pts]; omega) rfl (by
      show ¬ (16 + d) / 16 = 0
      omega)
theorem wrap_small (z : Int) (h : 0 ≤ z) (h2 : z ≤ 9223372036854775807) : wrap64 z = z := by
  unfold wrap64
  omega
theorem qs (B : Nat) (h : B < 63) : wrap64 ((B : Int) + 1) = (B : Int) + 1 ∧ wrap64 (((B / 7 : Nat) : Int) + 1) = ((B / 7 : Nat) : Int) + 1 ∧ wrap64 ((((B + 1) / 7 : Nat) : Int) + 1) = (((B + 1) / 7 : Nat) : Int) + 1 ∧ wrap64 ((B / 7 : Nat) : Int) = ((B / 7 : Nat) : Int) ∧ wrap64 (((B + 1) / 7 : Nat) : Int) = (((B + 1) / 7 : Nat) : Int) := ⟨wrap_small _ (by omega) (by omega), wrap_small _ (by omega) (by omega), wrap_small _ (by omega) (by omega), wrap_small _ (by omega) (by omega), wrap_small _ (by omega) (by omega)⟩
theorem sh_c (c : Int) (h : 0 ≤ c) (h2 : c < 128) : wrap64 (c * 34359738368) = c * 34359738368 := wrap_small _ (by omega) (by omega)
theorem walk (k low : Int) (w : World) :
    Calls Try.prog 5 #[.int .i64 k, .int .i64 low] w fun e w' => e = .returned (.bool true) ∧ Later w w' := by
  obtain ⟨c, hc, hc1, hc2⟩ : ∃ c : Int, bits .and .i64 low 127 = c ∧ 0 ≤ c ∧ c < 128 := ⟨low % 128, by rw [show (127 : Int) = ((2 ^ 7 : Nat) - 1 : Int) by decide, BM.and_mask low 7 (by decide)]; omega, by omega, by omega⟩
  obtain ⟨B, hB, hBl⟩ : ∃ B : Nat, wrap64 ((IntKind.u64.wrap k).tmod 63) = (B : Int) ∧ B < 63 := by
    have h0 : 0 ≤ IntKind.u64.wrap k := by rw [IntKind.wrap_u64]; omega
    refine ⟨((IntKind.u64.wrap k) % 63).toNat, ?_, by omega⟩
    rw [Int.tmod_eq_emod_of_nonneg h0]
    unfold wrap64
    omega
  have hcw : IntKind.u8.wrap c = c := by rw [IntKind.wrap_u8]; omega
  have hb1 := byte1 c (by omega)
  obtain ⟨d, hd, hd1, hd2⟩ : ∃ d : Int, bits .and .i64 low 111 = d ∧ 0 ≤ d ∧ d ≤ 111 := by
    refine ⟨_, rfl, ?_⟩
    rw [BM.and_i64]
    have hh : (low % 18446744073709551616).toNat &&& ((111 : Int) % 18446744073709551616).toNat ≤ 111 := Nat.and_le_right
    generalize (low % 18446744073709551616).toNat &&& ((111 : Int) % 18446744073709551616).toNat = z at *
    unfold wrap64
    omega
  have hdw : IntKind.u8.wrap (16 + d) = 16 + d := by rw [IntKind.wrap_u8]; omega
  have hdb1 : -9223372036854775808 ≤ 16 + d := by omega
  have hdb2 : 16 + d ≤ 9223372036854775807 := by omega
  have hb2 := byte1 (16 + d) (by omega)
  have q1 : (B : Int).tdiv 7 = ((B / 7 : Nat) : Int) := rfl
  have q2 : ((B : Int) + 1).tdiv 7 = (((B + 1) / 7 : Nat) : Int) := rfl
  obtain ⟨q0, q3, q4, q5, q6⟩ := qs B hBl
  have hsh := sh_c c hc1 hc2
  obtain ⟨P, t1, t2, t3, e1, e2, z1, z2, z3, h1, h2, h3, h4, h5, h6⟩ := facts B hBl c d ⟨hc1, hc2⟩ ⟨hd1, hd2⟩
  generalize B / 7 = Q1 at *
  generalize (B + 1) / 7 = Q2 at *
  go_enter Try.func5, Try.ntmps5
  go_wp2_with fail
  refine (awake_any _).mono ?_
  rintro e w' ⟨rfl, bs, n, rfl⟩
  go_wp2_with fail
  refine (h4.out _).mono ?_
  rintro e w' ⟨rfl, bs1, n1, rfl⟩
  go_wp2_with fail
  refine (h5.out _).mono ?_
  rintro e w' ⟨rfl, bs2, n2, rfl⟩
  go_wp2_with fail
  refine (h6.out _).mono ?_
  rintro e w' ⟨rfl, bs3, n3, rfl⟩
  clear hb1 hb2
  go_wp2_with (first | (go_at_call 13; refine (h1.out _).mono ?_; rintro e w' ⟨rfl, bs4, n4, rfl⟩) | (go_at_call_of 15 (Value.int .i64 P); refine (h2.out _).mono ?_; rintro e w' ⟨rfl, bs5, n5, rfl⟩) | (go_at_call_of 15 (Value.int .i64 (-P)); refine (h3.out _).mono ?_; rintro e w' ⟨rfl, bs6, n6, rfl⟩) | (go_at_call 17; refine (num_any _ _).mono ?_; rintro e w' ⟨rfl, rfl⟩))
  go_ret
  exact ⟨rfl, by repeat first | exact Lz _ | apply La | apply Lv | apply Ld | apply Ln⟩

set_option maxRecDepth 100000 in
theorem lifted (os : Os) (started : os.Started) (H : Type) (enc : TypeId × Value → H) :
    ReturnsInHanded {} Try.checked os 5 .any (Rows.lebSizesSpec.pre6 enc Try.prog Try.f5 Rows.lebSizesRow.domain false) (Rows.lebSizesSpec.post enc Try.prog Try.f5 false true false false) := by
  refine returnsInHanded_of_change_sized (C := Try.checked) own started (by kernel_rfl) Try.func5
    (ChangeSpec.witness6 (enc := enc) (C := Try.checked) false ⟨#[], #[.int .i64 0, .int .i64 0], []⟩ 8 (by kernel_rfl) (by kernel_rfl) (by kernel_rfl) (by kernel_rfl)) ?_
  intro W base args ds gs before hval0 hW _ _ _
  have hval : ∀ (j : Nat) t v, Try.f5.params[j]? = some t → args[j]? = some v → Value.okWide Try.prog W .any base t v := hval0
  have hW' := hW
  obtain ⟨p, q, hA0, hV, rfl, hfz, hnd⟩ := hW
  have hA : DataW.TrodAll enc Try.prog W 0 (fun _ => true) true Try.f5.params.toList args.toList ds p := hA0
  rw [Try.params5] at hA hval
  obtain ⟨v0, vs0, d0, ds0, p0, q0, hargs, rfl, rfl, h0, r0⟩ := trodAll_cons hA
  obtain ⟨v1, vs1, d1, ds1, p1, q1, rfl, rfl, rfl, h1, r1⟩ := trodAll_cons r0
  obtain ⟨rfl, rfl, rfl⟩ := trodAll_nil r1
  obtain rfl : args = #[v0, v1] := by cases args; simp_all
  obtain ⟨rfl, rfl⟩ := trodVars_none hV
  obtain ⟨a0, rfl, rfl, rfl, w0⟩ := open_int Try.underlying3 (hval 0 3 v0 rfl rfl) h0
  obtain ⟨a1, rfl, rfl, rfl, w1⟩ := open_int Try.underlying3 (hval 1 3 v1 rfl rfl) h1
  clear hA0 hval0
  simp only [List.append_nil, List.nil_append] at hW'
  have hlt : ∀ x ∈ ([] : List MemPlace), x.block < W.heap.size := fun x hx => by simpa using hW'.lt x hx
  refine (walk a0 a1 W ).mono fun e W' ⟨he, hl⟩ => ?_
  subst he
  have hg := hl.grown
  have hbel : Below W.heap.size W W' := by obtain ⟨bs, nn, rfl⟩ := hl; exact ⟨rfl, rfl, rfl, by rw [World.far_size]; omega, fun k hk => World.far_block W bs nn k hk⟩
  have hx : ∀ sp : Nat → Bool, (∀ p ∈ ([] : List MemPlace), sp p.block = true) → DataW.TrodAll enc Try.prog W' 0 sp true [3, 3] [.int .i64 a0, .int .i64 a1] [.lit (.int .i64 a0), .lit (.int .i64 a1)] (([] : List MemPlace)) := fun sp hsp => by simpa using (trodAll_cons_mk (shut_int Try.underlying3 w0) (trodAll_cons_mk (shut_int Try.underlying3 w1) trodAll_mk0))
  exact ⟨_, rfl, post_of_same (pa := ([] : List MemPlace)) (pv := []) hW' (fun _ _ _ => (trodAll_cons_mk (shut_bool Try.underlying4 _) trodAll_mk0)) (fun sp hsp => hx sp hsp) (fun _ _ => rfl) (by simp)
    (hg.frame _) hg.2.1 (ok_one (by kernel_rfl) rfl (okWide_bool_mk Try.underlying4 _))⟩

theorem over : Rows.lebSizesRow.holds Try.pinned (OpenSpec.ofChange Rows.lebSizesSpec) :=
  OpenClaim.holds_of_wide 5 Try.f5 rfl rfl rfl rfl rfl rfl rfl ⟨rfl, rfl, rfl, rfl, rfl⟩ rfl rfl rfl rfl rfl (by kernel_rfl) Try.func5 (by kernel_rfl)
    (of_decide_eq_true (by kernel_rfl)) (by unfold Func.isWrapper; first | (rw [if_pos (by decide +kernel)]; kernel_rfl) | (rw [if_neg (by decide +kernel)]; exact ⟨rfl, rfl⟩))
    (fun os started H enc _ => lifted os started H enc)


theorem proved : Rows.LebSizesSaid := over
end Go.Proofs.Ytljogkiibpinaaa.lebSizes
namespace Go.Proofs.Ytljogkiibpinaaa
theorem lebSizes_holds : Rows.LebSizesSaid := lebSizes.proved
#print axioms lebSizes_holds
end Go.Proofs.Ytljogkiibpinaaa
