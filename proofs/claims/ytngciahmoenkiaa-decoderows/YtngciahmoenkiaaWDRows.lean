/- 'DecodeRows' of package peloruslaw15 returns true at every two ints: sections out of their row, or twice, are refused. No condition. -/
import Derived.Test.YtngciahmoenkiaaFB
import Derived.LoopTactic
import Derived.OpenShut
import Derived.ChangeMaps5
import Derived.ShutString
import Derived.SizedLaws
set_option linter.unusedVariables false
set_option linter.unusedSimpArgs false
set_option maxRecDepth 100000
set_option maxHeartbeats 8000000
namespace Go.Proofs.Ytngciahmoenkiaa.decodeRows
open Go.ChangeShapes Go.WideShapes Go.ChangeAt Go.RowKit
def bareB (x : Nat) : ByteArray := strOfNums [(x : Int), 1, 0]
theorem rows_all : ∀ x y : Fin 12, 1 ≤ x.val → 1 ≤ y.val → ¬ x.val = 8 → ¬ y.val = 8 → (unM (hd8 ++ bareB x.val ++ bareB y.val)).2 = if x.val < y.val then 0 else 1503 := by decide +kernel
theorem bare_any (x : Nat) (hx : x < 256) (w : World) : Calls Try.prog 15 #[.int .i64 (x : Int)] w fun e w' => e = .returned (.string (bareB x)) ∧ Later w w' := by
  have cv : ∀ (W : World) (g : Nat), g = W.heap.size → (convert 48 9 (.slice (some ⟨g, 0, none⟩) 3 3)).run Try.prog (W.alloc (.cells #[.int .u8 (x : Int), .int .u8 1, .int .u8 0] 5)) = .ok (.string (bareB x)) (W.alloc (.cells #[.int .u8 (x : Int), .int .u8 1, .int .u8 0] 5)) := fun W g hg => by
    subst hg
    exact conv_l [(x : Int), 1, 0] (by simp; omega) 3 rfl (Lz _)
  have hw8 : IntKind.u8.wrap (x : Int) = (x : Int) := by rw [IntKind.wrap_u8]; omega
  generalize bareB x = S at *
  go_enter Try.func15, Try.ntmps15
  go_wp2_with fail
  go_ret
  exact ⟨rfl, La (Lz _)⟩
theorem by11 (a : Int) : ∃ x : Nat, wrap64 (1 + wrap64 ((IntKind.u64.wrap a).tmod 11)) = (x : Int) ∧ 1 ≤ x ∧ x < 12 := by
  have h0 : 0 ≤ IntKind.u64.wrap a ∧ IntKind.u64.wrap a < 18446744073709551616 := by rw [IntKind.wrap_u64]; omega
  generalize IntKind.u64.wrap a = u at *
  refine ⟨(1 + u % 11).toNat, ?_, ?_, ?_⟩
  · rw [Int.tmod_eq_emod_of_nonneg h0.1]
    unfold wrap64
    omega
  · omega
  · omega
theorem core (a b : Int) (x y : Nat) (hx : wrap64 (1 + wrap64 ((IntKind.u64.wrap a).tmod 11)) = (x : Int)) (hy : wrap64 (1 + wrap64 ((IntKind.u64.wrap b).tmod 11)) = (y : Int)) (hx1 : 1 ≤ x ∧ x < 12) (hy1 : 1 ≤ y ∧ y < 12) (w : World) :
    Calls Try.prog 5 #[.int .i64 a, .int .i64 b] w fun e w' => e = .returned (.bool true) ∧ Later w w' := by
  by_cases h8 : x = 8
  · subst h8
    go_enter Try.func5, Try.ntmps5
    go_wp2_with (go_at_call 8; refine (awake_any _).mono ?_; rintro e w0 ⟨rfl, l0⟩; replace l0 : Hid (Later w w0) := l0.out)
    go_ret
    exact ⟨rfl, l0.out⟩
  by_cases h9 : y = 8
  · subst h9
    have h10 : ((x : Int) == 8) = false := beq_false (by omega)
    have h11 : (x == 8) = false := by simpa using h8
    clear hx1 hy1 h8
    go_enter Try.func5, Try.ntmps5
    go_wp2_with (go_at_call 8; refine (awake_any _).mono ?_; rintro e w0 ⟨rfl, l0⟩; replace l0 : Hid (Later w w0) := l0.out)
    go_ret
    exact ⟨rfl, l0.out⟩
  have h10 : ((x : Int) == 8) = false := beq_false (by omega)
  have h11 : ((y : Int) == 8) = false := beq_false (by omega)
  have h12 : (x == 8) = false := by simpa using h8
  have h13 : (y == 8) = false := by simpa using h9
  have hb1 : Hid (∀ W, Calls Try.prog 15 #[.int .i64 (x : Int)] W fun e w' => e = .returned (.string (bareB x)) ∧ Later W w') := bare_any x (by omega)
  have hb2 : Hid (∀ W, Calls Try.prog 15 #[.int .i64 (y : Int)] W fun e w' => e = .returned (.string (bareB y)) ∧ Later W w') := bare_any y (by omega)
  have hr := rows_all ⟨x, hx1.2⟩ ⟨y, hy1.2⟩ hx1.1 hy1.1 h8 h9
  have z1 : (bareB x).size = 3 := strOfNums_size _
  have z2 : (bareB y).size = 3 := strOfNums_size _
  have c1 : ¬ 9223372036854775807 < 8 + (bareB x).size := by omega
  have c2 : ¬ 9223372036854775807 < 8 + (bareB x).size + (bareB y).size := by omega
  have c3 : ¬ 9223372036854775807 < (hd8 ++ bareB x).size + (bareB y).size := by rw [ByteArray.size_append, z1, z2]; decide
  have hs : (hd8 ++ bareB x ++ bareB y).size < 9223372036854775000 := by rw [ByteArray.size_append, ByteArray.size_append, z1, z2]; decide
  have hn : Hid (∀ x W, Calls Try.prog 10 #[.int .i64 x] W fun e w' => e = .returned (.int .i64 x) ∧ w' = W) := lnum_any
  by_cases hlt : x < y
  · rw [if_pos hlt] at hr
    have hm : Hid (∀ W, Calls Try.prog 9 #[.string (hd8 ++ bareB x ++ bareB y)] W (DcP W 0)) := dm_code hs hr
    have hl1 : (x : Int) < (y : Int) := by omega
    generalize bareB x = S1 at *
    generalize bareB y = S2 at *
    clear hr hs z1 z2 hx1 hy1 h8 h9
    go_enter Try.func5, Try.ntmps5
    go_wp2_with (go_at_call 8; refine (awake_any _).mono ?_; rintro e w0 ⟨rfl, l0⟩; replace l0 : Hid (Later w w0) := l0.out)
    refine (hb1.out _).mono ?_
    clear hb1
    rintro e w1 ⟨rfl, l1⟩
    have L1 : Hid (Later w w1) := l0.out.trans l1
    clear l0 l1
    go_wp2_with fail
    refine (hb2.out _).mono ?_
    clear hb2
    rintro e w2 ⟨rfl, l2⟩
    have L2 : Hid (Later w w2) := L1.out.trans l2
    clear L1 l2
    go_wp2_with fail
    refine (hm.out _).mono ?_
    clear hm
    rintro e w3 ⟨A, n, c, st, rfl, l3⟩
    have L3 : Hid (Later w w3) := L2.out.trans l3.out
    clear L2 l3
    go_wp2_with (go_at_call 10; refine (hn.out _ _).mono ?_; rintro e W ⟨rfl, hw⟩; subst hw)
    go_ret
    exact ⟨rfl, La L3.out⟩
  · rw [if_neg hlt] at hr
    have hm : Hid (∀ W, Calls Try.prog 9 #[.string (hd8 ++ bareB x ++ bareB y)] W (DcP W 1503)) := dm_code hs hr
    have hl1 : ¬ (x : Int) < (y : Int) := by omega
    have hl2 : decide ((x : Int) < (y : Int)) = false := decide_eq_false hl1
    generalize bareB x = S1 at *
    generalize bareB y = S2 at *
    clear hr hs z1 z2 hx1 hy1 h8 h9 hl1
    go_enter Try.func5, Try.ntmps5
    go_wp2_with (go_at_call 8; refine (awake_any _).mono ?_; rintro e w0 ⟨rfl, l0⟩; replace l0 : Hid (Later w w0) := l0.out)
    refine (hb1.out _).mono ?_
    clear hb1
    rintro e w1 ⟨rfl, l1⟩
    have L1 : Hid (Later w w1) := l0.out.trans l1
    clear l0 l1
    go_wp2_with fail
    refine (hb2.out _).mono ?_
    clear hb2
    rintro e w2 ⟨rfl, l2⟩
    have L2 : Hid (Later w w2) := L1.out.trans l2
    clear L1 l2
    go_wp2_with fail
    refine (hm.out _).mono ?_
    clear hm
    rintro e w3 ⟨A, n, c, st, rfl, l3⟩
    have L3 : Hid (Later w w3) := L2.out.trans l3.out
    clear L2 l3
    go_wp2_with (go_at_call 10; refine (hn.out _ _).mono ?_; rintro e W ⟨rfl, hw⟩; subst hw)
    go_ret
    exact ⟨rfl, La L3.out⟩
theorem walk (a b : Int) (w : World) : Calls Try.prog 5 #[.int .i64 a, .int .i64 b] w fun e w' => e = .returned (.bool true) ∧ Later w w' := by
  obtain ⟨x, hx, hx1⟩ := by11 a
  obtain ⟨y, hy, hy1⟩ := by11 b
  exact core a b x y hx hy hx1 hy1 w

set_option maxRecDepth 100000 in
theorem lifted (os : Os) (started : os.Started) (H : Type) (enc : TypeId × Value → H) :
    ReturnsInHanded {} Try.checked os 5 .any (Rows.decodeRowsSpec.pre6 enc Try.prog Try.f5 Rows.decodeRowsRow.domain false) (Rows.decodeRowsSpec.post enc Try.prog Try.f5 false true false false) := by
  refine returnsInHanded_of_change_sized (C := Try.checked) own started (by kernel_rfl) Try.func5
    (ChangeSpec.witness6 (enc := enc) (C := Try.checked) false ⟨#[], #[.int .i64 0, .int .i64 0], []⟩ 8 (by kernel_rfl) (by kernel_rfl) (by kernel_rfl) (by kernel_rfl)) ?_
  intro W base args ds gs before hval0 hW _ _ _
  have hval : ∀ (j : Nat) t v, Try.f5.params[j]? = some t → args[j]? = some v → Value.okWide Try.prog W .any base t v := hval0
  have hW' := hW
  obtain ⟨p, q, hA0, hV, rfl, hfz, hnd⟩ := hW
  have hA : DataW.TrodAll enc Try.prog W 0 (fun _ => true) true Try.f5.params.toList args.toList ds p := hA0
  rw [Try.params5] at hA hval
  obtain ⟨v0, vs0, d0, ds0, p0, q0, hargs, rfl, rfl, h0, r0⟩ := trodAll_cons hA
  obtain ⟨v1, vs1, d1, ds1, p1, q1, rfl, rfl, rfl, h1, r1⟩ := trodAll_cons r0
  obtain ⟨rfl, rfl, rfl⟩ := trodAll_nil r1
  obtain rfl : args = #[v0, v1] := by cases args; simp_all
  obtain ⟨rfl, rfl⟩ := trodVars_none hV
  obtain ⟨a0, rfl, rfl, rfl, w0⟩ := open_int Try.underlying3 (hval 0 3 v0 rfl rfl) h0
  obtain ⟨a1, rfl, rfl, rfl, w1⟩ := open_int Try.underlying3 (hval 1 3 v1 rfl rfl) h1
  clear hA0 hval0
  simp only [List.append_nil, List.nil_append] at hW'
  have hlt : ∀ x ∈ ([] : List MemPlace), x.block < W.heap.size := fun x hx => by simpa using hW'.lt x hx
  refine (walk a0 a1 W ).mono fun e W' ⟨he, hl⟩ => ?_
  subst he
  have hbel : Below W.heap.size W W' := by obtain ⟨bs, nn, rfl⟩ := hl; exact ⟨rfl, rfl, rfl, by rw [World.far_size]; omega, fun k hk => World.far_block W bs nn k hk⟩
  have hx : ∀ sp : Nat → Bool, (∀ p ∈ ([] : List MemPlace), sp p.block = true) → DataW.TrodAll enc Try.prog W' 0 sp true [3, 3] [.int .i64 a0, .int .i64 a1] [.lit (.int .i64 a0), .lit (.int .i64 a1)] (([] : List MemPlace)) := fun sp hsp => by simpa using (trodAll_cons_mk (shut_int Try.underlying3 w0) (trodAll_cons_mk (shut_int Try.underlying3 w1) trodAll_mk0))
  exact ⟨_, rfl, post_none hW' (fun _ _ _ => (trodAll_cons_mk (shut_bool Try.underlying4 _) trodAll_mk0)) (fun sp => hx sp (fun p hp => absurd hp List.not_mem_nil)) (fun _ => rfl) (hbel.frame _) (ok_one (by kernel_rfl) rfl (okWide_bool_mk Try.underlying4 _))⟩

theorem over : Rows.decodeRowsRow.holds Try.pinned (OpenSpec.ofChange Rows.decodeRowsSpec) :=
  OpenClaim.holds_of_wide 5 Try.f5 rfl rfl rfl rfl rfl rfl rfl ⟨rfl, rfl, rfl, rfl, rfl⟩ rfl rfl rfl rfl rfl (by kernel_rfl) Try.func5 (by kernel_rfl)
    (of_decide_eq_true (by kernel_rfl)) (by unfold Func.isWrapper; first | (rw [if_pos (by decide +kernel)]; kernel_rfl) | (rw [if_neg (by decide +kernel)]; exact ⟨rfl, rfl⟩))
    (fun os started H enc _ => lifted os started H enc)


theorem proved : Rows.DecodeRowsSaid := over
end Go.Proofs.Ytngciahmoenkiaa.decodeRows
namespace Go.Proofs.Ytngciahmoenkiaa
theorem decodeRows_holds : Rows.DecodeRowsSaid := decodeRows.proved
#print axioms decodeRows_holds
end Go.Proofs.Ytngciahmoenkiaa
