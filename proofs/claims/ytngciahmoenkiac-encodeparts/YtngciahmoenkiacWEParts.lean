/- 'EncodeParts' of package peloruslaw16 returns true at every two ints: each part that may not be is refused, whatever else is there. No condition. -/
import Derived.Test.YtngciahmoenkiacWEPa
import Derived.Laws.MakeOwn
import Derived.LoopTactic
import Derived.OpenShut
import Derived.ChangeMaps5
import Derived.ShutString
import Derived.SizedLaws
set_option linter.unusedVariables false
set_option linter.unusedSimpArgs false
set_option maxRecDepth 100000
set_option maxHeartbeats 8000000
namespace Go.Proofs.Ytngciahmoenkiac.encodeParts
open Go.ChangeShapes Go.WideShapes Go.ChangeAt Go.RowKit
open Go.Proofs.Ytngciahmoenkiac.en
theorem eA_mem : ∀ {l : List Ob} {b : List Int}, eA id l = some b → ∀ o ∈ l, ∃ y, o = some y ∧ y.length ≤ b.length
  | [], b, _, o, ho => by cases ho
  | o1 :: r, b, h, o, ho => by
    obtain ⟨x, y, e1, e2, rfl⟩ := oB_eq (show oB o1 (eA id r) = some b from h)
    rw [List.length_append]
    rcases List.mem_cons.1 ho with rfl | ho
    · exact ⟨x, e1, by omega⟩
    · obtain ⟨z, e3, h3⟩ := eA_mem e2 o ho
      exact ⟨z, e3, by omega⟩
theorem enM_data (S : ByteArray) (hS : S.size = 65536) : enM { mdZ (-1) with da := [(.nil, S)] } = (⟨#[]⟩, 1600) := by
  unfold enM
  split
  · rfl
  · rename_i b hb
    refine if_neg (fun hx => ?_)
    rw [eM_eq] at hb
    obtain ⟨y, hy, hl⟩ := eA_mem hb (eS 11 1 (eL 1024 eDa [(.nil, S)])) (by unfold pM; simp [mdZ])
    cases ho : eL 1024 eDa [(.nil, S)] with
    | none => rw [ho] at hy; cases hy
    | some z =>
      rw [ho] at hy
      have hy2 : 11 :: (lebL (z.length : Int) ++ z) = y := by
        have : (if 1 = 0 then some [] else some ((11 : Int) :: (lebL (z.length : Int) ++ z))) = some y := hy
        rw [if_neg (by decide)] at this
        exact Option.some.inj this
      obtain ⟨x1, y1, e1, e2, rfl⟩ := oB_eq (show oB (some (lebL 1)) (oB (eDa (.nil, S)) (some [])) = some z from by unfold eL at ho; rwa [if_pos (by show 1 ≤ 1024; decide)] at ho)
      obtain ⟨x2, y2, e3, e4, rfl⟩ := oB_eq e2
      obtain ⟨x3, y3, e5, e6, rfl⟩ := oB_eq (show oB (eC 0) (oB (eI .nil) (some (lebL (S.size : Int) ++ strL S))) = some x2 from e3)
      obtain ⟨x4, y4, e7, e8, rfl⟩ := oB_eq e6
      have e8 := Option.some.inj e8
      have hle := congrArg List.length e8
      rw [List.length_append, strl_len, hS] at hle
      rw [← hy2] at hl
      simp only [List.length_cons, List.length_append] at hl
      have := hx.2
      omega
theorem enM_types (ts : List (List Int × List Int)) (h : ¬ ts.length ≤ 256) : enM { mdZ (-1) with ty := ts } = (⟨#[]⟩, 1600) :=
  enM_none (by unfold pM; refine List.mem_cons.2 (Or.inl (Eq.symm ?_)); show eS _ _ (eL 256 eTy ts) = none; rw [show eL 256 eTy ts = none from if_neg h]; rfl)
theorem made_toList (z : Value) (n : Nat) : (madeCells #[z] n).toList = List.replicate n z := by
  apply List.ext_getElem
  · simp [madeCells]
  · intro i h1 h2
    simp [madeCells, Nat.mod_one]
theorem made2_toList (z : Value) (n : Nat) : (madeCells #[z, z] n).toList = List.replicate n z := by
  apply List.ext_getElem
  · simp [madeCells]
  · intro i h1 h2
    have h : i % 2 = 0 ∨ i % 2 = 1 := by omega
    rcases h with h | h <;> simp [madeCells, h]
theorem itc_tys {W : World} : ∀ n : Nat, itc (fun _ => True) W ((List.replicate n (([] : List Int), ([] : List Int))).flatMap fTy) (List.replicate (n * 2) (.slice none 0 0))
  | 0 => rfl
  | n + 1 => by
    rw [show (n + 1) * 2 = n * 2 + 1 + 1 by omega]
    exact ⟨_, _, rfl, ⟨none, 0, rfl, lq_nil⟩, _, _, rfl, ⟨none, 0, rfl, lq_nil⟩, itc_tys n⟩
theorem mk_tys (W : World) : (Instr.makeSlice 23 (.int .i64 257) (.int .i64 257)).run Try.prog W = .ok (.slice (some ⟨W.heap.size, 0, none⟩) 257 257) (W.alloc (.cells (List.replicate 514 (.slice none 0 0)).toArray 36)) := by
  have h : ((Try.prog.info? 36).bind fun i => i.zero.map fun z => (i.size, i.bytes, z.cells)) = some (2, 48, #[.slice none 0 0, .slice none 0 0]) := by kernel_rfl
  cases hi : Try.prog.info? 36 with
  | none => rw [hi] at h; cases h
  | some i =>
    rw [hi] at h
    cases hz : i.zero with
    | none => simp [hz] at h
    | some z =>
      simp [hz] at h
      have := run_makeSlice (P := Try.prog) (w := W) 23 36 i z Try.underlying23 hi hz .i64 .i64 257 257 (by decide) (by decide) (by rw [h.1]; decide) (by rw [h.2.1]; decide) (by decide)
      rw [this, h.1, h.2.2]
      rw [show madeCells #[.slice none 0 0, .slice none 0 0] ((257 : Int).toNat * 2) = (List.replicate 514 (Value.slice none 0 0)).toArray from Array.toList_inj.1 (by rw [made2_toList]; rfl)]
      rfl
theorem mk_bytes (W : World) : (Instr.makeSlice 50 (.int .i64 65536) (.int .i64 65536)).run Try.prog W = .ok (.slice (some ⟨W.heap.size, 0, none⟩) 65536 65536) (W.alloc (.cells (bys (List.replicate 65536 0)).toArray 5)) := by
  obtain ⟨i, hi, hz, hs1, hb1⟩ := byte_parts
  have := run_makeSlice (P := Try.prog) (w := W) 50 5 i (.int .u8 0) Try.underlying50 hi hz .i64 .i64 65536 65536 (by decide) (by decide) (by rw [hs1]; decide) (by rw [hb1]; decide) (by decide)
  rw [this, hs1]
  rw [show madeCells (Value.int .u8 0).cells ((65536 : Int).toNat * 1) = (bys (List.replicate 65536 0)).toArray from Array.toList_inj.1 (by rw [show (Value.int .u8 0).cells = #[Value.int .u8 0] from rfl, made_toList]; unfold bys; rw [List.map_replicate]; rfl)]
  rfl
theorem core12 (which x : Int) (w : World) (hk : (IntKind.u64.wrap which).tmod 14 = 12) : Calls Try.prog 3 #[.int .i64 which, .int .i64 x] w fun e w' => e = .returned (.bool true) ∧ Later w w' := by
  have ha : Hid (∀ w : World, Calls Try.prog 4 #[] w fun e w' => e = .returned (.bool true) ∧ Hid (Later w w')) := awake_any
  have hz : Hid (∀ W : World, Calls Try.prog 5 #[.agg #[.slice none 0 0, .slice none 0 0, .slice none 0 0, .slice none 0 0, .slice none 0 0, .slice none 0 0, .slice none 0 0, .int .i64 (-1), .slice none 0 0, .slice none 0 0, .slice none 0 0]] W fun e w' => e = .returned (.tuple #[.string ⟨#[0, 97, 115, 109, 1, 0, 0, 0]⟩, .int .i64 0]) ∧ Hid (Later W w')) := em_z
  have hnum : Hid (∀ (n : Int) (w : World), Calls Try.prog 6 #[.int .i64 n] w fun e w' => e = .returned (.int .i64 n) ∧ w' = w) := fun n w => num_any n w
  have hby : ∀ b ∈ List.replicate 65536 (0 : Int), 0 ≤ b ∧ b < 256 := fun b hb => by rw [(List.mem_replicate.1 hb).2]; decide
  have hlen : (List.replicate 65536 (0 : Int)).length = 65536 := List.length_replicate
  have hmk : ∀ W : World, (Instr.makeSlice 50 (.int .i64 65536) (.int .i64 65536)).run Try.prog W = .ok (.slice (some ⟨W.heap.size, 0, none⟩) 65536 65536) (W.alloc (.cells (bys (List.replicate 65536 0)).toArray 5)) := mk_bytes
  generalize List.replicate 65536 (0 : Int) = D at *
  have hcv : ∀ (W : World) (g : Nat), g = W.heap.size → (convert 50 9 (.slice (some ⟨g, 0, none⟩) 65536 65536)).run Try.prog (W.alloc (.cells (bys D).toArray 5)) = .ok (.string (strOfNums D)) (W.alloc (.cells (bys D).toArray 5)) := fun W g hg => by subst hg; exact conv_b D hby 65536 hlen (Lz _)
  obtain ⟨S, hSD⟩ : ∃ S, S = strOfNums D := ⟨_, rfl⟩
  have hS : Hid (S.size = 65536) := by rw [hSD, strOfNums_size]; exact hlen
  rw [← hSD] at hcv
  generalize (bys D).toArray = RD at *
  clear hSD hby hlen
  go_enter Try.func3, Try.ntmps3
  go_wp2_with (go_at_call 4; refine (ha.out _).mono ?_; rintro e w2 ⟨rfl, l2⟩)
  clear ha
  refine (en_bad (Z := fun _ => True) { mdZ (-1) with da := [(.nil, S)] } (enM_data S hS.out) ?_ ?_).mono ?_
  · exact ⟨_, _, _, _, _, _, _, _, _, _, rfl, Fc.nil, Fc.nil, Fc.nil, Fc.nil, Fc.nil, Fc.nil, Fc.nil, Fc.nil, Fc.nil, fc_one (T := 52) (L := [.slice none 0 0, .string S]) (by first | exact row_at (by simp) _ _ | exact rowIs_later (La (Lz _)) (row_at (by simp) _ _) | exact rowIs_later (La (La (Lz _))) (row_at (by simp) _ _)) rfl trivial ⟨_, _, rfl, ⟨none, 0, rfl, tr_nil⟩, _, _, rfl, rfl, rfl⟩⟩
  · (have h := hS.out; constructor <;> simp [mdZ, Fs.Ok, Fs.len, Fs.nil, h])
  rintro e w3 ⟨rfl, l3⟩
  have L3 : Hid (Later w w3) := by first | exact (La l2.out).trans l3.out | exact (La (La l2.out)).trans l3.out | exact (La (La (La l2.out))).trans l3.out
  clear l3 l2
  go_wp2_with fail
  refine (hz.out _).mono ?_
  rintro e w4 ⟨rfl, l4⟩
  have L4 : Hid (Later w w4) := by first | exact L3.out.trans l4.out | exact (La L3.out).trans l4.out
  clear l4 L3 hz
  go_wp2_with (go_at_call 6; refine (hnum.out _ _).mono ?_; rintro e w' ⟨rfl, rfl⟩)
  all_goals
    go_ret
    first | exact ⟨rfl, L4.out⟩ | exact ⟨rfl, Ld L4.out⟩
theorem core13 (which x : Int) (w : World) (hk : (IntKind.u64.wrap which).tmod 14 = 13) : Calls Try.prog 3 #[.int .i64 which, .int .i64 x] w fun e w' => e = .returned (.bool true) ∧ Later w w' := by
  have ha : Hid (∀ w : World, Calls Try.prog 4 #[] w fun e w' => e = .returned (.bool true) ∧ Hid (Later w w')) := awake_any
  have hz : Hid (∀ W : World, Calls Try.prog 5 #[.agg #[.slice none 0 0, .slice none 0 0, .slice none 0 0, .slice none 0 0, .slice none 0 0, .slice none 0 0, .slice none 0 0, .int .i64 (-1), .slice none 0 0, .slice none 0 0, .slice none 0 0]] W fun e w' => e = .returned (.tuple #[.string ⟨#[0, 97, 115, 109, 1, 0, 0, 0]⟩, .int .i64 0]) ∧ Hid (Later W w')) := em_z
  have hnum : Hid (∀ (n : Int) (w : World), Calls Try.prog 6 #[.int .i64 n] w fun e w' => e = .returned (.int .i64 n) ∧ w' = w) := fun n w => num_any n w
  have hmk : ∀ W : World, (Instr.makeSlice 23 (.int .i64 257) (.int .i64 257)).run Try.prog W = .ok (.slice (some ⟨W.heap.size, 0, none⟩) 257 257) (W.alloc (.cells (List.replicate 514 (.slice none 0 0)).toArray 36)) := mk_tys
  generalize hRR : List.replicate 514 (Value.slice none 0 0) = RR at *
  replace hRR : Hid (List.replicate 514 (Value.slice none 0 0) = RR) := hRR
  go_enter Try.func3, Try.ntmps3
  go_wp2_with (go_at_call 4; refine (ha.out _).mono ?_; rintro e w2 ⟨rfl, l2⟩)
  clear ha
  refine (en_bad (Z := fun _ => True) { mdZ (-1) with ty := List.replicate 257 ([], []) } (enM_types _ (by rw [List.length_replicate]; decide)) ?_ ?_).mono ?_
  · refine ⟨_, _, _, _, _, _, _, _, _, _, rfl, ⟨some ⟨w2.heap.size + 1, 0, none⟩, 257, rfl, Or.inr ⟨w2.heap.size + 1, 0, List.replicate 514 (.slice none 0 0), rfl, trivial, fun j u hu => ?_, itc_tys 257⟩⟩, Fc.nil, Fc.nil, Fc.nil, Fc.nil, Fc.nil, Fc.nil, Fc.nil, Fc.nil, Fc.nil⟩
    rw [hRR.out] at hu
    have hj : j < RR.length := (List.getElem?_eq_some_iff.1 hu).1
    have hr := fun (W : World) (hp : W.heap.size = w2.heap.size + 1) => row_at hp 36 RR
    rw [Nat.zero_add]
    refine ((hr _ (by simp)).cell (i := j) hj).trans ?_
    rw [List.getD_eq_getElem?_getD, hu]
    rfl
  · constructor <;> simp [mdZ]
  rintro e w3 ⟨rfl, l3⟩
  have L3 : Hid (Later w w3) := by first | exact (La l2.out).trans l3.out | exact (La (La l2.out)).trans l3.out | exact (La (La (La l2.out))).trans l3.out
  clear l3 l2
  go_wp2_with fail
  refine (hz.out _).mono ?_
  rintro e w4 ⟨rfl, l4⟩
  have L4 : Hid (Later w w4) := by first | exact L3.out.trans l4.out | exact (La L3.out).trans l4.out
  clear l4 L3 hz
  go_wp2_with (go_at_call 6; refine (hnum.out _ _).mono ?_; rintro e w' ⟨rfl, rfl⟩)
  all_goals
    go_ret
    first | exact ⟨rfl, L4.out⟩ | exact ⟨rfl, Ld L4.out⟩
theorem mod14 (z : Int) (h : 0 ≤ z) : z.tmod 14 = 0 ∨ z.tmod 14 = 1 ∨ z.tmod 14 = 2 ∨ z.tmod 14 = 3 ∨ z.tmod 14 = 4 ∨ z.tmod 14 = 5 ∨ z.tmod 14 = 6 ∨ z.tmod 14 = 7 ∨ z.tmod 14 = 8 ∨ z.tmod 14 = 9 ∨ z.tmod 14 = 10 ∨ z.tmod 14 = 11 ∨ z.tmod 14 = 12 ∨ z.tmod 14 = 13 := by
  rw [Int.tmod_eq_emod_of_nonneg h]
  omega
theorem walk (which x : Int) (w : World) : Calls Try.prog 3 #[.int .i64 which, .int .i64 x] w fun e w' => e = .returned (.bool true) ∧ Later w w' := by
  rcases mod14 (IntKind.u64.wrap which) (by rw [IntKind.wrap_u64]; omega) with h | h | h | h | h | h | h | h | h | h | h | h | h | h
  · exact core0 which x w h
  · exact core1 which x w h
  · exact core2 which x w h
  · exact core3 which x w h
  · exact core4 which x w h
  · exact core5 which x w h
  · exact core6 which x w h
  · exact core7 which x w h
  · exact core8 which x w h
  · exact core9 which x w h
  · exact core10 which x w h
  · exact core11 which x w h
  · exact core12 which x w h
  · exact core13 which x w h

set_option maxRecDepth 100000 in
theorem lifted (os : Os) (started : os.Started) (H : Type) (enc : TypeId × Value → H) :
    ReturnsInHanded {} Try.checked os 3 .any (Rows.encodePartsSpec.pre6 enc Try.prog Try.f3 Rows.encodePartsRow.domain false) (Rows.encodePartsSpec.post enc Try.prog Try.f3 false true false false) := by
  refine returnsInHanded_of_change_sized (C := Try.checked) own started (by kernel_rfl) Try.func3
    (ChangeSpec.witness6 (enc := enc) (C := Try.checked) false ⟨#[], #[.int .i64 0, .int .i64 0], []⟩ 8 (by kernel_rfl) (by kernel_rfl) (by kernel_rfl) (by kernel_rfl)) ?_
  intro W base args ds gs before hval0 hW _ _ _
  have hval : ∀ (j : Nat) t v, Try.f3.params[j]? = some t → args[j]? = some v → Value.okWide Try.prog W .any base t v := hval0
  have hW' := hW
  obtain ⟨p, q, hA0, hV, rfl, hfz, hnd⟩ := hW
  have hA : DataW.TrodAll enc Try.prog W 0 (fun _ => true) true Try.f3.params.toList args.toList ds p := hA0
  rw [Try.params3] at hA hval
  obtain ⟨v0, vs0, d0, ds0, p0, q0, hargs, rfl, rfl, h0, r0⟩ := trodAll_cons hA
  obtain ⟨v1, vs1, d1, ds1, p1, q1, rfl, rfl, rfl, h1, r1⟩ := trodAll_cons r0
  obtain ⟨rfl, rfl, rfl⟩ := trodAll_nil r1
  obtain rfl : args = #[v0, v1] := by cases args; simp_all
  obtain ⟨rfl, rfl⟩ := trodVars_none hV
  obtain ⟨a0, rfl, rfl, rfl, w0⟩ := open_int Try.underlying3 (hval 0 3 v0 rfl rfl) h0
  obtain ⟨a1, rfl, rfl, rfl, w1⟩ := open_int Try.underlying3 (hval 1 3 v1 rfl rfl) h1
  clear hA0 hval0
  simp only [List.append_nil, List.nil_append] at hW'
  have hlt : ∀ x ∈ ([] : List MemPlace), x.block < W.heap.size := fun x hx => by simpa using hW'.lt x hx
  refine (walk a0 a1 W ).mono fun e W' ⟨he, hl⟩ => ?_
  subst he
  have hbel : Below W.heap.size W W' := by obtain ⟨bs, nn, rfl⟩ := hl; exact ⟨rfl, rfl, rfl, by rw [World.far_size]; omega, fun k hk => World.far_block W bs nn k hk⟩
  have hx : ∀ sp : Nat → Bool, (∀ p ∈ ([] : List MemPlace), sp p.block = true) → DataW.TrodAll enc Try.prog W' 0 sp true [3, 3] [.int .i64 a0, .int .i64 a1] [.lit (.int .i64 a0), .lit (.int .i64 a1)] (([] : List MemPlace)) := fun sp hsp => by simpa using (trodAll_cons_mk (shut_int Try.underlying3 w0) (trodAll_cons_mk (shut_int Try.underlying3 w1) trodAll_mk0))
  exact ⟨_, rfl, post_none hW' (fun _ _ _ => (trodAll_cons_mk (shut_bool Try.underlying4 _) trodAll_mk0)) (fun sp => hx sp (fun p hp => absurd hp List.not_mem_nil)) (fun _ => rfl) (hbel.frame _) (ok_one (by kernel_rfl) rfl (okWide_bool_mk Try.underlying4 _))⟩

theorem over : Rows.encodePartsRow.holds Try.pinned (OpenSpec.ofChange Rows.encodePartsSpec) :=
  OpenClaim.holds_of_wide 3 Try.f3 rfl rfl rfl rfl rfl rfl rfl ⟨rfl, rfl, rfl, rfl, rfl⟩ rfl rfl rfl rfl rfl (by kernel_rfl) Try.func3 (by kernel_rfl)
    (of_decide_eq_true (by kernel_rfl)) (by unfold Func.isWrapper; first | (rw [if_pos (by decide +kernel)]; kernel_rfl) | (rw [if_neg (by decide +kernel)]; exact ⟨rfl, rfl⟩))
    (fun os started H enc _ => lifted os started H enc)


theorem proved : Rows.EncodePartsSaid := over
end Go.Proofs.Ytngciahmoenkiac.encodeParts
namespace Go.Proofs.Ytngciahmoenkiac
theorem encodeParts_holds : Rows.EncodePartsSaid := encodeParts.proved
#print axioms encodeParts_holds
end Go.Proofs.Ytngciahmoenkiac
