/- 'InstrNests' of package peloruslaw14 returns true at every two ints: how deep blocks may stand, put and got. No condition. -/
import Derived.Test.YtkdfmgdadnlnlaaIAW
import Derived.Test.YtkdfmgdadnlnlaaXO
import Derived.Test.YtkdfmgdadnlnlaaXQ
import Derived.LoopTactic
import Derived.OpenShut
import Derived.ChangeMaps5
import Derived.ShutString
import Derived.SizedLaws
set_option linter.unusedVariables false
set_option linter.unusedSimpArgs false
set_option maxRecDepth 100000
set_option maxHeartbeats 8000000
namespace Go.Proofs.Ytkdfmgdadnlnlaa.instrNests
open Go.ChangeShapes Go.WideShapes Go.ChangeAt Go.RowKit
theorem at_k (many : Int) : ∃ k : Nat, bits .and .i64 many 63 = (k : Int) ∧ k < 64 := ⟨(many % 64).toNat, by rw [show (63 : Int) = ((2 ^ 6 : Nat) - 1 : Int) by decide, BM.and_mask many 6 (by decide)]; omega, by omega⟩
theorem at_o (op : Int) : ∃ o : Int, wrap64 (2 + wrap64 ((IntKind.u64.wrap op).tmod 3)) = o ∧ 2 ≤ o ∧ o ≤ 4 := by
  have h0 : 0 ≤ IntKind.u64.wrap op := by rw [IntKind.wrap_u64]; omega
  refine ⟨_, rfl, ?_⟩
  rw [Int.tmod_eq_emod_of_nonneg h0]
  unfold wrap64
  omega
theorem walk (many op : Int) (w : World) :
    Calls Try.prog 7 #[.int .i64 many, .int .i64 op] w fun e w' => e = .returned (.bool true) ∧ Later w w' := by
  obtain ⟨k, hk, hk2⟩ := at_k many
  obtain ⟨o, ho', ho⟩ := at_o op
  replace hk : Hid _ := hk
  have hu8 : IntKind.u8.wrap o = o := by rw [IntKind.wrap_u8]; omega
  have c2 : ∀ (W : World) (g : Nat), g = W.heap.size → (convert 53 9 (.slice (some ⟨g, 0, none⟩) 2 2)).run Try.prog (W.alloc (.cells #[.int .u8 o, .int .u8 64] 5)) = .ok (.string (strOfNums [o, 64])) (W.alloc (.cells #[.int .u8 o, .int .u8 64] 5)) := fun W g hg => by
    subst hg
    exact conv_n [o, 64] (by simp; omega) 2 rfl W
  have hs2 : (strOfNums [o, 64]).size = 2 := strOfNums_size _
  have hok := nest_ok ho
  go_enter Try.func7, Try.ntmps7
  go_wp2_with (go_at_call 16; refine (awake_any _).mono ?_; rintro e w1 ⟨rfl, l1⟩)
  rw [ho', hk.out]
  clear ho'
  go_loopw [7, 8, 9] (fun v t i wr => ∃ (j : Nat) (A : Option Addr) (c : Nat), j ≤ k ∧ i = .int .i64 (j : Nat) ∧ v = .slice A (nest o j).len c ∧ t = .string (strOfNums (prs o j)) ∧ Tr (fun _ => True) wr A (nest o j) ∧ Later w wr) (fun v t i _ => k - (intOf i).toNat)
  case atStart => exact ⟨0, none, 0, Nat.zero_le _, rfl, rfl, rfl, Or.inl rfl, l1⟩
  case round =>
    obtain ⟨j, A, c, hj, rfl, rfl, rfl, hT, hL⟩ := hrel
    have hsz : (strOfNums (prs o j)).size = 2 * j := by rw [strOfNums_size, prs_len]
    by_cases hlt : j < k
    · have hl1 : (j : Int) < (k : Int) := by omega
      have happ := str_app (prs o j) [o, 64]
      rw [← prs_app] at happ
      have hsb : (strOfNums (prs o j)).size ≤ 200 := by omega
      have hfin : Hid (∀ W' : World, Later (wr.alloc (.cells #[.int .i64 o, .int .i64 0, .int .i64 0, .int .i64 0, .int .i64 64, .slice none 0 0, .slice A (nest o j).len c, .slice none 0 0] 47)) W' → Tr (fun _ => True) W' (some ⟨wr.heap.size, 0, none⟩) (nest o (j + 1)) ∧ Later w W') := fun W' hl => ⟨tr_lit (W := wr) (ls := []) (bo := nest o j) (el := .nil) rfl rfl rfl hl (lq_nil _ _ _) (hT.later ((La (Lz _)).trans hl)) (Or.inl rfl) trivial, hL.trans ((La (Lz _)).trans hl)⟩
      clear hT hL hsz
      generalize hX : strOfNums (prs o j) = X at *
      clear hX
      go_wp2_with fail
      go_roundw
      case rel => exact ⟨j + 1, some ⟨wr.heap.size, 0, none⟩, 1, by omega, by go_num, rfl, rfl, (hfin.out _ (La (Lz _))).1, (hfin.out _ (La (Lz _))).2⟩
      case measure => simp [intOf]; omega
    · obtain rfl : j = k := by omega
      replace hT : Hid (Tr (fun _ => True) wr A (nest o j)) := hT
      replace hL : Hid (Later w wr) := hL
      have hl1 : ¬ (j : Int) < (j : Int) := by omega
      clear hsz hlt
      go_wp2_with fail
      go_loopw [8, 10] (fun t i w3 => ∃ m : Nat, m ≤ j + 1 ∧ i = .int .i64 (m : Nat) ∧ t = .string (strOfNums (prs o j ++ List.replicate m 11)) ∧ w3 = wr) (fun t i _ => j + 1 - (intOf i).toNat)
      case atStart => exact ⟨0, Nat.zero_le _, rfl, by rw [List.replicate_zero, List.append_nil], rfl⟩
      case round =>
        obtain ⟨m, hm, rfl, rfl, hw3⟩ := hrel
        subst hw3
        have hsz : (strOfNums (prs o j ++ List.replicate m 11)).size ≤ 300 := by rw [strOfNums_size, List.length_append, prs_len, List.length_replicate]; omega
        by_cases hlt2 : m < j + 1
        · have hl2 : (m : Int) ≤ (j : Int) := by omega
          have happ : strOfNums (prs o j ++ List.replicate m 11) ++ ({ data := #[11] } : ByteArray) = strOfNums (prs o j ++ List.replicate (m + 1) 11) := by
            rw [show ({ data := #[11] } : ByteArray) = strOfNums [11] from rfl, str_app, List.append_assoc, ← List.replicate_succ']
          generalize hX : strOfNums (prs o j ++ List.replicate m 11) = X at *
          clear hX
          go_wp2_with fail
          go_roundw
          case rel => exact ⟨m + 1, by omega, by go_num, rfl, trivial⟩
          case measure => simp [intOf]; omega
        · obtain rfl : m = j + 1 := by omega
          have hl2 : ¬ ((j + 1 : Nat) : Int) ≤ (j : Int) := by omega
          by_cases h32 : 32 < j
          · have hpu := pu_deep ho j h32 (by omega)
            have hun := un_deep ho j h32 (by omega)
            have h1 : Hid (∀ (W : World), Tr (fun _ => True) W A (nest o j) → Calls Try.prog 10 #[.slice A (nest o j).len c] W fun e w' => e = .returned (.tuple #[.string ⟨#[]⟩, .int .i64 1402]) ∧ Hid (Later W w')) := fun W hW => iput_lit (nest o j) (hok j) (by have := nest_len o j; split at this <;> omega) _ _ ⟨#[]⟩ rfl hpu _ rfl _ W _ _ hW
            have h2 : Hid (∀ (W : World), Calls Try.prog 17 #[.string (strOfNums (prs o j ++ List.replicate (j + 1) 11)), .int .i64 0] W fun e' w' => ∃ A' c', e' = .returned (.tuple #[.slice A' Fs.nil.len c', .int .i64 0, .int .i64 1402]) ∧ Hid (Tr (W.heap.size ≤ ·) w' A' .nil) ∧ Hid (Later W w')) := fun W => iget_is _ 0 .nil 0 1402 hun (by omega) (by decide) W
            have h33 : (32 : Int) < (j : Int) := by omega
            generalize strOfNums (prs o j ++ List.replicate (j + 1) 11) = X at *
            generalize (nest o j).len = n at *
            clear hpu hun h32 hm hlt2 hsz hok hs2 c2 hu8
            go_wp2_with fail
            refine (h1.out _ hT.out).mono ?_
            clear h1
            rintro e w4 ⟨rfl, l4⟩
            go_wp2_with fail
            refine (h2.out _).mono ?_
            clear h2
            rintro e w5 ⟨A5, c5, rfl, T5, l5⟩
            go_wp2_with (first | (go_at_call 12; refine (num_any _ _).mono ?_; rintro e w' ⟨rfl, hw⟩; have hw := hw.symm; subst hw))
            go_ret
            exact ⟨rfl, (hL.out.trans l4.out).trans l5.out⟩
          · have hpu := pu_nest ho j (by omega)
            have hun := un_nest ho j (by omega)
            have hlen : (nest o j).len * 112 ≤ 140737488351232 := by have := nest_len o j; split at this <;> omega
            have h1 : Hid (∀ (W : World), Tr (fun _ => True) W A (nest o j) → Calls Try.prog 10 #[.slice A (nest o j).len c] W fun e w' => e = .returned (.tuple #[.string (strOfNums (prs o j ++ List.replicate (j + 1) 11)), .int .i64 0]) ∧ Hid (Later W w')) := fun W hW => iput_is (nest o j) (hok j) hlen _ _ hpu _ rfl _ W _ _ hW
            have h2 : Hid (∀ (W : World), Calls Try.prog 17 #[.string (strOfNums (prs o j ++ List.replicate (j + 1) 11)), .int .i64 0] W fun e' w' => ∃ A' c', e' = .returned (.tuple #[.slice A' (nest o j).len c', .int .i64 ((strOfNums (prs o j ++ List.replicate (j + 1) 11)).size : Int), .int .i64 0]) ∧ Hid (Tr (W.heap.size ≤ ·) w' A' (nest o j)) ∧ Hid (Later W w')) := fun W => iget_is _ 0 _ _ 0 hun (by omega) (by decide) W
            have h4 : Hid (∀ (W : World), Tr (fun _ => True) W A (nest o j) → Calls Try.prog 13 #[.slice A (nest o j).len c] W fun e w' => e = .returned (.int .i64 (j : Nat)) ∧ Hid (Later W w')) := fun W hW => icount_is (nest o j) (hok j) hlen j (by have := al_nest o j 0 [] (by simp; omega); simpa using this) _ rfl _ W _ _ hW
            have h6 : Hid (∀ (Z : Nat → Prop) (W : World) (B : Option Addr) (k' : Nat), Tr Z W B (nest o j) → Tr (fun _ => True) W A (nest o j) → Calls Try.prog 15 #[.slice B (nest o j).len k', .slice A (nest o j).len c] W fun e w' => e = .returned (.bool true) ∧ Hid (Later W w')) := fun Z W B k' hB hC => isame_is (nest o j) (hok j) hlen _ _ rfl rfl Z _ W B A k' c hB hC
            have h33 : ¬ (32 : Int) < (j : Int) := by omega
            generalize strOfNums (prs o j ++ List.replicate (j + 1) 11) = X at *
            clear hpu hun h32 hm hlt2 hsz hok hs2 c2 hu8 hlen
            generalize (nest o j).len = n at *
            go_wp2_with fail
            refine (h1.out _ hT.out).mono ?_
            clear h1
            rintro e w4 ⟨rfl, l4⟩
            go_wp2_with fail
            refine (h2.out _).mono ?_
            clear h2
            rintro e w5 ⟨A5, c5, rfl, T5, l5⟩
            have T35 : Hid (Tr (fun _ => True) w5 A (nest o j)) := hT.out.later (l4.out.trans l5.out)
            have L5 : Hid (Later w w5) := (hL.out.trans l4.out).trans l5.out
            clear l4 l5 hL hT
            go_wp2_with (first | (go_at_call 12; refine (num_any _ _).mono ?_; rintro e w' ⟨rfl, hw⟩; have hw := hw.symm; subst hw) | (go_at_call 15; refine (h6.out _ _ _ _ T5.out T35.out).mono ?_; clear h6; rintro e w6 ⟨rfl, l6⟩) | (go_at_call 13; refine (h4.out _ (T35.out.later l6.out)).mono ?_; clear h4; rintro e w7 ⟨rfl, l7⟩))
            go_ret
            exact ⟨rfl, (L5.out.trans l6.out).trans l7.out⟩

set_option maxRecDepth 100000 in
theorem lifted (os : Os) (started : os.Started) (H : Type) (enc : TypeId × Value → H) :
    ReturnsInHanded {} Try.checked os 7 .any (Rows.instrNestsSpec.pre6 enc Try.prog Try.f7 Rows.instrNestsRow.domain false) (Rows.instrNestsSpec.post enc Try.prog Try.f7 false true false false) := by
  refine returnsInHanded_of_change_sized (C := Try.checked) own started (by kernel_rfl) Try.func7
    (ChangeSpec.witness6 (enc := enc) (C := Try.checked) false ⟨#[], #[.int .i64 0, .int .i64 0], []⟩ 8 (by kernel_rfl) (by kernel_rfl) (by kernel_rfl) (by kernel_rfl)) ?_
  intro W base args ds gs before hval0 hW _ _ _
  have hval : ∀ (j : Nat) t v, Try.f7.params[j]? = some t → args[j]? = some v → Value.okWide Try.prog W .any base t v := hval0
  have hW' := hW
  obtain ⟨p, q, hA0, hV, rfl, hfz, hnd⟩ := hW
  have hA : DataW.TrodAll enc Try.prog W 0 (fun _ => true) true Try.f7.params.toList args.toList ds p := hA0
  rw [Try.params7] at hA hval
  obtain ⟨v0, vs0, d0, ds0, p0, q0, hargs, rfl, rfl, h0, r0⟩ := trodAll_cons hA
  obtain ⟨v1, vs1, d1, ds1, p1, q1, rfl, rfl, rfl, h1, r1⟩ := trodAll_cons r0
  obtain ⟨rfl, rfl, rfl⟩ := trodAll_nil r1
  obtain rfl : args = #[v0, v1] := by cases args; simp_all
  obtain ⟨rfl, rfl⟩ := trodVars_none hV
  obtain ⟨a0, rfl, rfl, rfl, w0⟩ := open_int Try.underlying3 (hval 0 3 v0 rfl rfl) h0
  obtain ⟨a1, rfl, rfl, rfl, w1⟩ := open_int Try.underlying3 (hval 1 3 v1 rfl rfl) h1
  clear hA0 hval0
  simp only [List.append_nil, List.nil_append] at hW'
  have hlt : ∀ x ∈ ([] : List MemPlace), x.block < W.heap.size := fun x hx => by simpa using hW'.lt x hx
  refine (walk a0 a1 W ).mono fun e W' ⟨he, hl⟩ => ?_
  subst he
  have hbel : Below W.heap.size W W' := by obtain ⟨bs, nn, rfl⟩ := hl; exact ⟨rfl, rfl, rfl, by rw [World.far_size]; omega, fun k hk => World.far_block W bs nn k hk⟩
  have hx : ∀ sp : Nat → Bool, (∀ p ∈ ([] : List MemPlace), sp p.block = true) → DataW.TrodAll enc Try.prog W' 0 sp true [3, 3] [.int .i64 a0, .int .i64 a1] [.lit (.int .i64 a0), .lit (.int .i64 a1)] (([] : List MemPlace)) := fun sp hsp => by simpa using (trodAll_cons_mk (shut_int Try.underlying3 w0) (trodAll_cons_mk (shut_int Try.underlying3 w1) trodAll_mk0))
  exact ⟨_, rfl, post_kept (pa := ([] : List MemPlace)) (pv := []) hW' (fun _ _ _ => (trodAll_cons_mk (shut_bool Try.underlying4 _) trodAll_mk0)) (fun sp hsp => hx sp hsp) (fun _ _ => rfl) (by simp) (hbel.frame _) hbel.block (ok_one (by kernel_rfl) rfl (okWide_bool_mk Try.underlying4 _))⟩

theorem over : Rows.instrNestsRow.holds Try.pinned (OpenSpec.ofChange Rows.instrNestsSpec) :=
  OpenClaim.holds_of_wide 7 Try.f7 rfl rfl rfl rfl rfl rfl rfl ⟨rfl, rfl, rfl, rfl, rfl⟩ rfl rfl rfl rfl rfl (by kernel_rfl) Try.func7 (by kernel_rfl)
    (of_decide_eq_true (by kernel_rfl)) (by unfold Func.isWrapper; first | (rw [if_pos (by decide +kernel)]; kernel_rfl) | (rw [if_neg (by decide +kernel)]; exact ⟨rfl, rfl⟩))
    (fun os started H enc _ => lifted os started H enc)


theorem proved : Rows.InstrNestsSaid := over
end Go.Proofs.Ytkdfmgdadnlnlaa.instrNests
namespace Go.Proofs.Ytkdfmgdadnlnlaa
theorem instrNests_holds : Rows.InstrNestsSaid := instrNests.proved
#print axioms instrNests_holds
end Go.Proofs.Ytkdfmgdadnlnlaa
