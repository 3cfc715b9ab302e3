/- 'TablePuts' of package peloruslaw9 returns true at every three ints: what is put is got, beside it all is null. No condition. -/
import Derived.Test.YtdkjgbgoglhbgaaNG
import Derived.Test.YtdkjgbgoglhbgaaMath
import Derived.LoopTactic
import Derived.OpenShut
set_option linter.unusedVariables false
set_option linter.unusedSimpArgs false
set_option maxRecDepth 100000
set_option maxHeartbeats 8000000
namespace Go.Proofs.Ytdkjgbgoglhbgaa.tablePuts
open Go.ChangeShapes Go.WideShapes Go.ChangeAt Go.RowKit
def hund : Nat → Int := fun i => 100 + (i : Int)
theorem owns_form {w : World} {B n : Nat} {v : Value} {f : Nat → Int} (h : w.ownsRow B 3 1 v n (xs f n)) : ∃ S c, v = .slice S n c ∧ Lst w S n f := by
  rcases h.2 with ⟨e, h0⟩ | ⟨g, cap, cur, e, _⟩
  · subst h0
    exact ⟨none, 0, e, Or.inl rfl⟩
  · subst e
    exact ⟨_, _, rfl, owns_lst h⟩
theorem hund_neg : ∀ k, neg hund k = false
  | 0 => rfl
  | k + 1 => by
    have h : ¬ (100 + (k : Int)) < 0 := by omega
    simp [neg, hund_neg k, hund, h]
theorem new1 {X : World} {b : Nat} (x : Int) (hb : b = X.heap.size) : ∀ (j : Nat) (u : Value), [Value.int .i64 x][j]? = some u → (X.alloc (.cells #[.int .i64 x] 3)).cell? ((⟨b, 0, none⟩ : Addr).add j) = some u := by
  subst hb
  intro j u h
  rw [add_of, Nat.zero_add, cell_of_row _ _ _ _ _ _ (heap_alloc_new X _)]
  match j, h with
  | 0, h => simpa using h
theorem new1_one (x : Int) : ∀ u ∈ [Value.int .i64 x], u.oneCell' = true := by
  intro u hu
  simp only [List.mem_cons, List.not_mem_nil, or_false] at hu
  subst hu
  rfl
theorem core (size at_ many : Int) (w : World) :
    Calls Try.prog 4 #[.int .i64 size, .int .i64 at_, .int .i64 many] w fun e w' => e = .returned (.bool true) ∧ Later w w' := by
  obtain ⟨i0, hi, hz0, hz1, hz2⟩ := int_parts
  obtain ⟨s, hs, hsl⟩ : ∃ a : Nat, bits .and .i64 size 255 = (a : Int) ∧ a < 256 := ⟨(size % 256).toNat, by rw [show (255 : Int) = ((2 ^ 8 : Nat) - 1 : Int) by decide, BM.and_mask size 8 (by decide)]; omega, by omega⟩
  obtain ⟨a, ha, hal⟩ : ∃ a : Nat, bits .and .i64 at_ 255 = (a : Int) ∧ a < 256 := ⟨(at_ % 256).toNat, by rw [show (255 : Int) = ((2 ^ 8 : Nat) - 1 : Int) by decide, BM.and_mask at_ 8 (by decide)]; omega, by omega⟩
  obtain ⟨k, hk, hkl⟩ : ∃ a : Nat, bits .and .i64 many 15 = (a : Int) ∧ a < 16 := ⟨(many % 16).toNat, by rw [show (15 : Int) = ((2 ^ 4 : Nat) - 1 : Int) by decide, BM.and_mask many 4 (by decide)]; omega, by omega⟩
  go_enter Try.func4, Try.ntmps4
  go_wp2_with fail
  refine (awake_any w _ (Lz _)).mono ?_
  rintro e w1 ⟨rfl, h1⟩
  replace h1 : Hid (Later w w1) := h1
  go_wp2_with fail
  refine (st_new w _ h1.out s 4294967295 ⟨by omega, by omega, Or.inr ⟨by omega, by decide⟩⟩).mono ?_
  rintro e w2 ⟨p, rfl, S2⟩
  clear h1
  go_wp2_with fail
  go_loopw [12, 13] (fun v i wr => ∃ j : Nat, j ≤ k ∧ i = .int .i64 (j : Nat) ∧ Later w2 wr ∧ wr.ownsRow w2.heap.size 3 1 v j (xs hund j)) (fun _ i _ => k - (intOf i).toNat)
  case atStart => exact ⟨0, Nat.zero_le _, rfl, Lz _, World.ownsRow_nil _ _ _ _⟩
  case round =>
    obtain ⟨j, hj, rfl, hL, hO⟩ := hrel
    replace hL : Hid _ := hL
    by_cases hlt : j < k
    · have hl1 : (j : Int) < (k : Int) := by omega
      replace hO : Hid (World.ownsRow wr w2.heap.size 3 1 _ j (xs hund j)) := hO
      go_wp2_with (at_builtin; refine wpList_append_later (La (later_of hL)) rfl _ _ 34 rfl 3 i0 (.int .i64 0) 1 8 Try.underlying34 hi hz0 hz1 hz2 rfl (by decide) _ j (xs hund j) rfl (hO.out.alloc _) _ 1 _ [.int .i64 (100 + (j : Int))] rfl rfl (new1 _ (by simp)) (new1_one _) (by unfold maxLen; omega) (by omega) (by decide) ?_; intro g3 cap3 w3 hown3 hL3)
      go_roundw
      case rel => exact ⟨j + 1, by omega, by go_num, hL3.out, by rw [← xs_succ]; exact hown3⟩
      case measure => simp [intOf]; omega
    · have hje : j = k := by omega
      subst hje
      obtain ⟨S, c, rfl, hS⟩ := owns_form hO
      have S3 := S2.later (later_of hL)
      clear hO hL S2
      have hfn := hund_neg j
      by_cases hfit : a + j ≤ s
      · have hE : ptE s (a : Int) j hund = 0 := by unfold ptE; rw [hfn, if_neg (by decide), if_neg (by omega)]
        have hF : ptF s (fun _ => -1) (a : Int) j hund = lay (fun _ => -1) a j hund := by unfold ptF; rw [hfn, if_neg (by decide), if_neg (by omega)]; rfl
        replace hE : Hid _ := hE
        replace hF : Hid _ := hF
        replace hS : Hid _ := hS
        have hd1 : (a : Int) + (j : Int) ≤ (s : Int) := by omega
        go_wp2_with fail
        refine (st_put S3 (a : Int) S j c hund (by omega) ⟨by omega, by omega⟩ hS.out 0 _ hE.out hF.out).mono ?_
        rintro e w4 ⟨rfl, S4⟩
        clear S3 hE hF hS hfn
        go_wp2_with fail
        go_loopw [16] (fun i wr => ∃ i0 : Nat, i0 ≤ s ∧ i = .int .i64 (i0 : Nat) ∧ wr = w4) (fun i _ => s - (intOf i).toNat)
        case atStart => exact ⟨0, Nat.zero_le _, rfl, rfl⟩
        case round =>
          obtain ⟨x, hx, rfl, rfl⟩ := hrel
          by_cases hxs : x < s
          · have hl1 : (x : Int) < (s : Int) := by omega
            by_cases hin : a ≤ x ∧ x < a + j
            · have hi1 : (a : Int) ≤ (x : Int) := by omega
              have hi2 : (x : Int) < (a : Int) + (j : Int) := by omega
              have hG : gtR s (lay (fun _ => -1) a j hund) (x : Int) = (100 + (x : Int) - (a : Int), 0) := by
                unfold gtR
                rw [if_neg (by omega)]
                simp only [Int.toNat_natCast, lay]
                rw [if_pos hin]
                unfold hund
                rw [if_neg (by omega)]
                congr 1
                omega
              replace hG : Hid _ := hG
              go_wp2_with fail
              refine (st_get S4 (x : Int) _ _ hG.out).mono ?_
              rintro e w5 ⟨rfl, rfl⟩
              go_wp2_with (go_at_call 8; refine (num_any _ _).mono ?_; rintro e w' ⟨rfl, rfl⟩)
              go_roundw
              case rel => exact ⟨x + 1, by omega, by go_num, trivial⟩
              case measure => simp [intOf]; omega
            · have hG : gtR s (lay (fun _ => -1) a j hund) (x : Int) = (0, 902) := by
                unfold gtR
                rw [if_neg (by omega)]
                simp only [Int.toNat_natCast, lay]
                rw [if_neg hin, if_pos rfl]
              replace hG : Hid _ := hG
              rcases (by omega : ¬ (a : Int) ≤ (x : Int) ∨ ((a : Int) ≤ (x : Int) ∧ ¬ (x : Int) < (a : Int) + (j : Int))) with hi1 | ⟨hi1, hi2⟩
              all_goals
                go_wp2_with fail
                refine (st_get S4 (x : Int) _ _ hG.out).mono ?_
                rintro e w5 ⟨rfl, rfl⟩
                go_wp2_with (go_at_call 8; refine (num_any _ _).mono ?_; rintro e w' ⟨rfl, rfl⟩)
                go_roundw
                case rel => exact ⟨x + 1, by omega, by go_num, trivial⟩
                case measure => simp [intOf]; omega
          · have hxe : x = s := by omega
            subst hxe
            have hG : Hid (gtR x (lay (fun _ => -1) a j hund) (x : Int) = (0, 901)) := by
              show _ = _
              unfold gtR
              rw [if_pos (by omega)]
            have hG2 : Hid (gtR x (lay (fun _ => -1) a j hund) (-1) = (0, 901)) := by
              show _ = _
              unfold gtR
              rw [if_pos (by omega)]
            go_wp2_with fail
            refine (st_get S4 (x : Int) _ _ hG.out).mono ?_
            rintro e w5 ⟨rfl, rfl⟩
            go_wp2_with fail
            refine (st_get S4 (-1) _ _ hG2.out).mono ?_
            rintro e w6 ⟨rfl, rfl⟩
            go_wp2_with (go_at_call 8; refine (num_any _ _).mono ?_; rintro e w' ⟨rfl, rfl⟩)
            go_ret
            exact ⟨rfl, S4.ltr⟩
      · have hE : ptE s (a : Int) j hund = 901 := by unfold ptE; rw [hfn, if_neg (by decide), if_pos (by omega)]
        have hF : ptF s (fun _ => -1) (a : Int) j hund = (fun _ => -1) := by unfold ptF; rw [hfn, if_neg (by decide), if_pos (by omega)]
        replace hE : Hid _ := hE
        replace hF : Hid _ := hF
        replace hS : Hid _ := hS
        have hd1 : ¬ (a : Int) + (j : Int) ≤ (s : Int) := by omega
        have hd2 : decide ((a : Int) + (j : Int) ≤ (s : Int)) = false := decide_eq_false hd1
        go_wp2_with fail
        refine (st_put S3 (a : Int) S j c hund (by omega) ⟨by omega, by omega⟩ hS.out 901 _ hE.out hF.out).mono ?_
        rintro e w4 ⟨rfl, S4⟩
        clear S3 hE hF hS hfn
        go_wp2_with fail
        go_loopw [16] (fun i wr => ∃ i0 : Nat, i0 ≤ s ∧ i = .int .i64 (i0 : Nat) ∧ wr = w4) (fun i _ => s - (intOf i).toNat)
        case atStart => exact ⟨0, Nat.zero_le _, rfl, rfl⟩
        case round =>
          obtain ⟨x, hx, rfl, rfl⟩ := hrel
          by_cases hxs : x < s
          · have hl1 : (x : Int) < (s : Int) := by omega
            have hG : gtR s (fun _ => -1) (x : Int) = (0, 902) := by
              unfold gtR
              rw [if_neg (by omega), if_pos rfl]
            replace hG : Hid _ := hG
            go_wp2_with fail
            refine (st_get S4 (x : Int) _ _ hG.out).mono ?_
            rintro e w5 ⟨rfl, rfl⟩
            go_wp2_with (go_at_call 8; refine (num_any _ _).mono ?_; rintro e w' ⟨rfl, rfl⟩)
            go_roundw
            case rel => exact ⟨x + 1, by omega, by go_num, trivial⟩
            case measure => simp [intOf]; omega
          · have hxe : x = s := by omega
            subst hxe
            have hG : Hid (gtR x (fun _ => -1) (x : Int) = (0, 901)) := by
              show _ = _
              unfold gtR
              rw [if_pos (by omega)]
            have hG2 : Hid (gtR x (fun _ => -1) (-1) = (0, 901)) := by
              show _ = _
              unfold gtR
              rw [if_pos (by omega)]
            go_wp2_with fail
            refine (st_get S4 (x : Int) _ _ hG.out).mono ?_
            rintro e w5 ⟨rfl, rfl⟩
            go_wp2_with fail
            refine (st_get S4 (-1) _ _ hG2.out).mono ?_
            rintro e w6 ⟨rfl, rfl⟩
            go_wp2_with (go_at_call 8; refine (num_any _ _).mono ?_; rintro e w' ⟨rfl, rfl⟩)
            go_ret
            exact ⟨rfl, S4.ltr⟩
theorem walk (a0 : Int) (a1 : Int) (a2 : Int) (w0 : (Lit.int .i64 a0).wf = true) (w1 : (Lit.int .i64 a1).wf = true) (w2 : (Lit.int .i64 a2).wf = true) (w : World) :
    Calls Try.prog 4 #[.int .i64 a0, .int .i64 a1, .int .i64 a2] w fun e w' => e = .returned (.bool true) ∧ Grown w w' :=
  (core a0 a1 a2 w).mono (fun e w' h => ⟨h.1, h.2.grown⟩)

/-! ### THE ROW's STEP: WRITTEN OUT: LEAVE IT -/
set_option maxRecDepth 100000 in
theorem lifted (os : Os) (started : os.Started) (H : Type) (enc : TypeId × Value → H) :
    ReturnsInHanded {} Try.checked os 4 .any (Rows.tablePutsSpec.pre6 enc Try.prog Try.f4 Rows.tablePutsRow.domain false) (Rows.tablePutsSpec.post enc Try.prog Try.f4 false true false false) := by
  refine returnsInHanded_of_change (C := Try.checked) own started (by kernel_rfl) Try.func4
    (ChangeSpec.witness6 (enc := enc) (C := Try.checked) false ⟨#[], #[.int .i64 0, .int .i64 0, .int .i64 0], []⟩ 8 (by kernel_rfl) (by kernel_rfl) (by kernel_rfl) (by kernel_rfl)) ?_
  intro W base args ds gs before hval0 hW hcnd _
  have hval : ∀ (j : Nat) t v, Try.f4.params[j]? = some t → args[j]? = some v → Value.okWide Try.prog W .any base t v := hval0
  have hW' := hW
  obtain ⟨p, q, hA0, hV, rfl, hfz, hnd⟩ := hW
  have hA : DataW.TrodAll enc Try.prog W 0 (fun _ => true) true Try.f4.params.toList args.toList ds p := hA0
  rw [Try.params4] at hA hval
  obtain ⟨v0, vs0, d0, ds0, p0, q0, hargs, rfl, rfl, h0, r0⟩ := trodAll_cons hA
  obtain ⟨v1, vs1, d1, ds1, p1, q1, rfl, rfl, rfl, h1, r1⟩ := trodAll_cons r0
  obtain ⟨v2, vs2, d2, ds2, p2, q2, rfl, rfl, rfl, h2, r2⟩ := trodAll_cons r1
  obtain ⟨rfl, rfl, rfl⟩ := trodAll_nil r2
  obtain rfl : args = #[v0, v1, v2] := by cases args; simp_all
  obtain ⟨rfl, rfl⟩ := trodVars_none hV
  obtain ⟨a0, rfl, rfl, rfl, w0⟩ := open_int Try.underlying3 (hval 0 3 v0 rfl rfl) h0
  obtain ⟨a1, rfl, rfl, rfl, w1⟩ := open_int Try.underlying3 (hval 1 3 v1 rfl rfl) h1
  obtain ⟨a2, rfl, rfl, rfl, w2⟩ := open_int Try.underlying3 (hval 2 3 v2 rfl rfl) h2
  clear hA0 hval0
  simp only [List.append_nil] at hW'
  refine (walk a0 a1 a2 w0 w1 w2 W).mono fun e W' ⟨he, hg⟩ => ?_
  subst he
  exact ⟨_, rfl, post_of_same (pa := []) (pv := []) hW' (fun _ _ _ => (trodAll_cons_mk (shut_bool Try.underlying4 _) trodAll_mk0)) (fun sp _ => (trodAll_cons_mk (shut_int Try.underlying3 w0) (trodAll_cons_mk (shut_int Try.underlying3 w1) (trodAll_cons_mk (shut_int Try.underlying3 w2) trodAll_mk0)))) (fun _ _ => rfl) rfl
    (hg.frame _) hg.2.1 (ok_one (by kernel_rfl) rfl (okWide_bool_mk Try.underlying4 _))⟩

theorem over : Rows.tablePutsRow.holds Try.pinned (OpenSpec.ofChange Rows.tablePutsSpec) :=
  OpenClaim.holds_of_wide 4 Try.f4 rfl rfl rfl rfl rfl rfl rfl ⟨rfl, rfl, rfl, rfl, rfl⟩ rfl rfl rfl rfl rfl (by kernel_rfl) Try.func4 (by kernel_rfl)
    (of_decide_eq_true (by kernel_rfl)) (by unfold Func.isWrapper; first | (rw [if_pos (by decide +kernel)]; kernel_rfl) | (rw [if_neg (by decide +kernel)]; exact ⟨rfl, rfl⟩))
    (fun os started H enc _ => lifted os started H enc)

theorem proved : Rows.TablePutsSaid := over
end Go.Proofs.Ytdkjgbgoglhbgaa.tablePuts
namespace Go.Proofs.Ytdkjgbgoglhbgaa
theorem tablePuts_holds : Rows.TablePutsSaid := tablePuts.proved
#print axioms tablePuts_holds
end Go.Proofs.Ytdkjgbgoglhbgaa

