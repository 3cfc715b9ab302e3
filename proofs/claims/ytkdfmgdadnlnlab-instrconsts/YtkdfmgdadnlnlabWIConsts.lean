/- 'InstrConsts' of package peloruslaw14 returns true at every int: constants of all types come back, to the bit. No condition. -/
import Derived.Test.YtkdfmgdadnlnlabIAW
import Derived.Test.YtkdfmgdadnlnlabXO
import Derived.Test.YtkdfmgdadnlnlabXQ
import Derived.LoopTactic
import Derived.OpenShut
import Derived.ChangeMaps5
import Derived.ShutString
import Derived.SizedLaws
set_option linter.unusedVariables false
set_option linter.unusedSimpArgs false
set_option maxRecDepth 100000
set_option maxHeartbeats 8000000
namespace Go.Proofs.Ytkdfmgdadnlnlab.instrConsts
open Go.ChangeShapes Go.WideShapes Go.ChangeAt Go.RowKit
theorem wf_i64 {a : Int} (h : (Lit.int .i64 a).wf = true) : -9223372036854775808 ≤ a ∧ a ≤ 9223372036854775807 := by
  simp only [Lit.wf, IntKind.min, IntKind.max, IntKind.signed, IntKind.bits, Bool.and_eq_true, decide_eq_true_eq, if_true] at h
  omega
def fC (x y : Int) : Fs := .cons 65 0 0 y 0 [] .nil .nil (.cons 66 0 0 x 0 [] .nil .nil (.cons 67 0 0 y 0 [] .nil .nil (.cons 68 0 0 x 0 [] .nil .nil .nil)))
theorem okC (x y : Int) (hx : i64 x) (hy : 0 ≤ y ∧ y ≤ 4294967295) : (fC x y).Ok := by
  have hy2 : i64 y := by unfold i64; omega
  have z : i64 0 := i64_0
  have n : ∀ a ∈ ([] : List Int), i64 a := fun a h => by simp at h
  exact ⟨⟨by unfold i64; omega, z, z, hy2, z, n⟩, by decide, by decide, by decide, trivial, trivial, ⟨by unfold i64; omega, z, z, hx, z, n⟩, by decide, by decide, by decide, trivial, trivial, ⟨by unfold i64; omega, z, z, hy2, z, n⟩, by decide, by decide, by decide, trivial, trivial, ⟨by unfold i64; omega, z, z, hx, z, n⟩, by decide, by decide, by decide, trivial, trivial, trivial⟩
theorem ckC (x y : Int) (hy : 0 ≤ y ∧ y ≤ 4294967295) : (ck (fC x y) 0 0).1 = 0 := by simp [ck, fC, mayP, fo, Fs.len, hy]
theorem wrong (op bi : Int) (hop : op = 65 ∨ op = 67) (hb : ¬ (0 ≤ bi ∧ bi ≤ 4294967295)) : puR (.cons op 0 0 bi 0 [] .nil .nil .nil) = ([], 1400) := by
  have h : (ck (.cons op 0 0 bi 0 [] .nil .nil .nil) 0 0).1 = 1400 := by
    have hm : ¬ mayP op 0 0 bi 0 [] Fs.nil.len Fs.nil.len := by rcases hop with rfl | rfl <;> simp [mayP, fo, Fs.len] <;> omega
    unfold ck
    rw [if_neg (by decide), if_neg (fun x => absurd x.2 (by decide)), if_pos hm]
  unfold puR
  rw [h, if_neg (by decide)]
theorem putC (x y : Int) (hx : i64 x) (hy : 0 ≤ y ∧ y ≤ 4294967295) : ∃ t : List Int, puR (fC x y) = (t, 0) ∧ unI (strOfNums t) 0 = (fC x y, ((strOfNums t).size : Int), 0) ∧ (strOfNums t).size ≤ 1000 := by
  have hc := ckC x y hy
  have ho := okC x y hx hy
  refine ⟨ltB (fC x y) ++ [11], by unfold puR; rw [if_pos hc], ?_, ?_⟩
  · generalize fC x y = F at *
    have hby : ∀ b ∈ ltB F ++ [11], 0 ≤ b ∧ b < 256 := by
      intro b hb
      rcases List.mem_append.1 hb with hb | hb
      · exact ltB_byte F b hb
      · simp at hb; omega
    have hsz := strOfNums_size (ltB F ++ [11])
    have hr := rl_back (s := strOfNums (ltB F ++ [11])) F 0 0 0 ((strOfNums (ltB F ++ [11])).size + 1) false 11 ho hc (bl_num _ hby) (Or.inl rfl) (by omega)
    rw [show (((0 : Nat) : Int)) = 0 from rfl] at hr
    unfold unI
    rw [if_pos ⟨by decide, by omega⟩, hr]
    simp only
    rw [if_pos trivial]
    refine Prod.ext rfl (Prod.ext ?_ rfl)
    simp only
    rw [hsz]
    simp
  · have h1 : (lit 65 y).length ≤ 10 := slebF_len 9 _
    have h2 : (lit 66 x).length ≤ 10 := slebF_len 9 _
    have h3 : (lit 67 y).length = 4 := by show (lowB y 4).length = 4; rw [lowB_len]
    have h4 : (lit 68 x).length = 8 := by show (lowB x 8).length = 8; rw [lowB_len]
    have e : ltB (fC x y) = 65 :: (lit 65 y ++ (66 :: (lit 66 x ++ (67 :: (lit 67 y ++ (68 :: (lit 68 x ++ []))))))) := rfl
    rw [strOfNums_size, e]
    simp only [List.length_append, List.length_cons, List.length_nil]
    omega
theorem trC (x y : Int) (w : World) : Tr (fun _ => True) (w.alloc (.cells #[.int .i64 65, .int .i64 0, .int .i64 0, .int .i64 y, .int .i64 0, .slice none 0 0, .slice none 0 0, .slice none 0 0, .int .i64 66, .int .i64 0, .int .i64 0, .int .i64 x, .int .i64 0, .slice none 0 0, .slice none 0 0, .slice none 0 0, .int .i64 67, .int .i64 0, .int .i64 0, .int .i64 y, .int .i64 0, .slice none 0 0, .slice none 0 0, .slice none 0 0, .int .i64 68, .int .i64 0, .int .i64 0, .int .i64 x, .int .i64 0, .slice none 0 0, .slice none 0 0, .slice none 0 0] 27)) (some ⟨w.heap.size, 0, none⟩) (fC x y) := by
  refine Or.inr ⟨_, _, rfl, trivial, [.int .i64 65, .int .i64 0, .int .i64 0, .int .i64 y, .int .i64 0, .slice none 0 0, .slice none 0 0, .slice none 0 0, .int .i64 66, .int .i64 0, .int .i64 0, .int .i64 x, .int .i64 0, .slice none 0 0, .slice none 0 0, .slice none 0 0, .int .i64 67, .int .i64 0, .int .i64 0, .int .i64 y, .int .i64 0, .slice none 0 0, .slice none 0 0, .slice none 0 0, .int .i64 68, .int .i64 0, .int .i64 0, .int .i64 x, .int .i64 0, .slice none 0 0, .slice none 0 0, .slice none 0 0], fun j u hu => ?_, ?_⟩
  · rw [Nat.zero_add, cell_of_row _ _ _ _ _ _ (heap_alloc_new w _)]
    simpa using hu
  · exact ⟨none, 0, none, 0, none, 0, _, rfl, lq_nil _ _ _, Or.inl rfl, Or.inl rfl, none, 0, none, 0, none, 0, _, rfl, lq_nil _ _ _, Or.inl rfl, Or.inl rfl, none, 0, none, 0, none, 0, _, rfl, lq_nil _ _ _, Or.inl rfl, Or.inl rfl, none, 0, none, 0, none, 0, _, rfl, lq_nil _ _ _, Or.inl rfl, Or.inl rfl, rfl⟩
theorem at_y (x : Int) : ∃ y : Int, bits .and .i64 x 4294967295 = y ∧ 0 ≤ y ∧ y ≤ 4294967295 := ⟨x % 4294967296, by rw [show (4294967295 : Int) = ((2 ^ 32 : Nat) - 1 : Int) by decide, BM.and_mask x 32 (by decide)]; rfl, by omega, by omega⟩
theorem walk (x : Int) (hx : -9223372036854775808 ≤ x ∧ x ≤ 9223372036854775807) (w : World) :
    Calls Try.prog 4 #[.int .i64 x] w fun e w' => e = .returned (.bool true) ∧ Later w w' := by
  obtain ⟨y, hy', hy⟩ := at_y x
  obtain ⟨t, p1, p2, p3⟩ := putC x y hx hy
  have ho := okC x y hx hy
  have hy1 : -9223372036854775808 ≤ 4294967296 + y := by omega
  have hy2 : 4294967296 + y ≤ 9223372036854775807 := by omega
  have hy3 : -9223372036854775808 ≤ -1 - y := by omega
  have hy4 : -1 - y ≤ 9223372036854775807 := by omega
  have q1 := wrong 65 (4294967296 + y) (Or.inl rfl) (by omega)
  have q2 := wrong 67 (-1 - y) (Or.inr rfl) (by omega)
  have okq : ∀ op bi : Int, i64 op → i64 bi → (Fs.cons op 0 0 bi 0 [] .nil .nil .nil).Ok := fun op bi h1 h2 => ⟨⟨h1, i64_0, i64_0, h2, i64_0, fun a h => by simp at h⟩, by decide, by decide, by decide, trivial, trivial, trivial⟩
  have h1 : Hid (∀ (Z : Nat → Prop) (W : World) (B : Option Addr) (k : Nat), Tr Z W B (fC x y) → Calls Try.prog 8 #[.slice B 4 k] W fun e w' => e = .returned (.tuple #[.string (strOfNums t), .int .i64 0]) ∧ Hid (Later W w')) := fun Z W B k hB => iput_is (fC x y) ho (by show 4 * 112 ≤ 140737488351232; decide) t 0 p1 4 rfl Z W B k hB
  have h2 : Hid (∀ W : World, Calls Try.prog 10 #[.string (strOfNums t), .int .i64 0] W fun e' w' => ∃ A' c', e' = .returned (.tuple #[.slice A' 4 c', .int .i64 ((strOfNums t).size : Int), .int .i64 0]) ∧ Hid (Tr (W.heap.size ≤ ·) w' A' (fC x y)) ∧ Hid (Later W w')) := fun W => iget_is _ 0 (fC x y) _ 0 p2 (by omega) (by decide) W
  have h3 : Hid (∀ (W : World) (B : Option Addr) (k : Nat), Tr (fun _ => True) W B (.cons 65 0 0 (4294967296 + y) 0 [] .nil .nil .nil) → Calls Try.prog 8 #[.slice B 1 k] W fun e w' => e = .returned (.tuple #[.string ⟨#[]⟩, .int .i64 1400]) ∧ Hid (Later W w')) := fun W B k hB => iput_lit _ (okq 65 _ (by unfold i64; omega) ⟨hy1, hy2⟩) (by show 1 * 112 ≤ 140737488351232; decide) _ _ ⟨#[]⟩ rfl q1 1 rfl _ W B k hB
  have h4 : Hid (∀ (W : World) (B : Option Addr) (k : Nat), Tr (fun _ => True) W B (.cons 67 0 0 (-1 - y) 0 [] .nil .nil .nil) → Calls Try.prog 8 #[.slice B 1 k] W fun e w' => e = .returned (.tuple #[.string ⟨#[]⟩, .int .i64 1400]) ∧ Hid (Later W w')) := fun W B k hB => iput_lit _ (okq 67 _ (by unfold i64; omega) ⟨hy3, hy4⟩) (by show 1 * 112 ≤ 140737488351232; decide) _ _ ⟨#[]⟩ rfl q2 1 rfl _ W B k hB
  have h6 : Hid (∀ (Z Y : Nat → Prop) (W : World) (B C : Option Addr) (k k' : Nat), Tr Z W B (fC x y) → Tr Y W C (fC x y) → Calls Try.prog 11 #[.slice B 4 k, .slice C 4 k'] W fun e w' => e = .returned (.bool true) ∧ Hid (Later W w')) := fun Z Y W B C k k' hB hC => isame_is (fC x y) ho (by show 4 * 112 ≤ 140737488351232; decide) _ _ rfl rfl Z Y W B C k k' hB hC
  clear p1 p2 p3 q1 q2 okq ho hx hy
  generalize strOfNums t = S1 at *
  go_enter Try.func4, Try.ntmps4
  go_wp2_with (go_at_call 7; refine (awake_any _).mono ?_; rintro e w0 ⟨rfl, l0⟩; replace l0 : Hid (Later w w0) := l0)
  have T0 := trC x y w0
  refine (h1.out _ _ _ _ T0).mono ?_
  clear h1
  rintro e w1 ⟨rfl, l1⟩
  go_wp2_with fail
  refine (h2.out _).mono ?_
  clear h2
  rintro e w2 ⟨A2, c2, rfl, T2, l2⟩
  have Ti : Hid (Tr (fun _ => True) w2 (some ⟨w0.heap.size, 0, none⟩) (fC x y)) := T0.later (l1.out.trans l2.out)
  have L2 : Hid (Later w w2) := (l0.out.trans (La (Lz _))).trans (l1.out.trans l2.out)
  clear T0 l0 l1 l2
  go_wp2_with fail
  have T3 := tr_lit (W := w2) (W' := w2.alloc (.cells #[.int .i64 65, .int .i64 0, .int .i64 0, .int .i64 (4294967296 + y), .int .i64 0, .slice none 0 0, .slice none 0 0, .slice none 0 0] 27)) (Z := fun _ => True) (ls := []) (bo := .nil) (el := .nil) rfl rfl rfl (Lz _) (lq_nil _ _ _) (Or.inl rfl) (Or.inl rfl) trivial
  refine (h3.out _ _ _ T3).mono ?_
  clear h3 T3
  rintro e w3 ⟨rfl, l3⟩
  go_wp2_with fail
  have T4 := tr_lit (W := w3) (W' := w3.alloc (.cells #[.int .i64 67, .int .i64 0, .int .i64 0, .int .i64 (-1 - y), .int .i64 0, .slice none 0 0, .slice none 0 0, .slice none 0 0] 27)) (Z := fun _ => True) (ls := []) (bo := .nil) (el := .nil) rfl rfl rfl (Lz _) (lq_nil _ _ _) (Or.inl rfl) (Or.inl rfl) trivial
  refine (h4.out _ _ _ T4).mono ?_
  clear h4 T4
  rintro e w4 ⟨rfl, l4⟩
  have L24 : Hid (Later w2 w4) := ((La (Lz _)).trans l3.out).trans ((La (Lz _)).trans l4.out)
  clear l3 l4
  go_wp2_with (first | (go_at_call 9; refine (num_any _ _).mono ?_; rintro e w' ⟨rfl, hw⟩; have hw := hw.symm; subst hw) | (go_at_call 11; refine (h6.out _ _ _ _ _ _ _ (T2.out.later L24.out) (Ti.out.later L24.out)).mono ?_; clear h6; rintro e w6 ⟨rfl, l6⟩))
  go_ret
  exact ⟨rfl, (L2.out.trans L24.out).trans l6.out⟩

set_option maxRecDepth 100000 in
theorem lifted (os : Os) (started : os.Started) (H : Type) (enc : TypeId × Value → H) :
    ReturnsInHanded {} Try.checked os 4 .any (Rows.instrConstsSpec.pre6 enc Try.prog Try.f4 Rows.instrConstsRow.domain false) (Rows.instrConstsSpec.post enc Try.prog Try.f4 false true false false) := by
  refine returnsInHanded_of_change_sized (C := Try.checked) own started (by kernel_rfl) Try.func4
    (ChangeSpec.witness6 (enc := enc) (C := Try.checked) false ⟨#[], #[.int .i64 0], []⟩ 8 (by kernel_rfl) (by kernel_rfl) (by kernel_rfl) (by kernel_rfl)) ?_
  intro W base args ds gs before hval0 hW _ _ _
  have hval : ∀ (j : Nat) t v, Try.f4.params[j]? = some t → args[j]? = some v → Value.okWide Try.prog W .any base t v := hval0
  have hW' := hW
  obtain ⟨p, q, hA0, hV, rfl, hfz, hnd⟩ := hW
  have hA : DataW.TrodAll enc Try.prog W 0 (fun _ => true) true Try.f4.params.toList args.toList ds p := hA0
  rw [Try.params4] at hA hval
  obtain ⟨v0, vs0, d0, ds0, p0, q0, hargs, rfl, rfl, h0, r0⟩ := trodAll_cons hA
  obtain ⟨rfl, rfl, rfl⟩ := trodAll_nil r0
  obtain rfl : args = #[v0] := by cases args; simp_all
  obtain ⟨rfl, rfl⟩ := trodVars_none hV
  obtain ⟨a0, rfl, rfl, rfl, w0⟩ := open_int Try.underlying3 (hval 0 3 v0 rfl rfl) h0
  clear hA0 hval0
  simp only [List.append_nil, List.nil_append] at hW'
  have hlt : ∀ x ∈ ([] : List MemPlace), x.block < W.heap.size := fun x hx => by simpa using hW'.lt x hx
  refine (walk a0 (wf_i64 w0) W ).mono fun e W' ⟨he, hl⟩ => ?_
  subst he
  have hbel : Below W.heap.size W W' := by obtain ⟨bs, nn, rfl⟩ := hl; exact ⟨rfl, rfl, rfl, by rw [World.far_size]; omega, fun k hk => World.far_block W bs nn k hk⟩
  have hx : ∀ sp : Nat → Bool, (∀ p ∈ ([] : List MemPlace), sp p.block = true) → DataW.TrodAll enc Try.prog W' 0 sp true [3] [.int .i64 a0] [.lit (.int .i64 a0)] (([] : List MemPlace)) := fun sp hsp => by simpa using (trodAll_cons_mk (shut_int Try.underlying3 w0) trodAll_mk0)
  exact ⟨_, rfl, post_kept (pa := ([] : List MemPlace)) (pv := []) hW' (fun _ _ _ => (trodAll_cons_mk (shut_bool Try.underlying4 _) trodAll_mk0)) (fun sp hsp => hx sp hsp) (fun _ _ => rfl) (by simp) (hbel.frame _) hbel.block (ok_one (by kernel_rfl) rfl (okWide_bool_mk Try.underlying4 _))⟩

theorem over : Rows.instrConstsRow.holds Try.pinned (OpenSpec.ofChange Rows.instrConstsSpec) :=
  OpenClaim.holds_of_wide 4 Try.f4 rfl rfl rfl rfl rfl rfl rfl ⟨rfl, rfl, rfl, rfl, rfl⟩ rfl rfl rfl rfl rfl (by kernel_rfl) Try.func4 (by kernel_rfl)
    (of_decide_eq_true (by kernel_rfl)) (by unfold Func.isWrapper; first | (rw [if_pos (by decide +kernel)]; kernel_rfl) | (rw [if_neg (by decide +kernel)]; exact ⟨rfl, rfl⟩))
    (fun os started H enc _ => lifted os started H enc)


theorem proved : Rows.InstrConstsSaid := over
end Go.Proofs.Ytkdfmgdadnlnlab.instrConsts
namespace Go.Proofs.Ytkdfmgdadnlnlab
theorem instrConsts_holds : Rows.InstrConstsSaid := instrConsts.proved
#print axioms instrConsts_holds
end Go.Proofs.Ytkdfmgdadnlnlab
