/- 'InstrOps' of package peloruslaw14 returns true at every int: which bytes begin an instruction. No condition. -/
import Derived.Test.YtkdfmgdadnlnlaaIAW
import Derived.Test.YtkdfmgdadnlnlaaXO
import Derived.Test.YtkdfmgdadnlnlaaXQ
import Derived.Lib.Strings
import Derived.LoopTactic
import Derived.OpenShut
import Derived.ChangeMaps5
import Derived.ShutString
import Derived.SizedLaws
set_option linter.unusedVariables false
set_option linter.unusedSimpArgs false
set_option maxRecDepth 100000
set_option maxHeartbeats 8000000
namespace Go.Proofs.Ytkdfmgdadnlnlaa.instrOps
open Go.ChangeShapes Go.WideShapes Go.ChangeAt Go.RowKit
/-- one instruction without blocks: put and got -/
theorem put_one (o a b bi ty : Int) (ls : List Int) (hm : mayP o a b bi ty ls 0 0) (hd : True) : puR (.cons o a b bi ty ls .nil .nil .nil) = (ltB (.cons o a b bi ty ls .nil .nil .nil) ++ [11], 0) := by
  have h : (ck (.cons o a b bi ty ls .nil .nil .nil) 0 0).1 = 0 := by
    unfold ck
    rw [if_neg (by decide), if_neg (fun x => absurd x.2 (by decide)), if_neg (fun x => x hm)]
    simp [ck]
  unfold puR
  rw [if_pos h]
theorem get_one (o a b bi ty : Int) (ls : List Int) (hm : mayP o a b bi ty ls 0 0) (hok : (Fs.cons o a b bi ty ls .nil .nil .nil).Ok) : unI (strOfNums (ltB (.cons o a b bi ty ls .nil .nil .nil) ++ [11])) 0 = (.cons o a b bi ty ls .nil .nil .nil, ((strOfNums (ltB (.cons o a b bi ty ls .nil .nil .nil) ++ [11])).size : Int), 0) := by
  have h : (ck (.cons o a b bi ty ls .nil .nil .nil) 0 0).1 = 0 := by
    unfold ck
    rw [if_neg (by decide), if_neg (fun x => absurd x.2 (by decide)), if_neg (fun x => x hm)]
    simp [ck]
  generalize hF : Fs.cons o a b bi ty ls .nil .nil .nil = F at *
  have hby : ∀ b ∈ ltB F ++ [11], 0 ≤ b ∧ b < 256 := by
    intro b hb
    rcases List.mem_append.1 hb with hb | hb
    · exact ltB_byte F b hb
    · simp at hb; omega
  have hsz := strOfNums_size (ltB F ++ [11])
  have hr := rl_back (s := strOfNums (ltB F ++ [11])) F 0 0 0 ((strOfNums (ltB F ++ [11])).size + 1) false 11 hok h (bl_num _ hby) (Or.inl rfl) (by omega)
  rw [show (((0 : Nat) : Int)) = 0 from rfl] at hr
  unfold unI
  rw [if_pos ⟨by decide, by omega⟩, hr]
  simp only
  rw [if_pos trivial]
  refine Prod.ext rfl (Prod.ext ?_ rfl)
  simp only
  rw [hsz]
  simp
theorem lq_lit {Z : Nat → Prop} {V W : World} {x : Int} (hl : Later (V.alloc (.cells #[.int .i64 x] 3)) W) (hz : Z V.heap.size) : Lq Z W (some ⟨V.heap.size, 0, none⟩) [x] := by
  refine ⟨Or.inr ⟨V.heap.size, 0, rfl, fun j hj => ?_⟩, fun _ a ha => by cases ha; exact hz⟩
  obtain rfl : j = 0 := by simpa using hj
  exact hl.cell_of (by simp [go_sem])
theorem str_ne (b : Int) (d : List Int) : (strOfNums (b :: d)).toList.isEmpty = false := by
  rw [Lib.toList_data]
  simp [strOfNums]
theorem at_o (op : Int) : ∃ o : Int, bits .and .i64 op 255 = o ∧ 0 ≤ o ∧ o ≤ 255 := ⟨op % 256, by rw [show (255 : Int) = ((2 ^ 8 : Nat) - 1 : Int) by decide, BM.and_mask op 8 (by decide)]; rfl, by omega, by omega⟩
theorem c_o0 (op o : Int) (hop : bits .and .i64 op 255 = o) (hr : o = 0) (w : World) :
    Calls Try.prog 8 #[.int .i64 op] w fun e w' => e = .returned (.bool true) ∧ Later w w' := by
  have f0 : (o == 0) = true := by simpa using (by omega : o = 0)
  have hu8 : IntKind.u8.wrap o = o := by rw [IntKind.wrap_u8]; omega
  have hfo : fo o = 0 := by unfold fo; repeat (split; (first | rfl | omega)); all_goals first | rfl | omega
  have hm : mayP o 0 0 0 0 [] 0 0 := by
    unfold mayP; simp [hfo, Wd]
  have hl : ltB (.cons o 0 0 0 0 [] .nil .nil .nil) ++ [11] = [o, 11] := by
    subst hr; rfl
  have hok : (Fs.cons o 0 0 0 0 [] .nil .nil .nil).Ok := ⟨⟨by unfold i64; omega, by unfold i64; omega, by unfold i64; omega, by unfold i64; omega, by unfold i64; omega, by simp [i64]⟩, by decide, by decide, by decide, trivial, trivial, trivial⟩
  have hpu := put_one o 0 0 0 0 [] hm trivial
  have hun := get_one o 0 0 0 0 [] hm hok
  rw [hl] at hpu hun
  have hsz : (strOfNums [o, 11]).size = 2 := strOfNums_size _
  rw [hsz] at hun
  have hput : Hid (∀ (W : World) (B : Option Addr) (k : Nat), Tr (fun _ => True) W B (.cons o 0 0 0 0 [] .nil .nil .nil) → Calls Try.prog 10 #[.slice B 1 k] W fun e w' => e = .returned (.tuple #[.string (strOfNums [o, 11]), .int .i64 0]) ∧ Hid (Later W w')) := fun W B k hB => iput_is (.cons o 0 0 0 0 [] .nil .nil .nil) hok (by show 1 * 112 ≤ 140737488351232; decide) _ _ hpu 1 rfl _ W B k hB
  have hget : Hid (∀ W : World, Calls Try.prog 17 #[.string (strOfNums [o, 11]), .int .i64 0] W fun e' w' => ∃ A' c', e' = .returned (.tuple #[.slice A' 1 c', .int .i64 2, .int .i64 0]) ∧ Hid (Tr (W.heap.size ≤ ·) w' A' (.cons o 0 0 0 0 [] .nil .nil .nil)) ∧ Hid (Later W w')) := fun W => iget_is _ 0 _ _ 0 hun (by omega) (by decide) W
  have hsame : Hid (∀ (Z Y : Nat → Prop) (W : World) (B C : Option Addr) (k k' : Nat), Tr Z W B (.cons o 0 0 0 0 [] .nil .nil .nil) → Tr Y W C (.cons o 0 0 0 0 [] .nil .nil .nil) → Calls Try.prog 15 #[.slice B 1 k, .slice C 1 k'] W fun e w' => e = .returned (.bool true) ∧ Hid (Later W w')) := fun Z Y W B C k k' hB hC => isame_is (.cons o 0 0 0 0 [] .nil .nil .nil) hok (by show 1 * 112 ≤ 140737488351232; decide) _ _ rfl rfl Z Y W B C k k' hB hC
  have cv : ∀ (W : World) (g : Nat), g = W.heap.size → (convert 53 9 (.slice (some ⟨g, 0, none⟩) 1 1)).run Try.prog (W.alloc (.cells #[.int .u8 o] 5)) = .ok (.string (strOfNums [o])) (W.alloc (.cells #[.int .u8 o] 5)) := fun W g hg => by
    subst hg
    exact conv_n [o] (by simp; omega) 1 rfl W
  have happ : strOfNums [o] ++ ({ data := #[11] } : ByteArray) = strOfNums [o, 11] := by rw [show ({ data := #[11] } : ByteArray) = strOfNums [11] from rfl, str_app]; rfl
  have hs1 : (strOfNums [o]).size = 1 := strOfNums_size _
  have n1 := str_ne o []
  generalize strOfNums [o] = S1 at *
  generalize strOfNums [o, 11] = S2 at *
  clear hpu hun hl hm hfo hok hr
  go_enter Try.func8, Try.ntmps8
  go_wp2_with (go_at_call 16; refine (awake_any _).mono ?_; rintro e w1 ⟨rfl, l1⟩; replace l1 : Hid (Later w w1) := l1)
  refine calls_world ?_
  intro W hW
  have LW : Hid (Later w1 W) := by rw [hW]; exact (by repeat first | exact Lz _ | apply La)
  have k0 : W.cell? ⟨w1.heap.size, 0, none⟩ = some (.int .i64 o) := by rw [hW]; simp [go_sem]
  have k1 : W.cell? ⟨w1.heap.size, 1, none⟩ = some (.int .i64 0) := by rw [hW]; simp [go_sem]
  have k2 : W.cell? ⟨w1.heap.size, 2, none⟩ = some (.int .i64 0) := by rw [hW]; simp [go_sem]
  have k3 : W.cell? ⟨w1.heap.size, 3, none⟩ = some (.int .i64 0) := by rw [hW]; simp [go_sem]
  have k4 : W.cell? ⟨w1.heap.size, 4, none⟩ = some (.int .i64 0) := by rw [hW]; simp [go_sem]
  have k5 : W.cell? ⟨w1.heap.size, 5, none⟩ = some (.slice none 0 0) := by rw [hW]; simp [go_sem]
  have k6 : W.cell? ⟨w1.heap.size, 6, none⟩ = some (.slice none 0 0) := by rw [hW]; simp [go_sem]
  have k7 : W.cell? ⟨w1.heap.size, 7, none⟩ = some (.slice none 0 0) := by rw [hW]; simp [go_sem]
  have T : Tr (fun _ => True) W (some ⟨w1.heap.size + 1 + 1, 0, none⟩) (.cons o 0 0 0 0 [] .nil .nil .nil) := by
    have := tr_lit (W' := W) (Z := fun _ => True) (ls := []) (bo := .nil) (el := .nil) rfl rfl rfl (by rw [hW]; exact Lz _) (lq_nil _ _ _) (Or.inl rfl) (Or.inl rfl) trivial
    simpa using this
  clear hW
  refine (hput.out W _ _ T).mono ?_
  clear hput
  rintro e w2 ⟨rfl, l2⟩
  replace k0 := (later_of l2).cell_of k0
  replace k1 := (later_of l2).cell_of k1
  replace k2 := (later_of l2).cell_of k2
  replace k3 := (later_of l2).cell_of k3
  replace k4 := (later_of l2).cell_of k4
  replace k5 := (later_of l2).cell_of k5
  replace k6 := (later_of l2).cell_of k6
  replace k7 := (later_of l2).cell_of k7
  go_wp2_with fail
  refine (hget.out _).mono ?_
  clear hget
  rintro e w3 ⟨A3, c3, rfl, T3, l3⟩
  replace k0 := (later_of l3).cell_of k0
  replace k1 := (later_of l3).cell_of k1
  replace k2 := (later_of l3).cell_of k2
  replace k3 := (later_of l3).cell_of k3
  replace k4 := (later_of l3).cell_of k4
  replace k5 := (later_of l3).cell_of k5
  replace k6 := (later_of l3).cell_of k6
  replace k7 := (later_of l3).cell_of k7
  have hi := cell_lt k0
  have TL : Hid (Tr (fun _ => True) (w3.alloc (.cells #[.int .i64 o, .int .i64 0, .int .i64 0, .int .i64 0, .int .i64 0, .slice none 0 0, .slice none 0 0, .slice none 0 0] 47)) (some ⟨w3.heap.size, 0, none⟩) (.cons o 0 0 0 0 [] .nil .nil .nil)) := tr_lit (ls := []) (bo := .nil) (el := .nil) rfl rfl rfl (Lz _) (lq_nil _ _ _) (Or.inl rfl) (Or.inl rfl) trivial
  have L3 : Hid (Later w w3) := ((l1.out.trans LW.out).trans l2.out).trans l3.out
  clear T LW l1 l2 l3
  go_wp2_with (first | (go_at_call 12; refine (num_any _ _).mono ?_; rintro e w' ⟨rfl, hw⟩; have hw := hw.symm; subst hw) | (go_at_call 15; refine (hsame.out _ _ _ _ _ _ _ (T3.out.later (La (Lz _))) TL.out).mono ?_; clear hsame; rintro e w6 ⟨rfl, l6⟩))
  go_ret
  exact ⟨rfl, (L3.out.trans (La (Lz _))).trans l6.out⟩
theorem c_o1 (op o : Int) (hop : bits .and .i64 op 255 = o) (hr : o = 1) (w : World) :
    Calls Try.prog 8 #[.int .i64 op] w fun e w' => e = .returned (.bool true) ∧ Later w w' := by
  have f0 : (o == 0) = false := by exact beq_false (by omega)
  have f1 : (o == 1) = true := by simpa using (by omega : o = 1)
  have hu8 : IntKind.u8.wrap o = o := by rw [IntKind.wrap_u8]; omega
  have hfo : fo o = 0 := by unfold fo; repeat (split; (first | rfl | omega)); all_goals first | rfl | omega
  have hm : mayP o 0 0 0 0 [] 0 0 := by
    unfold mayP; simp [hfo, Wd]
  have hl : ltB (.cons o 0 0 0 0 [] .nil .nil .nil) ++ [11] = [o, 11] := by
    subst hr; rfl
  have hok : (Fs.cons o 0 0 0 0 [] .nil .nil .nil).Ok := ⟨⟨by unfold i64; omega, by unfold i64; omega, by unfold i64; omega, by unfold i64; omega, by unfold i64; omega, by simp [i64]⟩, by decide, by decide, by decide, trivial, trivial, trivial⟩
  have hpu := put_one o 0 0 0 0 [] hm trivial
  have hun := get_one o 0 0 0 0 [] hm hok
  rw [hl] at hpu hun
  have hsz : (strOfNums [o, 11]).size = 2 := strOfNums_size _
  rw [hsz] at hun
  have hput : Hid (∀ (W : World) (B : Option Addr) (k : Nat), Tr (fun _ => True) W B (.cons o 0 0 0 0 [] .nil .nil .nil) → Calls Try.prog 10 #[.slice B 1 k] W fun e w' => e = .returned (.tuple #[.string (strOfNums [o, 11]), .int .i64 0]) ∧ Hid (Later W w')) := fun W B k hB => iput_is (.cons o 0 0 0 0 [] .nil .nil .nil) hok (by show 1 * 112 ≤ 140737488351232; decide) _ _ hpu 1 rfl _ W B k hB
  have hget : Hid (∀ W : World, Calls Try.prog 17 #[.string (strOfNums [o, 11]), .int .i64 0] W fun e' w' => ∃ A' c', e' = .returned (.tuple #[.slice A' 1 c', .int .i64 2, .int .i64 0]) ∧ Hid (Tr (W.heap.size ≤ ·) w' A' (.cons o 0 0 0 0 [] .nil .nil .nil)) ∧ Hid (Later W w')) := fun W => iget_is _ 0 _ _ 0 hun (by omega) (by decide) W
  have hsame : Hid (∀ (Z Y : Nat → Prop) (W : World) (B C : Option Addr) (k k' : Nat), Tr Z W B (.cons o 0 0 0 0 [] .nil .nil .nil) → Tr Y W C (.cons o 0 0 0 0 [] .nil .nil .nil) → Calls Try.prog 15 #[.slice B 1 k, .slice C 1 k'] W fun e w' => e = .returned (.bool true) ∧ Hid (Later W w')) := fun Z Y W B C k k' hB hC => isame_is (.cons o 0 0 0 0 [] .nil .nil .nil) hok (by show 1 * 112 ≤ 140737488351232; decide) _ _ rfl rfl Z Y W B C k k' hB hC
  have cv : ∀ (W : World) (g : Nat), g = W.heap.size → (convert 53 9 (.slice (some ⟨g, 0, none⟩) 1 1)).run Try.prog (W.alloc (.cells #[.int .u8 o] 5)) = .ok (.string (strOfNums [o])) (W.alloc (.cells #[.int .u8 o] 5)) := fun W g hg => by
    subst hg
    exact conv_n [o] (by simp; omega) 1 rfl W
  have happ : strOfNums [o] ++ ({ data := #[11] } : ByteArray) = strOfNums [o, 11] := by rw [show ({ data := #[11] } : ByteArray) = strOfNums [11] from rfl, str_app]; rfl
  have hs1 : (strOfNums [o]).size = 1 := strOfNums_size _
  have n1 := str_ne o []
  generalize strOfNums [o] = S1 at *
  generalize strOfNums [o, 11] = S2 at *
  clear hpu hun hl hm hfo hok hr
  go_enter Try.func8, Try.ntmps8
  go_wp2_with (go_at_call 16; refine (awake_any _).mono ?_; rintro e w1 ⟨rfl, l1⟩; replace l1 : Hid (Later w w1) := l1)
  refine calls_world ?_
  intro W hW
  have LW : Hid (Later w1 W) := by rw [hW]; exact (by repeat first | exact Lz _ | apply La)
  have k0 : W.cell? ⟨w1.heap.size, 0, none⟩ = some (.int .i64 o) := by rw [hW]; simp [go_sem]
  have k1 : W.cell? ⟨w1.heap.size, 1, none⟩ = some (.int .i64 0) := by rw [hW]; simp [go_sem]
  have k2 : W.cell? ⟨w1.heap.size, 2, none⟩ = some (.int .i64 0) := by rw [hW]; simp [go_sem]
  have k3 : W.cell? ⟨w1.heap.size, 3, none⟩ = some (.int .i64 0) := by rw [hW]; simp [go_sem]
  have k4 : W.cell? ⟨w1.heap.size, 4, none⟩ = some (.int .i64 0) := by rw [hW]; simp [go_sem]
  have k5 : W.cell? ⟨w1.heap.size, 5, none⟩ = some (.slice none 0 0) := by rw [hW]; simp [go_sem]
  have k6 : W.cell? ⟨w1.heap.size, 6, none⟩ = some (.slice none 0 0) := by rw [hW]; simp [go_sem]
  have k7 : W.cell? ⟨w1.heap.size, 7, none⟩ = some (.slice none 0 0) := by rw [hW]; simp [go_sem]
  have T : Tr (fun _ => True) W (some ⟨w1.heap.size + 1 + 1, 0, none⟩) (.cons o 0 0 0 0 [] .nil .nil .nil) := by
    have := tr_lit (W' := W) (Z := fun _ => True) (ls := []) (bo := .nil) (el := .nil) rfl rfl rfl (by rw [hW]; exact Lz _) (lq_nil _ _ _) (Or.inl rfl) (Or.inl rfl) trivial
    simpa using this
  clear hW
  refine (hput.out W _ _ T).mono ?_
  clear hput
  rintro e w2 ⟨rfl, l2⟩
  replace k0 := (later_of l2).cell_of k0
  replace k1 := (later_of l2).cell_of k1
  replace k2 := (later_of l2).cell_of k2
  replace k3 := (later_of l2).cell_of k3
  replace k4 := (later_of l2).cell_of k4
  replace k5 := (later_of l2).cell_of k5
  replace k6 := (later_of l2).cell_of k6
  replace k7 := (later_of l2).cell_of k7
  go_wp2_with fail
  refine (hget.out _).mono ?_
  clear hget
  rintro e w3 ⟨A3, c3, rfl, T3, l3⟩
  replace k0 := (later_of l3).cell_of k0
  replace k1 := (later_of l3).cell_of k1
  replace k2 := (later_of l3).cell_of k2
  replace k3 := (later_of l3).cell_of k3
  replace k4 := (later_of l3).cell_of k4
  replace k5 := (later_of l3).cell_of k5
  replace k6 := (later_of l3).cell_of k6
  replace k7 := (later_of l3).cell_of k7
  have hi := cell_lt k0
  have TL : Hid (Tr (fun _ => True) (w3.alloc (.cells #[.int .i64 o, .int .i64 0, .int .i64 0, .int .i64 0, .int .i64 0, .slice none 0 0, .slice none 0 0, .slice none 0 0] 47)) (some ⟨w3.heap.size, 0, none⟩) (.cons o 0 0 0 0 [] .nil .nil .nil)) := tr_lit (ls := []) (bo := .nil) (el := .nil) rfl rfl rfl (Lz _) (lq_nil _ _ _) (Or.inl rfl) (Or.inl rfl) trivial
  have L3 : Hid (Later w w3) := ((l1.out.trans LW.out).trans l2.out).trans l3.out
  clear T LW l1 l2 l3
  go_wp2_with (first | (go_at_call 12; refine (num_any _ _).mono ?_; rintro e w' ⟨rfl, hw⟩; have hw := hw.symm; subst hw) | (go_at_call 15; refine (hsame.out _ _ _ _ _ _ _ (T3.out.later (La (Lz _))) TL.out).mono ?_; clear hsame; rintro e w6 ⟨rfl, l6⟩))
  go_ret
  exact ⟨rfl, (L3.out.trans (La (Lz _))).trans l6.out⟩
theorem c_o15 (op o : Int) (hop : bits .and .i64 op 255 = o) (hr : o = 15) (w : World) :
    Calls Try.prog 8 #[.int .i64 op] w fun e w' => e = .returned (.bool true) ∧ Later w w' := by
  have f0 : (o == 0) = false := by exact beq_false (by omega)
  have f1 : (o == 1) = false := by exact beq_false (by omega)
  have f2 : (o == 15) = true := by simpa using (by omega : o = 15)
  have hu8 : IntKind.u8.wrap o = o := by rw [IntKind.wrap_u8]; omega
  have hfo : fo o = 0 := by unfold fo; repeat (split; (first | rfl | omega)); all_goals first | rfl | omega
  have hm : mayP o 0 0 0 0 [] 0 0 := by
    unfold mayP; simp [hfo, Wd]
  have hl : ltB (.cons o 0 0 0 0 [] .nil .nil .nil) ++ [11] = [o, 11] := by
    subst hr; rfl
  have hok : (Fs.cons o 0 0 0 0 [] .nil .nil .nil).Ok := ⟨⟨by unfold i64; omega, by unfold i64; omega, by unfold i64; omega, by unfold i64; omega, by unfold i64; omega, by simp [i64]⟩, by decide, by decide, by decide, trivial, trivial, trivial⟩
  have hpu := put_one o 0 0 0 0 [] hm trivial
  have hun := get_one o 0 0 0 0 [] hm hok
  rw [hl] at hpu hun
  have hsz : (strOfNums [o, 11]).size = 2 := strOfNums_size _
  rw [hsz] at hun
  have hput : Hid (∀ (W : World) (B : Option Addr) (k : Nat), Tr (fun _ => True) W B (.cons o 0 0 0 0 [] .nil .nil .nil) → Calls Try.prog 10 #[.slice B 1 k] W fun e w' => e = .returned (.tuple #[.string (strOfNums [o, 11]), .int .i64 0]) ∧ Hid (Later W w')) := fun W B k hB => iput_is (.cons o 0 0 0 0 [] .nil .nil .nil) hok (by show 1 * 112 ≤ 140737488351232; decide) _ _ hpu 1 rfl _ W B k hB
  have hget : Hid (∀ W : World, Calls Try.prog 17 #[.string (strOfNums [o, 11]), .int .i64 0] W fun e' w' => ∃ A' c', e' = .returned (.tuple #[.slice A' 1 c', .int .i64 2, .int .i64 0]) ∧ Hid (Tr (W.heap.size ≤ ·) w' A' (.cons o 0 0 0 0 [] .nil .nil .nil)) ∧ Hid (Later W w')) := fun W => iget_is _ 0 _ _ 0 hun (by omega) (by decide) W
  have hsame : Hid (∀ (Z Y : Nat → Prop) (W : World) (B C : Option Addr) (k k' : Nat), Tr Z W B (.cons o 0 0 0 0 [] .nil .nil .nil) → Tr Y W C (.cons o 0 0 0 0 [] .nil .nil .nil) → Calls Try.prog 15 #[.slice B 1 k, .slice C 1 k'] W fun e w' => e = .returned (.bool true) ∧ Hid (Later W w')) := fun Z Y W B C k k' hB hC => isame_is (.cons o 0 0 0 0 [] .nil .nil .nil) hok (by show 1 * 112 ≤ 140737488351232; decide) _ _ rfl rfl Z Y W B C k k' hB hC
  have cv : ∀ (W : World) (g : Nat), g = W.heap.size → (convert 53 9 (.slice (some ⟨g, 0, none⟩) 1 1)).run Try.prog (W.alloc (.cells #[.int .u8 o] 5)) = .ok (.string (strOfNums [o])) (W.alloc (.cells #[.int .u8 o] 5)) := fun W g hg => by
    subst hg
    exact conv_n [o] (by simp; omega) 1 rfl W
  have happ : strOfNums [o] ++ ({ data := #[11] } : ByteArray) = strOfNums [o, 11] := by rw [show ({ data := #[11] } : ByteArray) = strOfNums [11] from rfl, str_app]; rfl
  have hs1 : (strOfNums [o]).size = 1 := strOfNums_size _
  have n1 := str_ne o []
  generalize strOfNums [o] = S1 at *
  generalize strOfNums [o, 11] = S2 at *
  clear hpu hun hl hm hfo hok hr
  go_enter Try.func8, Try.ntmps8
  go_wp2_with (go_at_call 16; refine (awake_any _).mono ?_; rintro e w1 ⟨rfl, l1⟩; replace l1 : Hid (Later w w1) := l1)
  refine calls_world ?_
  intro W hW
  have LW : Hid (Later w1 W) := by rw [hW]; exact (by repeat first | exact Lz _ | apply La)
  have k0 : W.cell? ⟨w1.heap.size, 0, none⟩ = some (.int .i64 o) := by rw [hW]; simp [go_sem]
  have k1 : W.cell? ⟨w1.heap.size, 1, none⟩ = some (.int .i64 0) := by rw [hW]; simp [go_sem]
  have k2 : W.cell? ⟨w1.heap.size, 2, none⟩ = some (.int .i64 0) := by rw [hW]; simp [go_sem]
  have k3 : W.cell? ⟨w1.heap.size, 3, none⟩ = some (.int .i64 0) := by rw [hW]; simp [go_sem]
  have k4 : W.cell? ⟨w1.heap.size, 4, none⟩ = some (.int .i64 0) := by rw [hW]; simp [go_sem]
  have k5 : W.cell? ⟨w1.heap.size, 5, none⟩ = some (.slice none 0 0) := by rw [hW]; simp [go_sem]
  have k6 : W.cell? ⟨w1.heap.size, 6, none⟩ = some (.slice none 0 0) := by rw [hW]; simp [go_sem]
  have k7 : W.cell? ⟨w1.heap.size, 7, none⟩ = some (.slice none 0 0) := by rw [hW]; simp [go_sem]
  have T : Tr (fun _ => True) W (some ⟨w1.heap.size + 1 + 1, 0, none⟩) (.cons o 0 0 0 0 [] .nil .nil .nil) := by
    have := tr_lit (W' := W) (Z := fun _ => True) (ls := []) (bo := .nil) (el := .nil) rfl rfl rfl (by rw [hW]; exact Lz _) (lq_nil _ _ _) (Or.inl rfl) (Or.inl rfl) trivial
    simpa using this
  clear hW
  refine (hput.out W _ _ T).mono ?_
  clear hput
  rintro e w2 ⟨rfl, l2⟩
  replace k0 := (later_of l2).cell_of k0
  replace k1 := (later_of l2).cell_of k1
  replace k2 := (later_of l2).cell_of k2
  replace k3 := (later_of l2).cell_of k3
  replace k4 := (later_of l2).cell_of k4
  replace k5 := (later_of l2).cell_of k5
  replace k6 := (later_of l2).cell_of k6
  replace k7 := (later_of l2).cell_of k7
  go_wp2_with fail
  refine (hget.out _).mono ?_
  clear hget
  rintro e w3 ⟨A3, c3, rfl, T3, l3⟩
  replace k0 := (later_of l3).cell_of k0
  replace k1 := (later_of l3).cell_of k1
  replace k2 := (later_of l3).cell_of k2
  replace k3 := (later_of l3).cell_of k3
  replace k4 := (later_of l3).cell_of k4
  replace k5 := (later_of l3).cell_of k5
  replace k6 := (later_of l3).cell_of k6
  replace k7 := (later_of l3).cell_of k7
  have hi := cell_lt k0
  have TL : Hid (Tr (fun _ => True) (w3.alloc (.cells #[.int .i64 o, .int .i64 0, .int .i64 0, .int .i64 0, .int .i64 0, .slice none 0 0, .slice none 0 0, .slice none 0 0] 47)) (some ⟨w3.heap.size, 0, none⟩) (.cons o 0 0 0 0 [] .nil .nil .nil)) := tr_lit (ls := []) (bo := .nil) (el := .nil) rfl rfl rfl (Lz _) (lq_nil _ _ _) (Or.inl rfl) (Or.inl rfl) trivial
  have L3 : Hid (Later w w3) := ((l1.out.trans LW.out).trans l2.out).trans l3.out
  clear T LW l1 l2 l3
  go_wp2_with (first | (go_at_call 12; refine (num_any _ _).mono ?_; rintro e w' ⟨rfl, hw⟩; have hw := hw.symm; subst hw) | (go_at_call 15; refine (hsame.out _ _ _ _ _ _ _ (T3.out.later (La (Lz _))) TL.out).mono ?_; clear hsame; rintro e w6 ⟨rfl, l6⟩))
  go_ret
  exact ⟨rfl, (L3.out.trans (La (Lz _))).trans l6.out⟩
theorem c_o26 (op o : Int) (hop : bits .and .i64 op 255 = o) (hr : o = 26) (w : World) :
    Calls Try.prog 8 #[.int .i64 op] w fun e w' => e = .returned (.bool true) ∧ Later w w' := by
  have f0 : (o == 0) = false := by exact beq_false (by omega)
  have f1 : (o == 1) = false := by exact beq_false (by omega)
  have f2 : (o == 15) = false := by exact beq_false (by omega)
  have f3 : (o == 26) = true := by simpa using (by omega : o = 26)
  have hu8 : IntKind.u8.wrap o = o := by rw [IntKind.wrap_u8]; omega
  have hfo : fo o = 0 := by unfold fo; repeat (split; (first | rfl | omega)); all_goals first | rfl | omega
  have hm : mayP o 0 0 0 0 [] 0 0 := by
    unfold mayP; simp [hfo, Wd]
  have hl : ltB (.cons o 0 0 0 0 [] .nil .nil .nil) ++ [11] = [o, 11] := by
    subst hr; rfl
  have hok : (Fs.cons o 0 0 0 0 [] .nil .nil .nil).Ok := ⟨⟨by unfold i64; omega, by unfold i64; omega, by unfold i64; omega, by unfold i64; omega, by unfold i64; omega, by simp [i64]⟩, by decide, by decide, by decide, trivial, trivial, trivial⟩
  have hpu := put_one o 0 0 0 0 [] hm trivial
  have hun := get_one o 0 0 0 0 [] hm hok
  rw [hl] at hpu hun
  have hsz : (strOfNums [o, 11]).size = 2 := strOfNums_size _
  rw [hsz] at hun
  have hput : Hid (∀ (W : World) (B : Option Addr) (k : Nat), Tr (fun _ => True) W B (.cons o 0 0 0 0 [] .nil .nil .nil) → Calls Try.prog 10 #[.slice B 1 k] W fun e w' => e = .returned (.tuple #[.string (strOfNums [o, 11]), .int .i64 0]) ∧ Hid (Later W w')) := fun W B k hB => iput_is (.cons o 0 0 0 0 [] .nil .nil .nil) hok (by show 1 * 112 ≤ 140737488351232; decide) _ _ hpu 1 rfl _ W B k hB
  have hget : Hid (∀ W : World, Calls Try.prog 17 #[.string (strOfNums [o, 11]), .int .i64 0] W fun e' w' => ∃ A' c', e' = .returned (.tuple #[.slice A' 1 c', .int .i64 2, .int .i64 0]) ∧ Hid (Tr (W.heap.size ≤ ·) w' A' (.cons o 0 0 0 0 [] .nil .nil .nil)) ∧ Hid (Later W w')) := fun W => iget_is _ 0 _ _ 0 hun (by omega) (by decide) W
  have hsame : Hid (∀ (Z Y : Nat → Prop) (W : World) (B C : Option Addr) (k k' : Nat), Tr Z W B (.cons o 0 0 0 0 [] .nil .nil .nil) → Tr Y W C (.cons o 0 0 0 0 [] .nil .nil .nil) → Calls Try.prog 15 #[.slice B 1 k, .slice C 1 k'] W fun e w' => e = .returned (.bool true) ∧ Hid (Later W w')) := fun Z Y W B C k k' hB hC => isame_is (.cons o 0 0 0 0 [] .nil .nil .nil) hok (by show 1 * 112 ≤ 140737488351232; decide) _ _ rfl rfl Z Y W B C k k' hB hC
  have cv : ∀ (W : World) (g : Nat), g = W.heap.size → (convert 53 9 (.slice (some ⟨g, 0, none⟩) 1 1)).run Try.prog (W.alloc (.cells #[.int .u8 o] 5)) = .ok (.string (strOfNums [o])) (W.alloc (.cells #[.int .u8 o] 5)) := fun W g hg => by
    subst hg
    exact conv_n [o] (by simp; omega) 1 rfl W
  have happ : strOfNums [o] ++ ({ data := #[11] } : ByteArray) = strOfNums [o, 11] := by rw [show ({ data := #[11] } : ByteArray) = strOfNums [11] from rfl, str_app]; rfl
  have hs1 : (strOfNums [o]).size = 1 := strOfNums_size _
  have n1 := str_ne o []
  generalize strOfNums [o] = S1 at *
  generalize strOfNums [o, 11] = S2 at *
  clear hpu hun hl hm hfo hok hr
  go_enter Try.func8, Try.ntmps8
  go_wp2_with (go_at_call 16; refine (awake_any _).mono ?_; rintro e w1 ⟨rfl, l1⟩; replace l1 : Hid (Later w w1) := l1)
  refine calls_world ?_
  intro W hW
  have LW : Hid (Later w1 W) := by rw [hW]; exact (by repeat first | exact Lz _ | apply La)
  have k0 : W.cell? ⟨w1.heap.size, 0, none⟩ = some (.int .i64 o) := by rw [hW]; simp [go_sem]
  have k1 : W.cell? ⟨w1.heap.size, 1, none⟩ = some (.int .i64 0) := by rw [hW]; simp [go_sem]
  have k2 : W.cell? ⟨w1.heap.size, 2, none⟩ = some (.int .i64 0) := by rw [hW]; simp [go_sem]
  have k3 : W.cell? ⟨w1.heap.size, 3, none⟩ = some (.int .i64 0) := by rw [hW]; simp [go_sem]
  have k4 : W.cell? ⟨w1.heap.size, 4, none⟩ = some (.int .i64 0) := by rw [hW]; simp [go_sem]
  have k5 : W.cell? ⟨w1.heap.size, 5, none⟩ = some (.slice none 0 0) := by rw [hW]; simp [go_sem]
  have k6 : W.cell? ⟨w1.heap.size, 6, none⟩ = some (.slice none 0 0) := by rw [hW]; simp [go_sem]
  have k7 : W.cell? ⟨w1.heap.size, 7, none⟩ = some (.slice none 0 0) := by rw [hW]; simp [go_sem]
  have T : Tr (fun _ => True) W (some ⟨w1.heap.size + 1 + 1, 0, none⟩) (.cons o 0 0 0 0 [] .nil .nil .nil) := by
    have := tr_lit (W' := W) (Z := fun _ => True) (ls := []) (bo := .nil) (el := .nil) rfl rfl rfl (by rw [hW]; exact Lz _) (lq_nil _ _ _) (Or.inl rfl) (Or.inl rfl) trivial
    simpa using this
  clear hW
  refine (hput.out W _ _ T).mono ?_
  clear hput
  rintro e w2 ⟨rfl, l2⟩
  replace k0 := (later_of l2).cell_of k0
  replace k1 := (later_of l2).cell_of k1
  replace k2 := (later_of l2).cell_of k2
  replace k3 := (later_of l2).cell_of k3
  replace k4 := (later_of l2).cell_of k4
  replace k5 := (later_of l2).cell_of k5
  replace k6 := (later_of l2).cell_of k6
  replace k7 := (later_of l2).cell_of k7
  go_wp2_with fail
  refine (hget.out _).mono ?_
  clear hget
  rintro e w3 ⟨A3, c3, rfl, T3, l3⟩
  replace k0 := (later_of l3).cell_of k0
  replace k1 := (later_of l3).cell_of k1
  replace k2 := (later_of l3).cell_of k2
  replace k3 := (later_of l3).cell_of k3
  replace k4 := (later_of l3).cell_of k4
  replace k5 := (later_of l3).cell_of k5
  replace k6 := (later_of l3).cell_of k6
  replace k7 := (later_of l3).cell_of k7
  have hi := cell_lt k0
  have TL : Hid (Tr (fun _ => True) (w3.alloc (.cells #[.int .i64 o, .int .i64 0, .int .i64 0, .int .i64 0, .int .i64 0, .slice none 0 0, .slice none 0 0, .slice none 0 0] 47)) (some ⟨w3.heap.size, 0, none⟩) (.cons o 0 0 0 0 [] .nil .nil .nil)) := tr_lit (ls := []) (bo := .nil) (el := .nil) rfl rfl rfl (Lz _) (lq_nil _ _ _) (Or.inl rfl) (Or.inl rfl) trivial
  have L3 : Hid (Later w w3) := ((l1.out.trans LW.out).trans l2.out).trans l3.out
  clear T LW l1 l2 l3
  go_wp2_with (first | (go_at_call 12; refine (num_any _ _).mono ?_; rintro e w' ⟨rfl, hw⟩; have hw := hw.symm; subst hw) | (go_at_call 15; refine (hsame.out _ _ _ _ _ _ _ (T3.out.later (La (Lz _))) TL.out).mono ?_; clear hsame; rintro e w6 ⟨rfl, l6⟩))
  go_ret
  exact ⟨rfl, (L3.out.trans (La (Lz _))).trans l6.out⟩
theorem c_o27 (op o : Int) (hop : bits .and .i64 op 255 = o) (hr : o = 27) (w : World) :
    Calls Try.prog 8 #[.int .i64 op] w fun e w' => e = .returned (.bool true) ∧ Later w w' := by
  have f0 : (o == 0) = false := by exact beq_false (by omega)
  have f1 : (o == 1) = false := by exact beq_false (by omega)
  have f2 : (o == 15) = false := by exact beq_false (by omega)
  have f3 : (o == 26) = false := by exact beq_false (by omega)
  have f4 : (o == 27) = true := by simpa using (by omega : o = 27)
  have hu8 : IntKind.u8.wrap o = o := by rw [IntKind.wrap_u8]; omega
  have hfo : fo o = 0 := by unfold fo; repeat (split; (first | rfl | omega)); all_goals first | rfl | omega
  have hm : mayP o 0 0 0 0 [] 0 0 := by
    unfold mayP; simp [hfo, Wd]
  have hl : ltB (.cons o 0 0 0 0 [] .nil .nil .nil) ++ [11] = [o, 11] := by
    subst hr; rfl
  have hok : (Fs.cons o 0 0 0 0 [] .nil .nil .nil).Ok := ⟨⟨by unfold i64; omega, by unfold i64; omega, by unfold i64; omega, by unfold i64; omega, by unfold i64; omega, by simp [i64]⟩, by decide, by decide, by decide, trivial, trivial, trivial⟩
  have hpu := put_one o 0 0 0 0 [] hm trivial
  have hun := get_one o 0 0 0 0 [] hm hok
  rw [hl] at hpu hun
  have hsz : (strOfNums [o, 11]).size = 2 := strOfNums_size _
  rw [hsz] at hun
  have hput : Hid (∀ (W : World) (B : Option Addr) (k : Nat), Tr (fun _ => True) W B (.cons o 0 0 0 0 [] .nil .nil .nil) → Calls Try.prog 10 #[.slice B 1 k] W fun e w' => e = .returned (.tuple #[.string (strOfNums [o, 11]), .int .i64 0]) ∧ Hid (Later W w')) := fun W B k hB => iput_is (.cons o 0 0 0 0 [] .nil .nil .nil) hok (by show 1 * 112 ≤ 140737488351232; decide) _ _ hpu 1 rfl _ W B k hB
  have hget : Hid (∀ W : World, Calls Try.prog 17 #[.string (strOfNums [o, 11]), .int .i64 0] W fun e' w' => ∃ A' c', e' = .returned (.tuple #[.slice A' 1 c', .int .i64 2, .int .i64 0]) ∧ Hid (Tr (W.heap.size ≤ ·) w' A' (.cons o 0 0 0 0 [] .nil .nil .nil)) ∧ Hid (Later W w')) := fun W => iget_is _ 0 _ _ 0 hun (by omega) (by decide) W
  have hsame : Hid (∀ (Z Y : Nat → Prop) (W : World) (B C : Option Addr) (k k' : Nat), Tr Z W B (.cons o 0 0 0 0 [] .nil .nil .nil) → Tr Y W C (.cons o 0 0 0 0 [] .nil .nil .nil) → Calls Try.prog 15 #[.slice B 1 k, .slice C 1 k'] W fun e w' => e = .returned (.bool true) ∧ Hid (Later W w')) := fun Z Y W B C k k' hB hC => isame_is (.cons o 0 0 0 0 [] .nil .nil .nil) hok (by show 1 * 112 ≤ 140737488351232; decide) _ _ rfl rfl Z Y W B C k k' hB hC
  have cv : ∀ (W : World) (g : Nat), g = W.heap.size → (convert 53 9 (.slice (some ⟨g, 0, none⟩) 1 1)).run Try.prog (W.alloc (.cells #[.int .u8 o] 5)) = .ok (.string (strOfNums [o])) (W.alloc (.cells #[.int .u8 o] 5)) := fun W g hg => by
    subst hg
    exact conv_n [o] (by simp; omega) 1 rfl W
  have happ : strOfNums [o] ++ ({ data := #[11] } : ByteArray) = strOfNums [o, 11] := by rw [show ({ data := #[11] } : ByteArray) = strOfNums [11] from rfl, str_app]; rfl
  have hs1 : (strOfNums [o]).size = 1 := strOfNums_size _
  have n1 := str_ne o []
  generalize strOfNums [o] = S1 at *
  generalize strOfNums [o, 11] = S2 at *
  clear hpu hun hl hm hfo hok hr
  go_enter Try.func8, Try.ntmps8
  go_wp2_with (go_at_call 16; refine (awake_any _).mono ?_; rintro e w1 ⟨rfl, l1⟩; replace l1 : Hid (Later w w1) := l1)
  refine calls_world ?_
  intro W hW
  have LW : Hid (Later w1 W) := by rw [hW]; exact (by repeat first | exact Lz _ | apply La)
  have k0 : W.cell? ⟨w1.heap.size, 0, none⟩ = some (.int .i64 o) := by rw [hW]; simp [go_sem]
  have k1 : W.cell? ⟨w1.heap.size, 1, none⟩ = some (.int .i64 0) := by rw [hW]; simp [go_sem]
  have k2 : W.cell? ⟨w1.heap.size, 2, none⟩ = some (.int .i64 0) := by rw [hW]; simp [go_sem]
  have k3 : W.cell? ⟨w1.heap.size, 3, none⟩ = some (.int .i64 0) := by rw [hW]; simp [go_sem]
  have k4 : W.cell? ⟨w1.heap.size, 4, none⟩ = some (.int .i64 0) := by rw [hW]; simp [go_sem]
  have k5 : W.cell? ⟨w1.heap.size, 5, none⟩ = some (.slice none 0 0) := by rw [hW]; simp [go_sem]
  have k6 : W.cell? ⟨w1.heap.size, 6, none⟩ = some (.slice none 0 0) := by rw [hW]; simp [go_sem]
  have k7 : W.cell? ⟨w1.heap.size, 7, none⟩ = some (.slice none 0 0) := by rw [hW]; simp [go_sem]
  have T : Tr (fun _ => True) W (some ⟨w1.heap.size + 1 + 1, 0, none⟩) (.cons o 0 0 0 0 [] .nil .nil .nil) := by
    have := tr_lit (W' := W) (Z := fun _ => True) (ls := []) (bo := .nil) (el := .nil) rfl rfl rfl (by rw [hW]; exact Lz _) (lq_nil _ _ _) (Or.inl rfl) (Or.inl rfl) trivial
    simpa using this
  clear hW
  refine (hput.out W _ _ T).mono ?_
  clear hput
  rintro e w2 ⟨rfl, l2⟩
  replace k0 := (later_of l2).cell_of k0
  replace k1 := (later_of l2).cell_of k1
  replace k2 := (later_of l2).cell_of k2
  replace k3 := (later_of l2).cell_of k3
  replace k4 := (later_of l2).cell_of k4
  replace k5 := (later_of l2).cell_of k5
  replace k6 := (later_of l2).cell_of k6
  replace k7 := (later_of l2).cell_of k7
  go_wp2_with fail
  refine (hget.out _).mono ?_
  clear hget
  rintro e w3 ⟨A3, c3, rfl, T3, l3⟩
  replace k0 := (later_of l3).cell_of k0
  replace k1 := (later_of l3).cell_of k1
  replace k2 := (later_of l3).cell_of k2
  replace k3 := (later_of l3).cell_of k3
  replace k4 := (later_of l3).cell_of k4
  replace k5 := (later_of l3).cell_of k5
  replace k6 := (later_of l3).cell_of k6
  replace k7 := (later_of l3).cell_of k7
  have hi := cell_lt k0
  have TL : Hid (Tr (fun _ => True) (w3.alloc (.cells #[.int .i64 o, .int .i64 0, .int .i64 0, .int .i64 0, .int .i64 0, .slice none 0 0, .slice none 0 0, .slice none 0 0] 47)) (some ⟨w3.heap.size, 0, none⟩) (.cons o 0 0 0 0 [] .nil .nil .nil)) := tr_lit (ls := []) (bo := .nil) (el := .nil) rfl rfl rfl (Lz _) (lq_nil _ _ _) (Or.inl rfl) (Or.inl rfl) trivial
  have L3 : Hid (Later w w3) := ((l1.out.trans LW.out).trans l2.out).trans l3.out
  clear T LW l1 l2 l3
  go_wp2_with (first | (go_at_call 12; refine (num_any _ _).mono ?_; rintro e w' ⟨rfl, hw⟩; have hw := hw.symm; subst hw) | (go_at_call 15; refine (hsame.out _ _ _ _ _ _ _ (T3.out.later (La (Lz _))) TL.out).mono ?_; clear hsame; rintro e w6 ⟨rfl, l6⟩))
  go_ret
  exact ⟨rfl, (L3.out.trans (La (Lz _))).trans l6.out⟩
theorem c_r69 (op o : Int) (hop : bits .and .i64 op 255 = o) (hr : 69 ≤ o ∧ o ≤ 191) (w : World) :
    Calls Try.prog 8 #[.int .i64 op] w fun e w' => e = .returned (.bool true) ∧ Later w w' := by
  have f0 : (o == 0) = false := by exact beq_false (by omega)
  have f1 : (o == 1) = false := by exact beq_false (by omega)
  have f2 : (o == 15) = false := by exact beq_false (by omega)
  have f3 : (o == 26) = false := by exact beq_false (by omega)
  have f4 : (o == 27) = false := by exact beq_false (by omega)
  have f5 : 69 ≤ o := by omega
  have f6 : o ≤ 191 := by omega
  have hu8 : IntKind.u8.wrap o = o := by rw [IntKind.wrap_u8]; omega
  have hfo : fo o = 0 := by unfold fo; repeat (split; (first | rfl | omega)); all_goals first | rfl | omega
  have hm : mayP o 0 0 0 0 [] 0 0 := by
    unfold mayP; simp [hfo, Wd]
  have hl : ltB (.cons o 0 0 0 0 [] .nil .nil .nil) ++ [11] = [o, 11] := by
    unfold ltB; simp [hfo, ltB]; first | omega | exact ⟨by omega, by decide⟩ | (refine ⟨by omega, ?_⟩; decide)
  have hok : (Fs.cons o 0 0 0 0 [] .nil .nil .nil).Ok := ⟨⟨by unfold i64; omega, by unfold i64; omega, by unfold i64; omega, by unfold i64; omega, by unfold i64; omega, by simp [i64]⟩, by decide, by decide, by decide, trivial, trivial, trivial⟩
  have hpu := put_one o 0 0 0 0 [] hm trivial
  have hun := get_one o 0 0 0 0 [] hm hok
  rw [hl] at hpu hun
  have hsz : (strOfNums [o, 11]).size = 2 := strOfNums_size _
  rw [hsz] at hun
  have hput : Hid (∀ (W : World) (B : Option Addr) (k : Nat), Tr (fun _ => True) W B (.cons o 0 0 0 0 [] .nil .nil .nil) → Calls Try.prog 10 #[.slice B 1 k] W fun e w' => e = .returned (.tuple #[.string (strOfNums [o, 11]), .int .i64 0]) ∧ Hid (Later W w')) := fun W B k hB => iput_is (.cons o 0 0 0 0 [] .nil .nil .nil) hok (by show 1 * 112 ≤ 140737488351232; decide) _ _ hpu 1 rfl _ W B k hB
  have hget : Hid (∀ W : World, Calls Try.prog 17 #[.string (strOfNums [o, 11]), .int .i64 0] W fun e' w' => ∃ A' c', e' = .returned (.tuple #[.slice A' 1 c', .int .i64 2, .int .i64 0]) ∧ Hid (Tr (W.heap.size ≤ ·) w' A' (.cons o 0 0 0 0 [] .nil .nil .nil)) ∧ Hid (Later W w')) := fun W => iget_is _ 0 _ _ 0 hun (by omega) (by decide) W
  have hsame : Hid (∀ (Z Y : Nat → Prop) (W : World) (B C : Option Addr) (k k' : Nat), Tr Z W B (.cons o 0 0 0 0 [] .nil .nil .nil) → Tr Y W C (.cons o 0 0 0 0 [] .nil .nil .nil) → Calls Try.prog 15 #[.slice B 1 k, .slice C 1 k'] W fun e w' => e = .returned (.bool true) ∧ Hid (Later W w')) := fun Z Y W B C k k' hB hC => isame_is (.cons o 0 0 0 0 [] .nil .nil .nil) hok (by show 1 * 112 ≤ 140737488351232; decide) _ _ rfl rfl Z Y W B C k k' hB hC
  have cv : ∀ (W : World) (g : Nat), g = W.heap.size → (convert 53 9 (.slice (some ⟨g, 0, none⟩) 1 1)).run Try.prog (W.alloc (.cells #[.int .u8 o] 5)) = .ok (.string (strOfNums [o])) (W.alloc (.cells #[.int .u8 o] 5)) := fun W g hg => by
    subst hg
    exact conv_n [o] (by simp; omega) 1 rfl W
  have happ : strOfNums [o] ++ ({ data := #[11] } : ByteArray) = strOfNums [o, 11] := by rw [show ({ data := #[11] } : ByteArray) = strOfNums [11] from rfl, str_app]; rfl
  have hs1 : (strOfNums [o]).size = 1 := strOfNums_size _
  have n1 := str_ne o []
  generalize strOfNums [o] = S1 at *
  generalize strOfNums [o, 11] = S2 at *
  clear hpu hun hl hm hfo hok hr
  go_enter Try.func8, Try.ntmps8
  go_wp2_with (go_at_call 16; refine (awake_any _).mono ?_; rintro e w1 ⟨rfl, l1⟩; replace l1 : Hid (Later w w1) := l1)
  refine calls_world ?_
  intro W hW
  have LW : Hid (Later w1 W) := by rw [hW]; exact (by repeat first | exact Lz _ | apply La)
  have k0 : W.cell? ⟨w1.heap.size, 0, none⟩ = some (.int .i64 o) := by rw [hW]; simp [go_sem]
  have k1 : W.cell? ⟨w1.heap.size, 1, none⟩ = some (.int .i64 0) := by rw [hW]; simp [go_sem]
  have k2 : W.cell? ⟨w1.heap.size, 2, none⟩ = some (.int .i64 0) := by rw [hW]; simp [go_sem]
  have k3 : W.cell? ⟨w1.heap.size, 3, none⟩ = some (.int .i64 0) := by rw [hW]; simp [go_sem]
  have k4 : W.cell? ⟨w1.heap.size, 4, none⟩ = some (.int .i64 0) := by rw [hW]; simp [go_sem]
  have k5 : W.cell? ⟨w1.heap.size, 5, none⟩ = some (.slice none 0 0) := by rw [hW]; simp [go_sem]
  have k6 : W.cell? ⟨w1.heap.size, 6, none⟩ = some (.slice none 0 0) := by rw [hW]; simp [go_sem]
  have k7 : W.cell? ⟨w1.heap.size, 7, none⟩ = some (.slice none 0 0) := by rw [hW]; simp [go_sem]
  have T : Tr (fun _ => True) W (some ⟨w1.heap.size + 1 + 1, 0, none⟩) (.cons o 0 0 0 0 [] .nil .nil .nil) := by
    have := tr_lit (W' := W) (Z := fun _ => True) (ls := []) (bo := .nil) (el := .nil) rfl rfl rfl (by rw [hW]; exact Lz _) (lq_nil _ _ _) (Or.inl rfl) (Or.inl rfl) trivial
    simpa using this
  clear hW
  refine (hput.out W _ _ T).mono ?_
  clear hput
  rintro e w2 ⟨rfl, l2⟩
  replace k0 := (later_of l2).cell_of k0
  replace k1 := (later_of l2).cell_of k1
  replace k2 := (later_of l2).cell_of k2
  replace k3 := (later_of l2).cell_of k3
  replace k4 := (later_of l2).cell_of k4
  replace k5 := (later_of l2).cell_of k5
  replace k6 := (later_of l2).cell_of k6
  replace k7 := (later_of l2).cell_of k7
  go_wp2_with fail
  refine (hget.out _).mono ?_
  clear hget
  rintro e w3 ⟨A3, c3, rfl, T3, l3⟩
  replace k0 := (later_of l3).cell_of k0
  replace k1 := (later_of l3).cell_of k1
  replace k2 := (later_of l3).cell_of k2
  replace k3 := (later_of l3).cell_of k3
  replace k4 := (later_of l3).cell_of k4
  replace k5 := (later_of l3).cell_of k5
  replace k6 := (later_of l3).cell_of k6
  replace k7 := (later_of l3).cell_of k7
  have hi := cell_lt k0
  have TL : Hid (Tr (fun _ => True) (w3.alloc (.cells #[.int .i64 o, .int .i64 0, .int .i64 0, .int .i64 0, .int .i64 0, .slice none 0 0, .slice none 0 0, .slice none 0 0] 47)) (some ⟨w3.heap.size, 0, none⟩) (.cons o 0 0 0 0 [] .nil .nil .nil)) := tr_lit (ls := []) (bo := .nil) (el := .nil) rfl rfl rfl (Lz _) (lq_nil _ _ _) (Or.inl rfl) (Or.inl rfl) trivial
  have L3 : Hid (Later w w3) := ((l1.out.trans LW.out).trans l2.out).trans l3.out
  clear T LW l1 l2 l3
  go_wp2_with (first | (go_at_call 12; refine (num_any _ _).mono ?_; rintro e w' ⟨rfl, hw⟩; have hw := hw.symm; subst hw) | (go_at_call 15; refine (hsame.out _ _ _ _ _ _ _ (T3.out.later (La (Lz _))) TL.out).mono ?_; clear hsame; rintro e w6 ⟨rfl, l6⟩))
  go_ret
  exact ⟨rfl, (L3.out.trans (La (Lz _))).trans l6.out⟩
theorem c_r2 (op o : Int) (hop : bits .and .i64 op 255 = o) (hr : 2 ≤ o ∧ o ≤ 4) (w : World) :
    Calls Try.prog 8 #[.int .i64 op] w fun e w' => e = .returned (.bool true) ∧ Later w w' := by
  have f0 : (o == 0) = false := by exact beq_false (by omega)
  have f1 : (o == 1) = false := by exact beq_false (by omega)
  have f2 : (o == 15) = false := by exact beq_false (by omega)
  have f3 : (o == 26) = false := by exact beq_false (by omega)
  have f4 : (o == 27) = false := by exact beq_false (by omega)
  have f5 : ¬ 69 ≤ o := by omega
  have f6 : 2 ≤ o := by omega
  have f7 : o ≤ 4 := by omega
  have hu8 : IntKind.u8.wrap o = o := by rw [IntKind.wrap_u8]; omega
  have hfo : fo o = fo o := by rfl
  have hm : mayP o 0 0 0 64 [] 0 0 := by
    rcases (show o = 2 ∨ o = 3 ∨ o = 4 by omega) with rfl | rfl | rfl <;> simp [mayP, fo]
  have hl : ltB (.cons o 0 0 0 64 [] .nil .nil .nil) ++ [11] = [o, 64, 11, 11] := by
    rcases (show o = 2 ∨ o = 3 ∨ o = 4 by omega) with rfl | rfl | rfl <;> rfl
  have hok : (Fs.cons o 0 0 0 64 [] .nil .nil .nil).Ok := ⟨⟨by unfold i64; omega, by unfold i64; omega, by unfold i64; omega, by unfold i64; omega, by unfold i64; omega, by simp [i64]⟩, by decide, by decide, by decide, trivial, trivial, trivial⟩
  have hpu := put_one o 0 0 0 64 [] hm trivial
  have hun := get_one o 0 0 0 64 [] hm hok
  rw [hl] at hpu hun
  have hsz : (strOfNums [o, 64, 11, 11]).size = 4 := strOfNums_size _
  rw [hsz] at hun
  have hput : Hid (∀ (W : World) (B : Option Addr) (k : Nat), Tr (fun _ => True) W B (.cons o 0 0 0 64 [] .nil .nil .nil) → Calls Try.prog 10 #[.slice B 1 k] W fun e w' => e = .returned (.tuple #[.string (strOfNums [o, 64, 11, 11]), .int .i64 0]) ∧ Hid (Later W w')) := fun W B k hB => iput_is (.cons o 0 0 0 64 [] .nil .nil .nil) hok (by show 1 * 112 ≤ 140737488351232; decide) _ _ hpu 1 rfl _ W B k hB
  have hget : Hid (∀ W : World, Calls Try.prog 17 #[.string (strOfNums [o, 64, 11, 11]), .int .i64 0] W fun e' w' => ∃ A' c', e' = .returned (.tuple #[.slice A' 1 c', .int .i64 4, .int .i64 0]) ∧ Hid (Tr (W.heap.size ≤ ·) w' A' (.cons o 0 0 0 64 [] .nil .nil .nil)) ∧ Hid (Later W w')) := fun W => iget_is _ 0 _ _ 0 hun (by omega) (by decide) W
  have hsame : Hid (∀ (Z Y : Nat → Prop) (W : World) (B C : Option Addr) (k k' : Nat), Tr Z W B (.cons o 0 0 0 64 [] .nil .nil .nil) → Tr Y W C (.cons o 0 0 0 64 [] .nil .nil .nil) → Calls Try.prog 15 #[.slice B 1 k, .slice C 1 k'] W fun e w' => e = .returned (.bool true) ∧ Hid (Later W w')) := fun Z Y W B C k k' hB hC => isame_is (.cons o 0 0 0 64 [] .nil .nil .nil) hok (by show 1 * 112 ≤ 140737488351232; decide) _ _ rfl rfl Z Y W B C k k' hB hC
  have cv : ∀ (W : World) (g : Nat), g = W.heap.size → (convert 53 9 (.slice (some ⟨g, 0, none⟩) 3 3)).run Try.prog (W.alloc (.cells #[.int .u8 o, .int .u8 64, .int .u8 11] 5)) = .ok (.string (strOfNums [o, 64, 11])) (W.alloc (.cells #[.int .u8 o, .int .u8 64, .int .u8 11] 5)) := fun W g hg => by
    subst hg
    exact conv_n [o, 64, 11] (by simp; omega) 3 rfl W
  have happ : strOfNums [o, 64, 11] ++ ({ data := #[11] } : ByteArray) = strOfNums [o, 64, 11, 11] := by rw [show ({ data := #[11] } : ByteArray) = strOfNums [11] from rfl, str_app]; rfl
  have hs1 : (strOfNums [o, 64, 11]).size = 3 := strOfNums_size _
  have n1 := str_ne o [64, 11]
  generalize strOfNums [o, 64, 11] = S1 at *
  generalize strOfNums [o, 64, 11, 11] = S2 at *
  clear hpu hun hl hm hfo hok hr
  go_enter Try.func8, Try.ntmps8
  go_wp2_with (go_at_call 16; refine (awake_any _).mono ?_; rintro e w1 ⟨rfl, l1⟩; replace l1 : Hid (Later w w1) := l1)
  refine calls_world ?_
  intro W hW
  have LW : Hid (Later w1 W) := by rw [hW]; exact (by repeat first | exact Lz _ | apply La)
  have k0 : W.cell? ⟨w1.heap.size, 0, none⟩ = some (.int .i64 o) := by rw [hW]; simp [go_sem]
  have k1 : W.cell? ⟨w1.heap.size, 1, none⟩ = some (.int .i64 0) := by rw [hW]; simp [go_sem]
  have k2 : W.cell? ⟨w1.heap.size, 2, none⟩ = some (.int .i64 0) := by rw [hW]; simp [go_sem]
  have k3 : W.cell? ⟨w1.heap.size, 3, none⟩ = some (.int .i64 0) := by rw [hW]; simp [go_sem]
  have k4 : W.cell? ⟨w1.heap.size, 4, none⟩ = some (.int .i64 64) := by rw [hW]; simp [go_sem]
  have k5 : W.cell? ⟨w1.heap.size, 5, none⟩ = some (.slice none 0 0) := by rw [hW]; simp [go_sem]
  have k6 : W.cell? ⟨w1.heap.size, 6, none⟩ = some (.slice none 0 0) := by rw [hW]; simp [go_sem]
  have k7 : W.cell? ⟨w1.heap.size, 7, none⟩ = some (.slice none 0 0) := by rw [hW]; simp [go_sem]
  have T : Tr (fun _ => True) W (some ⟨w1.heap.size + 1 + 1, 0, none⟩) (.cons o 0 0 0 64 [] .nil .nil .nil) := by
    have := tr_lit (W' := W) (Z := fun _ => True) (ls := []) (bo := .nil) (el := .nil) rfl rfl rfl (by rw [hW]; exact Lz _) (lq_nil _ _ _) (Or.inl rfl) (Or.inl rfl) trivial
    simpa using this
  clear hW
  refine (hput.out W _ _ T).mono ?_
  clear hput
  rintro e w2 ⟨rfl, l2⟩
  replace k0 := (later_of l2).cell_of k0
  replace k1 := (later_of l2).cell_of k1
  replace k2 := (later_of l2).cell_of k2
  replace k3 := (later_of l2).cell_of k3
  replace k4 := (later_of l2).cell_of k4
  replace k5 := (later_of l2).cell_of k5
  replace k6 := (later_of l2).cell_of k6
  replace k7 := (later_of l2).cell_of k7
  go_wp2_with fail
  refine (hget.out _).mono ?_
  clear hget
  rintro e w3 ⟨A3, c3, rfl, T3, l3⟩
  replace k0 := (later_of l3).cell_of k0
  replace k1 := (later_of l3).cell_of k1
  replace k2 := (later_of l3).cell_of k2
  replace k3 := (later_of l3).cell_of k3
  replace k4 := (later_of l3).cell_of k4
  replace k5 := (later_of l3).cell_of k5
  replace k6 := (later_of l3).cell_of k6
  replace k7 := (later_of l3).cell_of k7
  have hi := cell_lt k0
  have TL : Hid (Tr (fun _ => True) (w3.alloc (.cells #[.int .i64 o, .int .i64 0, .int .i64 0, .int .i64 0, .int .i64 64, .slice none 0 0, .slice none 0 0, .slice none 0 0] 47)) (some ⟨w3.heap.size, 0, none⟩) (.cons o 0 0 0 64 [] .nil .nil .nil)) := tr_lit (ls := []) (bo := .nil) (el := .nil) rfl rfl rfl (Lz _) (lq_nil _ _ _) (Or.inl rfl) (Or.inl rfl) trivial
  have L3 : Hid (Later w w3) := ((l1.out.trans LW.out).trans l2.out).trans l3.out
  clear T LW l1 l2 l3
  go_wp2_with (first | (go_at_call 12; refine (num_any _ _).mono ?_; rintro e w' ⟨rfl, hw⟩; have hw := hw.symm; subst hw) | (go_at_call 15; refine (hsame.out _ _ _ _ _ _ _ (T3.out.later (La (Lz _))) TL.out).mono ?_; clear hsame; rintro e w6 ⟨rfl, l6⟩))
  go_ret
  exact ⟨rfl, (L3.out.trans (La (Lz _))).trans l6.out⟩
theorem c_o12 (op o : Int) (hop : bits .and .i64 op 255 = o) (hr : o = 12) (w : World) :
    Calls Try.prog 8 #[.int .i64 op] w fun e w' => e = .returned (.bool true) ∧ Later w w' := by
  have f0 : (o == 0) = false := by exact beq_false (by omega)
  have f1 : (o == 1) = false := by exact beq_false (by omega)
  have f2 : (o == 15) = false := by exact beq_false (by omega)
  have f3 : (o == 26) = false := by exact beq_false (by omega)
  have f4 : (o == 27) = false := by exact beq_false (by omega)
  have f5 : ¬ 69 ≤ o := by omega
  have f6 : 2 ≤ o := by omega
  have f7 : ¬ o ≤ 4 := by omega
  have f8 : (o == 12) = true := by simpa using (by omega : o = 12)
  have hu8 : IntKind.u8.wrap o = o := by rw [IntKind.wrap_u8]; omega
  have hfo : fo o = 3 := by unfold fo; repeat (split; (first | rfl | omega)); all_goals first | rfl | omega
  have hm : mayP o 5 0 0 0 [] 0 0 := by
    unfold mayP; simp [hfo, Wd]
  have hl : ltB (.cons o 5 0 0 0 [] .nil .nil .nil) ++ [11] = [o, 5, 11] := by
    subst hr; rfl
  have hok : (Fs.cons o 5 0 0 0 [] .nil .nil .nil).Ok := ⟨⟨by unfold i64; omega, by unfold i64; omega, by unfold i64; omega, by unfold i64; omega, by unfold i64; omega, by simp [i64]⟩, by decide, by decide, by decide, trivial, trivial, trivial⟩
  have hpu := put_one o 5 0 0 0 [] hm trivial
  have hun := get_one o 5 0 0 0 [] hm hok
  rw [hl] at hpu hun
  have hsz : (strOfNums [o, 5, 11]).size = 3 := strOfNums_size _
  rw [hsz] at hun
  have hput : Hid (∀ (W : World) (B : Option Addr) (k : Nat), Tr (fun _ => True) W B (.cons o 5 0 0 0 [] .nil .nil .nil) → Calls Try.prog 10 #[.slice B 1 k] W fun e w' => e = .returned (.tuple #[.string (strOfNums [o, 5, 11]), .int .i64 0]) ∧ Hid (Later W w')) := fun W B k hB => iput_is (.cons o 5 0 0 0 [] .nil .nil .nil) hok (by show 1 * 112 ≤ 140737488351232; decide) _ _ hpu 1 rfl _ W B k hB
  have hget : Hid (∀ W : World, Calls Try.prog 17 #[.string (strOfNums [o, 5, 11]), .int .i64 0] W fun e' w' => ∃ A' c', e' = .returned (.tuple #[.slice A' 1 c', .int .i64 3, .int .i64 0]) ∧ Hid (Tr (W.heap.size ≤ ·) w' A' (.cons o 5 0 0 0 [] .nil .nil .nil)) ∧ Hid (Later W w')) := fun W => iget_is _ 0 _ _ 0 hun (by omega) (by decide) W
  have hsame : Hid (∀ (Z Y : Nat → Prop) (W : World) (B C : Option Addr) (k k' : Nat), Tr Z W B (.cons o 5 0 0 0 [] .nil .nil .nil) → Tr Y W C (.cons o 5 0 0 0 [] .nil .nil .nil) → Calls Try.prog 15 #[.slice B 1 k, .slice C 1 k'] W fun e w' => e = .returned (.bool true) ∧ Hid (Later W w')) := fun Z Y W B C k k' hB hC => isame_is (.cons o 5 0 0 0 [] .nil .nil .nil) hok (by show 1 * 112 ≤ 140737488351232; decide) _ _ rfl rfl Z Y W B C k k' hB hC
  have cv : ∀ (W : World) (g : Nat), g = W.heap.size → (convert 53 9 (.slice (some ⟨g, 0, none⟩) 2 2)).run Try.prog (W.alloc (.cells #[.int .u8 o, .int .u8 5] 5)) = .ok (.string (strOfNums [o, 5])) (W.alloc (.cells #[.int .u8 o, .int .u8 5] 5)) := fun W g hg => by
    subst hg
    exact conv_n [o, 5] (by simp; omega) 2 rfl W
  have happ : strOfNums [o, 5] ++ ({ data := #[11] } : ByteArray) = strOfNums [o, 5, 11] := by rw [show ({ data := #[11] } : ByteArray) = strOfNums [11] from rfl, str_app]; rfl
  have hs1 : (strOfNums [o, 5]).size = 2 := strOfNums_size _
  have n1 := str_ne o [5]
  generalize strOfNums [o, 5] = S1 at *
  generalize strOfNums [o, 5, 11] = S2 at *
  clear hpu hun hl hm hfo hok hr
  go_enter Try.func8, Try.ntmps8
  go_wp2_with (go_at_call 16; refine (awake_any _).mono ?_; rintro e w1 ⟨rfl, l1⟩; replace l1 : Hid (Later w w1) := l1)
  refine calls_world ?_
  intro W hW
  have LW : Hid (Later w1 W) := by rw [hW]; exact (by repeat first | exact Lz _ | apply La)
  have k0 : W.cell? ⟨w1.heap.size, 0, none⟩ = some (.int .i64 o) := by rw [hW]; simp [go_sem]
  have k1 : W.cell? ⟨w1.heap.size, 1, none⟩ = some (.int .i64 5) := by rw [hW]; simp [go_sem]
  have k2 : W.cell? ⟨w1.heap.size, 2, none⟩ = some (.int .i64 0) := by rw [hW]; simp [go_sem]
  have k3 : W.cell? ⟨w1.heap.size, 3, none⟩ = some (.int .i64 0) := by rw [hW]; simp [go_sem]
  have k4 : W.cell? ⟨w1.heap.size, 4, none⟩ = some (.int .i64 0) := by rw [hW]; simp [go_sem]
  have k5 : W.cell? ⟨w1.heap.size, 5, none⟩ = some (.slice none 0 0) := by rw [hW]; simp [go_sem]
  have k6 : W.cell? ⟨w1.heap.size, 6, none⟩ = some (.slice none 0 0) := by rw [hW]; simp [go_sem]
  have k7 : W.cell? ⟨w1.heap.size, 7, none⟩ = some (.slice none 0 0) := by rw [hW]; simp [go_sem]
  have T : Tr (fun _ => True) W (some ⟨w1.heap.size + 1 + 1, 0, none⟩) (.cons o 5 0 0 0 [] .nil .nil .nil) := by
    have := tr_lit (W' := W) (Z := fun _ => True) (ls := []) (bo := .nil) (el := .nil) rfl rfl rfl (by rw [hW]; exact Lz _) (lq_nil _ _ _) (Or.inl rfl) (Or.inl rfl) trivial
    simpa using this
  clear hW
  refine (hput.out W _ _ T).mono ?_
  clear hput
  rintro e w2 ⟨rfl, l2⟩
  replace k0 := (later_of l2).cell_of k0
  replace k1 := (later_of l2).cell_of k1
  replace k2 := (later_of l2).cell_of k2
  replace k3 := (later_of l2).cell_of k3
  replace k4 := (later_of l2).cell_of k4
  replace k5 := (later_of l2).cell_of k5
  replace k6 := (later_of l2).cell_of k6
  replace k7 := (later_of l2).cell_of k7
  go_wp2_with fail
  refine (hget.out _).mono ?_
  clear hget
  rintro e w3 ⟨A3, c3, rfl, T3, l3⟩
  replace k0 := (later_of l3).cell_of k0
  replace k1 := (later_of l3).cell_of k1
  replace k2 := (later_of l3).cell_of k2
  replace k3 := (later_of l3).cell_of k3
  replace k4 := (later_of l3).cell_of k4
  replace k5 := (later_of l3).cell_of k5
  replace k6 := (later_of l3).cell_of k6
  replace k7 := (later_of l3).cell_of k7
  have hi := cell_lt k0
  have TL : Hid (Tr (fun _ => True) (w3.alloc (.cells #[.int .i64 o, .int .i64 5, .int .i64 0, .int .i64 0, .int .i64 0, .slice none 0 0, .slice none 0 0, .slice none 0 0] 47)) (some ⟨w3.heap.size, 0, none⟩) (.cons o 5 0 0 0 [] .nil .nil .nil)) := tr_lit (ls := []) (bo := .nil) (el := .nil) rfl rfl rfl (Lz _) (lq_nil _ _ _) (Or.inl rfl) (Or.inl rfl) trivial
  have L3 : Hid (Later w w3) := ((l1.out.trans LW.out).trans l2.out).trans l3.out
  clear T LW l1 l2 l3
  go_wp2_with (first | (go_at_call 12; refine (num_any _ _).mono ?_; rintro e w' ⟨rfl, hw⟩; have hw := hw.symm; subst hw) | (go_at_call 15; refine (hsame.out _ _ _ _ _ _ _ (T3.out.later (La (Lz _))) TL.out).mono ?_; clear hsame; rintro e w6 ⟨rfl, l6⟩))
  go_ret
  exact ⟨rfl, (L3.out.trans (La (Lz _))).trans l6.out⟩
theorem c_o13 (op o : Int) (hop : bits .and .i64 op 255 = o) (hr : o = 13) (w : World) :
    Calls Try.prog 8 #[.int .i64 op] w fun e w' => e = .returned (.bool true) ∧ Later w w' := by
  have f0 : (o == 0) = false := by exact beq_false (by omega)
  have f1 : (o == 1) = false := by exact beq_false (by omega)
  have f2 : (o == 15) = false := by exact beq_false (by omega)
  have f3 : (o == 26) = false := by exact beq_false (by omega)
  have f4 : (o == 27) = false := by exact beq_false (by omega)
  have f5 : ¬ 69 ≤ o := by omega
  have f6 : 2 ≤ o := by omega
  have f7 : ¬ o ≤ 4 := by omega
  have f8 : (o == 12) = false := by exact beq_false (by omega)
  have f9 : (o == 13) = true := by simpa using (by omega : o = 13)
  have hu8 : IntKind.u8.wrap o = o := by rw [IntKind.wrap_u8]; omega
  have hfo : fo o = 3 := by unfold fo; repeat (split; (first | rfl | omega)); all_goals first | rfl | omega
  have hm : mayP o 5 0 0 0 [] 0 0 := by
    unfold mayP; simp [hfo, Wd]
  have hl : ltB (.cons o 5 0 0 0 [] .nil .nil .nil) ++ [11] = [o, 5, 11] := by
    subst hr; rfl
  have hok : (Fs.cons o 5 0 0 0 [] .nil .nil .nil).Ok := ⟨⟨by unfold i64; omega, by unfold i64; omega, by unfold i64; omega, by unfold i64; omega, by unfold i64; omega, by simp [i64]⟩, by decide, by decide, by decide, trivial, trivial, trivial⟩
  have hpu := put_one o 5 0 0 0 [] hm trivial
  have hun := get_one o 5 0 0 0 [] hm hok
  rw [hl] at hpu hun
  have hsz : (strOfNums [o, 5, 11]).size = 3 := strOfNums_size _
  rw [hsz] at hun
  have hput : Hid (∀ (W : World) (B : Option Addr) (k : Nat), Tr (fun _ => True) W B (.cons o 5 0 0 0 [] .nil .nil .nil) → Calls Try.prog 10 #[.slice B 1 k] W fun e w' => e = .returned (.tuple #[.string (strOfNums [o, 5, 11]), .int .i64 0]) ∧ Hid (Later W w')) := fun W B k hB => iput_is (.cons o 5 0 0 0 [] .nil .nil .nil) hok (by show 1 * 112 ≤ 140737488351232; decide) _ _ hpu 1 rfl _ W B k hB
  have hget : Hid (∀ W : World, Calls Try.prog 17 #[.string (strOfNums [o, 5, 11]), .int .i64 0] W fun e' w' => ∃ A' c', e' = .returned (.tuple #[.slice A' 1 c', .int .i64 3, .int .i64 0]) ∧ Hid (Tr (W.heap.size ≤ ·) w' A' (.cons o 5 0 0 0 [] .nil .nil .nil)) ∧ Hid (Later W w')) := fun W => iget_is _ 0 _ _ 0 hun (by omega) (by decide) W
  have hsame : Hid (∀ (Z Y : Nat → Prop) (W : World) (B C : Option Addr) (k k' : Nat), Tr Z W B (.cons o 5 0 0 0 [] .nil .nil .nil) → Tr Y W C (.cons o 5 0 0 0 [] .nil .nil .nil) → Calls Try.prog 15 #[.slice B 1 k, .slice C 1 k'] W fun e w' => e = .returned (.bool true) ∧ Hid (Later W w')) := fun Z Y W B C k k' hB hC => isame_is (.cons o 5 0 0 0 [] .nil .nil .nil) hok (by show 1 * 112 ≤ 140737488351232; decide) _ _ rfl rfl Z Y W B C k k' hB hC
  have cv : ∀ (W : World) (g : Nat), g = W.heap.size → (convert 53 9 (.slice (some ⟨g, 0, none⟩) 2 2)).run Try.prog (W.alloc (.cells #[.int .u8 o, .int .u8 5] 5)) = .ok (.string (strOfNums [o, 5])) (W.alloc (.cells #[.int .u8 o, .int .u8 5] 5)) := fun W g hg => by
    subst hg
    exact conv_n [o, 5] (by simp; omega) 2 rfl W
  have happ : strOfNums [o, 5] ++ ({ data := #[11] } : ByteArray) = strOfNums [o, 5, 11] := by rw [show ({ data := #[11] } : ByteArray) = strOfNums [11] from rfl, str_app]; rfl
  have hs1 : (strOfNums [o, 5]).size = 2 := strOfNums_size _
  have n1 := str_ne o [5]
  generalize strOfNums [o, 5] = S1 at *
  generalize strOfNums [o, 5, 11] = S2 at *
  clear hpu hun hl hm hfo hok hr
  go_enter Try.func8, Try.ntmps8
  go_wp2_with (go_at_call 16; refine (awake_any _).mono ?_; rintro e w1 ⟨rfl, l1⟩; replace l1 : Hid (Later w w1) := l1)
  refine calls_world ?_
  intro W hW
  have LW : Hid (Later w1 W) := by rw [hW]; exact (by repeat first | exact Lz _ | apply La)
  have k0 : W.cell? ⟨w1.heap.size, 0, none⟩ = some (.int .i64 o) := by rw [hW]; simp [go_sem]
  have k1 : W.cell? ⟨w1.heap.size, 1, none⟩ = some (.int .i64 5) := by rw [hW]; simp [go_sem]
  have k2 : W.cell? ⟨w1.heap.size, 2, none⟩ = some (.int .i64 0) := by rw [hW]; simp [go_sem]
  have k3 : W.cell? ⟨w1.heap.size, 3, none⟩ = some (.int .i64 0) := by rw [hW]; simp [go_sem]
  have k4 : W.cell? ⟨w1.heap.size, 4, none⟩ = some (.int .i64 0) := by rw [hW]; simp [go_sem]
  have k5 : W.cell? ⟨w1.heap.size, 5, none⟩ = some (.slice none 0 0) := by rw [hW]; simp [go_sem]
  have k6 : W.cell? ⟨w1.heap.size, 6, none⟩ = some (.slice none 0 0) := by rw [hW]; simp [go_sem]
  have k7 : W.cell? ⟨w1.heap.size, 7, none⟩ = some (.slice none 0 0) := by rw [hW]; simp [go_sem]
  have T : Tr (fun _ => True) W (some ⟨w1.heap.size + 1 + 1, 0, none⟩) (.cons o 5 0 0 0 [] .nil .nil .nil) := by
    have := tr_lit (W' := W) (Z := fun _ => True) (ls := []) (bo := .nil) (el := .nil) rfl rfl rfl (by rw [hW]; exact Lz _) (lq_nil _ _ _) (Or.inl rfl) (Or.inl rfl) trivial
    simpa using this
  clear hW
  refine (hput.out W _ _ T).mono ?_
  clear hput
  rintro e w2 ⟨rfl, l2⟩
  replace k0 := (later_of l2).cell_of k0
  replace k1 := (later_of l2).cell_of k1
  replace k2 := (later_of l2).cell_of k2
  replace k3 := (later_of l2).cell_of k3
  replace k4 := (later_of l2).cell_of k4
  replace k5 := (later_of l2).cell_of k5
  replace k6 := (later_of l2).cell_of k6
  replace k7 := (later_of l2).cell_of k7
  go_wp2_with fail
  refine (hget.out _).mono ?_
  clear hget
  rintro e w3 ⟨A3, c3, rfl, T3, l3⟩
  replace k0 := (later_of l3).cell_of k0
  replace k1 := (later_of l3).cell_of k1
  replace k2 := (later_of l3).cell_of k2
  replace k3 := (later_of l3).cell_of k3
  replace k4 := (later_of l3).cell_of k4
  replace k5 := (later_of l3).cell_of k5
  replace k6 := (later_of l3).cell_of k6
  replace k7 := (later_of l3).cell_of k7
  have hi := cell_lt k0
  have TL : Hid (Tr (fun _ => True) (w3.alloc (.cells #[.int .i64 o, .int .i64 5, .int .i64 0, .int .i64 0, .int .i64 0, .slice none 0 0, .slice none 0 0, .slice none 0 0] 47)) (some ⟨w3.heap.size, 0, none⟩) (.cons o 5 0 0 0 [] .nil .nil .nil)) := tr_lit (ls := []) (bo := .nil) (el := .nil) rfl rfl rfl (Lz _) (lq_nil _ _ _) (Or.inl rfl) (Or.inl rfl) trivial
  have L3 : Hid (Later w w3) := ((l1.out.trans LW.out).trans l2.out).trans l3.out
  clear T LW l1 l2 l3
  go_wp2_with (first | (go_at_call 12; refine (num_any _ _).mono ?_; rintro e w' ⟨rfl, hw⟩; have hw := hw.symm; subst hw) | (go_at_call 15; refine (hsame.out _ _ _ _ _ _ _ (T3.out.later (La (Lz _))) TL.out).mono ?_; clear hsame; rintro e w6 ⟨rfl, l6⟩))
  go_ret
  exact ⟨rfl, (L3.out.trans (La (Lz _))).trans l6.out⟩
theorem c_o16 (op o : Int) (hop : bits .and .i64 op 255 = o) (hr : o = 16) (w : World) :
    Calls Try.prog 8 #[.int .i64 op] w fun e w' => e = .returned (.bool true) ∧ Later w w' := by
  have f0 : (o == 0) = false := by exact beq_false (by omega)
  have f1 : (o == 1) = false := by exact beq_false (by omega)
  have f2 : (o == 15) = false := by exact beq_false (by omega)
  have f3 : (o == 26) = false := by exact beq_false (by omega)
  have f4 : (o == 27) = false := by exact beq_false (by omega)
  have f5 : ¬ 69 ≤ o := by omega
  have f6 : 2 ≤ o := by omega
  have f7 : ¬ o ≤ 4 := by omega
  have f8 : (o == 12) = false := by exact beq_false (by omega)
  have f9 : (o == 13) = false := by exact beq_false (by omega)
  have f10 : (o == 16) = true := by simpa using (by omega : o = 16)
  have hu8 : IntKind.u8.wrap o = o := by rw [IntKind.wrap_u8]; omega
  have hfo : fo o = 3 := by unfold fo; repeat (split; (first | rfl | omega)); all_goals first | rfl | omega
  have hm : mayP o 5 0 0 0 [] 0 0 := by
    unfold mayP; simp [hfo, Wd]
  have hl : ltB (.cons o 5 0 0 0 [] .nil .nil .nil) ++ [11] = [o, 5, 11] := by
    subst hr; rfl
  have hok : (Fs.cons o 5 0 0 0 [] .nil .nil .nil).Ok := ⟨⟨by unfold i64; omega, by unfold i64; omega, by unfold i64; omega, by unfold i64; omega, by unfold i64; omega, by simp [i64]⟩, by decide, by decide, by decide, trivial, trivial, trivial⟩
  have hpu := put_one o 5 0 0 0 [] hm trivial
  have hun := get_one o 5 0 0 0 [] hm hok
  rw [hl] at hpu hun
  have hsz : (strOfNums [o, 5, 11]).size = 3 := strOfNums_size _
  rw [hsz] at hun
  have hput : Hid (∀ (W : World) (B : Option Addr) (k : Nat), Tr (fun _ => True) W B (.cons o 5 0 0 0 [] .nil .nil .nil) → Calls Try.prog 10 #[.slice B 1 k] W fun e w' => e = .returned (.tuple #[.string (strOfNums [o, 5, 11]), .int .i64 0]) ∧ Hid (Later W w')) := fun W B k hB => iput_is (.cons o 5 0 0 0 [] .nil .nil .nil) hok (by show 1 * 112 ≤ 140737488351232; decide) _ _ hpu 1 rfl _ W B k hB
  have hget : Hid (∀ W : World, Calls Try.prog 17 #[.string (strOfNums [o, 5, 11]), .int .i64 0] W fun e' w' => ∃ A' c', e' = .returned (.tuple #[.slice A' 1 c', .int .i64 3, .int .i64 0]) ∧ Hid (Tr (W.heap.size ≤ ·) w' A' (.cons o 5 0 0 0 [] .nil .nil .nil)) ∧ Hid (Later W w')) := fun W => iget_is _ 0 _ _ 0 hun (by omega) (by decide) W
  have hsame : Hid (∀ (Z Y : Nat → Prop) (W : World) (B C : Option Addr) (k k' : Nat), Tr Z W B (.cons o 5 0 0 0 [] .nil .nil .nil) → Tr Y W C (.cons o 5 0 0 0 [] .nil .nil .nil) → Calls Try.prog 15 #[.slice B 1 k, .slice C 1 k'] W fun e w' => e = .returned (.bool true) ∧ Hid (Later W w')) := fun Z Y W B C k k' hB hC => isame_is (.cons o 5 0 0 0 [] .nil .nil .nil) hok (by show 1 * 112 ≤ 140737488351232; decide) _ _ rfl rfl Z Y W B C k k' hB hC
  have cv : ∀ (W : World) (g : Nat), g = W.heap.size → (convert 53 9 (.slice (some ⟨g, 0, none⟩) 2 2)).run Try.prog (W.alloc (.cells #[.int .u8 o, .int .u8 5] 5)) = .ok (.string (strOfNums [o, 5])) (W.alloc (.cells #[.int .u8 o, .int .u8 5] 5)) := fun W g hg => by
    subst hg
    exact conv_n [o, 5] (by simp; omega) 2 rfl W
  have happ : strOfNums [o, 5] ++ ({ data := #[11] } : ByteArray) = strOfNums [o, 5, 11] := by rw [show ({ data := #[11] } : ByteArray) = strOfNums [11] from rfl, str_app]; rfl
  have hs1 : (strOfNums [o, 5]).size = 2 := strOfNums_size _
  have n1 := str_ne o [5]
  generalize strOfNums [o, 5] = S1 at *
  generalize strOfNums [o, 5, 11] = S2 at *
  clear hpu hun hl hm hfo hok hr
  go_enter Try.func8, Try.ntmps8
  go_wp2_with (go_at_call 16; refine (awake_any _).mono ?_; rintro e w1 ⟨rfl, l1⟩; replace l1 : Hid (Later w w1) := l1)
  refine calls_world ?_
  intro W hW
  have LW : Hid (Later w1 W) := by rw [hW]; exact (by repeat first | exact Lz _ | apply La)
  have k0 : W.cell? ⟨w1.heap.size, 0, none⟩ = some (.int .i64 o) := by rw [hW]; simp [go_sem]
  have k1 : W.cell? ⟨w1.heap.size, 1, none⟩ = some (.int .i64 5) := by rw [hW]; simp [go_sem]
  have k2 : W.cell? ⟨w1.heap.size, 2, none⟩ = some (.int .i64 0) := by rw [hW]; simp [go_sem]
  have k3 : W.cell? ⟨w1.heap.size, 3, none⟩ = some (.int .i64 0) := by rw [hW]; simp [go_sem]
  have k4 : W.cell? ⟨w1.heap.size, 4, none⟩ = some (.int .i64 0) := by rw [hW]; simp [go_sem]
  have k5 : W.cell? ⟨w1.heap.size, 5, none⟩ = some (.slice none 0 0) := by rw [hW]; simp [go_sem]
  have k6 : W.cell? ⟨w1.heap.size, 6, none⟩ = some (.slice none 0 0) := by rw [hW]; simp [go_sem]
  have k7 : W.cell? ⟨w1.heap.size, 7, none⟩ = some (.slice none 0 0) := by rw [hW]; simp [go_sem]
  have T : Tr (fun _ => True) W (some ⟨w1.heap.size + 1 + 1, 0, none⟩) (.cons o 5 0 0 0 [] .nil .nil .nil) := by
    have := tr_lit (W' := W) (Z := fun _ => True) (ls := []) (bo := .nil) (el := .nil) rfl rfl rfl (by rw [hW]; exact Lz _) (lq_nil _ _ _) (Or.inl rfl) (Or.inl rfl) trivial
    simpa using this
  clear hW
  refine (hput.out W _ _ T).mono ?_
  clear hput
  rintro e w2 ⟨rfl, l2⟩
  replace k0 := (later_of l2).cell_of k0
  replace k1 := (later_of l2).cell_of k1
  replace k2 := (later_of l2).cell_of k2
  replace k3 := (later_of l2).cell_of k3
  replace k4 := (later_of l2).cell_of k4
  replace k5 := (later_of l2).cell_of k5
  replace k6 := (later_of l2).cell_of k6
  replace k7 := (later_of l2).cell_of k7
  go_wp2_with fail
  refine (hget.out _).mono ?_
  clear hget
  rintro e w3 ⟨A3, c3, rfl, T3, l3⟩
  replace k0 := (later_of l3).cell_of k0
  replace k1 := (later_of l3).cell_of k1
  replace k2 := (later_of l3).cell_of k2
  replace k3 := (later_of l3).cell_of k3
  replace k4 := (later_of l3).cell_of k4
  replace k5 := (later_of l3).cell_of k5
  replace k6 := (later_of l3).cell_of k6
  replace k7 := (later_of l3).cell_of k7
  have hi := cell_lt k0
  have TL : Hid (Tr (fun _ => True) (w3.alloc (.cells #[.int .i64 o, .int .i64 5, .int .i64 0, .int .i64 0, .int .i64 0, .slice none 0 0, .slice none 0 0, .slice none 0 0] 47)) (some ⟨w3.heap.size, 0, none⟩) (.cons o 5 0 0 0 [] .nil .nil .nil)) := tr_lit (ls := []) (bo := .nil) (el := .nil) rfl rfl rfl (Lz _) (lq_nil _ _ _) (Or.inl rfl) (Or.inl rfl) trivial
  have L3 : Hid (Later w w3) := ((l1.out.trans LW.out).trans l2.out).trans l3.out
  clear T LW l1 l2 l3
  go_wp2_with (first | (go_at_call 12; refine (num_any _ _).mono ?_; rintro e w' ⟨rfl, hw⟩; have hw := hw.symm; subst hw) | (go_at_call 15; refine (hsame.out _ _ _ _ _ _ _ (T3.out.later (La (Lz _))) TL.out).mono ?_; clear hsame; rintro e w6 ⟨rfl, l6⟩))
  go_ret
  exact ⟨rfl, (L3.out.trans (La (Lz _))).trans l6.out⟩
theorem c_r32 (op o : Int) (hop : bits .and .i64 op 255 = o) (hr : 32 ≤ o ∧ o ≤ 36) (w : World) :
    Calls Try.prog 8 #[.int .i64 op] w fun e w' => e = .returned (.bool true) ∧ Later w w' := by
  have f0 : (o == 0) = false := by exact beq_false (by omega)
  have f1 : (o == 1) = false := by exact beq_false (by omega)
  have f2 : (o == 15) = false := by exact beq_false (by omega)
  have f3 : (o == 26) = false := by exact beq_false (by omega)
  have f4 : (o == 27) = false := by exact beq_false (by omega)
  have f5 : ¬ 69 ≤ o := by omega
  have f6 : 2 ≤ o := by omega
  have f7 : ¬ o ≤ 4 := by omega
  have f8 : (o == 12) = false := by exact beq_false (by omega)
  have f9 : (o == 13) = false := by exact beq_false (by omega)
  have f10 : (o == 16) = false := by exact beq_false (by omega)
  have f11 : 32 ≤ o := by omega
  have f12 : o ≤ 36 := by omega
  have hu8 : IntKind.u8.wrap o = o := by rw [IntKind.wrap_u8]; omega
  have hfo : fo o = 3 := by unfold fo; repeat (split; (first | rfl | omega)); all_goals first | rfl | omega
  have hm : mayP o 5 0 0 0 [] 0 0 := by
    unfold mayP; simp [hfo, Wd]
  have hl : ltB (.cons o 5 0 0 0 [] .nil .nil .nil) ++ [11] = [o, 5, 11] := by
    unfold ltB; simp [hfo, ltB]; first | omega | exact ⟨by omega, by decide⟩ | (refine ⟨by omega, ?_⟩; decide)
  have hok : (Fs.cons o 5 0 0 0 [] .nil .nil .nil).Ok := ⟨⟨by unfold i64; omega, by unfold i64; omega, by unfold i64; omega, by unfold i64; omega, by unfold i64; omega, by simp [i64]⟩, by decide, by decide, by decide, trivial, trivial, trivial⟩
  have hpu := put_one o 5 0 0 0 [] hm trivial
  have hun := get_one o 5 0 0 0 [] hm hok
  rw [hl] at hpu hun
  have hsz : (strOfNums [o, 5, 11]).size = 3 := strOfNums_size _
  rw [hsz] at hun
  have hput : Hid (∀ (W : World) (B : Option Addr) (k : Nat), Tr (fun _ => True) W B (.cons o 5 0 0 0 [] .nil .nil .nil) → Calls Try.prog 10 #[.slice B 1 k] W fun e w' => e = .returned (.tuple #[.string (strOfNums [o, 5, 11]), .int .i64 0]) ∧ Hid (Later W w')) := fun W B k hB => iput_is (.cons o 5 0 0 0 [] .nil .nil .nil) hok (by show 1 * 112 ≤ 140737488351232; decide) _ _ hpu 1 rfl _ W B k hB
  have hget : Hid (∀ W : World, Calls Try.prog 17 #[.string (strOfNums [o, 5, 11]), .int .i64 0] W fun e' w' => ∃ A' c', e' = .returned (.tuple #[.slice A' 1 c', .int .i64 3, .int .i64 0]) ∧ Hid (Tr (W.heap.size ≤ ·) w' A' (.cons o 5 0 0 0 [] .nil .nil .nil)) ∧ Hid (Later W w')) := fun W => iget_is _ 0 _ _ 0 hun (by omega) (by decide) W
  have hsame : Hid (∀ (Z Y : Nat → Prop) (W : World) (B C : Option Addr) (k k' : Nat), Tr Z W B (.cons o 5 0 0 0 [] .nil .nil .nil) → Tr Y W C (.cons o 5 0 0 0 [] .nil .nil .nil) → Calls Try.prog 15 #[.slice B 1 k, .slice C 1 k'] W fun e w' => e = .returned (.bool true) ∧ Hid (Later W w')) := fun Z Y W B C k k' hB hC => isame_is (.cons o 5 0 0 0 [] .nil .nil .nil) hok (by show 1 * 112 ≤ 140737488351232; decide) _ _ rfl rfl Z Y W B C k k' hB hC
  have cv : ∀ (W : World) (g : Nat), g = W.heap.size → (convert 53 9 (.slice (some ⟨g, 0, none⟩) 2 2)).run Try.prog (W.alloc (.cells #[.int .u8 o, .int .u8 5] 5)) = .ok (.string (strOfNums [o, 5])) (W.alloc (.cells #[.int .u8 o, .int .u8 5] 5)) := fun W g hg => by
    subst hg
    exact conv_n [o, 5] (by simp; omega) 2 rfl W
  have happ : strOfNums [o, 5] ++ ({ data := #[11] } : ByteArray) = strOfNums [o, 5, 11] := by rw [show ({ data := #[11] } : ByteArray) = strOfNums [11] from rfl, str_app]; rfl
  have hs1 : (strOfNums [o, 5]).size = 2 := strOfNums_size _
  have n1 := str_ne o [5]
  generalize strOfNums [o, 5] = S1 at *
  generalize strOfNums [o, 5, 11] = S2 at *
  clear hpu hun hl hm hfo hok hr
  go_enter Try.func8, Try.ntmps8
  go_wp2_with (go_at_call 16; refine (awake_any _).mono ?_; rintro e w1 ⟨rfl, l1⟩; replace l1 : Hid (Later w w1) := l1)
  refine calls_world ?_
  intro W hW
  have LW : Hid (Later w1 W) := by rw [hW]; exact (by repeat first | exact Lz _ | apply La)
  have k0 : W.cell? ⟨w1.heap.size, 0, none⟩ = some (.int .i64 o) := by rw [hW]; simp [go_sem]
  have k1 : W.cell? ⟨w1.heap.size, 1, none⟩ = some (.int .i64 5) := by rw [hW]; simp [go_sem]
  have k2 : W.cell? ⟨w1.heap.size, 2, none⟩ = some (.int .i64 0) := by rw [hW]; simp [go_sem]
  have k3 : W.cell? ⟨w1.heap.size, 3, none⟩ = some (.int .i64 0) := by rw [hW]; simp [go_sem]
  have k4 : W.cell? ⟨w1.heap.size, 4, none⟩ = some (.int .i64 0) := by rw [hW]; simp [go_sem]
  have k5 : W.cell? ⟨w1.heap.size, 5, none⟩ = some (.slice none 0 0) := by rw [hW]; simp [go_sem]
  have k6 : W.cell? ⟨w1.heap.size, 6, none⟩ = some (.slice none 0 0) := by rw [hW]; simp [go_sem]
  have k7 : W.cell? ⟨w1.heap.size, 7, none⟩ = some (.slice none 0 0) := by rw [hW]; simp [go_sem]
  have T : Tr (fun _ => True) W (some ⟨w1.heap.size + 1 + 1, 0, none⟩) (.cons o 5 0 0 0 [] .nil .nil .nil) := by
    have := tr_lit (W' := W) (Z := fun _ => True) (ls := []) (bo := .nil) (el := .nil) rfl rfl rfl (by rw [hW]; exact Lz _) (lq_nil _ _ _) (Or.inl rfl) (Or.inl rfl) trivial
    simpa using this
  clear hW
  refine (hput.out W _ _ T).mono ?_
  clear hput
  rintro e w2 ⟨rfl, l2⟩
  replace k0 := (later_of l2).cell_of k0
  replace k1 := (later_of l2).cell_of k1
  replace k2 := (later_of l2).cell_of k2
  replace k3 := (later_of l2).cell_of k3
  replace k4 := (later_of l2).cell_of k4
  replace k5 := (later_of l2).cell_of k5
  replace k6 := (later_of l2).cell_of k6
  replace k7 := (later_of l2).cell_of k7
  go_wp2_with fail
  refine (hget.out _).mono ?_
  clear hget
  rintro e w3 ⟨A3, c3, rfl, T3, l3⟩
  replace k0 := (later_of l3).cell_of k0
  replace k1 := (later_of l3).cell_of k1
  replace k2 := (later_of l3).cell_of k2
  replace k3 := (later_of l3).cell_of k3
  replace k4 := (later_of l3).cell_of k4
  replace k5 := (later_of l3).cell_of k5
  replace k6 := (later_of l3).cell_of k6
  replace k7 := (later_of l3).cell_of k7
  have hi := cell_lt k0
  have TL : Hid (Tr (fun _ => True) (w3.alloc (.cells #[.int .i64 o, .int .i64 5, .int .i64 0, .int .i64 0, .int .i64 0, .slice none 0 0, .slice none 0 0, .slice none 0 0] 47)) (some ⟨w3.heap.size, 0, none⟩) (.cons o 5 0 0 0 [] .nil .nil .nil)) := tr_lit (ls := []) (bo := .nil) (el := .nil) rfl rfl rfl (Lz _) (lq_nil _ _ _) (Or.inl rfl) (Or.inl rfl) trivial
  have L3 : Hid (Later w w3) := ((l1.out.trans LW.out).trans l2.out).trans l3.out
  clear T LW l1 l2 l3
  go_wp2_with (first | (go_at_call 12; refine (num_any _ _).mono ?_; rintro e w' ⟨rfl, hw⟩; have hw := hw.symm; subst hw) | (go_at_call 15; refine (hsame.out _ _ _ _ _ _ _ (T3.out.later (La (Lz _))) TL.out).mono ?_; clear hsame; rintro e w6 ⟨rfl, l6⟩))
  go_ret
  exact ⟨rfl, (L3.out.trans (La (Lz _))).trans l6.out⟩
theorem c_o14 (op o : Int) (hop : bits .and .i64 op 255 = o) (hr : o = 14) (w : World) :
    Calls Try.prog 8 #[.int .i64 op] w fun e w' => e = .returned (.bool true) ∧ Later w w' := by
  have f0 : (o == 0) = false := by exact beq_false (by omega)
  have f1 : (o == 1) = false := by exact beq_false (by omega)
  have f2 : (o == 15) = false := by exact beq_false (by omega)
  have f3 : (o == 26) = false := by exact beq_false (by omega)
  have f4 : (o == 27) = false := by exact beq_false (by omega)
  have f5 : ¬ 69 ≤ o := by omega
  have f6 : 2 ≤ o := by omega
  have f7 : ¬ o ≤ 4 := by omega
  have f8 : (o == 12) = false := by exact beq_false (by omega)
  have f9 : (o == 13) = false := by exact beq_false (by omega)
  have f10 : (o == 16) = false := by exact beq_false (by omega)
  have f11 : ¬ 32 ≤ o := by omega
  have f12 : (o == 14) = true := by simpa using (by omega : o = 14)
  have hu8 : IntKind.u8.wrap o = o := by rw [IntKind.wrap_u8]; omega
  have hfo : fo o = 4 := by unfold fo; repeat (split; (first | rfl | omega)); all_goals first | rfl | omega
  have hm : mayP o 0 0 0 0 [3] 0 0 := by
    unfold mayP; simp [hfo, Wd]
  have hl : ltB (.cons o 0 0 0 0 [3] .nil .nil .nil) ++ [11] = [14, 0, 3, 11] := by
    subst hr; rfl
  have hok : (Fs.cons o 0 0 0 0 [3] .nil .nil .nil).Ok := ⟨⟨by unfold i64; omega, by unfold i64; omega, by unfold i64; omega, by unfold i64; omega, by unfold i64; omega, by simp [i64]⟩, by decide, by decide, by decide, trivial, trivial, trivial⟩
  have hpu := put_one o 0 0 0 0 [3] hm trivial
  have hun := get_one o 0 0 0 0 [3] hm hok
  rw [hl] at hpu hun
  have hsz : (strOfNums [14, 0, 3, 11]).size = 4 := strOfNums_size _
  rw [hsz] at hun
  have hput : Hid (∀ (W : World) (B : Option Addr) (k : Nat), Tr (fun _ => True) W B (.cons o 0 0 0 0 [3] .nil .nil .nil) → Calls Try.prog 10 #[.slice B 1 k] W fun e w' => e = .returned (.tuple #[.string (strOfNums [14, 0, 3, 11]), .int .i64 0]) ∧ Hid (Later W w')) := fun W B k hB => iput_is (.cons o 0 0 0 0 [3] .nil .nil .nil) hok (by show 1 * 112 ≤ 140737488351232; decide) _ _ hpu 1 rfl _ W B k hB
  have hget : Hid (∀ W : World, Calls Try.prog 17 #[.string (strOfNums [14, 0, 3, 11]), .int .i64 0] W fun e' w' => ∃ A' c', e' = .returned (.tuple #[.slice A' 1 c', .int .i64 4, .int .i64 0]) ∧ Hid (Tr (W.heap.size ≤ ·) w' A' (.cons o 0 0 0 0 [3] .nil .nil .nil)) ∧ Hid (Later W w')) := fun W => iget_is _ 0 _ _ 0 hun (by omega) (by decide) W
  have hsame : Hid (∀ (Z Y : Nat → Prop) (W : World) (B C : Option Addr) (k k' : Nat), Tr Z W B (.cons o 0 0 0 0 [3] .nil .nil .nil) → Tr Y W C (.cons o 0 0 0 0 [3] .nil .nil .nil) → Calls Try.prog 15 #[.slice B 1 k, .slice C 1 k'] W fun e w' => e = .returned (.bool true) ∧ Hid (Later W w')) := fun Z Y W B C k k' hB hC => isame_is (.cons o 0 0 0 0 [3] .nil .nil .nil) hok (by show 1 * 112 ≤ 140737488351232; decide) _ _ rfl rfl Z Y W B C k k' hB hC
  rw [show strOfNums [14, 0, 3, 11] = (⟨#[14, 0, 3, 11]⟩ : ByteArray) from rfl] at hput hget
  have happ : (⟨#[14, 0, 3]⟩ : ByteArray) ++ (⟨#[11]⟩ : ByteArray) = ⟨#[14, 0, 3, 11]⟩ := rfl
  clear hpu hun hl hm hfo hok hr
  go_enter Try.func8, Try.ntmps8
  go_wp2_with (go_at_call 16; refine (awake_any _).mono ?_; rintro e w1 ⟨rfl, l1⟩; replace l1 : Hid (Later w w1) := l1)
  refine calls_world ?_
  intro W hW
  have LW : Hid (Later w1 W) := by rw [hW]; exact (by repeat first | exact Lz _ | apply La)
  have hq : Lq (fun _ => True) W (some ⟨w1.heap.size + 1, 0, none⟩) [3] := by
    have := lq_lit (Z := fun _ => True) (W := W) (x := 3) (by rw [hW]; exact La (Lz _)) trivial
    simpa using this
  have k0 : W.cell? ⟨w1.heap.size, 0, none⟩ = some (.int .i64 o) := by rw [hW]; simp [go_sem]
  have k1 : W.cell? ⟨w1.heap.size, 1, none⟩ = some (.int .i64 0) := by rw [hW]; simp [go_sem]
  have k2 : W.cell? ⟨w1.heap.size, 2, none⟩ = some (.int .i64 0) := by rw [hW]; simp [go_sem]
  have k3 : W.cell? ⟨w1.heap.size, 3, none⟩ = some (.int .i64 0) := by rw [hW]; simp [go_sem]
  have k4 : W.cell? ⟨w1.heap.size, 4, none⟩ = some (.int .i64 0) := by rw [hW]; simp [go_sem]
  have k5 : W.cell? ⟨w1.heap.size, 5, none⟩ = some (.slice (some ⟨w1.heap.size + 1, 0, none⟩) 1 1) := by rw [hW]; simp [go_sem]
  have k6 : W.cell? ⟨w1.heap.size, 6, none⟩ = some (.slice none 0 0) := by rw [hW]; simp [go_sem]
  have k7 : W.cell? ⟨w1.heap.size, 7, none⟩ = some (.slice none 0 0) := by rw [hW]; simp [go_sem]
  have T : Tr (fun _ => True) W (some ⟨w1.heap.size + 1 + 1, 0, none⟩) (.cons o 0 0 0 0 [3] .nil .nil .nil) := by
    have := tr_lit (W' := W) (Z := fun _ => True) (ls := [3]) (bo := .nil) (el := .nil) rfl rfl rfl (by rw [hW]; exact Lz _) hq (Or.inl rfl) (Or.inl rfl) trivial
    simpa using this
  clear hW
  refine (hput.out W _ _ T).mono ?_
  clear hput
  rintro e w2 ⟨rfl, l2⟩
  replace k0 := (later_of l2).cell_of k0
  replace k1 := (later_of l2).cell_of k1
  replace k2 := (later_of l2).cell_of k2
  replace k3 := (later_of l2).cell_of k3
  replace k4 := (later_of l2).cell_of k4
  replace k5 := (later_of l2).cell_of k5
  replace k6 := (later_of l2).cell_of k6
  replace k7 := (later_of l2).cell_of k7
  go_wp2_with fail
  refine (hget.out _).mono ?_
  clear hget
  rintro e w3 ⟨A3, c3, rfl, T3, l3⟩
  replace k0 := (later_of l3).cell_of k0
  replace k1 := (later_of l3).cell_of k1
  replace k2 := (later_of l3).cell_of k2
  replace k3 := (later_of l3).cell_of k3
  replace k4 := (later_of l3).cell_of k4
  replace k5 := (later_of l3).cell_of k5
  replace k6 := (later_of l3).cell_of k6
  replace k7 := (later_of l3).cell_of k7
  have hi := cell_lt k0
  have hq3 := hq.later (l2.out.trans l3.out)
  have TL : Hid (Tr (fun _ => True) (w3.alloc (.cells #[.int .i64 o, .int .i64 0, .int .i64 0, .int .i64 0, .int .i64 0, .slice (some ⟨w1.heap.size + 1, 0, none⟩) 1 1, .slice none 0 0, .slice none 0 0] 47)) (some ⟨w3.heap.size, 0, none⟩) (.cons o 0 0 0 0 [3] .nil .nil .nil)) := tr_lit (ls := [3]) (bo := .nil) (el := .nil) rfl rfl rfl (Lz _) (hq3.later (La (Lz _))) (Or.inl rfl) (Or.inl rfl) trivial
  have L3 : Hid (Later w w3) := ((l1.out.trans LW.out).trans l2.out).trans l3.out
  clear T LW l1 l2 l3
  go_wp2_with (first | (go_at_call 12; refine (num_any _ _).mono ?_; rintro e w' ⟨rfl, hw⟩; have hw := hw.symm; subst hw) | (go_at_call 15; refine (hsame.out _ _ _ _ _ _ _ (T3.out.later (La (Lz _))) TL.out).mono ?_; clear hsame; rintro e w6 ⟨rfl, l6⟩))
  go_ret
  exact ⟨rfl, (L3.out.trans (La (Lz _))).trans l6.out⟩
theorem c_o17 (op o : Int) (hop : bits .and .i64 op 255 = o) (hr : o = 17) (w : World) :
    Calls Try.prog 8 #[.int .i64 op] w fun e w' => e = .returned (.bool true) ∧ Later w w' := by
  have f0 : (o == 0) = false := by exact beq_false (by omega)
  have f1 : (o == 1) = false := by exact beq_false (by omega)
  have f2 : (o == 15) = false := by exact beq_false (by omega)
  have f3 : (o == 26) = false := by exact beq_false (by omega)
  have f4 : (o == 27) = false := by exact beq_false (by omega)
  have f5 : ¬ 69 ≤ o := by omega
  have f6 : 2 ≤ o := by omega
  have f7 : ¬ o ≤ 4 := by omega
  have f8 : (o == 12) = false := by exact beq_false (by omega)
  have f9 : (o == 13) = false := by exact beq_false (by omega)
  have f10 : (o == 16) = false := by exact beq_false (by omega)
  have f11 : ¬ 32 ≤ o := by omega
  have f12 : (o == 14) = false := by exact beq_false (by omega)
  have f13 : (o == 17) = true := by simpa using (by omega : o = 17)
  have hu8 : IntKind.u8.wrap o = o := by rw [IntKind.wrap_u8]; omega
  have hfo : fo o = 5 := by unfold fo; repeat (split; (first | rfl | omega)); all_goals first | rfl | omega
  have hm : mayP o 2 0 0 0 [] 0 0 := by
    unfold mayP; simp [hfo, Wd]
  have hl : ltB (.cons o 2 0 0 0 [] .nil .nil .nil) ++ [11] = [17, 2, 0, 11] := by
    subst hr; rfl
  have hok : (Fs.cons o 2 0 0 0 [] .nil .nil .nil).Ok := ⟨⟨by unfold i64; omega, by unfold i64; omega, by unfold i64; omega, by unfold i64; omega, by unfold i64; omega, by simp [i64]⟩, by decide, by decide, by decide, trivial, trivial, trivial⟩
  have hpu := put_one o 2 0 0 0 [] hm trivial
  have hun := get_one o 2 0 0 0 [] hm hok
  rw [hl] at hpu hun
  have hsz : (strOfNums [17, 2, 0, 11]).size = 4 := strOfNums_size _
  rw [hsz] at hun
  have hput : Hid (∀ (W : World) (B : Option Addr) (k : Nat), Tr (fun _ => True) W B (.cons o 2 0 0 0 [] .nil .nil .nil) → Calls Try.prog 10 #[.slice B 1 k] W fun e w' => e = .returned (.tuple #[.string (strOfNums [17, 2, 0, 11]), .int .i64 0]) ∧ Hid (Later W w')) := fun W B k hB => iput_is (.cons o 2 0 0 0 [] .nil .nil .nil) hok (by show 1 * 112 ≤ 140737488351232; decide) _ _ hpu 1 rfl _ W B k hB
  have hget : Hid (∀ W : World, Calls Try.prog 17 #[.string (strOfNums [17, 2, 0, 11]), .int .i64 0] W fun e' w' => ∃ A' c', e' = .returned (.tuple #[.slice A' 1 c', .int .i64 4, .int .i64 0]) ∧ Hid (Tr (W.heap.size ≤ ·) w' A' (.cons o 2 0 0 0 [] .nil .nil .nil)) ∧ Hid (Later W w')) := fun W => iget_is _ 0 _ _ 0 hun (by omega) (by decide) W
  have hsame : Hid (∀ (Z Y : Nat → Prop) (W : World) (B C : Option Addr) (k k' : Nat), Tr Z W B (.cons o 2 0 0 0 [] .nil .nil .nil) → Tr Y W C (.cons o 2 0 0 0 [] .nil .nil .nil) → Calls Try.prog 15 #[.slice B 1 k, .slice C 1 k'] W fun e w' => e = .returned (.bool true) ∧ Hid (Later W w')) := fun Z Y W B C k k' hB hC => isame_is (.cons o 2 0 0 0 [] .nil .nil .nil) hok (by show 1 * 112 ≤ 140737488351232; decide) _ _ rfl rfl Z Y W B C k k' hB hC
  rw [show strOfNums [17, 2, 0, 11] = (⟨#[17, 2, 0, 11]⟩ : ByteArray) from rfl] at hput hget
  have happ : (⟨#[17, 2, 0]⟩ : ByteArray) ++ (⟨#[11]⟩ : ByteArray) = ⟨#[17, 2, 0, 11]⟩ := rfl
  clear hpu hun hl hm hfo hok hr
  go_enter Try.func8, Try.ntmps8
  go_wp2_with (go_at_call 16; refine (awake_any _).mono ?_; rintro e w1 ⟨rfl, l1⟩; replace l1 : Hid (Later w w1) := l1)
  refine calls_world ?_
  intro W hW
  have LW : Hid (Later w1 W) := by rw [hW]; exact (by repeat first | exact Lz _ | apply La)
  have k0 : W.cell? ⟨w1.heap.size, 0, none⟩ = some (.int .i64 o) := by rw [hW]; simp [go_sem]
  have k1 : W.cell? ⟨w1.heap.size, 1, none⟩ = some (.int .i64 2) := by rw [hW]; simp [go_sem]
  have k2 : W.cell? ⟨w1.heap.size, 2, none⟩ = some (.int .i64 0) := by rw [hW]; simp [go_sem]
  have k3 : W.cell? ⟨w1.heap.size, 3, none⟩ = some (.int .i64 0) := by rw [hW]; simp [go_sem]
  have k4 : W.cell? ⟨w1.heap.size, 4, none⟩ = some (.int .i64 0) := by rw [hW]; simp [go_sem]
  have k5 : W.cell? ⟨w1.heap.size, 5, none⟩ = some (.slice none 0 0) := by rw [hW]; simp [go_sem]
  have k6 : W.cell? ⟨w1.heap.size, 6, none⟩ = some (.slice none 0 0) := by rw [hW]; simp [go_sem]
  have k7 : W.cell? ⟨w1.heap.size, 7, none⟩ = some (.slice none 0 0) := by rw [hW]; simp [go_sem]
  have T : Tr (fun _ => True) W (some ⟨w1.heap.size + 1, 0, none⟩) (.cons o 2 0 0 0 [] .nil .nil .nil) := by
    have := tr_lit (W' := W) (Z := fun _ => True) (ls := []) (bo := .nil) (el := .nil) rfl rfl rfl (by rw [hW]; exact Lz _) (lq_nil _ _ _) (Or.inl rfl) (Or.inl rfl) trivial
    simpa using this
  clear hW
  refine (hput.out W _ _ T).mono ?_
  clear hput
  rintro e w2 ⟨rfl, l2⟩
  replace k0 := (later_of l2).cell_of k0
  replace k1 := (later_of l2).cell_of k1
  replace k2 := (later_of l2).cell_of k2
  replace k3 := (later_of l2).cell_of k3
  replace k4 := (later_of l2).cell_of k4
  replace k5 := (later_of l2).cell_of k5
  replace k6 := (later_of l2).cell_of k6
  replace k7 := (later_of l2).cell_of k7
  go_wp2_with fail
  refine (hget.out _).mono ?_
  clear hget
  rintro e w3 ⟨A3, c3, rfl, T3, l3⟩
  replace k0 := (later_of l3).cell_of k0
  replace k1 := (later_of l3).cell_of k1
  replace k2 := (later_of l3).cell_of k2
  replace k3 := (later_of l3).cell_of k3
  replace k4 := (later_of l3).cell_of k4
  replace k5 := (later_of l3).cell_of k5
  replace k6 := (later_of l3).cell_of k6
  replace k7 := (later_of l3).cell_of k7
  have hi := cell_lt k0
  have TL : Hid (Tr (fun _ => True) (w3.alloc (.cells #[.int .i64 o, .int .i64 2, .int .i64 0, .int .i64 0, .int .i64 0, .slice none 0 0, .slice none 0 0, .slice none 0 0] 47)) (some ⟨w3.heap.size, 0, none⟩) (.cons o 2 0 0 0 [] .nil .nil .nil)) := tr_lit (ls := []) (bo := .nil) (el := .nil) rfl rfl rfl (Lz _) (lq_nil _ _ _) (Or.inl rfl) (Or.inl rfl) trivial
  have L3 : Hid (Later w w3) := ((l1.out.trans LW.out).trans l2.out).trans l3.out
  clear T LW l1 l2 l3
  go_wp2_with (first | (go_at_call 12; refine (num_any _ _).mono ?_; rintro e w' ⟨rfl, hw⟩; have hw := hw.symm; subst hw) | (go_at_call 15; refine (hsame.out _ _ _ _ _ _ _ (T3.out.later (La (Lz _))) TL.out).mono ?_; clear hsame; rintro e w6 ⟨rfl, l6⟩))
  go_ret
  exact ⟨rfl, (L3.out.trans (La (Lz _))).trans l6.out⟩
theorem c_r40 (op o : Int) (hop : bits .and .i64 op 255 = o) (hr : 40 ≤ o ∧ o ≤ 62) (w : World) :
    Calls Try.prog 8 #[.int .i64 op] w fun e w' => e = .returned (.bool true) ∧ Later w w' := by
  have f0 : (o == 0) = false := by exact beq_false (by omega)
  have f1 : (o == 1) = false := by exact beq_false (by omega)
  have f2 : (o == 15) = false := by exact beq_false (by omega)
  have f3 : (o == 26) = false := by exact beq_false (by omega)
  have f4 : (o == 27) = false := by exact beq_false (by omega)
  have f5 : ¬ 69 ≤ o := by omega
  have f6 : 2 ≤ o := by omega
  have f7 : ¬ o ≤ 4 := by omega
  have f8 : (o == 12) = false := by exact beq_false (by omega)
  have f9 : (o == 13) = false := by exact beq_false (by omega)
  have f10 : (o == 16) = false := by exact beq_false (by omega)
  have f11 : 32 ≤ o := by omega
  have f12 : ¬ o ≤ 36 := by omega
  have f13 : (o == 14) = false := by exact beq_false (by omega)
  have f14 : (o == 17) = false := by exact beq_false (by omega)
  have f15 : 40 ≤ o := by omega
  have f16 : o ≤ 62 := by omega
  have hu8 : IntKind.u8.wrap o = o := by rw [IntKind.wrap_u8]; omega
  have hfo : fo o = 6 := by unfold fo; repeat (split; (first | rfl | omega)); all_goals first | rfl | omega
  have hm : mayP o 1 7 0 0 [] 0 0 := by
    unfold mayP; simp [hfo, Wd]
  have hl : ltB (.cons o 1 7 0 0 [] .nil .nil .nil) ++ [11] = [o, 1, 7, 11] := by
    unfold ltB; simp [hfo, ltB]; first | omega | exact ⟨by omega, by decide⟩ | (refine ⟨by omega, ?_⟩; decide)
  have hok : (Fs.cons o 1 7 0 0 [] .nil .nil .nil).Ok := ⟨⟨by unfold i64; omega, by unfold i64; omega, by unfold i64; omega, by unfold i64; omega, by unfold i64; omega, by simp [i64]⟩, by decide, by decide, by decide, trivial, trivial, trivial⟩
  have hpu := put_one o 1 7 0 0 [] hm trivial
  have hun := get_one o 1 7 0 0 [] hm hok
  rw [hl] at hpu hun
  have hsz : (strOfNums [o, 1, 7, 11]).size = 4 := strOfNums_size _
  rw [hsz] at hun
  have hput : Hid (∀ (W : World) (B : Option Addr) (k : Nat), Tr (fun _ => True) W B (.cons o 1 7 0 0 [] .nil .nil .nil) → Calls Try.prog 10 #[.slice B 1 k] W fun e w' => e = .returned (.tuple #[.string (strOfNums [o, 1, 7, 11]), .int .i64 0]) ∧ Hid (Later W w')) := fun W B k hB => iput_is (.cons o 1 7 0 0 [] .nil .nil .nil) hok (by show 1 * 112 ≤ 140737488351232; decide) _ _ hpu 1 rfl _ W B k hB
  have hget : Hid (∀ W : World, Calls Try.prog 17 #[.string (strOfNums [o, 1, 7, 11]), .int .i64 0] W fun e' w' => ∃ A' c', e' = .returned (.tuple #[.slice A' 1 c', .int .i64 4, .int .i64 0]) ∧ Hid (Tr (W.heap.size ≤ ·) w' A' (.cons o 1 7 0 0 [] .nil .nil .nil)) ∧ Hid (Later W w')) := fun W => iget_is _ 0 _ _ 0 hun (by omega) (by decide) W
  have hsame : Hid (∀ (Z Y : Nat → Prop) (W : World) (B C : Option Addr) (k k' : Nat), Tr Z W B (.cons o 1 7 0 0 [] .nil .nil .nil) → Tr Y W C (.cons o 1 7 0 0 [] .nil .nil .nil) → Calls Try.prog 15 #[.slice B 1 k, .slice C 1 k'] W fun e w' => e = .returned (.bool true) ∧ Hid (Later W w')) := fun Z Y W B C k k' hB hC => isame_is (.cons o 1 7 0 0 [] .nil .nil .nil) hok (by show 1 * 112 ≤ 140737488351232; decide) _ _ rfl rfl Z Y W B C k k' hB hC
  have cv : ∀ (W : World) (g : Nat), g = W.heap.size → (convert 53 9 (.slice (some ⟨g, 0, none⟩) 3 3)).run Try.prog (W.alloc (.cells #[.int .u8 o, .int .u8 1, .int .u8 7] 5)) = .ok (.string (strOfNums [o, 1, 7])) (W.alloc (.cells #[.int .u8 o, .int .u8 1, .int .u8 7] 5)) := fun W g hg => by
    subst hg
    exact conv_n [o, 1, 7] (by simp; omega) 3 rfl W
  have happ : strOfNums [o, 1, 7] ++ ({ data := #[11] } : ByteArray) = strOfNums [o, 1, 7, 11] := by rw [show ({ data := #[11] } : ByteArray) = strOfNums [11] from rfl, str_app]; rfl
  have hs1 : (strOfNums [o, 1, 7]).size = 3 := strOfNums_size _
  have n1 := str_ne o [1, 7]
  generalize strOfNums [o, 1, 7] = S1 at *
  generalize strOfNums [o, 1, 7, 11] = S2 at *
  clear hpu hun hl hm hfo hok hr
  go_enter Try.func8, Try.ntmps8
  go_wp2_with (go_at_call 16; refine (awake_any _).mono ?_; rintro e w1 ⟨rfl, l1⟩; replace l1 : Hid (Later w w1) := l1)
  refine calls_world ?_
  intro W hW
  have LW : Hid (Later w1 W) := by rw [hW]; exact (by repeat first | exact Lz _ | apply La)
  have k0 : W.cell? ⟨w1.heap.size, 0, none⟩ = some (.int .i64 o) := by rw [hW]; simp [go_sem]
  have k1 : W.cell? ⟨w1.heap.size, 1, none⟩ = some (.int .i64 1) := by rw [hW]; simp [go_sem]
  have k2 : W.cell? ⟨w1.heap.size, 2, none⟩ = some (.int .i64 7) := by rw [hW]; simp [go_sem]
  have k3 : W.cell? ⟨w1.heap.size, 3, none⟩ = some (.int .i64 0) := by rw [hW]; simp [go_sem]
  have k4 : W.cell? ⟨w1.heap.size, 4, none⟩ = some (.int .i64 0) := by rw [hW]; simp [go_sem]
  have k5 : W.cell? ⟨w1.heap.size, 5, none⟩ = some (.slice none 0 0) := by rw [hW]; simp [go_sem]
  have k6 : W.cell? ⟨w1.heap.size, 6, none⟩ = some (.slice none 0 0) := by rw [hW]; simp [go_sem]
  have k7 : W.cell? ⟨w1.heap.size, 7, none⟩ = some (.slice none 0 0) := by rw [hW]; simp [go_sem]
  have T : Tr (fun _ => True) W (some ⟨w1.heap.size + 1 + 1, 0, none⟩) (.cons o 1 7 0 0 [] .nil .nil .nil) := by
    have := tr_lit (W' := W) (Z := fun _ => True) (ls := []) (bo := .nil) (el := .nil) rfl rfl rfl (by rw [hW]; exact Lz _) (lq_nil _ _ _) (Or.inl rfl) (Or.inl rfl) trivial
    simpa using this
  clear hW
  refine (hput.out W _ _ T).mono ?_
  clear hput
  rintro e w2 ⟨rfl, l2⟩
  replace k0 := (later_of l2).cell_of k0
  replace k1 := (later_of l2).cell_of k1
  replace k2 := (later_of l2).cell_of k2
  replace k3 := (later_of l2).cell_of k3
  replace k4 := (later_of l2).cell_of k4
  replace k5 := (later_of l2).cell_of k5
  replace k6 := (later_of l2).cell_of k6
  replace k7 := (later_of l2).cell_of k7
  go_wp2_with fail
  refine (hget.out _).mono ?_
  clear hget
  rintro e w3 ⟨A3, c3, rfl, T3, l3⟩
  replace k0 := (later_of l3).cell_of k0
  replace k1 := (later_of l3).cell_of k1
  replace k2 := (later_of l3).cell_of k2
  replace k3 := (later_of l3).cell_of k3
  replace k4 := (later_of l3).cell_of k4
  replace k5 := (later_of l3).cell_of k5
  replace k6 := (later_of l3).cell_of k6
  replace k7 := (later_of l3).cell_of k7
  have hi := cell_lt k0
  have TL : Hid (Tr (fun _ => True) (w3.alloc (.cells #[.int .i64 o, .int .i64 1, .int .i64 7, .int .i64 0, .int .i64 0, .slice none 0 0, .slice none 0 0, .slice none 0 0] 47)) (some ⟨w3.heap.size, 0, none⟩) (.cons o 1 7 0 0 [] .nil .nil .nil)) := tr_lit (ls := []) (bo := .nil) (el := .nil) rfl rfl rfl (Lz _) (lq_nil _ _ _) (Or.inl rfl) (Or.inl rfl) trivial
  have L3 : Hid (Later w w3) := ((l1.out.trans LW.out).trans l2.out).trans l3.out
  clear T LW l1 l2 l3
  go_wp2_with (first | (go_at_call 12; refine (num_any _ _).mono ?_; rintro e w' ⟨rfl, hw⟩; have hw := hw.symm; subst hw) | (go_at_call 15; refine (hsame.out _ _ _ _ _ _ _ (T3.out.later (La (Lz _))) TL.out).mono ?_; clear hsame; rintro e w6 ⟨rfl, l6⟩))
  go_ret
  exact ⟨rfl, (L3.out.trans (La (Lz _))).trans l6.out⟩
theorem c_o63 (op o : Int) (hop : bits .and .i64 op 255 = o) (hr : o = 63) (w : World) :
    Calls Try.prog 8 #[.int .i64 op] w fun e w' => e = .returned (.bool true) ∧ Later w w' := by
  have f0 : (o == 0) = false := by exact beq_false (by omega)
  have f1 : (o == 1) = false := by exact beq_false (by omega)
  have f2 : (o == 15) = false := by exact beq_false (by omega)
  have f3 : (o == 26) = false := by exact beq_false (by omega)
  have f4 : (o == 27) = false := by exact beq_false (by omega)
  have f5 : ¬ 69 ≤ o := by omega
  have f6 : 2 ≤ o := by omega
  have f7 : ¬ o ≤ 4 := by omega
  have f8 : (o == 12) = false := by exact beq_false (by omega)
  have f9 : (o == 13) = false := by exact beq_false (by omega)
  have f10 : (o == 16) = false := by exact beq_false (by omega)
  have f11 : 32 ≤ o := by omega
  have f12 : ¬ o ≤ 36 := by omega
  have f13 : (o == 14) = false := by exact beq_false (by omega)
  have f14 : (o == 17) = false := by exact beq_false (by omega)
  have f15 : 40 ≤ o := by omega
  have f16 : ¬ o ≤ 62 := by omega
  have f17 : (o == 63) = true := by simpa using (by omega : o = 63)
  have hu8 : IntKind.u8.wrap o = o := by rw [IntKind.wrap_u8]; omega
  have hfo : fo o = 7 := by unfold fo; repeat (split; (first | rfl | omega)); all_goals first | rfl | omega
  have hm : mayP o 0 0 0 0 [] 0 0 := by
    unfold mayP; simp [hfo, Wd]
  have hl : ltB (.cons o 0 0 0 0 [] .nil .nil .nil) ++ [11] = [o, 0, 11] := by
    subst hr; rfl
  have hok : (Fs.cons o 0 0 0 0 [] .nil .nil .nil).Ok := ⟨⟨by unfold i64; omega, by unfold i64; omega, by unfold i64; omega, by unfold i64; omega, by unfold i64; omega, by simp [i64]⟩, by decide, by decide, by decide, trivial, trivial, trivial⟩
  have hpu := put_one o 0 0 0 0 [] hm trivial
  have hun := get_one o 0 0 0 0 [] hm hok
  rw [hl] at hpu hun
  have hsz : (strOfNums [o, 0, 11]).size = 3 := strOfNums_size _
  rw [hsz] at hun
  have hput : Hid (∀ (W : World) (B : Option Addr) (k : Nat), Tr (fun _ => True) W B (.cons o 0 0 0 0 [] .nil .nil .nil) → Calls Try.prog 10 #[.slice B 1 k] W fun e w' => e = .returned (.tuple #[.string (strOfNums [o, 0, 11]), .int .i64 0]) ∧ Hid (Later W w')) := fun W B k hB => iput_is (.cons o 0 0 0 0 [] .nil .nil .nil) hok (by show 1 * 112 ≤ 140737488351232; decide) _ _ hpu 1 rfl _ W B k hB
  have hget : Hid (∀ W : World, Calls Try.prog 17 #[.string (strOfNums [o, 0, 11]), .int .i64 0] W fun e' w' => ∃ A' c', e' = .returned (.tuple #[.slice A' 1 c', .int .i64 3, .int .i64 0]) ∧ Hid (Tr (W.heap.size ≤ ·) w' A' (.cons o 0 0 0 0 [] .nil .nil .nil)) ∧ Hid (Later W w')) := fun W => iget_is _ 0 _ _ 0 hun (by omega) (by decide) W
  have hsame : Hid (∀ (Z Y : Nat → Prop) (W : World) (B C : Option Addr) (k k' : Nat), Tr Z W B (.cons o 0 0 0 0 [] .nil .nil .nil) → Tr Y W C (.cons o 0 0 0 0 [] .nil .nil .nil) → Calls Try.prog 15 #[.slice B 1 k, .slice C 1 k'] W fun e w' => e = .returned (.bool true) ∧ Hid (Later W w')) := fun Z Y W B C k k' hB hC => isame_is (.cons o 0 0 0 0 [] .nil .nil .nil) hok (by show 1 * 112 ≤ 140737488351232; decide) _ _ rfl rfl Z Y W B C k k' hB hC
  have cv : ∀ (W : World) (g : Nat), g = W.heap.size → (convert 53 9 (.slice (some ⟨g, 0, none⟩) 2 2)).run Try.prog (W.alloc (.cells #[.int .u8 o, .int .u8 0] 5)) = .ok (.string (strOfNums [o, 0])) (W.alloc (.cells #[.int .u8 o, .int .u8 0] 5)) := fun W g hg => by
    subst hg
    exact conv_n [o, 0] (by simp; omega) 2 rfl W
  have happ : strOfNums [o, 0] ++ ({ data := #[11] } : ByteArray) = strOfNums [o, 0, 11] := by rw [show ({ data := #[11] } : ByteArray) = strOfNums [11] from rfl, str_app]; rfl
  have hs1 : (strOfNums [o, 0]).size = 2 := strOfNums_size _
  have n1 := str_ne o [0]
  generalize strOfNums [o, 0] = S1 at *
  generalize strOfNums [o, 0, 11] = S2 at *
  clear hpu hun hl hm hfo hok hr
  go_enter Try.func8, Try.ntmps8
  go_wp2_with (go_at_call 16; refine (awake_any _).mono ?_; rintro e w1 ⟨rfl, l1⟩; replace l1 : Hid (Later w w1) := l1)
  refine calls_world ?_
  intro W hW
  have LW : Hid (Later w1 W) := by rw [hW]; exact (by repeat first | exact Lz _ | apply La)
  have k0 : W.cell? ⟨w1.heap.size, 0, none⟩ = some (.int .i64 o) := by rw [hW]; simp [go_sem]
  have k1 : W.cell? ⟨w1.heap.size, 1, none⟩ = some (.int .i64 0) := by rw [hW]; simp [go_sem]
  have k2 : W.cell? ⟨w1.heap.size, 2, none⟩ = some (.int .i64 0) := by rw [hW]; simp [go_sem]
  have k3 : W.cell? ⟨w1.heap.size, 3, none⟩ = some (.int .i64 0) := by rw [hW]; simp [go_sem]
  have k4 : W.cell? ⟨w1.heap.size, 4, none⟩ = some (.int .i64 0) := by rw [hW]; simp [go_sem]
  have k5 : W.cell? ⟨w1.heap.size, 5, none⟩ = some (.slice none 0 0) := by rw [hW]; simp [go_sem]
  have k6 : W.cell? ⟨w1.heap.size, 6, none⟩ = some (.slice none 0 0) := by rw [hW]; simp [go_sem]
  have k7 : W.cell? ⟨w1.heap.size, 7, none⟩ = some (.slice none 0 0) := by rw [hW]; simp [go_sem]
  have T : Tr (fun _ => True) W (some ⟨w1.heap.size + 1 + 1, 0, none⟩) (.cons o 0 0 0 0 [] .nil .nil .nil) := by
    have := tr_lit (W' := W) (Z := fun _ => True) (ls := []) (bo := .nil) (el := .nil) rfl rfl rfl (by rw [hW]; exact Lz _) (lq_nil _ _ _) (Or.inl rfl) (Or.inl rfl) trivial
    simpa using this
  clear hW
  refine (hput.out W _ _ T).mono ?_
  clear hput
  rintro e w2 ⟨rfl, l2⟩
  replace k0 := (later_of l2).cell_of k0
  replace k1 := (later_of l2).cell_of k1
  replace k2 := (later_of l2).cell_of k2
  replace k3 := (later_of l2).cell_of k3
  replace k4 := (later_of l2).cell_of k4
  replace k5 := (later_of l2).cell_of k5
  replace k6 := (later_of l2).cell_of k6
  replace k7 := (later_of l2).cell_of k7
  go_wp2_with fail
  refine (hget.out _).mono ?_
  clear hget
  rintro e w3 ⟨A3, c3, rfl, T3, l3⟩
  replace k0 := (later_of l3).cell_of k0
  replace k1 := (later_of l3).cell_of k1
  replace k2 := (later_of l3).cell_of k2
  replace k3 := (later_of l3).cell_of k3
  replace k4 := (later_of l3).cell_of k4
  replace k5 := (later_of l3).cell_of k5
  replace k6 := (later_of l3).cell_of k6
  replace k7 := (later_of l3).cell_of k7
  have hi := cell_lt k0
  have TL : Hid (Tr (fun _ => True) (w3.alloc (.cells #[.int .i64 o, .int .i64 0, .int .i64 0, .int .i64 0, .int .i64 0, .slice none 0 0, .slice none 0 0, .slice none 0 0] 47)) (some ⟨w3.heap.size, 0, none⟩) (.cons o 0 0 0 0 [] .nil .nil .nil)) := tr_lit (ls := []) (bo := .nil) (el := .nil) rfl rfl rfl (Lz _) (lq_nil _ _ _) (Or.inl rfl) (Or.inl rfl) trivial
  have L3 : Hid (Later w w3) := ((l1.out.trans LW.out).trans l2.out).trans l3.out
  clear T LW l1 l2 l3
  go_wp2_with (first | (go_at_call 12; refine (num_any _ _).mono ?_; rintro e w' ⟨rfl, hw⟩; have hw := hw.symm; subst hw) | (go_at_call 15; refine (hsame.out _ _ _ _ _ _ _ (T3.out.later (La (Lz _))) TL.out).mono ?_; clear hsame; rintro e w6 ⟨rfl, l6⟩))
  go_ret
  exact ⟨rfl, (L3.out.trans (La (Lz _))).trans l6.out⟩
theorem c_o64 (op o : Int) (hop : bits .and .i64 op 255 = o) (hr : o = 64) (w : World) :
    Calls Try.prog 8 #[.int .i64 op] w fun e w' => e = .returned (.bool true) ∧ Later w w' := by
  have f0 : (o == 0) = false := by exact beq_false (by omega)
  have f1 : (o == 1) = false := by exact beq_false (by omega)
  have f2 : (o == 15) = false := by exact beq_false (by omega)
  have f3 : (o == 26) = false := by exact beq_false (by omega)
  have f4 : (o == 27) = false := by exact beq_false (by omega)
  have f5 : ¬ 69 ≤ o := by omega
  have f6 : 2 ≤ o := by omega
  have f7 : ¬ o ≤ 4 := by omega
  have f8 : (o == 12) = false := by exact beq_false (by omega)
  have f9 : (o == 13) = false := by exact beq_false (by omega)
  have f10 : (o == 16) = false := by exact beq_false (by omega)
  have f11 : 32 ≤ o := by omega
  have f12 : ¬ o ≤ 36 := by omega
  have f13 : (o == 14) = false := by exact beq_false (by omega)
  have f14 : (o == 17) = false := by exact beq_false (by omega)
  have f15 : 40 ≤ o := by omega
  have f16 : ¬ o ≤ 62 := by omega
  have f17 : (o == 63) = false := by exact beq_false (by omega)
  have f18 : (o == 64) = true := by simpa using (by omega : o = 64)
  have hu8 : IntKind.u8.wrap o = o := by rw [IntKind.wrap_u8]; omega
  have hfo : fo o = 7 := by unfold fo; repeat (split; (first | rfl | omega)); all_goals first | rfl | omega
  have hm : mayP o 0 0 0 0 [] 0 0 := by
    unfold mayP; simp [hfo, Wd]
  have hl : ltB (.cons o 0 0 0 0 [] .nil .nil .nil) ++ [11] = [o, 0, 11] := by
    subst hr; rfl
  have hok : (Fs.cons o 0 0 0 0 [] .nil .nil .nil).Ok := ⟨⟨by unfold i64; omega, by unfold i64; omega, by unfold i64; omega, by unfold i64; omega, by unfold i64; omega, by simp [i64]⟩, by decide, by decide, by decide, trivial, trivial, trivial⟩
  have hpu := put_one o 0 0 0 0 [] hm trivial
  have hun := get_one o 0 0 0 0 [] hm hok
  rw [hl] at hpu hun
  have hsz : (strOfNums [o, 0, 11]).size = 3 := strOfNums_size _
  rw [hsz] at hun
  have hput : Hid (∀ (W : World) (B : Option Addr) (k : Nat), Tr (fun _ => True) W B (.cons o 0 0 0 0 [] .nil .nil .nil) → Calls Try.prog 10 #[.slice B 1 k] W fun e w' => e = .returned (.tuple #[.string (strOfNums [o, 0, 11]), .int .i64 0]) ∧ Hid (Later W w')) := fun W B k hB => iput_is (.cons o 0 0 0 0 [] .nil .nil .nil) hok (by show 1 * 112 ≤ 140737488351232; decide) _ _ hpu 1 rfl _ W B k hB
  have hget : Hid (∀ W : World, Calls Try.prog 17 #[.string (strOfNums [o, 0, 11]), .int .i64 0] W fun e' w' => ∃ A' c', e' = .returned (.tuple #[.slice A' 1 c', .int .i64 3, .int .i64 0]) ∧ Hid (Tr (W.heap.size ≤ ·) w' A' (.cons o 0 0 0 0 [] .nil .nil .nil)) ∧ Hid (Later W w')) := fun W => iget_is _ 0 _ _ 0 hun (by omega) (by decide) W
  have hsame : Hid (∀ (Z Y : Nat → Prop) (W : World) (B C : Option Addr) (k k' : Nat), Tr Z W B (.cons o 0 0 0 0 [] .nil .nil .nil) → Tr Y W C (.cons o 0 0 0 0 [] .nil .nil .nil) → Calls Try.prog 15 #[.slice B 1 k, .slice C 1 k'] W fun e w' => e = .returned (.bool true) ∧ Hid (Later W w')) := fun Z Y W B C k k' hB hC => isame_is (.cons o 0 0 0 0 [] .nil .nil .nil) hok (by show 1 * 112 ≤ 140737488351232; decide) _ _ rfl rfl Z Y W B C k k' hB hC
  have cv : ∀ (W : World) (g : Nat), g = W.heap.size → (convert 53 9 (.slice (some ⟨g, 0, none⟩) 2 2)).run Try.prog (W.alloc (.cells #[.int .u8 o, .int .u8 0] 5)) = .ok (.string (strOfNums [o, 0])) (W.alloc (.cells #[.int .u8 o, .int .u8 0] 5)) := fun W g hg => by
    subst hg
    exact conv_n [o, 0] (by simp; omega) 2 rfl W
  have happ : strOfNums [o, 0] ++ ({ data := #[11] } : ByteArray) = strOfNums [o, 0, 11] := by rw [show ({ data := #[11] } : ByteArray) = strOfNums [11] from rfl, str_app]; rfl
  have hs1 : (strOfNums [o, 0]).size = 2 := strOfNums_size _
  have n1 := str_ne o [0]
  generalize strOfNums [o, 0] = S1 at *
  generalize strOfNums [o, 0, 11] = S2 at *
  clear hpu hun hl hm hfo hok hr
  go_enter Try.func8, Try.ntmps8
  go_wp2_with (go_at_call 16; refine (awake_any _).mono ?_; rintro e w1 ⟨rfl, l1⟩; replace l1 : Hid (Later w w1) := l1)
  refine calls_world ?_
  intro W hW
  have LW : Hid (Later w1 W) := by rw [hW]; exact (by repeat first | exact Lz _ | apply La)
  have k0 : W.cell? ⟨w1.heap.size, 0, none⟩ = some (.int .i64 o) := by rw [hW]; simp [go_sem]
  have k1 : W.cell? ⟨w1.heap.size, 1, none⟩ = some (.int .i64 0) := by rw [hW]; simp [go_sem]
  have k2 : W.cell? ⟨w1.heap.size, 2, none⟩ = some (.int .i64 0) := by rw [hW]; simp [go_sem]
  have k3 : W.cell? ⟨w1.heap.size, 3, none⟩ = some (.int .i64 0) := by rw [hW]; simp [go_sem]
  have k4 : W.cell? ⟨w1.heap.size, 4, none⟩ = some (.int .i64 0) := by rw [hW]; simp [go_sem]
  have k5 : W.cell? ⟨w1.heap.size, 5, none⟩ = some (.slice none 0 0) := by rw [hW]; simp [go_sem]
  have k6 : W.cell? ⟨w1.heap.size, 6, none⟩ = some (.slice none 0 0) := by rw [hW]; simp [go_sem]
  have k7 : W.cell? ⟨w1.heap.size, 7, none⟩ = some (.slice none 0 0) := by rw [hW]; simp [go_sem]
  have T : Tr (fun _ => True) W (some ⟨w1.heap.size + 1 + 1, 0, none⟩) (.cons o 0 0 0 0 [] .nil .nil .nil) := by
    have := tr_lit (W' := W) (Z := fun _ => True) (ls := []) (bo := .nil) (el := .nil) rfl rfl rfl (by rw [hW]; exact Lz _) (lq_nil _ _ _) (Or.inl rfl) (Or.inl rfl) trivial
    simpa using this
  clear hW
  refine (hput.out W _ _ T).mono ?_
  clear hput
  rintro e w2 ⟨rfl, l2⟩
  replace k0 := (later_of l2).cell_of k0
  replace k1 := (later_of l2).cell_of k1
  replace k2 := (later_of l2).cell_of k2
  replace k3 := (later_of l2).cell_of k3
  replace k4 := (later_of l2).cell_of k4
  replace k5 := (later_of l2).cell_of k5
  replace k6 := (later_of l2).cell_of k6
  replace k7 := (later_of l2).cell_of k7
  go_wp2_with fail
  refine (hget.out _).mono ?_
  clear hget
  rintro e w3 ⟨A3, c3, rfl, T3, l3⟩
  replace k0 := (later_of l3).cell_of k0
  replace k1 := (later_of l3).cell_of k1
  replace k2 := (later_of l3).cell_of k2
  replace k3 := (later_of l3).cell_of k3
  replace k4 := (later_of l3).cell_of k4
  replace k5 := (later_of l3).cell_of k5
  replace k6 := (later_of l3).cell_of k6
  replace k7 := (later_of l3).cell_of k7
  have hi := cell_lt k0
  have TL : Hid (Tr (fun _ => True) (w3.alloc (.cells #[.int .i64 o, .int .i64 0, .int .i64 0, .int .i64 0, .int .i64 0, .slice none 0 0, .slice none 0 0, .slice none 0 0] 47)) (some ⟨w3.heap.size, 0, none⟩) (.cons o 0 0 0 0 [] .nil .nil .nil)) := tr_lit (ls := []) (bo := .nil) (el := .nil) rfl rfl rfl (Lz _) (lq_nil _ _ _) (Or.inl rfl) (Or.inl rfl) trivial
  have L3 : Hid (Later w w3) := ((l1.out.trans LW.out).trans l2.out).trans l3.out
  clear T LW l1 l2 l3
  go_wp2_with (first | (go_at_call 12; refine (num_any _ _).mono ?_; rintro e w' ⟨rfl, hw⟩; have hw := hw.symm; subst hw) | (go_at_call 15; refine (hsame.out _ _ _ _ _ _ _ (T3.out.later (La (Lz _))) TL.out).mono ?_; clear hsame; rintro e w6 ⟨rfl, l6⟩))
  go_ret
  exact ⟨rfl, (L3.out.trans (La (Lz _))).trans l6.out⟩
theorem c_o65 (op o : Int) (hop : bits .and .i64 op 255 = o) (hr : o = 65) (w : World) :
    Calls Try.prog 8 #[.int .i64 op] w fun e w' => e = .returned (.bool true) ∧ Later w w' := by
  have f0 : (o == 0) = false := by exact beq_false (by omega)
  have f1 : (o == 1) = false := by exact beq_false (by omega)
  have f2 : (o == 15) = false := by exact beq_false (by omega)
  have f3 : (o == 26) = false := by exact beq_false (by omega)
  have f4 : (o == 27) = false := by exact beq_false (by omega)
  have f5 : ¬ 69 ≤ o := by omega
  have f6 : 2 ≤ o := by omega
  have f7 : ¬ o ≤ 4 := by omega
  have f8 : (o == 12) = false := by exact beq_false (by omega)
  have f9 : (o == 13) = false := by exact beq_false (by omega)
  have f10 : (o == 16) = false := by exact beq_false (by omega)
  have f11 : 32 ≤ o := by omega
  have f12 : ¬ o ≤ 36 := by omega
  have f13 : (o == 14) = false := by exact beq_false (by omega)
  have f14 : (o == 17) = false := by exact beq_false (by omega)
  have f15 : 40 ≤ o := by omega
  have f16 : ¬ o ≤ 62 := by omega
  have f17 : (o == 63) = false := by exact beq_false (by omega)
  have f18 : (o == 64) = false := by exact beq_false (by omega)
  have f19 : (o == 65) = true := by simpa using (by omega : o = 65)
  have hu8 : IntKind.u8.wrap o = o := by rw [IntKind.wrap_u8]; omega
  have hfo : fo o = 8 := by unfold fo; repeat (split; (first | rfl | omega)); all_goals first | rfl | omega
  have hm : mayP o 0 0 9 0 [] 0 0 := by
    rw [hr]; simp [mayP, fo]
  have hl : ltB (.cons o 0 0 9 0 [] .nil .nil .nil) ++ [11] = [o, 9, 11] := by
    subst hr; rfl
  have hok : (Fs.cons o 0 0 9 0 [] .nil .nil .nil).Ok := ⟨⟨by unfold i64; omega, by unfold i64; omega, by unfold i64; omega, by unfold i64; omega, by unfold i64; omega, by simp [i64]⟩, by decide, by decide, by decide, trivial, trivial, trivial⟩
  have hpu := put_one o 0 0 9 0 [] hm trivial
  have hun := get_one o 0 0 9 0 [] hm hok
  rw [hl] at hpu hun
  have hsz : (strOfNums [o, 9, 11]).size = 3 := strOfNums_size _
  rw [hsz] at hun
  have hput : Hid (∀ (W : World) (B : Option Addr) (k : Nat), Tr (fun _ => True) W B (.cons o 0 0 9 0 [] .nil .nil .nil) → Calls Try.prog 10 #[.slice B 1 k] W fun e w' => e = .returned (.tuple #[.string (strOfNums [o, 9, 11]), .int .i64 0]) ∧ Hid (Later W w')) := fun W B k hB => iput_is (.cons o 0 0 9 0 [] .nil .nil .nil) hok (by show 1 * 112 ≤ 140737488351232; decide) _ _ hpu 1 rfl _ W B k hB
  have hget : Hid (∀ W : World, Calls Try.prog 17 #[.string (strOfNums [o, 9, 11]), .int .i64 0] W fun e' w' => ∃ A' c', e' = .returned (.tuple #[.slice A' 1 c', .int .i64 3, .int .i64 0]) ∧ Hid (Tr (W.heap.size ≤ ·) w' A' (.cons o 0 0 9 0 [] .nil .nil .nil)) ∧ Hid (Later W w')) := fun W => iget_is _ 0 _ _ 0 hun (by omega) (by decide) W
  have hsame : Hid (∀ (Z Y : Nat → Prop) (W : World) (B C : Option Addr) (k k' : Nat), Tr Z W B (.cons o 0 0 9 0 [] .nil .nil .nil) → Tr Y W C (.cons o 0 0 9 0 [] .nil .nil .nil) → Calls Try.prog 15 #[.slice B 1 k, .slice C 1 k'] W fun e w' => e = .returned (.bool true) ∧ Hid (Later W w')) := fun Z Y W B C k k' hB hC => isame_is (.cons o 0 0 9 0 [] .nil .nil .nil) hok (by show 1 * 112 ≤ 140737488351232; decide) _ _ rfl rfl Z Y W B C k k' hB hC
  have cv : ∀ (W : World) (g : Nat), g = W.heap.size → (convert 53 9 (.slice (some ⟨g, 0, none⟩) 2 2)).run Try.prog (W.alloc (.cells #[.int .u8 o, .int .u8 9] 5)) = .ok (.string (strOfNums [o, 9])) (W.alloc (.cells #[.int .u8 o, .int .u8 9] 5)) := fun W g hg => by
    subst hg
    exact conv_n [o, 9] (by simp; omega) 2 rfl W
  have happ : strOfNums [o, 9] ++ ({ data := #[11] } : ByteArray) = strOfNums [o, 9, 11] := by rw [show ({ data := #[11] } : ByteArray) = strOfNums [11] from rfl, str_app]; rfl
  have hs1 : (strOfNums [o, 9]).size = 2 := strOfNums_size _
  have n1 := str_ne o [9]
  generalize strOfNums [o, 9] = S1 at *
  generalize strOfNums [o, 9, 11] = S2 at *
  clear hpu hun hl hm hfo hok hr
  go_enter Try.func8, Try.ntmps8
  go_wp2_with (go_at_call 16; refine (awake_any _).mono ?_; rintro e w1 ⟨rfl, l1⟩; replace l1 : Hid (Later w w1) := l1)
  refine calls_world ?_
  intro W hW
  have LW : Hid (Later w1 W) := by rw [hW]; exact (by repeat first | exact Lz _ | apply La)
  have k0 : W.cell? ⟨w1.heap.size, 0, none⟩ = some (.int .i64 o) := by rw [hW]; simp [go_sem]
  have k1 : W.cell? ⟨w1.heap.size, 1, none⟩ = some (.int .i64 0) := by rw [hW]; simp [go_sem]
  have k2 : W.cell? ⟨w1.heap.size, 2, none⟩ = some (.int .i64 0) := by rw [hW]; simp [go_sem]
  have k3 : W.cell? ⟨w1.heap.size, 3, none⟩ = some (.int .i64 9) := by rw [hW]; simp [go_sem]
  have k4 : W.cell? ⟨w1.heap.size, 4, none⟩ = some (.int .i64 0) := by rw [hW]; simp [go_sem]
  have k5 : W.cell? ⟨w1.heap.size, 5, none⟩ = some (.slice none 0 0) := by rw [hW]; simp [go_sem]
  have k6 : W.cell? ⟨w1.heap.size, 6, none⟩ = some (.slice none 0 0) := by rw [hW]; simp [go_sem]
  have k7 : W.cell? ⟨w1.heap.size, 7, none⟩ = some (.slice none 0 0) := by rw [hW]; simp [go_sem]
  have T : Tr (fun _ => True) W (some ⟨w1.heap.size + 1 + 1, 0, none⟩) (.cons o 0 0 9 0 [] .nil .nil .nil) := by
    have := tr_lit (W' := W) (Z := fun _ => True) (ls := []) (bo := .nil) (el := .nil) rfl rfl rfl (by rw [hW]; exact Lz _) (lq_nil _ _ _) (Or.inl rfl) (Or.inl rfl) trivial
    simpa using this
  clear hW
  refine (hput.out W _ _ T).mono ?_
  clear hput
  rintro e w2 ⟨rfl, l2⟩
  replace k0 := (later_of l2).cell_of k0
  replace k1 := (later_of l2).cell_of k1
  replace k2 := (later_of l2).cell_of k2
  replace k3 := (later_of l2).cell_of k3
  replace k4 := (later_of l2).cell_of k4
  replace k5 := (later_of l2).cell_of k5
  replace k6 := (later_of l2).cell_of k6
  replace k7 := (later_of l2).cell_of k7
  go_wp2_with fail
  refine (hget.out _).mono ?_
  clear hget
  rintro e w3 ⟨A3, c3, rfl, T3, l3⟩
  replace k0 := (later_of l3).cell_of k0
  replace k1 := (later_of l3).cell_of k1
  replace k2 := (later_of l3).cell_of k2
  replace k3 := (later_of l3).cell_of k3
  replace k4 := (later_of l3).cell_of k4
  replace k5 := (later_of l3).cell_of k5
  replace k6 := (later_of l3).cell_of k6
  replace k7 := (later_of l3).cell_of k7
  have hi := cell_lt k0
  have TL : Hid (Tr (fun _ => True) (w3.alloc (.cells #[.int .i64 o, .int .i64 0, .int .i64 0, .int .i64 9, .int .i64 0, .slice none 0 0, .slice none 0 0, .slice none 0 0] 47)) (some ⟨w3.heap.size, 0, none⟩) (.cons o 0 0 9 0 [] .nil .nil .nil)) := tr_lit (ls := []) (bo := .nil) (el := .nil) rfl rfl rfl (Lz _) (lq_nil _ _ _) (Or.inl rfl) (Or.inl rfl) trivial
  have L3 : Hid (Later w w3) := ((l1.out.trans LW.out).trans l2.out).trans l3.out
  clear T LW l1 l2 l3
  go_wp2_with (first | (go_at_call 12; refine (num_any _ _).mono ?_; rintro e w' ⟨rfl, hw⟩; have hw := hw.symm; subst hw) | (go_at_call 15; refine (hsame.out _ _ _ _ _ _ _ (T3.out.later (La (Lz _))) TL.out).mono ?_; clear hsame; rintro e w6 ⟨rfl, l6⟩))
  go_ret
  exact ⟨rfl, (L3.out.trans (La (Lz _))).trans l6.out⟩
theorem c_o66 (op o : Int) (hop : bits .and .i64 op 255 = o) (hr : o = 66) (w : World) :
    Calls Try.prog 8 #[.int .i64 op] w fun e w' => e = .returned (.bool true) ∧ Later w w' := by
  have f0 : (o == 0) = false := by exact beq_false (by omega)
  have f1 : (o == 1) = false := by exact beq_false (by omega)
  have f2 : (o == 15) = false := by exact beq_false (by omega)
  have f3 : (o == 26) = false := by exact beq_false (by omega)
  have f4 : (o == 27) = false := by exact beq_false (by omega)
  have f5 : ¬ 69 ≤ o := by omega
  have f6 : 2 ≤ o := by omega
  have f7 : ¬ o ≤ 4 := by omega
  have f8 : (o == 12) = false := by exact beq_false (by omega)
  have f9 : (o == 13) = false := by exact beq_false (by omega)
  have f10 : (o == 16) = false := by exact beq_false (by omega)
  have f11 : 32 ≤ o := by omega
  have f12 : ¬ o ≤ 36 := by omega
  have f13 : (o == 14) = false := by exact beq_false (by omega)
  have f14 : (o == 17) = false := by exact beq_false (by omega)
  have f15 : 40 ≤ o := by omega
  have f16 : ¬ o ≤ 62 := by omega
  have f17 : (o == 63) = false := by exact beq_false (by omega)
  have f18 : (o == 64) = false := by exact beq_false (by omega)
  have f19 : (o == 65) = false := by exact beq_false (by omega)
  have f20 : (o == 66) = true := by simpa using (by omega : o = 66)
  have hu8 : IntKind.u8.wrap o = o := by rw [IntKind.wrap_u8]; omega
  have hfo : fo o = 8 := by unfold fo; repeat (split; (first | rfl | omega)); all_goals first | rfl | omega
  have hm : mayP o 0 0 9 0 [] 0 0 := by
    rw [hr]; simp [mayP, fo]
  have hl : ltB (.cons o 0 0 9 0 [] .nil .nil .nil) ++ [11] = [o, 9, 11] := by
    subst hr; rfl
  have hok : (Fs.cons o 0 0 9 0 [] .nil .nil .nil).Ok := ⟨⟨by unfold i64; omega, by unfold i64; omega, by unfold i64; omega, by unfold i64; omega, by unfold i64; omega, by simp [i64]⟩, by decide, by decide, by decide, trivial, trivial, trivial⟩
  have hpu := put_one o 0 0 9 0 [] hm trivial
  have hun := get_one o 0 0 9 0 [] hm hok
  rw [hl] at hpu hun
  have hsz : (strOfNums [o, 9, 11]).size = 3 := strOfNums_size _
  rw [hsz] at hun
  have hput : Hid (∀ (W : World) (B : Option Addr) (k : Nat), Tr (fun _ => True) W B (.cons o 0 0 9 0 [] .nil .nil .nil) → Calls Try.prog 10 #[.slice B 1 k] W fun e w' => e = .returned (.tuple #[.string (strOfNums [o, 9, 11]), .int .i64 0]) ∧ Hid (Later W w')) := fun W B k hB => iput_is (.cons o 0 0 9 0 [] .nil .nil .nil) hok (by show 1 * 112 ≤ 140737488351232; decide) _ _ hpu 1 rfl _ W B k hB
  have hget : Hid (∀ W : World, Calls Try.prog 17 #[.string (strOfNums [o, 9, 11]), .int .i64 0] W fun e' w' => ∃ A' c', e' = .returned (.tuple #[.slice A' 1 c', .int .i64 3, .int .i64 0]) ∧ Hid (Tr (W.heap.size ≤ ·) w' A' (.cons o 0 0 9 0 [] .nil .nil .nil)) ∧ Hid (Later W w')) := fun W => iget_is _ 0 _ _ 0 hun (by omega) (by decide) W
  have hsame : Hid (∀ (Z Y : Nat → Prop) (W : World) (B C : Option Addr) (k k' : Nat), Tr Z W B (.cons o 0 0 9 0 [] .nil .nil .nil) → Tr Y W C (.cons o 0 0 9 0 [] .nil .nil .nil) → Calls Try.prog 15 #[.slice B 1 k, .slice C 1 k'] W fun e w' => e = .returned (.bool true) ∧ Hid (Later W w')) := fun Z Y W B C k k' hB hC => isame_is (.cons o 0 0 9 0 [] .nil .nil .nil) hok (by show 1 * 112 ≤ 140737488351232; decide) _ _ rfl rfl Z Y W B C k k' hB hC
  have cv : ∀ (W : World) (g : Nat), g = W.heap.size → (convert 53 9 (.slice (some ⟨g, 0, none⟩) 2 2)).run Try.prog (W.alloc (.cells #[.int .u8 o, .int .u8 9] 5)) = .ok (.string (strOfNums [o, 9])) (W.alloc (.cells #[.int .u8 o, .int .u8 9] 5)) := fun W g hg => by
    subst hg
    exact conv_n [o, 9] (by simp; omega) 2 rfl W
  have happ : strOfNums [o, 9] ++ ({ data := #[11] } : ByteArray) = strOfNums [o, 9, 11] := by rw [show ({ data := #[11] } : ByteArray) = strOfNums [11] from rfl, str_app]; rfl
  have hs1 : (strOfNums [o, 9]).size = 2 := strOfNums_size _
  have n1 := str_ne o [9]
  generalize strOfNums [o, 9] = S1 at *
  generalize strOfNums [o, 9, 11] = S2 at *
  clear hpu hun hl hm hfo hok hr
  go_enter Try.func8, Try.ntmps8
  go_wp2_with (go_at_call 16; refine (awake_any _).mono ?_; rintro e w1 ⟨rfl, l1⟩; replace l1 : Hid (Later w w1) := l1)
  refine calls_world ?_
  intro W hW
  have LW : Hid (Later w1 W) := by rw [hW]; exact (by repeat first | exact Lz _ | apply La)
  have k0 : W.cell? ⟨w1.heap.size, 0, none⟩ = some (.int .i64 o) := by rw [hW]; simp [go_sem]
  have k1 : W.cell? ⟨w1.heap.size, 1, none⟩ = some (.int .i64 0) := by rw [hW]; simp [go_sem]
  have k2 : W.cell? ⟨w1.heap.size, 2, none⟩ = some (.int .i64 0) := by rw [hW]; simp [go_sem]
  have k3 : W.cell? ⟨w1.heap.size, 3, none⟩ = some (.int .i64 9) := by rw [hW]; simp [go_sem]
  have k4 : W.cell? ⟨w1.heap.size, 4, none⟩ = some (.int .i64 0) := by rw [hW]; simp [go_sem]
  have k5 : W.cell? ⟨w1.heap.size, 5, none⟩ = some (.slice none 0 0) := by rw [hW]; simp [go_sem]
  have k6 : W.cell? ⟨w1.heap.size, 6, none⟩ = some (.slice none 0 0) := by rw [hW]; simp [go_sem]
  have k7 : W.cell? ⟨w1.heap.size, 7, none⟩ = some (.slice none 0 0) := by rw [hW]; simp [go_sem]
  have T : Tr (fun _ => True) W (some ⟨w1.heap.size + 1 + 1, 0, none⟩) (.cons o 0 0 9 0 [] .nil .nil .nil) := by
    have := tr_lit (W' := W) (Z := fun _ => True) (ls := []) (bo := .nil) (el := .nil) rfl rfl rfl (by rw [hW]; exact Lz _) (lq_nil _ _ _) (Or.inl rfl) (Or.inl rfl) trivial
    simpa using this
  clear hW
  refine (hput.out W _ _ T).mono ?_
  clear hput
  rintro e w2 ⟨rfl, l2⟩
  replace k0 := (later_of l2).cell_of k0
  replace k1 := (later_of l2).cell_of k1
  replace k2 := (later_of l2).cell_of k2
  replace k3 := (later_of l2).cell_of k3
  replace k4 := (later_of l2).cell_of k4
  replace k5 := (later_of l2).cell_of k5
  replace k6 := (later_of l2).cell_of k6
  replace k7 := (later_of l2).cell_of k7
  go_wp2_with fail
  refine (hget.out _).mono ?_
  clear hget
  rintro e w3 ⟨A3, c3, rfl, T3, l3⟩
  replace k0 := (later_of l3).cell_of k0
  replace k1 := (later_of l3).cell_of k1
  replace k2 := (later_of l3).cell_of k2
  replace k3 := (later_of l3).cell_of k3
  replace k4 := (later_of l3).cell_of k4
  replace k5 := (later_of l3).cell_of k5
  replace k6 := (later_of l3).cell_of k6
  replace k7 := (later_of l3).cell_of k7
  have hi := cell_lt k0
  have TL : Hid (Tr (fun _ => True) (w3.alloc (.cells #[.int .i64 o, .int .i64 0, .int .i64 0, .int .i64 9, .int .i64 0, .slice none 0 0, .slice none 0 0, .slice none 0 0] 47)) (some ⟨w3.heap.size, 0, none⟩) (.cons o 0 0 9 0 [] .nil .nil .nil)) := tr_lit (ls := []) (bo := .nil) (el := .nil) rfl rfl rfl (Lz _) (lq_nil _ _ _) (Or.inl rfl) (Or.inl rfl) trivial
  have L3 : Hid (Later w w3) := ((l1.out.trans LW.out).trans l2.out).trans l3.out
  clear T LW l1 l2 l3
  go_wp2_with (first | (go_at_call 12; refine (num_any _ _).mono ?_; rintro e w' ⟨rfl, hw⟩; have hw := hw.symm; subst hw) | (go_at_call 15; refine (hsame.out _ _ _ _ _ _ _ (T3.out.later (La (Lz _))) TL.out).mono ?_; clear hsame; rintro e w6 ⟨rfl, l6⟩))
  go_ret
  exact ⟨rfl, (L3.out.trans (La (Lz _))).trans l6.out⟩
theorem c_o67 (op o : Int) (hop : bits .and .i64 op 255 = o) (hr : o = 67) (w : World) :
    Calls Try.prog 8 #[.int .i64 op] w fun e w' => e = .returned (.bool true) ∧ Later w w' := by
  have f0 : (o == 0) = false := by exact beq_false (by omega)
  have f1 : (o == 1) = false := by exact beq_false (by omega)
  have f2 : (o == 15) = false := by exact beq_false (by omega)
  have f3 : (o == 26) = false := by exact beq_false (by omega)
  have f4 : (o == 27) = false := by exact beq_false (by omega)
  have f5 : ¬ 69 ≤ o := by omega
  have f6 : 2 ≤ o := by omega
  have f7 : ¬ o ≤ 4 := by omega
  have f8 : (o == 12) = false := by exact beq_false (by omega)
  have f9 : (o == 13) = false := by exact beq_false (by omega)
  have f10 : (o == 16) = false := by exact beq_false (by omega)
  have f11 : 32 ≤ o := by omega
  have f12 : ¬ o ≤ 36 := by omega
  have f13 : (o == 14) = false := by exact beq_false (by omega)
  have f14 : (o == 17) = false := by exact beq_false (by omega)
  have f15 : 40 ≤ o := by omega
  have f16 : ¬ o ≤ 62 := by omega
  have f17 : (o == 63) = false := by exact beq_false (by omega)
  have f18 : (o == 64) = false := by exact beq_false (by omega)
  have f19 : (o == 65) = false := by exact beq_false (by omega)
  have f20 : (o == 66) = false := by exact beq_false (by omega)
  have f21 : (o == 67) = true := by simpa using (by omega : o = 67)
  have hu8 : IntKind.u8.wrap o = o := by rw [IntKind.wrap_u8]; omega
  have hfo : fo o = 8 := by unfold fo; repeat (split; (first | rfl | omega)); all_goals first | rfl | omega
  have hm : mayP o 0 0 1 0 [] 0 0 := by
    rw [hr]; simp [mayP, fo]
  have hl : ltB (.cons o 0 0 1 0 [] .nil .nil .nil) ++ [11] = [67, 1, 0, 0, 0, 11] := by
    subst hr; rfl
  have hok : (Fs.cons o 0 0 1 0 [] .nil .nil .nil).Ok := ⟨⟨by unfold i64; omega, by unfold i64; omega, by unfold i64; omega, by unfold i64; omega, by unfold i64; omega, by simp [i64]⟩, by decide, by decide, by decide, trivial, trivial, trivial⟩
  have hpu := put_one o 0 0 1 0 [] hm trivial
  have hun := get_one o 0 0 1 0 [] hm hok
  rw [hl] at hpu hun
  have hsz : (strOfNums [67, 1, 0, 0, 0, 11]).size = 6 := strOfNums_size _
  rw [hsz] at hun
  have hput : Hid (∀ (W : World) (B : Option Addr) (k : Nat), Tr (fun _ => True) W B (.cons o 0 0 1 0 [] .nil .nil .nil) → Calls Try.prog 10 #[.slice B 1 k] W fun e w' => e = .returned (.tuple #[.string (strOfNums [67, 1, 0, 0, 0, 11]), .int .i64 0]) ∧ Hid (Later W w')) := fun W B k hB => iput_is (.cons o 0 0 1 0 [] .nil .nil .nil) hok (by show 1 * 112 ≤ 140737488351232; decide) _ _ hpu 1 rfl _ W B k hB
  have hget : Hid (∀ W : World, Calls Try.prog 17 #[.string (strOfNums [67, 1, 0, 0, 0, 11]), .int .i64 0] W fun e' w' => ∃ A' c', e' = .returned (.tuple #[.slice A' 1 c', .int .i64 6, .int .i64 0]) ∧ Hid (Tr (W.heap.size ≤ ·) w' A' (.cons o 0 0 1 0 [] .nil .nil .nil)) ∧ Hid (Later W w')) := fun W => iget_is _ 0 _ _ 0 hun (by omega) (by decide) W
  have hsame : Hid (∀ (Z Y : Nat → Prop) (W : World) (B C : Option Addr) (k k' : Nat), Tr Z W B (.cons o 0 0 1 0 [] .nil .nil .nil) → Tr Y W C (.cons o 0 0 1 0 [] .nil .nil .nil) → Calls Try.prog 15 #[.slice B 1 k, .slice C 1 k'] W fun e w' => e = .returned (.bool true) ∧ Hid (Later W w')) := fun Z Y W B C k k' hB hC => isame_is (.cons o 0 0 1 0 [] .nil .nil .nil) hok (by show 1 * 112 ≤ 140737488351232; decide) _ _ rfl rfl Z Y W B C k k' hB hC
  rw [show strOfNums [67, 1, 0, 0, 0, 11] = (⟨#[67, 1, 0, 0, 0, 11]⟩ : ByteArray) from rfl] at hput hget
  have happ : (⟨#[67, 1, 0, 0, 0]⟩ : ByteArray) ++ (⟨#[11]⟩ : ByteArray) = ⟨#[67, 1, 0, 0, 0, 11]⟩ := rfl
  clear hpu hun hl hm hfo hok hr
  go_enter Try.func8, Try.ntmps8
  go_wp2_with (go_at_call 16; refine (awake_any _).mono ?_; rintro e w1 ⟨rfl, l1⟩; replace l1 : Hid (Later w w1) := l1)
  refine calls_world ?_
  intro W hW
  have LW : Hid (Later w1 W) := by rw [hW]; exact (by repeat first | exact Lz _ | apply La)
  have k0 : W.cell? ⟨w1.heap.size, 0, none⟩ = some (.int .i64 o) := by rw [hW]; simp [go_sem]
  have k1 : W.cell? ⟨w1.heap.size, 1, none⟩ = some (.int .i64 0) := by rw [hW]; simp [go_sem]
  have k2 : W.cell? ⟨w1.heap.size, 2, none⟩ = some (.int .i64 0) := by rw [hW]; simp [go_sem]
  have k3 : W.cell? ⟨w1.heap.size, 3, none⟩ = some (.int .i64 1) := by rw [hW]; simp [go_sem]
  have k4 : W.cell? ⟨w1.heap.size, 4, none⟩ = some (.int .i64 0) := by rw [hW]; simp [go_sem]
  have k5 : W.cell? ⟨w1.heap.size, 5, none⟩ = some (.slice none 0 0) := by rw [hW]; simp [go_sem]
  have k6 : W.cell? ⟨w1.heap.size, 6, none⟩ = some (.slice none 0 0) := by rw [hW]; simp [go_sem]
  have k7 : W.cell? ⟨w1.heap.size, 7, none⟩ = some (.slice none 0 0) := by rw [hW]; simp [go_sem]
  have T : Tr (fun _ => True) W (some ⟨w1.heap.size + 1, 0, none⟩) (.cons o 0 0 1 0 [] .nil .nil .nil) := by
    have := tr_lit (W' := W) (Z := fun _ => True) (ls := []) (bo := .nil) (el := .nil) rfl rfl rfl (by rw [hW]; exact Lz _) (lq_nil _ _ _) (Or.inl rfl) (Or.inl rfl) trivial
    simpa using this
  clear hW
  refine (hput.out W _ _ T).mono ?_
  clear hput
  rintro e w2 ⟨rfl, l2⟩
  replace k0 := (later_of l2).cell_of k0
  replace k1 := (later_of l2).cell_of k1
  replace k2 := (later_of l2).cell_of k2
  replace k3 := (later_of l2).cell_of k3
  replace k4 := (later_of l2).cell_of k4
  replace k5 := (later_of l2).cell_of k5
  replace k6 := (later_of l2).cell_of k6
  replace k7 := (later_of l2).cell_of k7
  go_wp2_with fail
  refine (hget.out _).mono ?_
  clear hget
  rintro e w3 ⟨A3, c3, rfl, T3, l3⟩
  replace k0 := (later_of l3).cell_of k0
  replace k1 := (later_of l3).cell_of k1
  replace k2 := (later_of l3).cell_of k2
  replace k3 := (later_of l3).cell_of k3
  replace k4 := (later_of l3).cell_of k4
  replace k5 := (later_of l3).cell_of k5
  replace k6 := (later_of l3).cell_of k6
  replace k7 := (later_of l3).cell_of k7
  have hi := cell_lt k0
  have TL : Hid (Tr (fun _ => True) (w3.alloc (.cells #[.int .i64 o, .int .i64 0, .int .i64 0, .int .i64 1, .int .i64 0, .slice none 0 0, .slice none 0 0, .slice none 0 0] 47)) (some ⟨w3.heap.size, 0, none⟩) (.cons o 0 0 1 0 [] .nil .nil .nil)) := tr_lit (ls := []) (bo := .nil) (el := .nil) rfl rfl rfl (Lz _) (lq_nil _ _ _) (Or.inl rfl) (Or.inl rfl) trivial
  have L3 : Hid (Later w w3) := ((l1.out.trans LW.out).trans l2.out).trans l3.out
  clear T LW l1 l2 l3
  go_wp2_with (first | (go_at_call 12; refine (num_any _ _).mono ?_; rintro e w' ⟨rfl, hw⟩; have hw := hw.symm; subst hw) | (go_at_call 15; refine (hsame.out _ _ _ _ _ _ _ (T3.out.later (La (Lz _))) TL.out).mono ?_; clear hsame; rintro e w6 ⟨rfl, l6⟩))
  go_ret
  exact ⟨rfl, (L3.out.trans (La (Lz _))).trans l6.out⟩
theorem c_o68 (op o : Int) (hop : bits .and .i64 op 255 = o) (hr : o = 68) (w : World) :
    Calls Try.prog 8 #[.int .i64 op] w fun e w' => e = .returned (.bool true) ∧ Later w w' := by
  have f0 : (o == 0) = false := by exact beq_false (by omega)
  have f1 : (o == 1) = false := by exact beq_false (by omega)
  have f2 : (o == 15) = false := by exact beq_false (by omega)
  have f3 : (o == 26) = false := by exact beq_false (by omega)
  have f4 : (o == 27) = false := by exact beq_false (by omega)
  have f5 : ¬ 69 ≤ o := by omega
  have f6 : 2 ≤ o := by omega
  have f7 : ¬ o ≤ 4 := by omega
  have f8 : (o == 12) = false := by exact beq_false (by omega)
  have f9 : (o == 13) = false := by exact beq_false (by omega)
  have f10 : (o == 16) = false := by exact beq_false (by omega)
  have f11 : 32 ≤ o := by omega
  have f12 : ¬ o ≤ 36 := by omega
  have f13 : (o == 14) = false := by exact beq_false (by omega)
  have f14 : (o == 17) = false := by exact beq_false (by omega)
  have f15 : 40 ≤ o := by omega
  have f16 : ¬ o ≤ 62 := by omega
  have f17 : (o == 63) = false := by exact beq_false (by omega)
  have f18 : (o == 64) = false := by exact beq_false (by omega)
  have f19 : (o == 65) = false := by exact beq_false (by omega)
  have f20 : (o == 66) = false := by exact beq_false (by omega)
  have f21 : (o == 67) = false := by exact beq_false (by omega)
  have f22 : (o == 68) = true := by simpa using (by omega : o = 68)
  have hu8 : IntKind.u8.wrap o = o := by rw [IntKind.wrap_u8]; omega
  have hfo : fo o = 8 := by unfold fo; repeat (split; (first | rfl | omega)); all_goals first | rfl | omega
  have hm : mayP o 0 0 1 0 [] 0 0 := by
    rw [hr]; simp [mayP, fo]
  have hl : ltB (.cons o 0 0 1 0 [] .nil .nil .nil) ++ [11] = [68, 1, 0, 0, 0, 0, 0, 0, 0, 11] := by
    subst hr; rfl
  have hok : (Fs.cons o 0 0 1 0 [] .nil .nil .nil).Ok := ⟨⟨by unfold i64; omega, by unfold i64; omega, by unfold i64; omega, by unfold i64; omega, by unfold i64; omega, by simp [i64]⟩, by decide, by decide, by decide, trivial, trivial, trivial⟩
  have hpu := put_one o 0 0 1 0 [] hm trivial
  have hun := get_one o 0 0 1 0 [] hm hok
  rw [hl] at hpu hun
  have hsz : (strOfNums [68, 1, 0, 0, 0, 0, 0, 0, 0, 11]).size = 10 := strOfNums_size _
  rw [hsz] at hun
  have hput : Hid (∀ (W : World) (B : Option Addr) (k : Nat), Tr (fun _ => True) W B (.cons o 0 0 1 0 [] .nil .nil .nil) → Calls Try.prog 10 #[.slice B 1 k] W fun e w' => e = .returned (.tuple #[.string (strOfNums [68, 1, 0, 0, 0, 0, 0, 0, 0, 11]), .int .i64 0]) ∧ Hid (Later W w')) := fun W B k hB => iput_is (.cons o 0 0 1 0 [] .nil .nil .nil) hok (by show 1 * 112 ≤ 140737488351232; decide) _ _ hpu 1 rfl _ W B k hB
  have hget : Hid (∀ W : World, Calls Try.prog 17 #[.string (strOfNums [68, 1, 0, 0, 0, 0, 0, 0, 0, 11]), .int .i64 0] W fun e' w' => ∃ A' c', e' = .returned (.tuple #[.slice A' 1 c', .int .i64 10, .int .i64 0]) ∧ Hid (Tr (W.heap.size ≤ ·) w' A' (.cons o 0 0 1 0 [] .nil .nil .nil)) ∧ Hid (Later W w')) := fun W => iget_is _ 0 _ _ 0 hun (by omega) (by decide) W
  have hsame : Hid (∀ (Z Y : Nat → Prop) (W : World) (B C : Option Addr) (k k' : Nat), Tr Z W B (.cons o 0 0 1 0 [] .nil .nil .nil) → Tr Y W C (.cons o 0 0 1 0 [] .nil .nil .nil) → Calls Try.prog 15 #[.slice B 1 k, .slice C 1 k'] W fun e w' => e = .returned (.bool true) ∧ Hid (Later W w')) := fun Z Y W B C k k' hB hC => isame_is (.cons o 0 0 1 0 [] .nil .nil .nil) hok (by show 1 * 112 ≤ 140737488351232; decide) _ _ rfl rfl Z Y W B C k k' hB hC
  rw [show strOfNums [68, 1, 0, 0, 0, 0, 0, 0, 0, 11] = (⟨#[68, 1, 0, 0, 0, 0, 0, 0, 0, 11]⟩ : ByteArray) from rfl] at hput hget
  have happ : (⟨#[68, 1, 0, 0, 0, 0, 0, 0, 0]⟩ : ByteArray) ++ (⟨#[11]⟩ : ByteArray) = ⟨#[68, 1, 0, 0, 0, 0, 0, 0, 0, 11]⟩ := rfl
  clear hpu hun hl hm hfo hok hr
  go_enter Try.func8, Try.ntmps8
  go_wp2_with (go_at_call 16; refine (awake_any _).mono ?_; rintro e w1 ⟨rfl, l1⟩; replace l1 : Hid (Later w w1) := l1)
  refine calls_world ?_
  intro W hW
  have LW : Hid (Later w1 W) := by rw [hW]; exact (by repeat first | exact Lz _ | apply La)
  have k0 : W.cell? ⟨w1.heap.size, 0, none⟩ = some (.int .i64 o) := by rw [hW]; simp [go_sem]
  have k1 : W.cell? ⟨w1.heap.size, 1, none⟩ = some (.int .i64 0) := by rw [hW]; simp [go_sem]
  have k2 : W.cell? ⟨w1.heap.size, 2, none⟩ = some (.int .i64 0) := by rw [hW]; simp [go_sem]
  have k3 : W.cell? ⟨w1.heap.size, 3, none⟩ = some (.int .i64 1) := by rw [hW]; simp [go_sem]
  have k4 : W.cell? ⟨w1.heap.size, 4, none⟩ = some (.int .i64 0) := by rw [hW]; simp [go_sem]
  have k5 : W.cell? ⟨w1.heap.size, 5, none⟩ = some (.slice none 0 0) := by rw [hW]; simp [go_sem]
  have k6 : W.cell? ⟨w1.heap.size, 6, none⟩ = some (.slice none 0 0) := by rw [hW]; simp [go_sem]
  have k7 : W.cell? ⟨w1.heap.size, 7, none⟩ = some (.slice none 0 0) := by rw [hW]; simp [go_sem]
  have T : Tr (fun _ => True) W (some ⟨w1.heap.size + 1, 0, none⟩) (.cons o 0 0 1 0 [] .nil .nil .nil) := by
    have := tr_lit (W' := W) (Z := fun _ => True) (ls := []) (bo := .nil) (el := .nil) rfl rfl rfl (by rw [hW]; exact Lz _) (lq_nil _ _ _) (Or.inl rfl) (Or.inl rfl) trivial
    simpa using this
  clear hW
  refine (hput.out W _ _ T).mono ?_
  clear hput
  rintro e w2 ⟨rfl, l2⟩
  replace k0 := (later_of l2).cell_of k0
  replace k1 := (later_of l2).cell_of k1
  replace k2 := (later_of l2).cell_of k2
  replace k3 := (later_of l2).cell_of k3
  replace k4 := (later_of l2).cell_of k4
  replace k5 := (later_of l2).cell_of k5
  replace k6 := (later_of l2).cell_of k6
  replace k7 := (later_of l2).cell_of k7
  go_wp2_with fail
  refine (hget.out _).mono ?_
  clear hget
  rintro e w3 ⟨A3, c3, rfl, T3, l3⟩
  replace k0 := (later_of l3).cell_of k0
  replace k1 := (later_of l3).cell_of k1
  replace k2 := (later_of l3).cell_of k2
  replace k3 := (later_of l3).cell_of k3
  replace k4 := (later_of l3).cell_of k4
  replace k5 := (later_of l3).cell_of k5
  replace k6 := (later_of l3).cell_of k6
  replace k7 := (later_of l3).cell_of k7
  have hi := cell_lt k0
  have TL : Hid (Tr (fun _ => True) (w3.alloc (.cells #[.int .i64 o, .int .i64 0, .int .i64 0, .int .i64 1, .int .i64 0, .slice none 0 0, .slice none 0 0, .slice none 0 0] 47)) (some ⟨w3.heap.size, 0, none⟩) (.cons o 0 0 1 0 [] .nil .nil .nil)) := tr_lit (ls := []) (bo := .nil) (el := .nil) rfl rfl rfl (Lz _) (lq_nil _ _ _) (Or.inl rfl) (Or.inl rfl) trivial
  have L3 : Hid (Later w w3) := ((l1.out.trans LW.out).trans l2.out).trans l3.out
  clear T LW l1 l2 l3
  go_wp2_with (first | (go_at_call 12; refine (num_any _ _).mono ?_; rintro e w' ⟨rfl, hw⟩; have hw := hw.symm; subst hw) | (go_at_call 15; refine (hsame.out _ _ _ _ _ _ _ (T3.out.later (La (Lz _))) TL.out).mono ?_; clear hsame; rintro e w6 ⟨rfl, l6⟩))
  go_ret
  exact ⟨rfl, (L3.out.trans (La (Lz _))).trans l6.out⟩
theorem c_n11 (op o : Int) (hop : bits .and .i64 op 255 = o) (hr : o = 11) (w : World) :
    Calls Try.prog 8 #[.int .i64 op] w fun e w' => e = .returned (.bool true) ∧ Later w w' := by
  have f0 : (o == 0) = false := by exact beq_false (by omega)
  have f1 : (o == 1) = false := by exact beq_false (by omega)
  have f2 : (o == 15) = false := by exact beq_false (by omega)
  have f3 : (o == 26) = false := by exact beq_false (by omega)
  have f4 : (o == 27) = false := by exact beq_false (by omega)
  have f5 : ¬ 69 ≤ o := by omega
  have f6 : 2 ≤ o := by omega
  have f7 : ¬ o ≤ 4 := by omega
  have f8 : (o == 12) = false := by exact beq_false (by omega)
  have f9 : (o == 13) = false := by exact beq_false (by omega)
  have f10 : (o == 16) = false := by exact beq_false (by omega)
  have f11 : ¬ 32 ≤ o := by omega
  have f12 : (o == 14) = false := by exact beq_false (by omega)
  have f13 : (o == 17) = false := by exact beq_false (by omega)
  have f14 : ¬ 40 ≤ o := by omega
  have f15 : (o == 63) = false := by exact beq_false (by omega)
  have f16 : (o == 64) = false := by exact beq_false (by omega)
  have f17 : (o == 65) = false := by exact beq_false (by omega)
  have f18 : (o == 66) = false := by exact beq_false (by omega)
  have f19 : (o == 67) = false := by exact beq_false (by omega)
  have f20 : (o == 68) = false := by exact beq_false (by omega)
  have f21 : (o == 11) = true := by simpa using (by omega : o = 11)
  have hu8 : IntKind.u8.wrap o = o := by rw [IntKind.wrap_u8]; omega
  have hfo : fo o = 9 := by unfold fo; repeat (split; (first | rfl | omega)); all_goals first | rfl | omega
  have hok : (Fs.cons o 0 0 0 0 [] .nil .nil .nil).Ok := ⟨⟨by unfold i64; omega, by unfold i64; omega, by unfold i64; omega, by unfold i64; omega, by unfold i64; omega, by simp [i64]⟩, by decide, by decide, by decide, trivial, trivial, trivial⟩
  have hpu : puR (.cons o 0 0 0 0 [] .nil .nil .nil) = ([], 1400) := by
    have h : (ck (.cons o 0 0 0 0 [] .nil .nil .nil) 0 0).1 = 1400 := by
      unfold ck
      rw [if_neg (by decide), if_neg (fun x => absurd x.2 (by decide)), if_pos (by unfold mayP; simp [hfo])]
    unfold puR
    rw [h, if_neg (by decide)]
  have hput : Hid (∀ (W : World) (B : Option Addr) (k : Nat), Tr (fun _ => True) W B (.cons o 0 0 0 0 [] .nil .nil .nil) → Calls Try.prog 10 #[.slice B 1 k] W fun e w' => e = .returned (.tuple #[.string ⟨#[]⟩, .int .i64 1400]) ∧ Hid (Later W w')) := fun W B k hB => iput_lit (.cons o 0 0 0 0 [] .nil .nil .nil) hok (by show 1 * 112 ≤ 140737488351232; decide) _ _ ⟨#[]⟩ rfl hpu 1 rfl _ W B k hB
  have hs5 : (strOfNums [o, 0, 0, 0, 0]).size = 5 := strOfNums_size _
  have hun : ∃ F to E, unI (strOfNums [o, 0, 0, 0, 0]) 0 = (F, to, E) ∧ True := by
    exact ⟨_, _, _, rfl, trivial⟩
  obtain ⟨F, to, EE, hun, hE⟩ := hun
  have hget : Hid (∀ W : World, Calls Try.prog 17 #[.string (strOfNums [o, 0, 0, 0, 0]), .int .i64 0] W fun e' w' => ∃ A' c', e' = .returned (.tuple #[.slice A' F.len c', .int .i64 to, .int .i64 EE]) ∧ Hid (Tr (W.heap.size ≤ ·) w' A' F) ∧ Hid (Later W w')) := fun W => iget_is _ 0 _ _ _ hun (by omega) (by decide) W
  have cv : ∀ (W : World) (g : Nat), g = W.heap.size → (convert 53 9 (.slice (some ⟨g, 0, none⟩) 5 5)).run Try.prog (W.alloc (.cells #[.int .u8 o, .int .u8 0, .int .u8 0, .int .u8 0, .int .u8 0] 5)) = .ok (.string (strOfNums [o, 0, 0, 0, 0])) (W.alloc (.cells #[.int .u8 o, .int .u8 0, .int .u8 0, .int .u8 0, .int .u8 0] 5)) := fun W g hg => by
    subst hg
    exact conv_n [o, 0, 0, 0, 0] (by simp; omega) 5 rfl W
  generalize strOfNums [o, 0, 0, 0, 0] = S1 at *
  clear hpu hun hfo hok hr hs5
  generalize F.len = fl at *
  go_enter Try.func8, Try.ntmps8
  go_wp2_with (go_at_call 16; refine (awake_any _).mono ?_; rintro e w1 ⟨rfl, l1⟩; replace l1 : Hid (Later w w1) := l1)
  refine calls_world ?_
  intro W hW
  have LW : Hid (Later w1 W) := by rw [hW]; exact (by repeat first | exact Lz _ | apply La)
  have T : Tr (fun _ => True) W (some ⟨w1.heap.size + 1, 0, none⟩) (.cons o 0 0 0 0 [] .nil .nil .nil) := by
    have := tr_lit (W' := W) (Z := fun _ => True) (ls := []) (bo := .nil) (el := .nil) rfl rfl rfl (by rw [hW]; exact Lz _) (lq_nil _ _ _) (Or.inl rfl) (Or.inl rfl) trivial
    simpa using this
  clear hW
  refine (hput.out W _ _ T).mono ?_
  clear hput
  rintro e w2 ⟨rfl, l2⟩
  go_wp2_with fail
  refine (hget.out _).mono ?_
  clear hget
  rintro e w3 ⟨A3, c3, rfl, T3, l3⟩
  have L3 : Hid (Later w w3) := ((l1.out.trans LW.out).trans l2.out).trans ((La (Lz _)).trans l3.out)
  clear T LW l1 l2 l3
  go_wp2_with (first | (go_at_call 12; refine (num_any _ _).mono ?_; rintro e w' ⟨rfl, hw⟩; have hw := hw.symm; subst hw))
  go_ret
  exact ⟨rfl, L3.out⟩
theorem c_n9a (op o : Int) (hop : bits .and .i64 op 255 = o) (hr : (5 ≤ o ∧ o ≤ 10) ∨ (18 ≤ o ∧ o ≤ 25) ∨ (28 ≤ o ∧ o ≤ 31)) (w : World) :
    Calls Try.prog 8 #[.int .i64 op] w fun e w' => e = .returned (.bool true) ∧ Later w w' := by
  have f0 : (o == 0) = false := by exact beq_false (by omega)
  have f1 : (o == 1) = false := by exact beq_false (by omega)
  have f2 : (o == 15) = false := by exact beq_false (by omega)
  have f3 : (o == 26) = false := by exact beq_false (by omega)
  have f4 : (o == 27) = false := by exact beq_false (by omega)
  have f5 : ¬ 69 ≤ o := by omega
  have f6 : 2 ≤ o := by omega
  have f7 : ¬ o ≤ 4 := by omega
  have f8 : (o == 12) = false := by exact beq_false (by omega)
  have f9 : (o == 13) = false := by exact beq_false (by omega)
  have f10 : (o == 16) = false := by exact beq_false (by omega)
  have f11 : ¬ 32 ≤ o := by omega
  have f12 : (o == 14) = false := by exact beq_false (by omega)
  have f13 : (o == 17) = false := by exact beq_false (by omega)
  have f14 : ¬ 40 ≤ o := by omega
  have f15 : (o == 63) = false := by exact beq_false (by omega)
  have f16 : (o == 64) = false := by exact beq_false (by omega)
  have f17 : (o == 65) = false := by exact beq_false (by omega)
  have f18 : (o == 66) = false := by exact beq_false (by omega)
  have f19 : (o == 67) = false := by exact beq_false (by omega)
  have f20 : (o == 68) = false := by exact beq_false (by omega)
  have f21 : (o == 11) = false := by exact beq_false (by omega)
  have hu8 : IntKind.u8.wrap o = o := by rw [IntKind.wrap_u8]; omega
  have hfo : fo o = 9 := by unfold fo; repeat (split; (first | rfl | omega)); all_goals first | rfl | omega
  have hok : (Fs.cons o 0 0 0 0 [] .nil .nil .nil).Ok := ⟨⟨by unfold i64; omega, by unfold i64; omega, by unfold i64; omega, by unfold i64; omega, by unfold i64; omega, by simp [i64]⟩, by decide, by decide, by decide, trivial, trivial, trivial⟩
  have hpu : puR (.cons o 0 0 0 0 [] .nil .nil .nil) = ([], 1400) := by
    have h : (ck (.cons o 0 0 0 0 [] .nil .nil .nil) 0 0).1 = 1400 := by
      unfold ck
      rw [if_neg (by decide), if_neg (fun x => absurd x.2 (by decide)), if_pos (by unfold mayP; simp [hfo])]
    unfold puR
    rw [h, if_neg (by decide)]
  have hput : Hid (∀ (W : World) (B : Option Addr) (k : Nat), Tr (fun _ => True) W B (.cons o 0 0 0 0 [] .nil .nil .nil) → Calls Try.prog 10 #[.slice B 1 k] W fun e w' => e = .returned (.tuple #[.string ⟨#[]⟩, .int .i64 1400]) ∧ Hid (Later W w')) := fun W B k hB => iput_lit (.cons o 0 0 0 0 [] .nil .nil .nil) hok (by show 1 * 112 ≤ 140737488351232; decide) _ _ ⟨#[]⟩ rfl hpu 1 rfl _ W B k hB
  have hs5 : (strOfNums [o, 0, 0, 0, 0]).size = 5 := strOfNums_size _
  have hun : ∃ F to E, unI (strOfNums [o, 0, 0, 0, 0]) 0 = (F, to, E) ∧ E = 1403 := by
    have hb : bl (strOfNums [o, 0, 0, 0, 0]) 0 [o, 0, 0, 0, 0] := bl_num _ (by simp; omega)
    have h1 := rbyte_bl 0 hb
    rw [show (((0 : Nat) : Int)) = 0 from rfl] at h1
    have hr : rl (strOfNums [o, 0, 0, 0, 0]) (5 + 1) 0 false ⟨0, 0, 0⟩ = (.nil, false, ⟨((0 + 1 : Nat) : Int), 1403, 0⟩) := by
      unfold rl
      rw [if_pos rfl, h1]
      simp only
      rw [if_neg (by rintro (x | x); exact x trivial; omega), if_neg (fun x => absurd x.2 (by decide)), if_pos hfo]
      rfl
    refine ⟨.nil, 0, 1403, ?_, rfl⟩
    unfold unI
    rw [if_pos ⟨by decide, by omega⟩, hs5, hr]
    simp only
    rw [if_neg (by decide)]
  obtain ⟨F, to, EE, hun, hE⟩ := hun
  have hget : Hid (∀ W : World, Calls Try.prog 17 #[.string (strOfNums [o, 0, 0, 0, 0]), .int .i64 0] W fun e' w' => ∃ A' c', e' = .returned (.tuple #[.slice A' F.len c', .int .i64 to, .int .i64 EE]) ∧ Hid (Tr (W.heap.size ≤ ·) w' A' F) ∧ Hid (Later W w')) := fun W => iget_is _ 0 _ _ _ hun (by omega) (by decide) W
  subst hE
  have cv : ∀ (W : World) (g : Nat), g = W.heap.size → (convert 53 9 (.slice (some ⟨g, 0, none⟩) 5 5)).run Try.prog (W.alloc (.cells #[.int .u8 o, .int .u8 0, .int .u8 0, .int .u8 0, .int .u8 0] 5)) = .ok (.string (strOfNums [o, 0, 0, 0, 0])) (W.alloc (.cells #[.int .u8 o, .int .u8 0, .int .u8 0, .int .u8 0, .int .u8 0] 5)) := fun W g hg => by
    subst hg
    exact conv_n [o, 0, 0, 0, 0] (by simp; omega) 5 rfl W
  generalize strOfNums [o, 0, 0, 0, 0] = S1 at *
  clear hpu hun hfo hok hr hs5
  generalize F.len = fl at *
  go_enter Try.func8, Try.ntmps8
  go_wp2_with (go_at_call 16; refine (awake_any _).mono ?_; rintro e w1 ⟨rfl, l1⟩; replace l1 : Hid (Later w w1) := l1)
  refine calls_world ?_
  intro W hW
  have LW : Hid (Later w1 W) := by rw [hW]; exact (by repeat first | exact Lz _ | apply La)
  have T : Tr (fun _ => True) W (some ⟨w1.heap.size + 1, 0, none⟩) (.cons o 0 0 0 0 [] .nil .nil .nil) := by
    have := tr_lit (W' := W) (Z := fun _ => True) (ls := []) (bo := .nil) (el := .nil) rfl rfl rfl (by rw [hW]; exact Lz _) (lq_nil _ _ _) (Or.inl rfl) (Or.inl rfl) trivial
    simpa using this
  clear hW
  refine (hput.out W _ _ T).mono ?_
  clear hput
  rintro e w2 ⟨rfl, l2⟩
  go_wp2_with fail
  refine (hget.out _).mono ?_
  clear hget
  rintro e w3 ⟨A3, c3, rfl, T3, l3⟩
  have L3 : Hid (Later w w3) := ((l1.out.trans LW.out).trans l2.out).trans ((La (Lz _)).trans l3.out)
  clear T LW l1 l2 l3
  go_wp2_with (first | (go_at_call 12; refine (num_any _ _).mono ?_; rintro e w' ⟨rfl, hw⟩; have hw := hw.symm; subst hw))
  go_ret
  exact ⟨rfl, L3.out⟩
theorem c_n9b (op o : Int) (hop : bits .and .i64 op 255 = o) (hr : 37 ≤ o ∧ o ≤ 39) (w : World) :
    Calls Try.prog 8 #[.int .i64 op] w fun e w' => e = .returned (.bool true) ∧ Later w w' := by
  have f0 : (o == 0) = false := by exact beq_false (by omega)
  have f1 : (o == 1) = false := by exact beq_false (by omega)
  have f2 : (o == 15) = false := by exact beq_false (by omega)
  have f3 : (o == 26) = false := by exact beq_false (by omega)
  have f4 : (o == 27) = false := by exact beq_false (by omega)
  have f5 : ¬ 69 ≤ o := by omega
  have f6 : 2 ≤ o := by omega
  have f7 : ¬ o ≤ 4 := by omega
  have f8 : (o == 12) = false := by exact beq_false (by omega)
  have f9 : (o == 13) = false := by exact beq_false (by omega)
  have f10 : (o == 16) = false := by exact beq_false (by omega)
  have f11 : 32 ≤ o := by omega
  have f12 : ¬ o ≤ 36 := by omega
  have f13 : (o == 14) = false := by exact beq_false (by omega)
  have f14 : (o == 17) = false := by exact beq_false (by omega)
  have f15 : ¬ 40 ≤ o := by omega
  have f16 : (o == 63) = false := by exact beq_false (by omega)
  have f17 : (o == 64) = false := by exact beq_false (by omega)
  have f18 : (o == 65) = false := by exact beq_false (by omega)
  have f19 : (o == 66) = false := by exact beq_false (by omega)
  have f20 : (o == 67) = false := by exact beq_false (by omega)
  have f21 : (o == 68) = false := by exact beq_false (by omega)
  have f22 : (o == 11) = false := by exact beq_false (by omega)
  have hu8 : IntKind.u8.wrap o = o := by rw [IntKind.wrap_u8]; omega
  have hfo : fo o = 9 := by unfold fo; repeat (split; (first | rfl | omega)); all_goals first | rfl | omega
  have hok : (Fs.cons o 0 0 0 0 [] .nil .nil .nil).Ok := ⟨⟨by unfold i64; omega, by unfold i64; omega, by unfold i64; omega, by unfold i64; omega, by unfold i64; omega, by simp [i64]⟩, by decide, by decide, by decide, trivial, trivial, trivial⟩
  have hpu : puR (.cons o 0 0 0 0 [] .nil .nil .nil) = ([], 1400) := by
    have h : (ck (.cons o 0 0 0 0 [] .nil .nil .nil) 0 0).1 = 1400 := by
      unfold ck
      rw [if_neg (by decide), if_neg (fun x => absurd x.2 (by decide)), if_pos (by unfold mayP; simp [hfo])]
    unfold puR
    rw [h, if_neg (by decide)]
  have hput : Hid (∀ (W : World) (B : Option Addr) (k : Nat), Tr (fun _ => True) W B (.cons o 0 0 0 0 [] .nil .nil .nil) → Calls Try.prog 10 #[.slice B 1 k] W fun e w' => e = .returned (.tuple #[.string ⟨#[]⟩, .int .i64 1400]) ∧ Hid (Later W w')) := fun W B k hB => iput_lit (.cons o 0 0 0 0 [] .nil .nil .nil) hok (by show 1 * 112 ≤ 140737488351232; decide) _ _ ⟨#[]⟩ rfl hpu 1 rfl _ W B k hB
  have hs5 : (strOfNums [o, 0, 0, 0, 0]).size = 5 := strOfNums_size _
  have hun : ∃ F to E, unI (strOfNums [o, 0, 0, 0, 0]) 0 = (F, to, E) ∧ E = 1403 := by
    have hb : bl (strOfNums [o, 0, 0, 0, 0]) 0 [o, 0, 0, 0, 0] := bl_num _ (by simp; omega)
    have h1 := rbyte_bl 0 hb
    rw [show (((0 : Nat) : Int)) = 0 from rfl] at h1
    have hr : rl (strOfNums [o, 0, 0, 0, 0]) (5 + 1) 0 false ⟨0, 0, 0⟩ = (.nil, false, ⟨((0 + 1 : Nat) : Int), 1403, 0⟩) := by
      unfold rl
      rw [if_pos rfl, h1]
      simp only
      rw [if_neg (by rintro (x | x); exact x trivial; omega), if_neg (fun x => absurd x.2 (by decide)), if_pos hfo]
      rfl
    refine ⟨.nil, 0, 1403, ?_, rfl⟩
    unfold unI
    rw [if_pos ⟨by decide, by omega⟩, hs5, hr]
    simp only
    rw [if_neg (by decide)]
  obtain ⟨F, to, EE, hun, hE⟩ := hun
  have hget : Hid (∀ W : World, Calls Try.prog 17 #[.string (strOfNums [o, 0, 0, 0, 0]), .int .i64 0] W fun e' w' => ∃ A' c', e' = .returned (.tuple #[.slice A' F.len c', .int .i64 to, .int .i64 EE]) ∧ Hid (Tr (W.heap.size ≤ ·) w' A' F) ∧ Hid (Later W w')) := fun W => iget_is _ 0 _ _ _ hun (by omega) (by decide) W
  subst hE
  have cv : ∀ (W : World) (g : Nat), g = W.heap.size → (convert 53 9 (.slice (some ⟨g, 0, none⟩) 5 5)).run Try.prog (W.alloc (.cells #[.int .u8 o, .int .u8 0, .int .u8 0, .int .u8 0, .int .u8 0] 5)) = .ok (.string (strOfNums [o, 0, 0, 0, 0])) (W.alloc (.cells #[.int .u8 o, .int .u8 0, .int .u8 0, .int .u8 0, .int .u8 0] 5)) := fun W g hg => by
    subst hg
    exact conv_n [o, 0, 0, 0, 0] (by simp; omega) 5 rfl W
  generalize strOfNums [o, 0, 0, 0, 0] = S1 at *
  clear hpu hun hfo hok hr hs5
  generalize F.len = fl at *
  go_enter Try.func8, Try.ntmps8
  go_wp2_with (go_at_call 16; refine (awake_any _).mono ?_; rintro e w1 ⟨rfl, l1⟩; replace l1 : Hid (Later w w1) := l1)
  refine calls_world ?_
  intro W hW
  have LW : Hid (Later w1 W) := by rw [hW]; exact (by repeat first | exact Lz _ | apply La)
  have T : Tr (fun _ => True) W (some ⟨w1.heap.size + 1, 0, none⟩) (.cons o 0 0 0 0 [] .nil .nil .nil) := by
    have := tr_lit (W' := W) (Z := fun _ => True) (ls := []) (bo := .nil) (el := .nil) rfl rfl rfl (by rw [hW]; exact Lz _) (lq_nil _ _ _) (Or.inl rfl) (Or.inl rfl) trivial
    simpa using this
  clear hW
  refine (hput.out W _ _ T).mono ?_
  clear hput
  rintro e w2 ⟨rfl, l2⟩
  go_wp2_with fail
  refine (hget.out _).mono ?_
  clear hget
  rintro e w3 ⟨A3, c3, rfl, T3, l3⟩
  have L3 : Hid (Later w w3) := ((l1.out.trans LW.out).trans l2.out).trans ((La (Lz _)).trans l3.out)
  clear T LW l1 l2 l3
  go_wp2_with (first | (go_at_call 12; refine (num_any _ _).mono ?_; rintro e w' ⟨rfl, hw⟩; have hw := hw.symm; subst hw))
  go_ret
  exact ⟨rfl, L3.out⟩
theorem c_n9c (op o : Int) (hop : bits .and .i64 op 255 = o) (hr : 192 ≤ o ∧ o ≤ 255) (w : World) :
    Calls Try.prog 8 #[.int .i64 op] w fun e w' => e = .returned (.bool true) ∧ Later w w' := by
  have f0 : (o == 0) = false := by exact beq_false (by omega)
  have f1 : (o == 1) = false := by exact beq_false (by omega)
  have f2 : (o == 15) = false := by exact beq_false (by omega)
  have f3 : (o == 26) = false := by exact beq_false (by omega)
  have f4 : (o == 27) = false := by exact beq_false (by omega)
  have f5 : 69 ≤ o := by omega
  have f6 : ¬ o ≤ 191 := by omega
  have f7 : 2 ≤ o := by omega
  have f8 : ¬ o ≤ 4 := by omega
  have f9 : (o == 12) = false := by exact beq_false (by omega)
  have f10 : (o == 13) = false := by exact beq_false (by omega)
  have f11 : (o == 16) = false := by exact beq_false (by omega)
  have f12 : 32 ≤ o := by omega
  have f13 : ¬ o ≤ 36 := by omega
  have f14 : (o == 14) = false := by exact beq_false (by omega)
  have f15 : (o == 17) = false := by exact beq_false (by omega)
  have f16 : 40 ≤ o := by omega
  have f17 : ¬ o ≤ 62 := by omega
  have f18 : (o == 63) = false := by exact beq_false (by omega)
  have f19 : (o == 64) = false := by exact beq_false (by omega)
  have f20 : (o == 65) = false := by exact beq_false (by omega)
  have f21 : (o == 66) = false := by exact beq_false (by omega)
  have f22 : (o == 67) = false := by exact beq_false (by omega)
  have f23 : (o == 68) = false := by exact beq_false (by omega)
  have f24 : (o == 11) = false := by exact beq_false (by omega)
  have hu8 : IntKind.u8.wrap o = o := by rw [IntKind.wrap_u8]; omega
  have hfo : fo o = 9 := by unfold fo; repeat (split; (first | rfl | omega)); all_goals first | rfl | omega
  have hok : (Fs.cons o 0 0 0 0 [] .nil .nil .nil).Ok := ⟨⟨by unfold i64; omega, by unfold i64; omega, by unfold i64; omega, by unfold i64; omega, by unfold i64; omega, by simp [i64]⟩, by decide, by decide, by decide, trivial, trivial, trivial⟩
  have hpu : puR (.cons o 0 0 0 0 [] .nil .nil .nil) = ([], 1400) := by
    have h : (ck (.cons o 0 0 0 0 [] .nil .nil .nil) 0 0).1 = 1400 := by
      unfold ck
      rw [if_neg (by decide), if_neg (fun x => absurd x.2 (by decide)), if_pos (by unfold mayP; simp [hfo])]
    unfold puR
    rw [h, if_neg (by decide)]
  have hput : Hid (∀ (W : World) (B : Option Addr) (k : Nat), Tr (fun _ => True) W B (.cons o 0 0 0 0 [] .nil .nil .nil) → Calls Try.prog 10 #[.slice B 1 k] W fun e w' => e = .returned (.tuple #[.string ⟨#[]⟩, .int .i64 1400]) ∧ Hid (Later W w')) := fun W B k hB => iput_lit (.cons o 0 0 0 0 [] .nil .nil .nil) hok (by show 1 * 112 ≤ 140737488351232; decide) _ _ ⟨#[]⟩ rfl hpu 1 rfl _ W B k hB
  have hs5 : (strOfNums [o, 0, 0, 0, 0]).size = 5 := strOfNums_size _
  have hun : ∃ F to E, unI (strOfNums [o, 0, 0, 0, 0]) 0 = (F, to, E) ∧ E = 1403 := by
    have hb : bl (strOfNums [o, 0, 0, 0, 0]) 0 [o, 0, 0, 0, 0] := bl_num _ (by simp; omega)
    have h1 := rbyte_bl 0 hb
    rw [show (((0 : Nat) : Int)) = 0 from rfl] at h1
    have hr : rl (strOfNums [o, 0, 0, 0, 0]) (5 + 1) 0 false ⟨0, 0, 0⟩ = (.nil, false, ⟨((0 + 1 : Nat) : Int), 1403, 0⟩) := by
      unfold rl
      rw [if_pos rfl, h1]
      simp only
      rw [if_neg (by rintro (x | x); exact x trivial; omega), if_neg (fun x => absurd x.2 (by decide)), if_pos hfo]
      rfl
    refine ⟨.nil, 0, 1403, ?_, rfl⟩
    unfold unI
    rw [if_pos ⟨by decide, by omega⟩, hs5, hr]
    simp only
    rw [if_neg (by decide)]
  obtain ⟨F, to, EE, hun, hE⟩ := hun
  have hget : Hid (∀ W : World, Calls Try.prog 17 #[.string (strOfNums [o, 0, 0, 0, 0]), .int .i64 0] W fun e' w' => ∃ A' c', e' = .returned (.tuple #[.slice A' F.len c', .int .i64 to, .int .i64 EE]) ∧ Hid (Tr (W.heap.size ≤ ·) w' A' F) ∧ Hid (Later W w')) := fun W => iget_is _ 0 _ _ _ hun (by omega) (by decide) W
  subst hE
  have cv : ∀ (W : World) (g : Nat), g = W.heap.size → (convert 53 9 (.slice (some ⟨g, 0, none⟩) 5 5)).run Try.prog (W.alloc (.cells #[.int .u8 o, .int .u8 0, .int .u8 0, .int .u8 0, .int .u8 0] 5)) = .ok (.string (strOfNums [o, 0, 0, 0, 0])) (W.alloc (.cells #[.int .u8 o, .int .u8 0, .int .u8 0, .int .u8 0, .int .u8 0] 5)) := fun W g hg => by
    subst hg
    exact conv_n [o, 0, 0, 0, 0] (by simp; omega) 5 rfl W
  generalize strOfNums [o, 0, 0, 0, 0] = S1 at *
  clear hpu hun hfo hok hr hs5
  generalize F.len = fl at *
  go_enter Try.func8, Try.ntmps8
  go_wp2_with (go_at_call 16; refine (awake_any _).mono ?_; rintro e w1 ⟨rfl, l1⟩; replace l1 : Hid (Later w w1) := l1)
  refine calls_world ?_
  intro W hW
  have LW : Hid (Later w1 W) := by rw [hW]; exact (by repeat first | exact Lz _ | apply La)
  have T : Tr (fun _ => True) W (some ⟨w1.heap.size + 1, 0, none⟩) (.cons o 0 0 0 0 [] .nil .nil .nil) := by
    have := tr_lit (W' := W) (Z := fun _ => True) (ls := []) (bo := .nil) (el := .nil) rfl rfl rfl (by rw [hW]; exact Lz _) (lq_nil _ _ _) (Or.inl rfl) (Or.inl rfl) trivial
    simpa using this
  clear hW
  refine (hput.out W _ _ T).mono ?_
  clear hput
  rintro e w2 ⟨rfl, l2⟩
  go_wp2_with fail
  refine (hget.out _).mono ?_
  clear hget
  rintro e w3 ⟨A3, c3, rfl, T3, l3⟩
  have L3 : Hid (Later w w3) := ((l1.out.trans LW.out).trans l2.out).trans ((La (Lz _)).trans l3.out)
  clear T LW l1 l2 l3
  go_wp2_with (first | (go_at_call 12; refine (num_any _ _).mono ?_; rintro e w' ⟨rfl, hw⟩; have hw := hw.symm; subst hw))
  go_ret
  exact ⟨rfl, L3.out⟩
theorem walk (op : Int) (w : World) :
    Calls Try.prog 8 #[.int .i64 op] w fun e w' => e = .returned (.bool true) ∧ Later w w' := by
  obtain ⟨o, hop, h0, h255⟩ := at_o op
  have hc : (o = 0) ∨ (o = 1) ∨ (o = 15) ∨ (o = 26) ∨ (o = 27) ∨ (69 ≤ o ∧ o ≤ 191) ∨ (2 ≤ o ∧ o ≤ 4) ∨ (o = 12) ∨ (o = 13) ∨ (o = 16) ∨ (32 ≤ o ∧ o ≤ 36) ∨ (o = 14) ∨ (o = 17) ∨ (40 ≤ o ∧ o ≤ 62) ∨ (o = 63) ∨ (o = 64) ∨ (o = 65) ∨ (o = 66) ∨ (o = 67) ∨ (o = 68) ∨ (o = 11) ∨ ((5 ≤ o ∧ o ≤ 10) ∨ (18 ≤ o ∧ o ≤ 25) ∨ (28 ≤ o ∧ o ≤ 31)) ∨ (37 ≤ o ∧ o ≤ 39) ∨ (192 ≤ o ∧ o ≤ 255) := by omega
  rcases hc with h | h | h | h | h | h | h | h | h | h | h | h | h | h | h | h | h | h | h | h | h | h | h | h
  · exact c_o0 op o hop h w
  · exact c_o1 op o hop h w
  · exact c_o15 op o hop h w
  · exact c_o26 op o hop h w
  · exact c_o27 op o hop h w
  · exact c_r69 op o hop h w
  · exact c_r2 op o hop h w
  · exact c_o12 op o hop h w
  · exact c_o13 op o hop h w
  · exact c_o16 op o hop h w
  · exact c_r32 op o hop h w
  · exact c_o14 op o hop h w
  · exact c_o17 op o hop h w
  · exact c_r40 op o hop h w
  · exact c_o63 op o hop h w
  · exact c_o64 op o hop h w
  · exact c_o65 op o hop h w
  · exact c_o66 op o hop h w
  · exact c_o67 op o hop h w
  · exact c_o68 op o hop h w
  · exact c_n11 op o hop h w
  · exact c_n9a op o hop h w
  · exact c_n9b op o hop h w
  · exact c_n9c op o hop h w

set_option maxRecDepth 100000 in
theorem lifted (os : Os) (started : os.Started) (H : Type) (enc : TypeId × Value → H) :
    ReturnsInHanded {} Try.checked os 8 .any (Rows.instrOpsSpec.pre6 enc Try.prog Try.f8 Rows.instrOpsRow.domain false) (Rows.instrOpsSpec.post enc Try.prog Try.f8 false true false false) := by
  refine returnsInHanded_of_change_sized (C := Try.checked) own started (by kernel_rfl) Try.func8
    (ChangeSpec.witness6 (enc := enc) (C := Try.checked) false ⟨#[], #[.int .i64 0], []⟩ 8 (by kernel_rfl) (by kernel_rfl) (by kernel_rfl) (by kernel_rfl)) ?_
  intro W base args ds gs before hval0 hW _ _ _
  have hval : ∀ (j : Nat) t v, Try.f8.params[j]? = some t → args[j]? = some v → Value.okWide Try.prog W .any base t v := hval0
  have hW' := hW
  obtain ⟨p, q, hA0, hV, rfl, hfz, hnd⟩ := hW
  have hA : DataW.TrodAll enc Try.prog W 0 (fun _ => true) true Try.f8.params.toList args.toList ds p := hA0
  rw [Try.params8] at hA hval
  obtain ⟨v0, vs0, d0, ds0, p0, q0, hargs, rfl, rfl, h0, r0⟩ := trodAll_cons hA
  obtain ⟨rfl, rfl, rfl⟩ := trodAll_nil r0
  obtain rfl : args = #[v0] := by cases args; simp_all
  obtain ⟨rfl, rfl⟩ := trodVars_none hV
  obtain ⟨a0, rfl, rfl, rfl, w0⟩ := open_int Try.underlying3 (hval 0 3 v0 rfl rfl) h0
  clear hA0 hval0
  simp only [List.append_nil, List.nil_append] at hW'
  have hlt : ∀ x ∈ ([] : List MemPlace), x.block < W.heap.size := fun x hx => by simpa using hW'.lt x hx
  refine (walk a0 W ).mono fun e W' ⟨he, hl⟩ => ?_
  subst he
  have hbel : Below W.heap.size W W' := by obtain ⟨bs, nn, rfl⟩ := hl; exact ⟨rfl, rfl, rfl, by rw [World.far_size]; omega, fun k hk => World.far_block W bs nn k hk⟩
  have hx : ∀ sp : Nat → Bool, (∀ p ∈ ([] : List MemPlace), sp p.block = true) → DataW.TrodAll enc Try.prog W' 0 sp true [3] [.int .i64 a0] [.lit (.int .i64 a0)] (([] : List MemPlace)) := fun sp hsp => by simpa using (trodAll_cons_mk (shut_int Try.underlying3 w0) trodAll_mk0)
  exact ⟨_, rfl, post_kept (pa := ([] : List MemPlace)) (pv := []) hW' (fun _ _ _ => (trodAll_cons_mk (shut_bool Try.underlying4 _) trodAll_mk0)) (fun sp hsp => hx sp hsp) (fun _ _ => rfl) (by simp) (hbel.frame _) hbel.block (ok_one (by kernel_rfl) rfl (okWide_bool_mk Try.underlying4 _))⟩

theorem over : Rows.instrOpsRow.holds Try.pinned (OpenSpec.ofChange Rows.instrOpsSpec) :=
  OpenClaim.holds_of_wide 8 Try.f8 rfl rfl rfl rfl rfl rfl rfl ⟨rfl, rfl, rfl, rfl, rfl⟩ rfl rfl rfl rfl rfl (by kernel_rfl) Try.func8 (by kernel_rfl)
    (of_decide_eq_true (by kernel_rfl)) (by unfold Func.isWrapper; first | (rw [if_pos (by decide +kernel)]; kernel_rfl) | (rw [if_neg (by decide +kernel)]; exact ⟨rfl, rfl⟩))
    (fun os started H enc _ => lifted os started H enc)


theorem proved : Rows.InstrOpsSaid := over
end Go.Proofs.Ytkdfmgdadnlnlaa.instrOps
namespace Go.Proofs.Ytkdfmgdadnlnlaa
theorem instrOps_holds : Rows.InstrOpsSaid := instrOps.proved
#print axioms instrOps_holds
end Go.Proofs.Ytkdfmgdadnlnlaa
