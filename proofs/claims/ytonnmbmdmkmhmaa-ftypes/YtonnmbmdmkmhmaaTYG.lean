/- peloruslaw17's awake: what every program answers that is one. -/
import Derived.Test.YtonnmbmdmkmhmaaTYF
set_option linter.unusedVariables false
set_option linter.unusedSimpArgs false
set_option maxRecDepth 100000
set_option maxHeartbeats 8000000
namespace Go.Proofs.Ytonnmbmdmkmhmaa.ty
open Go.RowKit
def mdA : Md := ⟨[([], []), ([127], [])], [(⟨#[]⟩, ⟨#[]⟩, 0, 1, false, 0, 0), (⟨#[]⟩, ⟨#[]⟩, 3, 125, false, 0, 0)], [0], [], [], [(126, true, .nil)], [], 0, [], [], []⟩
theorem mdA_v : MdV mdA := by
  constructor <;> simp [mdA, vI, i64, fok_nil] <;> decide
theorem mdA_f0 : fnT mdA 0 = some ([127], []) := by decide
theorem mdA_f2 : fnT mdA 2 = none := by decide
theorem mdA_g1 : glT mdA 1 = some (126, true) := by decide
theorem mdA_c0 : (imk mdA.im 0).length = 1 := by decide
theorem mdA_c1 : (imk mdA.im 1).length = 0 := by decide
theorem mdA_c2 : (imk mdA.im 2).length = 0 := by decide
theorem mdA_c3 : (imk mdA.im 3).length = 1 := by decide
theorem awake_any (w : World) : Calls Try.prog 20 #[] w fun e w' => e = .returned (.bool true) ∧ Hid (Later w w') := by
  go_enter Try.func20, Try.ntmps20
  go_wp2_with fail
  obtain ⟨W6, hW6⟩ : ∃ W6, W6 = ((((((w.alloc (.cells #[.int .i64 127] 3)).alloc (.cells #[.slice none 0 0, .slice none 0 0, .slice (some ⟨w.heap.size, 0, none⟩) 1 1, .slice none 0 0] 34)).alloc (.cells #[.string ⟨#[]⟩, .string ⟨#[]⟩, .int .i64 0, .int .i64 1, .bool false, .int .i64 0, .int .i64 0, .string ⟨#[]⟩, .string ⟨#[]⟩, .int .i64 3, .int .i64 125, .bool false, .int .i64 0, .int .i64 0] 58)).alloc (.cells #[.int .i64 0] 3)).alloc (.cells #[.int .i64 126, .bool true, .slice none 0 0] 61)).alloc (.cells #[.slice (some ⟨w.heap.size + 1, 0, none⟩) 2 2, .slice (some ⟨w.heap.size + 1 + 1, 0, none⟩) 2 2, .slice (some ⟨w.heap.size + 1 + 1 + 1, 0, none⟩) 1 1, .slice none 0 0, .slice none 0 0, .slice (some ⟨w.heap.size + 1 + 1 + 1 + 1, 0, none⟩) 1 1, .slice none 0 0, .int .i64 0, .slice none 0 0, .slice none 0 0, .slice none 0 0] 32)) := ⟨_, rfl⟩
  rw [← hW6]
  have L6 : Later w W6 := by rw [hW6]; exact La (La (La (La (La (La (Lz _))))))
  have a0 : W6.cell? ⟨w.heap.size, 0, none⟩ = some (.int .i64 127) := by rw [hW6]; simp [go_sem]
  have b0 : W6.cell? ⟨w.heap.size + 1, 0, none⟩ = some (.slice none 0 0) := by rw [hW6]; simp [go_sem]
  have b1 : W6.cell? ⟨w.heap.size + 1, 1, none⟩ = some (.slice none 0 0) := by rw [hW6]; simp [go_sem]
  have b2 : W6.cell? ⟨w.heap.size + 1, 2, none⟩ = some (.slice (some ⟨w.heap.size, 0, none⟩) 1 1) := by rw [hW6]; simp [go_sem]
  have b3 : W6.cell? ⟨w.heap.size + 1, 3, none⟩ = some (.slice none 0 0) := by rw [hW6]; simp [go_sem]
  have c0 : W6.cell? ⟨w.heap.size + 1 + 1, 0, none⟩ = some (.string ⟨#[]⟩) := by rw [hW6]; simp [go_sem]
  have c1 : W6.cell? ⟨w.heap.size + 1 + 1, 1, none⟩ = some (.string ⟨#[]⟩) := by rw [hW6]; simp [go_sem]
  have c2 : W6.cell? ⟨w.heap.size + 1 + 1, 2, none⟩ = some (.int .i64 0) := by rw [hW6]; simp [go_sem]
  have c3 : W6.cell? ⟨w.heap.size + 1 + 1, 3, none⟩ = some (.int .i64 1) := by rw [hW6]; simp [go_sem]
  have c4 : W6.cell? ⟨w.heap.size + 1 + 1, 4, none⟩ = some (.bool false) := by rw [hW6]; simp [go_sem]
  have c5 : W6.cell? ⟨w.heap.size + 1 + 1, 5, none⟩ = some (.int .i64 0) := by rw [hW6]; simp [go_sem]
  have c6 : W6.cell? ⟨w.heap.size + 1 + 1, 6, none⟩ = some (.int .i64 0) := by rw [hW6]; simp [go_sem]
  have c7 : W6.cell? ⟨w.heap.size + 1 + 1, 7, none⟩ = some (.string ⟨#[]⟩) := by rw [hW6]; simp [go_sem]
  have c8 : W6.cell? ⟨w.heap.size + 1 + 1, 8, none⟩ = some (.string ⟨#[]⟩) := by rw [hW6]; simp [go_sem]
  have c9 : W6.cell? ⟨w.heap.size + 1 + 1, 9, none⟩ = some (.int .i64 3) := by rw [hW6]; simp [go_sem]
  have c10 : W6.cell? ⟨w.heap.size + 1 + 1, 10, none⟩ = some (.int .i64 125) := by rw [hW6]; simp [go_sem]
  have c11 : W6.cell? ⟨w.heap.size + 1 + 1, 11, none⟩ = some (.bool false) := by rw [hW6]; simp [go_sem]
  have c12 : W6.cell? ⟨w.heap.size + 1 + 1, 12, none⟩ = some (.int .i64 0) := by rw [hW6]; simp [go_sem]
  have c13 : W6.cell? ⟨w.heap.size + 1 + 1, 13, none⟩ = some (.int .i64 0) := by rw [hW6]; simp [go_sem]
  have d0 : W6.cell? ⟨w.heap.size + 1 + 1 + 1, 0, none⟩ = some (.int .i64 0) := by rw [hW6]; simp [go_sem]
  have e0 : W6.cell? ⟨w.heap.size + 1 + 1 + 1 + 1, 0, none⟩ = some (.int .i64 126) := by rw [hW6]; simp [go_sem]
  have e1 : W6.cell? ⟨w.heap.size + 1 + 1 + 1 + 1, 1, none⟩ = some (.bool true) := by rw [hW6]; simp [go_sem]
  have e2 : W6.cell? ⟨w.heap.size + 1 + 1 + 1 + 1, 2, none⟩ = some (.slice none 0 0) := by rw [hW6]; simp [go_sem]
  have f0 : W6.cell? ⟨w.heap.size + 1 + 1 + 1 + 1 + 1, 0, none⟩ = some (.slice (some ⟨w.heap.size + 1, 0, none⟩) 2 2) := by rw [hW6]; simp [go_sem]
  have f1 : W6.cell? ⟨w.heap.size + 1 + 1 + 1 + 1 + 1, 1, none⟩ = some (.slice (some ⟨w.heap.size + 1 + 1, 0, none⟩) 2 2) := by rw [hW6]; simp [go_sem]
  have f2 : W6.cell? ⟨w.heap.size + 1 + 1 + 1 + 1 + 1, 2, none⟩ = some (.slice (some ⟨w.heap.size + 1 + 1 + 1, 0, none⟩) 1 1) := by rw [hW6]; simp [go_sem]
  have f3 : W6.cell? ⟨w.heap.size + 1 + 1 + 1 + 1 + 1, 3, none⟩ = some (.slice none 0 0) := by rw [hW6]; simp [go_sem]
  have f4 : W6.cell? ⟨w.heap.size + 1 + 1 + 1 + 1 + 1, 4, none⟩ = some (.slice none 0 0) := by rw [hW6]; simp [go_sem]
  have f5 : W6.cell? ⟨w.heap.size + 1 + 1 + 1 + 1 + 1, 5, none⟩ = some (.slice (some ⟨w.heap.size + 1 + 1 + 1 + 1, 0, none⟩) 1 1) := by rw [hW6]; simp [go_sem]
  have f6 : W6.cell? ⟨w.heap.size + 1 + 1 + 1 + 1 + 1, 6, none⟩ = some (.slice none 0 0) := by rw [hW6]; simp [go_sem]
  have f7 : W6.cell? ⟨w.heap.size + 1 + 1 + 1 + 1 + 1, 7, none⟩ = some (.int .i64 0) := by rw [hW6]; simp [go_sem]
  have f8 : W6.cell? ⟨w.heap.size + 1 + 1 + 1 + 1 + 1, 8, none⟩ = some (.slice none 0 0) := by rw [hW6]; simp [go_sem]
  have f9 : W6.cell? ⟨w.heap.size + 1 + 1 + 1 + 1 + 1, 9, none⟩ = some (.slice none 0 0) := by rw [hW6]; simp [go_sem]
  have f10 : W6.cell? ⟨w.heap.size + 1 + 1 + 1 + 1 + 1, 10, none⟩ = some (.slice none 0 0) := by rw [hW6]; simp [go_sem]
  clear hW6
  have hM : ModC (· < W6.heap.size) W6 mdA [.slice (some ⟨w.heap.size + 1, 0, none⟩) 2 2, .slice (some ⟨w.heap.size + 1 + 1, 0, none⟩) 2 2, .slice (some ⟨w.heap.size + 1 + 1 + 1, 0, none⟩) 1 1, .slice none 0 0, .slice none 0 0, .slice (some ⟨w.heap.size + 1 + 1 + 1 + 1, 0, none⟩) 1 1, .slice none 0 0, .int .i64 0, .slice none 0 0, .slice none 0 0, .slice none 0 0] := by
    refine ⟨_, _, _, _, _, _, _, _, _, _, rfl, ⟨_, 2, rfl, Or.inr ⟨w.heap.size + 1, 0, [.slice none 0 0, .slice none 0 0, .slice (some ⟨w.heap.size, 0, none⟩) 1 1, .slice none 0 0], rfl, cell_lt b0, ?_, ?_⟩⟩, ⟨_, 2, rfl, Or.inr ⟨w.heap.size + 1 + 1, 0, [.string ⟨#[]⟩, .string ⟨#[]⟩, .int .i64 0, .int .i64 1, .bool false, .int .i64 0, .int .i64 0, .string ⟨#[]⟩, .string ⟨#[]⟩, .int .i64 3, .int .i64 125, .bool false, .int .i64 0, .int .i64 0], rfl, cell_lt c0, ?_, ?_⟩⟩, ⟨_, 1, rfl, Or.inr ⟨w.heap.size + 1 + 1 + 1, 0, [.int .i64 0], rfl, cell_lt d0, ?_, ?_⟩⟩, Fc.nil, Fc.nil, ⟨_, 1, rfl, Or.inr ⟨w.heap.size + 1 + 1 + 1 + 1, 0, [.int .i64 126, .bool true, .slice none 0 0], rfl, cell_lt e0, ?_, ?_⟩⟩, Fc.nil, Fc.nil, Fc.nil, Fc.nil⟩
    · intro j u hu
      rw [Nat.zero_add]
      match j, hu with
      | 0, hu => cases hu; exact b0
      | 1, hu => cases hu; exact b1
      | 2, hu => cases hu; exact b2
      | 3, hu => cases hu; exact b3
    · exact ⟨_, _, rfl, ⟨none, 0, rfl, Or.inl rfl, fun x => absurd rfl x⟩, _, _, rfl, ⟨none, 0, rfl, Or.inl rfl, fun x => absurd rfl x⟩, _, _, rfl, ⟨_, 1, rfl, Or.inr ⟨w.heap.size, 0, rfl, fun j hj => (by obtain rfl : j = 0 := (by simpa using hj); exact a0)⟩, fun _ a ha => by cases ha; exact cell_lt a0⟩, _, _, rfl, ⟨none, 0, rfl, Or.inl rfl, fun x => absurd rfl x⟩, rfl⟩
    · intro j u hu
      rw [Nat.zero_add]
      match j, hu with
      | 0, hu => cases hu; exact c0
      | 1, hu => cases hu; exact c1
      | 2, hu => cases hu; exact c2
      | 3, hu => cases hu; exact c3
      | 4, hu => cases hu; exact c4
      | 5, hu => cases hu; exact c5
      | 6, hu => cases hu; exact c6
      | 7, hu => cases hu; exact c7
      | 8, hu => cases hu; exact c8
      | 9, hu => cases hu; exact c9
      | 10, hu => cases hu; exact c10
      | 11, hu => cases hu; exact c11
      | 12, hu => cases hu; exact c12
      | 13, hu => cases hu; exact c13
    · exact ⟨_, _, rfl, rfl, _, _, rfl, rfl, _, _, rfl, rfl, _, _, rfl, rfl, _, _, rfl, rfl, _, _, rfl, rfl, _, _, rfl, rfl, _, _, rfl, rfl, _, _, rfl, rfl, _, _, rfl, rfl, _, _, rfl, rfl, _, _, rfl, rfl, _, _, rfl, rfl, _, _, rfl, rfl, rfl⟩
    · intro j u hu
      rw [Nat.zero_add]
      match j, hu with
      | 0, hu => cases hu; exact d0
    · exact ⟨_, _, rfl, rfl, rfl⟩
    · intro j u hu
      rw [Nat.zero_add]
      match j, hu with
      | 0, hu => cases hu; exact e0
      | 1, hu => cases hu; exact e1
      | 2, hu => cases hu; exact e2
    · exact ⟨_, _, rfl, rfl, _, _, rfl, rfl, _, _, rfl, ⟨none, 0, rfl, Or.inl rfl⟩, rfl⟩
  have hm2 : ∀ W, Later W6 W → ModC (· < W6.heap.size) W mdA [.slice (some ⟨w.heap.size + 1, 0, none⟩) 2 2, .slice (some ⟨w.heap.size + 1 + 1, 0, none⟩) 2 2, .slice (some ⟨w.heap.size + 1 + 1 + 1, 0, none⟩) 1 1, .slice none 0 0, .slice none 0 0, .slice (some ⟨w.heap.size + 1 + 1 + 1 + 1, 0, none⟩) 1 1, .slice none 0 0, .int .i64 0, .slice none 0 0, .slice none 0 0, .slice none 0 0] := fun W hW => hM.move fun k hk hl => ⟨hk, hW.block hl⟩
  have k0 : Hid (∀ W, Later W6 W → Calls Try.prog 6 #[.agg #[.slice (some ⟨w.heap.size + 1, 0, none⟩) 2 2, .slice (some ⟨w.heap.size + 1 + 1, 0, none⟩) 2 2, .slice (some ⟨w.heap.size + 1 + 1 + 1, 0, none⟩) 1 1, .slice none 0 0, .slice none 0 0, .slice (some ⟨w.heap.size + 1 + 1 + 1 + 1, 0, none⟩) 1 1, .slice none 0 0, .int .i64 0, .slice none 0 0, .slice none 0 0, .slice none 0 0], .int .i64 0] W fun e w' => ∃ A a B b, e = .returned (.tuple #[.agg #[.slice A 1 a, .slice B 0 b], .int .i64 0]) ∧ Hid (Lq (W.heap.size ≤ ·) w' A [127]) ∧ Later W w') := fun W hW => (func_any mdA_v (fun j hj => Nat.lt_of_lt_of_le hj hW.size) (hm2 W hW) 0 (by decide)).mono (by
    rw [mdA_f0]
    rintro e w' ⟨⟨A, a, B, b, h1, h2, h3⟩, h4⟩
    exact ⟨A, a, B, b, h1, h2.mono (fun k hk => hk.1), h4.out⟩)
  have k2 : Hid (∀ W, Later W6 W → Calls Try.prog 6 #[.agg #[.slice (some ⟨w.heap.size + 1, 0, none⟩) 2 2, .slice (some ⟨w.heap.size + 1 + 1, 0, none⟩) 2 2, .slice (some ⟨w.heap.size + 1 + 1 + 1, 0, none⟩) 1 1, .slice none 0 0, .slice none 0 0, .slice (some ⟨w.heap.size + 1 + 1 + 1 + 1, 0, none⟩) 1 1, .slice none 0 0, .int .i64 0, .slice none 0 0, .slice none 0 0, .slice none 0 0], .int .i64 2] W fun e w' => e = .returned (.tuple #[.agg #[.slice none 0 0, .slice none 0 0], .int .i64 1701]) ∧ Later W w') := fun W hW => (func_any mdA_v (fun j hj => Nat.lt_of_lt_of_le hj hW.size) (hm2 W hW) 2 (by decide)).mono (by
    rw [mdA_f2]
    rintro e w' ⟨h1, h4⟩
    exact ⟨h1, h4.out⟩)
  have k3 : Hid (∀ W, Later W6 W → Calls Try.prog 8 #[.agg #[.slice (some ⟨w.heap.size + 1, 0, none⟩) 2 2, .slice (some ⟨w.heap.size + 1 + 1, 0, none⟩) 2 2, .slice (some ⟨w.heap.size + 1 + 1 + 1, 0, none⟩) 1 1, .slice none 0 0, .slice none 0 0, .slice (some ⟨w.heap.size + 1 + 1 + 1 + 1, 0, none⟩) 1 1, .slice none 0 0, .int .i64 0, .slice none 0 0, .slice none 0 0, .slice none 0 0], .int .i64 1] W fun e w' => e = .returned (.tuple #[.int .i64 126, .bool true, .int .i64 0]) ∧ Later W w') := fun W hW => (global_any mdA_v (fun j hj => Nat.lt_of_lt_of_le hj hW.size) (hm2 W hW) 1 (by decide)).mono (by
    rw [mdA_g1]
    rintro e w' ⟨h1, h4⟩
    exact ⟨h1, h4.out⟩)
  have k4 : Hid (∀ W, Later W6 W → Calls Try.prog 10 #[.agg #[.slice (some ⟨w.heap.size + 1, 0, none⟩) 2 2, .slice (some ⟨w.heap.size + 1 + 1, 0, none⟩) 2 2, .slice (some ⟨w.heap.size + 1 + 1 + 1, 0, none⟩) 1 1, .slice none 0 0, .slice none 0 0, .slice (some ⟨w.heap.size + 1 + 1 + 1 + 1, 0, none⟩) 1 1, .slice none 0 0, .int .i64 0, .slice none 0 0, .slice none 0 0, .slice none 0 0]] W fun e w' => e = .returned (.tuple #[.int .i64 2, .int .i64 0, .int .i64 0, .int .i64 2]) ∧ Later W w') := fun W hW => (counts_any mdA_v (fun j hj => Nat.lt_of_lt_of_le hj hW.size) (hm2 W hW)).mono (by
    simp only [mdA_c0, mdA_c1, mdA_c2, mdA_c3]
    rintro e w' ⟨h1, h4⟩
    exact ⟨h1, h4.out⟩)
  have hq : Hid (Lst W6 (some ⟨w.heap.size, 0, none⟩) 1 (fun j => [127].getD j 0)) := Or.inr ⟨w.heap.size, 0, rfl, fun j hj => (by obtain rfl : j = 0 := (by omega); exact a0)⟩
  have L6' : Hid (Later w W6) := L6
  clear hM hm2 L6
  have lf := cell_lt f0
  refine (k0.out _ (Lz _)).mono ?_
  rintro e w1 ⟨A, a, B, b, rfl, qA, l1⟩
  have M1 : Hid (Later W6 w1) := l1
  replace f0 := l1.cell_of f0
  replace f1 := l1.cell_of f1
  replace f2 := l1.cell_of f2
  replace f3 := l1.cell_of f3
  replace f4 := l1.cell_of f4
  replace f5 := l1.cell_of f5
  replace f6 := l1.cell_of f6
  replace f7 := l1.cell_of f7
  replace f8 := l1.cell_of f8
  replace f9 := l1.cell_of f9
  replace f10 := l1.cell_of f10
  replace lf := cell_lt f0
  replace b2 := l1.cell_of b2
  replace b3 := l1.cell_of b3
  replace qA : Hid (Lq (W6.heap.size ≤ ·) w1 A [127]) := qA
  clear k0 l1 a0 b0 b1 c0 c1 c2 c3 c4 c5 c6 c7 c8 c9 c10 c11 c12 c13 d0 e0 e1 e2
  go_wp2_with fail
  have M2 : Hid (Later W6 (w1.alloc (.cells #[.slice A 1 a, .slice B 0 b] 34))) := La M1.out
  refine (k2.out _ M2.out).mono ?_
  rintro e w2 ⟨rfl, l2⟩
  replace f0 := l2.cell_of ((La (Lz w1) : Later w1 (w1.alloc (.cells #[.slice A 1 a, .slice B 0 b] 34))).cell_of f0)
  replace f1 := l2.cell_of ((La (Lz w1) : Later w1 (w1.alloc (.cells #[.slice A 1 a, .slice B 0 b] 34))).cell_of f1)
  replace f2 := l2.cell_of ((La (Lz w1) : Later w1 (w1.alloc (.cells #[.slice A 1 a, .slice B 0 b] 34))).cell_of f2)
  replace f3 := l2.cell_of ((La (Lz w1) : Later w1 (w1.alloc (.cells #[.slice A 1 a, .slice B 0 b] 34))).cell_of f3)
  replace f4 := l2.cell_of ((La (Lz w1) : Later w1 (w1.alloc (.cells #[.slice A 1 a, .slice B 0 b] 34))).cell_of f4)
  replace f5 := l2.cell_of ((La (Lz w1) : Later w1 (w1.alloc (.cells #[.slice A 1 a, .slice B 0 b] 34))).cell_of f5)
  replace f6 := l2.cell_of ((La (Lz w1) : Later w1 (w1.alloc (.cells #[.slice A 1 a, .slice B 0 b] 34))).cell_of f6)
  replace f7 := l2.cell_of ((La (Lz w1) : Later w1 (w1.alloc (.cells #[.slice A 1 a, .slice B 0 b] 34))).cell_of f7)
  replace f8 := l2.cell_of ((La (Lz w1) : Later w1 (w1.alloc (.cells #[.slice A 1 a, .slice B 0 b] 34))).cell_of f8)
  replace f9 := l2.cell_of ((La (Lz w1) : Later w1 (w1.alloc (.cells #[.slice A 1 a, .slice B 0 b] 34))).cell_of f9)
  replace f10 := l2.cell_of ((La (Lz w1) : Later w1 (w1.alloc (.cells #[.slice A 1 a, .slice B 0 b] 34))).cell_of f10)
  replace lf := cell_lt f0
  replace b2 := l2.cell_of ((La (Lz w1) : Later w1 (w1.alloc (.cells #[.slice A 1 a, .slice B 0 b] 34))).cell_of b2)
  replace b3 := l2.cell_of ((La (Lz w1) : Later w1 (w1.alloc (.cells #[.slice A 1 a, .slice B 0 b] 34))).cell_of b3)
  have g0 : w2.cell? ⟨w1.heap.size, 0, none⟩ = some (.slice A 1 a) := l2.cell_of (by simp [go_sem])
  have g1 : w2.cell? ⟨w1.heap.size, 1, none⟩ = some (.slice B 0 b) := l2.cell_of (by simp [go_sem])
  have lg := cell_lt g0
  have M3 : Hid (Later W6 w2) := M2.out.trans l2
  have N3 : Hid (Later w1 w2) := (La (Lz _)).trans l2
  clear k2 l2 M2
  go_wp2_with fail
  refine (k3.out _ (La M3.out)).mono ?_
  rintro e w3 ⟨rfl, l3⟩
  replace l3 : Later w2 w3 := (La (Lz w2)).trans l3
  replace f0 := l3.cell_of f0
  replace f1 := l3.cell_of f1
  replace f2 := l3.cell_of f2
  replace f3 := l3.cell_of f3
  replace f4 := l3.cell_of f4
  replace f5 := l3.cell_of f5
  replace f6 := l3.cell_of f6
  replace f7 := l3.cell_of f7
  replace f8 := l3.cell_of f8
  replace f9 := l3.cell_of f9
  replace f10 := l3.cell_of f10
  replace g0 := l3.cell_of g0
  replace g1 := l3.cell_of g1
  replace b2 := l3.cell_of b2
  replace b3 := l3.cell_of b3
  replace lf := cell_lt f0
  replace lg := cell_lt g0
  have M4 : Hid (Later W6 w3) := M3.out.trans l3
  have N4 : Hid (Later w1 w3) := N3.out.trans l3
  clear k3 l3 M3 N3
  go_wp2_with fail
  refine (k4.out _ M4.out).mono ?_
  rintro e w4 ⟨rfl, l4⟩
  replace f0 := l4.cell_of f0
  replace f1 := l4.cell_of f1
  replace f2 := l4.cell_of f2
  replace f3 := l4.cell_of f3
  replace f4 := l4.cell_of f4
  replace f5 := l4.cell_of f5
  replace f6 := l4.cell_of f6
  replace f7 := l4.cell_of f7
  replace f8 := l4.cell_of f8
  replace f9 := l4.cell_of f9
  replace f10 := l4.cell_of f10
  replace g0 := l4.cell_of g0
  replace g1 := l4.cell_of g1
  replace b2 := l4.cell_of b2
  replace b3 := l4.cell_of b3
  replace lf := cell_lt f0
  replace lg := cell_lt g0
  have M5 : Hid (Later W6 w4) := M4.out.trans l4
  have N5 : Hid (Later w1 w4) := N4.out.trans l4
  clear k4 l4 M4 N4
  go_wp2_with fail
  have lb := cell_lt b2
  have qn : ∀ W (b : Nat), Lq (fun _ => True) W (none : Option Addr) [] := fun W b => ⟨Or.inl rfl, fun x => absurd rfl x⟩
  have qB : ∀ W (B : Option Addr), Lq (fun _ => True) W B [] := fun W B => ⟨Or.inl rfl, fun x => absurd rfl x⟩
  have qC : Hid (∀ W, Later w4 W → Lq (fun _ => True) W (some ⟨w.heap.size, 0, none⟩) [127]) := fun W hW => ⟨(Lst.later hq.out (M5.out.trans hW)), fun _ _ _ => trivial⟩
  have qA2 : Hid (∀ W, Later w4 W → Lq (fun _ => True) W A [127]) := fun W hW => (qA.out.later (N5.out.trans hW)).mono (fun _ _ => trivial)
  have t0 : Hid (∀ W, Later w4 W → Calls Try.prog 12 #[.agg #[.slice A 1 a, .slice B 0 b], .agg #[.slice (some ⟨w.heap.size, 0, none⟩) 1 1, .slice none 0 0]] W fun e w' => e = .returned (.bool true) ∧ Later W w') := fun W hW => (stype_any _ _ ([127], []) (by decide) W A B _ none a b 1 0 (qA2.out W hW) (qB W B) (qC.out W hW) (qB W none)).mono (by rintro e w' ⟨h1, h2⟩; exact ⟨h1, h2.out⟩)
  have t1 : Hid (∀ W, Later w4 W → Calls Try.prog 16 #[.agg #[.slice A 1 a, .slice B 0 b]] W fun e w' => e = .returned (.bool true) ∧ Later W w') := fun W hW => (may_any A B ([127], []) a b (by decide) (by decide) W (qA2.out W hW).1 (qB W B).1).mono (by rintro e w' ⟨h1, h2⟩; exact ⟨h1, h2.out⟩)
  have t2 : Hid (∀ W, Later w4 W → Calls Try.prog 18 #[.agg #[.slice A 1 a, .slice B 0 b], .agg #[.slice A 1 a, .slice B 0 b]] W fun e w' => e = .returned (.bool true) ∧ Later W w') := fun W hW => (fsame_any A B A B ([127], []) ([127], []) a b a b W (by decide) (by decide) (qA2.out W hW).1 (qB W B).1 (qA2.out W hW).1 (qB W B).1).mono (by rintro e w' ⟨h1, h2⟩; exact ⟨h1, h2.out⟩)
  have t3 : Hid (∀ W g, W.cell? ⟨g, 0, none⟩ = some (.int .i64 1) → Calls Try.prog 16 #[.agg #[.slice (some ⟨g, 0, none⟩) 1 1, .slice none 0 0]] W fun e w' => e = .returned (.bool false) ∧ Later W w') := fun W g hg => (may_any _ _ ([1], []) 1 0 (by decide) (by decide) W (Or.inr ⟨g, 0, rfl, fun j hj => (by obtain rfl : j = 0 := (by simpa using hj); exact hg)⟩) (qB W none).1).mono (by rintro e w' ⟨h1, h2⟩; exact ⟨h1, h2.out⟩)
  have L9 : Hid (Later w w4) := L6'.out.trans M5.out
  clear qn qB qC qA2 qA hq M1 M5 N5 L6'
  have hkeep : Hid (∀ W, Later w4 W → (Later w4 W ∧ W.cell? ⟨w1.heap.size, 0, none⟩ = some (.slice A 1 a) ∧ W.cell? ⟨w1.heap.size, 1, none⟩ = some (.slice B 0 b) ∧ W.cell? ⟨w.heap.size + 1 + 1 + 1 + 1 + 1, 0, none⟩ = some (.slice (some ⟨w.heap.size + 1, 0, none⟩) 2 2) ∧ W.cell? ⟨w.heap.size + 1, 2, none⟩ = some (.slice (some ⟨w.heap.size, 0, none⟩) 1 1) ∧ W.cell? ⟨w.heap.size + 1, 3, none⟩ = some (.slice none 0 0) ∧ w1.heap.size < W.heap.size)) := fun W hW => ⟨hW, hW.cell_of g0, hW.cell_of g1, hW.cell_of f0, hW.cell_of b2, hW.cell_of b3, Nat.lt_of_lt_of_le lg hW.size⟩
  go_region_held3 (fun W => Later w4 W ∧ W.cell? ⟨w1.heap.size, 0, none⟩ = some (.slice A 1 a) ∧ W.cell? ⟨w1.heap.size, 1, none⟩ = some (.slice B 0 b) ∧ W.cell? ⟨w.heap.size + 1 + 1 + 1 + 1 + 1, 0, none⟩ = some (.slice (some ⟨w.heap.size + 1, 0, none⟩) 2 2) ∧ W.cell? ⟨w.heap.size + 1, 2, none⟩ = some (.slice (some ⟨w.heap.size, 0, none⟩) 1 1) ∧ W.cell? ⟨w.heap.size + 1, 3, none⟩ = some (.slice none 0 0) ∧ w1.heap.size < W.heap.size) (refine hkeep.out _ ?_ <;> (repeat first | exact Lz _ | apply La | apply Ld | refine Later.trans ?_ (by assumption))) (first | (go_at_call 13; refine (num_any _ _).mono ?_; rintro e w5 ⟨rfl, rfl⟩) | (go_at_call 12; refine (t0.out _ (by repeat first | exact Lz _ | apply La | apply Ld | refine Later.trans ?_ (by assumption))).mono ?_; rintro e w5 ⟨rfl, l5⟩) | (go_at_call 18; refine (t2.out _ (by repeat first | exact Lz _ | apply La | apply Ld | refine Later.trans ?_ (by assumption))).mono ?_; rintro e w7 ⟨rfl, l7⟩) | (go_at_call_of 16 b; refine (t1.out _ (by repeat first | exact Lz _ | apply La | apply Ld | refine Later.trans ?_ (by assumption))).mono ?_; rintro e w6 ⟨rfl, l6⟩) | (go_at_call 16; refine (t3.out _ _ (by simp [go_sem])).mono ?_; rintro e w8 ⟨rfl, l8⟩))
  all_goals
    have L8 : Hid (Later w4 w8) := by repeat first | exact Lz _ | apply La | apply Ld | refine Later.trans ?_ (by assumption)
    clear hkeep t0 t1 t2 t3 l5 l6 l7 l8
    go_wp2_with fail
    go_ret
    exact ⟨rfl, L9.out.trans L8.out⟩
end Go.Proofs.Ytonnmbmdmkmhmaa.ty
