/- package instr: may an instruction be? (mayBe) -/
import Derived.Test.YtngciahmoenkiacGC
set_option linter.unusedVariables false
set_option linter.unusedSimpArgs false
set_option maxRecDepth 100000
set_option maxHeartbeats 8000000
namespace Go.Proofs.Ytngciahmoenkiac.gi
open Go.RowKit
/-- an instruction's cells at an address -/
def Ic (w : World) (g o : Nat) (op a b bi ty : Int) (LA : Option Addr) (nl lc : Nat) (B : Option Addr) (nb bc : Nat) (E : Option Addr) (ne ec : Nat) : Prop :=
  w.cell? ⟨g, o, none⟩ = some (.int .i64 op) ∧ w.cell? ⟨g, o + 1, none⟩ = some (.int .i64 a) ∧ w.cell? ⟨g, o + 2, none⟩ = some (.int .i64 b) ∧ w.cell? ⟨g, o + 3, none⟩ = some (.int .i64 bi) ∧ w.cell? ⟨g, o + 4, none⟩ = some (.int .i64 ty) ∧ w.cell? ⟨g, o + 5, none⟩ = some (.slice LA nl lc) ∧ w.cell? ⟨g, o + 6, none⟩ = some (.slice B nb bc) ∧ w.cell? ⟨g, o + 7, none⟩ = some (.slice E ne ec)
theorem mb_0 (w : World) (g o : Nat) (op a b bi ty : Int) (LA : Option Addr) (ls : List Int) (lc : Nat) (B : Option Addr) (nb bc : Nat) (E : Option Addr) (ne ec : Nat) (h : Ic w g o op a b bi ty LA ls.length lc B nb bc E ne ec) (hl : lay op = 0) :
    Calls Try.prog 67 #[.pointer (some ⟨g, o, none⟩)] w fun e w' => e = .returned (.bool (false)) ∧ Hid (Later w w') := by
  obtain ⟨e0, e1, e2, e3, e4, e5, e6, e7⟩ := h
  have hlt := cell_lt e0
  have hy : Hid (∀ w : World, Calls Try.prog 66 #[.int .i64 op] w fun e w' => e = .returned (.int .i64 0) ∧ w' = w) := fun w => by have := lay_any op w; rwa [hl] at this
  clear hl
  generalize ls.length = nl at *
  go_enter Try.func67, Try.ntmps67
  go_wp2_with (first | (go_at_call 66; refine (hy.out _).mono ?_; rintro e w1 ⟨rfl, rfl⟩))
  go_ret
  exact ⟨rfl, by repeat first | exact Lz _ | apply La⟩
theorem mb_1 (w : World) (g o : Nat) (op a b bi ty : Int) (LA : Option Addr) (ls : List Int) (lc : Nat) (B : Option Addr) (nb bc : Nat) (E : Option Addr) (ne ec : Nat) (h : Ic w g o op a b bi ty LA ls.length lc B nb bc E ne ec) (hl : lay op = 1) :
    Calls Try.prog 67 #[.pointer (some ⟨g, o, none⟩)] w fun e w' => e = .returned (.bool (iz a b bi ty ls.length nb ne)) ∧ Hid (Later w w') := by
  obtain ⟨e0, e1, e2, e3, e4, e5, e6, e7⟩ := h
  have hlt := cell_lt e0
  have hy : Hid (∀ w : World, Calls Try.prog 66 #[.int .i64 op] w fun e w' => e = .returned (.int .i64 1) ∧ w' = w) := fun w => by have := lay_any op w; rwa [hl] at this
  clear hl
  generalize ls.length = nl at *
  go_enter Try.func67, Try.ntmps67
  go_wp2_with (first | (go_at_call 66; refine (hy.out _).mono ?_; rintro e w1 ⟨rfl, rfl⟩) | (go_at_call 75; refine (iz_any w.heap.size 0 a b bi ty LA B E nl lc nb bc ne ec _ (by simp) (by simp) (by simp) (by simp) (by simp) (by simp) (by simp)).mono ?_; rintro e w3 ⟨rfl, rfl⟩))
  go_ret
  exact ⟨rfl, by repeat first | exact Lz _ | apply La⟩
theorem mb_8 (w : World) (g o : Nat) (op a b bi ty : Int) (LA : Option Addr) (ls : List Int) (lc : Nat) (B : Option Addr) (nb bc : Nat) (E : Option Addr) (ne ec : Nat) (h : Ic w g o op a b bi ty LA ls.length lc B nb bc E ne ec) (hl : lay op = 8) :
    Calls Try.prog 67 #[.pointer (some ⟨g, o, none⟩)] w fun e w' => e = .returned (.bool (iz a b bi ty ls.length nb ne)) ∧ Hid (Later w w') := by
  obtain ⟨e0, e1, e2, e3, e4, e5, e6, e7⟩ := h
  have hlt := cell_lt e0
  have hy : Hid (∀ w : World, Calls Try.prog 66 #[.int .i64 op] w fun e w' => e = .returned (.int .i64 8) ∧ w' = w) := fun w => by have := lay_any op w; rwa [hl] at this
  clear hl
  generalize ls.length = nl at *
  go_enter Try.func67, Try.ntmps67
  go_wp2_with (first | (go_at_call 66; refine (hy.out _).mono ?_; rintro e w1 ⟨rfl, rfl⟩) | (go_at_call 75; refine (iz_any w.heap.size 0 a b bi ty LA B E nl lc nb bc ne ec _ (by simp) (by simp) (by simp) (by simp) (by simp) (by simp) (by simp)).mono ?_; rintro e w3 ⟨rfl, rfl⟩))
  go_ret
  exact ⟨rfl, by repeat first | exact Lz _ | apply La⟩
theorem mb_2 (w : World) (g o : Nat) (op a b bi ty : Int) (LA : Option Addr) (ls : List Int) (lc : Nat) (B : Option Addr) (nb bc : Nat) (E : Option Addr) (ne ec : Nat) (h : Ic w g o op a b bi ty LA ls.length lc B nb bc E ne ec) (hl : lay op = 2) :
    Calls Try.prog 67 #[.pointer (some ⟨g, o, none⟩)] w fun e w' => e = .returned (.bool (bty ty && iz a b bi 0 ls.length 0 ne)) ∧ Hid (Later w w') := by
  obtain ⟨e0, e1, e2, e3, e4, e5, e6, e7⟩ := h
  have hlt := cell_lt e0
  have hy : Hid (∀ w : World, Calls Try.prog 66 #[.int .i64 op] w fun e w' => e = .returned (.int .i64 2) ∧ w' = w) := fun w => by have := lay_any op w; rwa [hl] at this
  clear hl
  have h0 : Hid (∀ w : World, Calls Try.prog 72 #[.int .i64 ty] w fun e w' => e = .returned (.bool (bty ty)) ∧ w' = w) := fun w => bty_any ty w
  generalize bty ty = k0 at *
  generalize ls.length = nl at *
  cases k0
  all_goals
    go_enter Try.func67, Try.ntmps67
    go_wp2_with (first | (go_at_call 66; refine (hy.out _).mono ?_; rintro e w1 ⟨rfl, rfl⟩) | (go_at_call 72; refine (h0.out _ ).mono ?_; rintro e w2 ⟨rfl, rfl⟩) | (go_at_call 75; refine (iz_any w.heap.size 0 a b bi 0 LA none E nl lc 0 0 ne ec _ (by simp) (by simp) (by simp) (by simp) (by simp) (by simp) (by simp)).mono ?_; rintro e w3 ⟨rfl, rfl⟩))
    go_ret
    exact ⟨rfl, by repeat first | exact Lz _ | apply La⟩
theorem mb_3 (w : World) (g o : Nat) (op a b bi ty : Int) (LA : Option Addr) (ls : List Int) (lc : Nat) (B : Option Addr) (nb bc : Nat) (E : Option Addr) (ne ec : Nat) (h : Ic w g o op a b bi ty LA ls.length lc B nb bc E ne ec) (hl : lay op = 3) :
    Calls Try.prog 67 #[.pointer (some ⟨g, o, none⟩)] w fun e w' => e = .returned (.bool (bty ty && iz a b bi 0 ls.length 0 0)) ∧ Hid (Later w w') := by
  obtain ⟨e0, e1, e2, e3, e4, e5, e6, e7⟩ := h
  have hlt := cell_lt e0
  have hy : Hid (∀ w : World, Calls Try.prog 66 #[.int .i64 op] w fun e w' => e = .returned (.int .i64 3) ∧ w' = w) := fun w => by have := lay_any op w; rwa [hl] at this
  clear hl
  have h0 : Hid (∀ w : World, Calls Try.prog 72 #[.int .i64 ty] w fun e w' => e = .returned (.bool (bty ty)) ∧ w' = w) := fun w => bty_any ty w
  generalize bty ty = k0 at *
  generalize ls.length = nl at *
  cases k0
  all_goals
    go_enter Try.func67, Try.ntmps67
    go_wp2_with (first | (go_at_call 66; refine (hy.out _).mono ?_; rintro e w1 ⟨rfl, rfl⟩) | (go_at_call 72; refine (h0.out _ ).mono ?_; rintro e w2 ⟨rfl, rfl⟩) | (go_at_call 75; refine (iz_any w.heap.size 0 a b bi 0 LA none none nl lc 0 0 0 0 _ (by simp) (by simp) (by simp) (by simp) (by simp) (by simp) (by simp)).mono ?_; rintro e w3 ⟨rfl, rfl⟩))
    go_ret
    exact ⟨rfl, by repeat first | exact Lz _ | apply La⟩
theorem mb_4 (w : World) (g o : Nat) (op a b bi ty : Int) (LA : Option Addr) (ls : List Int) (lc : Nat) (B : Option Addr) (nb bc : Nat) (E : Option Addr) (ne ec : Nat) (h : Ic w g o op a b bi ty LA ls.length lc B nb bc E ne ec) (hl : lay op = 4) :
    Calls Try.prog 67 #[.pointer (some ⟨g, o, none⟩)] w fun e w' => e = .returned (.bool (wrd a && iz 0 b bi ty ls.length nb ne)) ∧ Hid (Later w w') := by
  obtain ⟨e0, e1, e2, e3, e4, e5, e6, e7⟩ := h
  have hlt := cell_lt e0
  have hy : Hid (∀ w : World, Calls Try.prog 66 #[.int .i64 op] w fun e w' => e = .returned (.int .i64 4) ∧ w' = w) := fun w => by have := lay_any op w; rwa [hl] at this
  clear hl
  have h0 : Hid (∀ w : World, Calls Try.prog 73 #[.int .i64 a] w fun e w' => e = .returned (.bool (wrd a)) ∧ w' = w) := fun w => wrd_any a w
  generalize wrd a = k0 at *
  generalize ls.length = nl at *
  cases k0
  all_goals
    go_enter Try.func67, Try.ntmps67
    go_wp2_with (first | (go_at_call 66; refine (hy.out _).mono ?_; rintro e w1 ⟨rfl, rfl⟩) | (go_at_call 73; refine (h0.out _ ).mono ?_; rintro e w2 ⟨rfl, rfl⟩) | (go_at_call 75; refine (iz_any w.heap.size 0 0 b bi ty LA B E nl lc nb bc ne ec _ (by simp) (by simp) (by simp) (by simp) (by simp) (by simp) (by simp)).mono ?_; rintro e w3 ⟨rfl, rfl⟩))
    go_ret
    exact ⟨rfl, by repeat first | exact Lz _ | apply La⟩
theorem mb_6 (w : World) (g o : Nat) (op a b bi ty : Int) (LA : Option Addr) (ls : List Int) (lc : Nat) (B : Option Addr) (nb bc : Nat) (E : Option Addr) (ne ec : Nat) (h : Ic w g o op a b bi ty LA ls.length lc B nb bc E ne ec) (hl : lay op = 6) :
    Calls Try.prog 67 #[.pointer (some ⟨g, o, none⟩)] w fun e w' => e = .returned (.bool (wrd a && iz 0 b bi ty ls.length nb ne)) ∧ Hid (Later w w') := by
  obtain ⟨e0, e1, e2, e3, e4, e5, e6, e7⟩ := h
  have hlt := cell_lt e0
  have hy : Hid (∀ w : World, Calls Try.prog 66 #[.int .i64 op] w fun e w' => e = .returned (.int .i64 6) ∧ w' = w) := fun w => by have := lay_any op w; rwa [hl] at this
  clear hl
  have h0 : Hid (∀ w : World, Calls Try.prog 73 #[.int .i64 a] w fun e w' => e = .returned (.bool (wrd a)) ∧ w' = w) := fun w => wrd_any a w
  generalize wrd a = k0 at *
  generalize ls.length = nl at *
  cases k0
  all_goals
    go_enter Try.func67, Try.ntmps67
    go_wp2_with (first | (go_at_call 66; refine (hy.out _).mono ?_; rintro e w1 ⟨rfl, rfl⟩) | (go_at_call 73; refine (h0.out _ ).mono ?_; rintro e w2 ⟨rfl, rfl⟩) | (go_at_call 75; refine (iz_any w.heap.size 0 0 b bi ty LA B E nl lc nb bc ne ec _ (by simp) (by simp) (by simp) (by simp) (by simp) (by simp) (by simp)).mono ?_; rintro e w3 ⟨rfl, rfl⟩))
    go_ret
    exact ⟨rfl, by repeat first | exact Lz _ | apply La⟩
theorem mb_7 (w : World) (g o : Nat) (op a b bi ty : Int) (LA : Option Addr) (ls : List Int) (lc : Nat) (B : Option Addr) (nb bc : Nat) (E : Option Addr) (ne ec : Nat) (h : Ic w g o op a b bi ty LA ls.length lc B nb bc E ne ec) (hl : lay op = 7) :
    Calls Try.prog 67 #[.pointer (some ⟨g, o, none⟩)] w fun e w' => e = .returned (.bool ((wrd a && wrd b) && iz 0 0 bi ty ls.length nb ne)) ∧ Hid (Later w w') := by
  obtain ⟨e0, e1, e2, e3, e4, e5, e6, e7⟩ := h
  have hlt := cell_lt e0
  have hy : Hid (∀ w : World, Calls Try.prog 66 #[.int .i64 op] w fun e w' => e = .returned (.int .i64 7) ∧ w' = w) := fun w => by have := lay_any op w; rwa [hl] at this
  clear hl
  have h0 : Hid (∀ w : World, Calls Try.prog 73 #[.int .i64 a] w fun e w' => e = .returned (.bool (wrd a)) ∧ w' = w) := fun w => wrd_any a w
  have h1 : Hid (∀ w : World, Calls Try.prog 73 #[.int .i64 b] w fun e w' => e = .returned (.bool (wrd b)) ∧ w' = w) := fun w => wrd_any b w
  generalize wrd a = k0 at *
  generalize wrd b = k1 at *
  generalize ls.length = nl at *
  cases k0 <;> cases k1
  all_goals
    go_enter Try.func67, Try.ntmps67
    go_wp2_with (first | (go_at_call 66; refine (hy.out _).mono ?_; rintro e w1 ⟨rfl, rfl⟩) | (go_at_call 73; refine (h0.out _ ).mono ?_; rintro e w2 ⟨rfl, rfl⟩; clear h0) | (go_at_call 73; refine (h1.out _ ).mono ?_; rintro e w2 ⟨rfl, rfl⟩) | (go_at_call 75; refine (iz_any w.heap.size 0 0 0 bi ty LA B E nl lc nb bc ne ec _ (by simp) (by simp) (by simp) (by simp) (by simp) (by simp) (by simp)).mono ?_; rintro e w3 ⟨rfl, rfl⟩))
    go_ret
    exact ⟨rfl, by repeat first | exact Lz _ | apply La⟩
theorem mb_5 (w : World) (g o : Nat) (op a b bi ty : Int) (LA : Option Addr) (ls : List Int) (lc : Nat) (B : Option Addr) (nb bc : Nat) (E : Option Addr) (ne ec : Nat) (h : Ic w g o op a b bi ty LA ls.length lc B nb bc E ne ec) (hl : lay op = 5) (hS : Lst w LA ls.length (fun j => ls.getD j 0)) :
    Calls Try.prog 67 #[.pointer (some ⟨g, o, none⟩)] w fun e w' => e = .returned (.bool (mlb ls && iz a b bi ty 0 nb ne)) ∧ Hid (Later w w') := by
  obtain ⟨e0, e1, e2, e3, e4, e5, e6, e7⟩ := h
  have hlt := cell_lt e0
  have hy : Hid (∀ w : World, Calls Try.prog 66 #[.int .i64 op] w fun e w' => e = .returned (.int .i64 5) ∧ w' = w) := fun w => by have := lay_any op w; rwa [hl] at this
  clear hl
  have h0 : Hid (∀ w2 : World, Later w w2 → Calls Try.prog 74 #[.slice LA ls.length lc] w2 fun e w' => e = .returned (.bool (mlb ls)) ∧ w' = w2) := fun w2 hw => mlb_any LA ls lc w2 (hS.later hw)
  clear hS
  generalize mlb ls = k0 at *
  generalize ls.length = nl at *
  cases k0
  all_goals
    go_enter Try.func67, Try.ntmps67
    go_wp2_with (first | (go_at_call 66; refine (hy.out _).mono ?_; rintro e w1 ⟨rfl, rfl⟩) | (go_at_call 74; refine (h0.out _ (La (Lz _))).mono ?_; rintro e w2 ⟨rfl, rfl⟩) | (go_at_call 75; refine (iz_any w.heap.size 0 a b bi ty none B E 0 0 nb bc ne ec _ (by simp) (by simp) (by simp) (by simp) (by simp) (by simp) (by simp)).mono ?_; rintro e w3 ⟨rfl, rfl⟩))
    go_ret
    exact ⟨rfl, by repeat first | exact Lz _ | apply La⟩
theorem mb_9 (w : World) (g o : Nat) (op a b bi ty : Int) (LA : Option Addr) (ls : List Int) (lc : Nat) (B : Option Addr) (nb bc : Nat) (E : Option Addr) (ne ec : Nat) (h : Ic w g o op a b bi ty LA ls.length lc B nb bc E ne ec) (hl : lay op = 9) :
    Calls Try.prog 67 #[.pointer (some ⟨g, o, none⟩)] w fun e w' => e = .returned (.bool (wrd bi && iz a b 0 ty ls.length nb ne)) ∧ Hid (Later w w') := by
  obtain ⟨e0, e1, e2, e3, e4, e5, e6, e7⟩ := h
  have hlt := cell_lt e0
  have hy : Hid (∀ w : World, Calls Try.prog 66 #[.int .i64 op] w fun e w' => e = .returned (.int .i64 9) ∧ w' = w) := fun w => by have := lay_any op w; rwa [hl] at this
  clear hl
  have h0 : Hid (∀ w : World, Calls Try.prog 73 #[.int .i64 bi] w fun e w' => e = .returned (.bool (wrd bi)) ∧ w' = w) := fun w => wrd_any bi w
  generalize wrd bi = k0 at *
  generalize ls.length = nl at *
  cases k0
  all_goals
    go_enter Try.func67, Try.ntmps67
    go_wp2_with (first | (go_at_call 66; refine (hy.out _).mono ?_; rintro e w1 ⟨rfl, rfl⟩) | (go_at_call 73; refine (h0.out _ ).mono ?_; rintro e w2 ⟨rfl, rfl⟩) | (go_at_call 75; refine (iz_any w.heap.size 0 a b 0 ty LA B E nl lc nb bc ne ec _ (by simp) (by simp) (by simp) (by simp) (by simp) (by simp) (by simp)).mono ?_; rintro e w3 ⟨rfl, rfl⟩))
    go_ret
    exact ⟨rfl, by repeat first | exact Lz _ | apply La⟩
theorem mb_11 (w : World) (g o : Nat) (op a b bi ty : Int) (LA : Option Addr) (ls : List Int) (lc : Nat) (B : Option Addr) (nb bc : Nat) (E : Option Addr) (ne ec : Nat) (h : Ic w g o op a b bi ty LA ls.length lc B nb bc E ne ec) (hl : lay op = 11) :
    Calls Try.prog 67 #[.pointer (some ⟨g, o, none⟩)] w fun e w' => e = .returned (.bool (wrd bi && iz a b 0 ty ls.length nb ne)) ∧ Hid (Later w w') := by
  obtain ⟨e0, e1, e2, e3, e4, e5, e6, e7⟩ := h
  have hlt := cell_lt e0
  have hy : Hid (∀ w : World, Calls Try.prog 66 #[.int .i64 op] w fun e w' => e = .returned (.int .i64 11) ∧ w' = w) := fun w => by have := lay_any op w; rwa [hl] at this
  clear hl
  have h0 : Hid (∀ w : World, Calls Try.prog 73 #[.int .i64 bi] w fun e w' => e = .returned (.bool (wrd bi)) ∧ w' = w) := fun w => wrd_any bi w
  generalize wrd bi = k0 at *
  generalize ls.length = nl at *
  cases k0
  all_goals
    go_enter Try.func67, Try.ntmps67
    go_wp2_with (first | (go_at_call 66; refine (hy.out _).mono ?_; rintro e w1 ⟨rfl, rfl⟩) | (go_at_call 73; refine (h0.out _ ).mono ?_; rintro e w2 ⟨rfl, rfl⟩) | (go_at_call 75; refine (iz_any w.heap.size 0 a b 0 ty LA B E nl lc nb bc ne ec _ (by simp) (by simp) (by simp) (by simp) (by simp) (by simp) (by simp)).mono ?_; rintro e w3 ⟨rfl, rfl⟩))
    go_ret
    exact ⟨rfl, by repeat first | exact Lz _ | apply La⟩
theorem mb_10 (w : World) (g o : Nat) (op a b bi ty : Int) (LA : Option Addr) (ls : List Int) (lc : Nat) (B : Option Addr) (nb bc : Nat) (E : Option Addr) (ne ec : Nat) (h : Ic w g o op a b bi ty LA ls.length lc B nb bc E ne ec) (hl : lay op = 10) :
    Calls Try.prog 67 #[.pointer (some ⟨g, o, none⟩)] w fun e w' => e = .returned (.bool (iz a b 0 ty ls.length nb ne)) ∧ Hid (Later w w') := by
  obtain ⟨e0, e1, e2, e3, e4, e5, e6, e7⟩ := h
  have hlt := cell_lt e0
  have hy : Hid (∀ w : World, Calls Try.prog 66 #[.int .i64 op] w fun e w' => e = .returned (.int .i64 10) ∧ w' = w) := fun w => by have := lay_any op w; rwa [hl] at this
  clear hl
  generalize ls.length = nl at *
  go_enter Try.func67, Try.ntmps67
  go_wp2_with (first | (go_at_call 66; refine (hy.out _).mono ?_; rintro e w1 ⟨rfl, rfl⟩) | (go_at_call 75; refine (iz_any w.heap.size 0 a b 0 ty LA B E nl lc nb bc ne ec _ (by simp) (by simp) (by simp) (by simp) (by simp) (by simp) (by simp)).mono ?_; rintro e w3 ⟨rfl, rfl⟩))
  go_ret
  exact ⟨rfl, by repeat first | exact Lz _ | apply La⟩
theorem mb_12 (w : World) (g o : Nat) (op a b bi ty : Int) (LA : Option Addr) (ls : List Int) (lc : Nat) (B : Option Addr) (nb bc : Nat) (E : Option Addr) (ne ec : Nat) (h : Ic w g o op a b bi ty LA ls.length lc B nb bc E ne ec) (hl : lay op = 12) :
    Calls Try.prog 67 #[.pointer (some ⟨g, o, none⟩)] w fun e w' => e = .returned (.bool (iz a b 0 ty ls.length nb ne)) ∧ Hid (Later w w') := by
  obtain ⟨e0, e1, e2, e3, e4, e5, e6, e7⟩ := h
  have hlt := cell_lt e0
  have hy : Hid (∀ w : World, Calls Try.prog 66 #[.int .i64 op] w fun e w' => e = .returned (.int .i64 12) ∧ w' = w) := fun w => by have := lay_any op w; rwa [hl] at this
  clear hl
  generalize ls.length = nl at *
  go_enter Try.func67, Try.ntmps67
  go_wp2_with (first | (go_at_call 66; refine (hy.out _).mono ?_; rintro e w1 ⟨rfl, rfl⟩) | (go_at_call 75; refine (iz_any w.heap.size 0 a b 0 ty LA B E nl lc nb bc ne ec _ (by simp) (by simp) (by simp) (by simp) (by simp) (by simp) (by simp)).mono ?_; rintro e w3 ⟨rfl, rfl⟩))
  go_ret
  exact ⟨rfl, by repeat first | exact Lz _ | apply La⟩
end Go.Proofs.Ytngciahmoenkiac.gi
