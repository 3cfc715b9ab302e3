/- Over this seat's translation: an operation's type as lists, by package apply and by the document. -/
import Derived.Test.YtdfgcagbpndabaaGreatDoorVB
import Derived.Test.YtdfgcagbpndabaaGreatDoorVC
import Derived.Test.YtdfgcagbpndabaaGreatDoorVL
import Derived.LoopN
set_option linter.unusedVariables false
set_option maxRecDepth 100000
namespace Go.Proofs.YtdfgcagbpndabaaGreatDoor
open Go.RowKit Go.AM
def IntsAt (w : World) (B : Nat) (l : List Int) : Prop := ∃ cur, w.heap[B]? = some (.cells cur 3 (0, 0)) ∧ ∀ (j : Nat) (x : Int), l[j]? = some x → cur[j]? = some (.int .i64 x)
theorem IntsAt.cell {w : World} {B : Nat} {l : List Int} (h : IntsAt w B l) {j : Nat} {x : Int} (hj : l[j]? = some x) : w.cell? ⟨B, j, none⟩ = some (.int .i64 x) := by
  obtain ⟨cur, h1, h2⟩ := h
  rw [cell_of_row w B j cur _ _ h1]; exact h2 j x hj
theorem IntsAt.lt {w : World} {B : Nat} {l : List Int} (h : IntsAt w B l) : B < w.heap.size := by
  obtain ⟨cur, h1, h2⟩ := h
  exact (Array.getElem?_eq_some_iff.1 h1).1
theorem IntsAt.later {w w' : World} {B : Nat} {l : List Int} (h : IntsAt w B l) (hl : Later w w') : IntsAt w' B l := by
  have hb := h.lt
  obtain ⟨cur, h1, h2⟩ := h
  exact ⟨cur, (hl.block hb).trans h1, h2⟩
theorem ints_new (V : World) (a : Array Value) (l : List Int) (h : ∀ (j : Nat) (x : Int), l[j]? = some x → a[j]? = some (.int .i64 x)) : IntsAt (V.alloc (.cells a 3)) V.heap.size l := ⟨a, heap_alloc_new V _, h⟩
theorem later_alloc (V : World) (a : Array Value) (t : TypeId) : Later V (V.alloc (.cells a t)) := (Later.refl V).alloc
theorem one_int (p : Int) : ∀ (j : Nat) (x : Int), [p][j]? = some x → (#[.int .i64 p] : Array Value)[j]? = some (.int .i64 x) := by
  intro j x h
  match j, h with
  | 0, h => simp at h; subst h; rfl
theorem two_int (p q : Int) : ∀ (j : Nat) (x : Int), [p, q][j]? = some x → (#[.int .i64 p, .int .i64 q] : Array Value)[j]? = some (.int .i64 x) := by
  intro j x h
  match j, h with
  | 0, h => simp at h; subst h; rfl
  | 1, h => simp at h; subst h; rfl
theorem two_new {w V : World} {B C : Nat} (a c : Array Value) (l m : List Int) (ha : ∀ (j : Nat) (x : Int), l[j]? = some x → a[j]? = some (.int .i64 x)) (hc : ∀ (j : Nat) (x : Int), m[j]? = some x → c[j]? = some (.int .i64 x)) (hB : B = V.heap.size) (hC : C = V.heap.size + 1) (hs : w.heap.size ≤ V.heap.size) :
    w.heap.size ≤ B ∧ w.heap.size ≤ C ∧ B ≠ C ∧ Hid (IntsAt ((V.alloc (.cells a 3)).alloc (.cells c 3)) B l) ∧ Hid (IntsAt ((V.alloc (.cells a 3)).alloc (.cells c 3)) C m) := by
  subst hB hC
  refine ⟨hs, by omega, by omega, (ints_new V a l ha).later (later_alloc _ _ _), ?_⟩
  have := ints_new (V.alloc (.cells a 3)) c m hc
  rwa [show (V.alloc (.cells a 3)).heap.size = V.heap.size + 1 from by simp] at this
theorem ints_at {V W : World} {B : Nat} {a : Array Value} {l : List Int} (ha : ∀ (j : Nat) (x : Int), l[j]? = some x → a[j]? = some (.int .i64 x)) (hW : Later (V.alloc (.cells a 3)) W) (hB : B = V.heap.size) : Hid (IntsAt W B l) := by
  subst hB; exact (ints_new V a l ha).later hW
theorem two_zero (p q : Int) (z : Array Value) : ∀ (j : Nat) (x : Int), [p, q][j]? = some x → ((#[.int .i64 p, .int .i64 q] : Array Value) ++ z)[j]? = some (.int .i64 x) := by
  intro j x h
  match j, h with
  | 0, h => simp at h; subst h; simp [Array.getElem?_append]
  | 1, h => simp at h; subst h; simp [Array.getElem?_append]
abbrev tv (B c cap C : Nat) (e : Int) : Value := .tuple #[.agg #[.slice (some ⟨B, 0, none⟩) c cap, .slice (some ⟨C, 0, none⟩) 1 1], .int .i64 e]
abbrev tv0 : Value := .tuple #[.agg #[.slice none 0 0, .slice none 0 0], .int .i64 700]
theorem atype_bad (op : Int) (h : ¬ (69 ≤ op ∧ op ≤ 191)) (w : World) :
    RW Tryz.prog 7 #[.int .i64 op] w tv0 := by
  have hN : Hid (decide (69 ≤ op ∧ op ≤ 191) = false) := decide_eq_false h
  clear h
  go_enter Tryz.func7, Tryz.ntmps7
  go_wp2_with (go_at_call 18; refine (isNum_any _ _).mono ?_; rintro e w' ⟨rfl, rfl⟩; rw [hN.out])
  refine bodyPost_ret (v := tv0) (by simp [results, Tryz.results7, go_sem]) rfl ⟨rfl, (by repeat first | exact Lz _ | apply La | apply Lv | apply Ln | apply Ld)⟩
set_option maxRecDepth 100000 in
theorem atype_1 (op p r : Int) (h : 69 ≤ op ∧ op ≤ 191) (hS : RL Tryz.prog 19 #[.int .i64 op] (.agg #[.int .i64 p, .int .i64 1, .int .i64 r])) (w : World) :
    Calls Tryz.prog 7 #[.int .i64 op] w fun e w' => ∃ B C cap, e = .returned (tv B 1 cap C 0) ∧ Hid (Later w w') ∧ w.heap.size ≤ B ∧ w.heap.size ≤ C ∧ B ≠ C ∧ Hid (IntsAt w' B [p]) ∧ Hid (IntsAt w' C [r]) := by
  have hN : Hid (decide (69 ≤ op ∧ op ≤ 191) = true) := decide_eq_true h
  clear h
  go_enter Tryz.func7, Tryz.ntmps7
  go_wp2_with (first | (go_at_call 18; refine (isNum_any _ _).mono ?_; rintro e w' ⟨rfl, rfl⟩; rw [hN.out]) | (go_at_call 19; refine (hS.out _).mono ?_; rintro e w' ⟨rfl, bs, n, rfl⟩))
  refine bodyPost_ret (v := tv ((w.far bs n).heap.size + 1 + 1) 1 1 ((w.far bs n).heap.size + 1 + 1 + 1) 0) (by simp [results, Tryz.results7, go_sem]) rfl ?_
  refine ⟨_, _, _, rfl, (by repeat first | exact Lz _ | apply La | apply Lv | apply Ln | apply Ld), two_new _ _ _ _ (one_int p) (one_int r) ?_ ?_ ?_⟩
  all_goals simp [World.far_size]
  all_goals omega
set_option maxRecDepth 100000 in
theorem atype_2 (op p r : Int) (h : 69 ≤ op ∧ op ≤ 191) (hS : RL Tryz.prog 19 #[.int .i64 op] (.agg #[.int .i64 p, .int .i64 2, .int .i64 r])) (w : World) :
    Calls Tryz.prog 7 #[.int .i64 op] w fun e w' => ∃ B C cap, e = .returned (tv B 2 cap C 0) ∧ Hid (Later w w') ∧ w.heap.size ≤ B ∧ w.heap.size ≤ C ∧ B ≠ C ∧ Hid (IntsAt w' B [p, p]) ∧ Hid (IntsAt w' C [r]) := by
  have hN : Hid (decide (69 ≤ op ∧ op ≤ 191) = true) := decide_eq_true h
  clear h
  go_enter Tryz.func7, Tryz.ntmps7
  go_wp2_with (first | (go_at_call 18; refine (isNum_any _ _).mono ?_; rintro e w' ⟨rfl, rfl⟩; rw [hN.out]) | (go_at_call 19; refine (hS.out _).mono ?_; rintro e w' ⟨rfl, bs, n, rfl⟩))
  refine bodyPost_ret (v := tv ((w.far bs n).heap.size + 1 + 1 + 1) 2 2 ((w.far bs n).heap.size + 1 + 1 + 1 + 1) 0) (by simp [results, Tryz.results7, go_sem]) rfl ?_
  refine ⟨_, _, _, rfl, (by repeat first | exact Lz _ | apply La | apply Lv | apply Ln | apply Ld), two_new _ _ _ _ (two_int p p) (one_int r) ?_ ?_ ?_⟩
  all_goals simp [World.far_size]
  all_goals omega
theorem atype_any (op : Int) (h : 69 ≤ op ∧ op ≤ 191) (w : World) :
    Calls Tryz.prog 7 #[.int .i64 op] w fun e w' => ∃ B C cap c, e = .returned (tv B c cap C 0) ∧ Hid (Later w w') ∧ w.heap.size ≤ B ∧ w.heap.size ≤ C ∧ B ≠ C ∧ Hid ((c : Int) = kC op ∧ IntsAt w' B (List.replicate c (kP op)) ∧ IntsAt w' C [kR op]) := by
  have hs := shape_any op h.1 h.2
  rcases kC_or op with hc | hc
  · rw [hc] at hs ⊢
    refine (atype_1 op _ _ h hs w).mono ?_
    rintro e w' ⟨B, C, cap, rfl, h1, h2, h3, h4, h5, h6⟩
    exact ⟨B, C, cap, 1, rfl, h1, h2, h3, h4, rfl, h5, h6⟩
  · rw [hc] at hs ⊢
    refine (atype_2 op _ _ h hs w).mono ?_
    rintro e w' ⟨B, C, cap, rfl, h1, h2, h3, h4, h5, h6⟩
    exact ⟨B, C, cap, 2, rfl, h1, h2, h3, h4, rfl, h5, h6⟩
theorem rtype_bad (op : Int) (h : ¬ (69 ≤ op ∧ op ≤ 191)) (w : World) :
    RW Tryz.prog 8 #[.int .i64 op] w tv0 := by
  by_cases h1 : op < 69
  · clear h
    go_enter Tryz.func8, Tryz.ntmps8
    go_wp2
    refine bodyPost_ret (v := tv0) (by simp [results, Tryz.results8, go_sem]) rfl ⟨rfl, (by repeat first | exact Lz _ | apply La | apply Lv | apply Ln | apply Ld)⟩
  · have h2 : 191 < op := by omega
    clear h
    go_enter Tryz.func8, Tryz.ntmps8
    go_wp2
    refine bodyPost_ret (v := tv0) (by simp [results, Tryz.results8, go_sem]) rfl ⟨rfl, (by repeat first | exact Lz _ | apply La | apply Lv | apply Ln | apply Ld)⟩
theorem rtype_conv (op p r : Int) (h0 : 167 ≤ op) (h1 : op ≤ 191) (hS : RL Tryz.prog 20 #[.int .i64 op] (.tuple #[.int .i64 p, .int .i64 r])) (w : World) :
    Calls Tryz.prog 8 #[.int .i64 op] w fun e w' => ∃ B C cap, e = .returned (tv B 1 cap C 0) ∧ Hid (Later w w') ∧ w.heap.size ≤ B ∧ w.heap.size ≤ C ∧ B ≠ C ∧ Hid (IntsAt w' B [p]) ∧ Hid (IntsAt w' C [r]) := by
  go_enter Tryz.func8, Tryz.ntmps8
  go_wp2_with (go_at_call 20; refine (hS.out _).mono ?_; rintro e w' ⟨rfl, bs, n, rfl⟩)
  refine bodyPost_ret (v := tv ((w.far bs n).heap.size + 1) 1 1 ((w.far bs n).heap.size + 1 + 1) 0) (by simp [results, Tryz.results8, go_sem]) rfl ?_
  refine ⟨_, _, _, rfl, (by repeat first | exact Lz _ | apply La | apply Lv | apply Ln | apply Ld), ?_, ?_, ?_, ints_at (one_int p) (La (Lz _)) ?_, ints_at (one_int r) (Lz _) ?_⟩
  all_goals (first | (simp [World.far_size]; done) | (simp [World.far_size]; omega) | omega)
theorem rtype_1 (op p r : Int) (h0 : 69 ≤ op) (h1 : op ≤ 166) (hS : Hid (∀ w : World, Calls Tryz.prog 21 #[.int .i64 op] w fun e w' => e = .returned (.tuple #[.int .i64 p, .int .i64 1, .int .i64 r]) ∧ w' = w)) (w : World) :
    Calls Tryz.prog 8 #[.int .i64 op] w fun e w' => ∃ B C cap, e = .returned (tv B 1 cap C 0) ∧ Hid (Later w w') ∧ w.heap.size ≤ B ∧ w.heap.size ≤ C ∧ B ≠ C ∧ Hid (IntsAt w' B [p]) ∧ Hid (IntsAt w' C [r]) := by
  go_enter Tryz.func8, Tryz.ntmps8
  go_wp2_with (go_at_call 21; refine (hS.out _).mono ?_; rintro e w' ⟨rfl, rfl⟩)
  refine bodyPost_ret (v := tv (w.heap.size + 1) 1 1 (w.heap.size + 1 + 1) 0) (by simp [results, Tryz.results8, go_sem]) rfl ?_
  refine ⟨_, _, _, rfl, (by repeat first | exact Lz _ | apply La | apply Lv | apply Ln | apply Ld), ?_, ?_, ?_, ints_at (one_int p) (La (La (Lz _))) ?_, ints_at (one_int r) (La (Lz _)) ?_⟩
  all_goals (first | (simp; done) | (simp; omega) | omega)
theorem info_int : (Tryz.prog.info? 3).map (fun i => (i.zero, i.size, i.bytes)) = some (some (.int .i64 0), 1, 8) := by kernel_rfl
theorem rtype_2 (op p r : Int) (h0 : 69 ≤ op) (h1 : op ≤ 166) (hS : Hid (∀ w : World, Calls Tryz.prog 21 #[.int .i64 op] w fun e w' => e = .returned (.tuple #[.int .i64 p, .int .i64 2, .int .i64 r]) ∧ w' = w)) (w : World) :
    Calls Tryz.prog 8 #[.int .i64 op] w fun e w' => ∃ B C cap, e = .returned (tv B 2 cap C 0) ∧ Hid (Later w w') ∧ w.heap.size ≤ B ∧ w.heap.size ≤ C ∧ B ≠ C ∧ Hid (IntsAt w' B [p, p]) ∧ Hid (IntsAt w' C [r]) := by
  go_enter Tryz.func8, Tryz.ntmps8
  go_wp2_with (go_at_call 21; refine (hS.out _).mono ?_; rintro e w' ⟨rfl, rfl⟩)
  refine bodyPost_ret (v := tv (w.heap.size + 1 + 1 + 1 + 1 + 1) 2 ((Question.appendCap 2 1 3).cut (w.tape w.drawn (Question.appendCap 2 1 3))) (w.heap.size + 1 + 1) 0) (by simp [results, Tryz.results8, go_sem]) rfl ?_
  refine ⟨_, _, _, rfl, (by repeat first | exact Lz _ | apply La | apply Lv | apply Ln | apply Ld), ?_, ?_, ?_, ints_at (two_zero p p _) (Ld (Lz _)) ?_, ints_at (one_int r) (Ld (La (La (La (Lz _))))) ?_⟩
  all_goals (first | (simp; done) | (simp; omega) | omega)
theorem rtype_any (op : Int) (h : 69 ≤ op ∧ op ≤ 191) (w : World) :
    Calls Tryz.prog 8 #[.int .i64 op] w fun e w' => ∃ B C cap c, e = .returned (tv B c cap C 0) ∧ Hid (Later w w') ∧ w.heap.size ≤ B ∧ w.heap.size ≤ C ∧ B ≠ C ∧ Hid ((c : Int) = kC op ∧ IntsAt w' B (List.replicate c (kP op)) ∧ IntsAt w' C [kR op]) := by
  by_cases h2 : op ≤ 166
  · have hs := kinds_any op h.1 h2
    rcases kC_or op with hc | hc
    · rw [hc] at hs ⊢
      refine (rtype_1 op _ _ h.1 h2 hs w).mono ?_
      rintro e w' ⟨B, C, cap, rfl, h1, h2, h3, h4, h5, h6⟩
      exact ⟨B, C, cap, 1, rfl, h1, h2, h3, h4, rfl, h5, h6⟩
    · rw [hc] at hs ⊢
      refine (rtype_2 op _ _ h.1 h2 hs w).mono ?_
      rintro e w' ⟨B, C, cap, rfl, h1, h2, h3, h4, h5, h6⟩
      exact ⟨B, C, cap, 2, rfl, h1, h2, h3, h4, rfl, h5, h6⟩
  · rw [kC_conv op (by omega)]
    refine (rtype_conv op _ _ (by omega) h.2 (rcv_any op (by omega) h.2) w).mono ?_
    rintro e w' ⟨B, C, cap, rfl, h1, h2, h3, h4, h5, h6⟩
    exact ⟨B, C, cap, 1, rfl, h1, h2, h3, h4, rfl, h5, h6⟩
end Go.Proofs.YtdfgcagbpndabaaGreatDoor
namespace Go.Proofs.YtdfgcagbpndabaaGreatDoor
open Go.RowKit Go.AM
theorem same0 (w : World) :
    RW Tryz.prog 26 #[.slice none 0 0, .slice none 0 0] w (.bool true) := by
  go_enter Tryz.func26, Tryz.ntmps26
  go_wp2
  refine wp_loop_rounds 1 ?_
  rw [rounds_succ]
  go_wp2
  go_ret
  exact ⟨rfl, (by repeat first | exact Lz _ | apply La | apply Lp | apply Lv | apply Ln | apply Ld)⟩
theorem same1 (p : Int) (B C cap cap2 : Nat) (w : World) (b0 : w.cell? ⟨B, 0, none⟩ = some (.int .i64 p)) (c0 : w.cell? ⟨C, 0, none⟩ = some (.int .i64 p)) (hB : B < w.heap.size) (hC : C < w.heap.size) :
    RW Tryz.prog 26 #[.slice (some ⟨B, 0, none⟩) 1 cap, .slice (some ⟨C, 0, none⟩) 1 cap2] w (.bool true) := by
  go_enter Tryz.func26, Tryz.ntmps26
  go_wp2
  refine wp_loop_rounds 2 ?_
  rw [rounds_succ]
  go_wp2_with fail
  refine wp_region_quiet_far (by kernel_rfl) (by kernel_rfl) ?_
  repeat (quiet_step (fail))
  refine wpQuiet_nil ?_
  rintro _ ⟨⟨bs0, n0⟩, rfl⟩
  go_wp2_with fail
  rw [rounds_succ]
  go_wp2
  go_ret
  exact ⟨rfl, (by repeat first | exact Lz _ | apply La | apply Lp | apply Lv | apply Ln | apply Ld)⟩
theorem same2 (p : Int) (B C cap cap2 : Nat) (w : World) (b0 : w.cell? ⟨B, 0, none⟩ = some (.int .i64 p)) (c0 : w.cell? ⟨C, 0, none⟩ = some (.int .i64 p)) (b1 : w.cell? ⟨B, 1, none⟩ = some (.int .i64 p)) (c1 : w.cell? ⟨C, 1, none⟩ = some (.int .i64 p)) (hB : B < w.heap.size) (hC : C < w.heap.size) :
    RW Tryz.prog 26 #[.slice (some ⟨B, 0, none⟩) 2 cap, .slice (some ⟨C, 0, none⟩) 2 cap2] w (.bool true) := by
  go_enter Tryz.func26, Tryz.ntmps26
  go_wp2
  refine wp_loop_rounds 3 ?_
  rw [rounds_succ]
  go_wp2_with fail
  refine wp_region_quiet_far (by kernel_rfl) (by kernel_rfl) ?_
  repeat (quiet_step (fail))
  refine wpQuiet_nil ?_
  rintro _ ⟨⟨bs0, n0⟩, rfl⟩
  go_wp2_with fail
  rw [rounds_succ]
  go_wp2_with fail
  refine wp_region_quiet_far2 (by kernel_rfl) (by kernel_rfl) ?_
  repeat (quiet_step (fail))
  refine wpQuiet_nil ?_
  rintro _ ⟨⟨bs1, n1⟩, rfl⟩
  go_wp2_with fail
  rw [rounds_succ]
  go_wp2
  go_ret
  exact ⟨rfl, (by repeat first | exact Lz _ | apply La | apply Lp | apply Lv | apply Ln | apply Ld)⟩
def SIb (w : World) (x u : Value) : Prop := ∀ w', Later w w' → Calls Tryz.prog 26 #[x, u] w' fun e w2 => e = .returned (.bool true) ∧ Later w' w2
theorem stype (a b c d e f g h : Nat) (A B C D : Option Addr) (w : World) (h1 : SIb w (.slice A a b) (.slice C c d)) (h2 : SIb w (.slice B g h) (.slice D e f)) :
    RW Tryz.prog 11 #[.agg #[.slice A a b, .slice B g h], .agg #[.slice C c d, .slice D e f]] w (.bool true) := by
  go_enter Tryz.func11, Tryz.ntmps11
  go_wp2_with (first | (go_at_call_of 26 A; refine (h1 _ (by repeat first | exact Lz _ | apply La | apply Lp | apply Lv | apply Ln | apply Ld)).mono ?_; rintro e w' ⟨rfl, bs, n, rfl⟩) | (go_at_call_of 26 B; refine (h2 _ (by repeat first | exact Lz _ | apply La | apply Lp | apply Lv | apply Ln | apply Ld)).mono ?_; rintro e w' ⟨rfl, bs, n, rfl⟩))
  go_ret
  exact ⟨rfl, (by repeat first | exact Lz _ | apply La | apply Lp | apply Lv | apply Ln | apply Ld)⟩
end Go.Proofs.YtdfgcagbpndabaaGreatDoor
