/- 'awake' of package peloruslaw14, by the faces of package instr. -/
import Derived.Test.YtkdfmgdadnlnlaaIVF
import Derived.Test.YtkdfmgdadnlnlaaXQ
set_option linter.unusedVariables false
set_option linter.unusedSimpArgs false
set_option maxRecDepth 100000
set_option maxHeartbeats 4000000
namespace Go.Proofs.Ytkdfmgdadnlnlaa
open Go.RowKit
theorem own : ownKnob Try.prog.godebug = none := by kernel_rfl
/-- the faces by what they answer -/
theorem iput_is (f : Fs) (ho : f.Ok) (hn : f.len * 112 ≤ 140737488351232) (b : List Int) (c : Int) (h : puR f = (b, c)) (n : Nat) (hl : n = f.len) (Z : Nat → Prop) (w : World) (A : Option Addr) (k : Nat) (hT : Tr Z w A f) :
    Calls Try.prog 10 #[.slice A n k] w fun e w' => e = .returned (.tuple #[.string (strOfNums b), .int .i64 c]) ∧ Hid (Later w w') := by
  subst hl
  have := iput_any f ho hn Z w A k hT
  rwa [h] at this
theorem iget_is (s : ByteArray) (at_ : Int) (f : Fs) (to e : Int) (h : unI s at_ = (f, to, e)) (hs : s.size < 9223372036854775000) (ha : -9223372036854775808 ≤ at_ ∧ at_ ≤ 9223372036854775807) (w : World) :
    Calls Try.prog 17 #[.string s, .int .i64 at_] w fun e' w' => ∃ A c, e' = .returned (.tuple #[.slice A f.len c, .int .i64 to, .int .i64 e]) ∧ Hid (Tr (w.heap.size ≤ ·) w' A f) ∧ Hid (Later w w') := by
  have := iget_any s hs at_ ha w
  rw [h] at this
  exact this.mono fun e' w' ⟨A, c, e1, e2, e3⟩ => ⟨A, c, e1, e2.out.mono (fun k hk => hk.1), e3⟩
theorem icount_is (f : Fs) (ho : f.Ok) (hn : f.len * 112 ≤ 140737488351232) (m : Nat) (h : (al f 0 []).length = m) (n : Nat) (hl : n = f.len) (Z : Nat → Prop) (w : World) (A : Option Addr) (k : Nat) (hT : Tr Z w A f) :
    Calls Try.prog 13 #[.slice A n k] w fun e w' => e = .returned (.int .i64 (m : Nat)) ∧ Hid (Later w w') := by
  subst hl
  have := icount_any f ho hn Z w A k hT
  rwa [h] at this
theorem isame_is (f : Fs) (ho : f.Ok) (hn : f.len * 112 ≤ 140737488351232) (n m : Nat) (hl : n = f.len) (hm : m = f.len) (Z Y : Nat → Prop) (w : World) (A B : Option Addr) (c c' : Nat) (hA : Tr Z w A f) (hB : Tr Y w B f) :
    Calls Try.prog 15 #[.slice A n c, .slice B m c'] w fun e w' => e = .returned (.bool true) ∧ Hid (Later w w') := by
  subst hl hm
  exact sameI_any f.sz f (Nat.le_refl _) ho hn Z Y w A B c c' hA hB
theorem iput_lit (f : Fs) (ho : f.Ok) (hn : f.len * 112 ≤ 140737488351232) (b : List Int) (c : Int) (t : ByteArray) (ht : strOfNums b = t) (h : puR f = (b, c)) (n : Nat) (hl : n = f.len) (Z : Nat → Prop) (w : World) (A : Option Addr) (k : Nat) (hT : Tr Z w A f) :
    Calls Try.prog 10 #[.slice A n k] w fun e w' => e = .returned (.tuple #[.string t, .int .i64 c]) ∧ Hid (Later w w') := by
  subst ht
  exact iput_is f ho hn b c h n hl Z w A k hT
theorem calls_world {P : Program} {f : FuncId} {args : Array Value} {W0 : World} {Q : Ending → World → Prop} (h : ∀ W, W = W0 → Calls P f args W Q) : Calls P f args W0 Q := h W0 rfl
/-- a literal of one instruction -/
theorem tr_lit {Z : Nat → Prop} {W W' : World} {op a b bi ty : Int} {ls : List Int} {bo el : Fs} {LA B E : Option Addr} {lc bc ec m1 m2 m3 : Nat} (e1 : m1 = ls.length) (e2 : m2 = bo.len) (e3 : m3 = el.len)
    (hl : Later (W.alloc (.cells #[.int .i64 op, .int .i64 a, .int .i64 b, .int .i64 bi, .int .i64 ty, .slice LA m1 lc, .slice B m2 bc, .slice E m3 ec] 47)) W')
    (h1 : Lq Z W' LA ls) (h2 : Tr Z W' B bo) (h3 : Tr Z W' E el) (hz : Z W.heap.size) : Tr Z W' (some ⟨W.heap.size, 0, none⟩) (.cons op a b bi ty ls bo el .nil) := by
  subst e1 e2 e3
  exact Or.inr ⟨_, _, rfl, hz, At.cons (LA := LA) (B := B) (E := E) (lc := lc) (bc := bc) (ec := ec) (hl.cell_of (by simp [go_sem])) (hl.cell_of (by simp [go_sem])) (hl.cell_of (by simp [go_sem])) (hl.cell_of (by simp [go_sem])) (hl.cell_of (by simp [go_sem])) (hl.cell_of (by simp [go_sem])) (hl.cell_of (by simp [go_sem])) (hl.cell_of (by simp [go_sem])) h1 h2 h3 ⟨[], fun j u hu => by simp at hu, rfl⟩⟩
def fsA : Fs := .cons 4 0 0 0 127 [] (.cons 65 0 0 4294967295 0 [] .nil .nil .nil) (.cons 32 3 0 0 0 [] .nil .nil .nil) .nil
def fs6 : Fs := .cons 6 0 0 0 0 [] .nil .nil .nil
theorem okA : fsA.Ok := by simp [fsA, Fs.Ok, i64, Fs.len]
theorem ok6 : fs6.Ok := by simp [fs6, Fs.Ok, i64, Fs.len]
theorem puA : puR fsA = ([4, 127, 65, 127, 5, 32, 3, 11, 11], 0) := by
  have h : (ck fsA 0 0).1 = 0 := by simp [ck, fsA, mayP, fo, Fs.len]
  unfold puR
  rw [if_pos h]
  rfl
theorem pu6 : puR fs6 = ([], 1400) := by
  have h : (ck fs6 0 0).1 = 1400 := by simp [ck, fs6, mayP, fo, Fs.len]
  unfold puR
  rw [h]
  rfl
theorem awake_any (w : World) :
    Calls Try.prog 16 #[] w fun e w' => e = .returned (.bool true) ∧ Later w w' := by
  go_enter Try.func16, Try.ntmps16
  go_wp2_with fail
  refine calls_world ?_
  intro W3 hW3
  have L3 : Later w W3 := by subst hW3; exact (by repeat first | exact Lz _ | apply La)
  have T3 : Tr (fun _ => True) W3 (some ⟨w.heap.size + 1 + 1, 0, none⟩) fsA := by
    have := tr_lit (W' := W3) (Z := fun _ => True) (ls := []) (bo := .cons 65 0 0 4294967295 0 [] .nil .nil .nil) (el := .cons 32 3 0 0 0 [] .nil .nil .nil) rfl rfl rfl (by rw [hW3]; exact Lz _) (lq_nil _ _ _) (by
      exact tr_lit (W' := W3) (Z := fun _ => True) (W := w) (ls := []) (bo := .nil) (el := .nil) rfl rfl rfl (by rw [hW3]; exact La (La (Lz _))) (lq_nil _ _ _) (Or.inl rfl) (Or.inl rfl) trivial) (by
      have := tr_lit (W' := W3) (Z := fun _ => True) (ls := []) (bo := .nil) (el := .nil) rfl rfl rfl (by rw [hW3]; exact La (Lz _)) (lq_nil _ _ _) (Or.inl rfl) (Or.inl rfl) trivial
      simpa using this) trivial
    simpa [fsA] using this
  clear hW3
  replace L3 : Hid (Later w W3) := L3
  replace T3 : Hid (Tr (fun _ => True) W3 (some ⟨w.heap.size + 1 + 1, 0, none⟩) fsA) := T3
  refine (iput_lit fsA okA (by decide) _ _ ⟨#[4, 127, 65, 127, 5, 32, 3, 11, 11]⟩ rfl puA 1 rfl _ W3 _ _ T3.out).mono ?_
  rintro e w1 ⟨rfl, l1⟩
  go_wp2_with fail
  refine (iget_is _ 1 fsA 10 0 (by kernel_rfl) (by decide) (by decide) _).mono ?_
  rintro e w2 ⟨A2, c2, rfl, T2, l2⟩
  go_wp2_with fail
  refine (iget_is _ 0 .nil 0 1403 (by kernel_rfl) (by decide) (by decide) _).mono ?_
  rintro e w4 ⟨A4, c4, rfl, T4, l4⟩
  go_wp2_with fail
  have T6 := tr_lit (W := w4) (W' := w4.alloc (.cells #[.int .i64 6, .int .i64 0, .int .i64 0, .int .i64 0, .int .i64 0, .slice none 0 0, .slice none 0 0, .slice none 0 0] 47)) (Z := fun _ => True) (ls := []) (bo := .nil) (el := .nil) rfl rfl rfl (Lz _) (lq_nil _ _ _) (Or.inl rfl) (Or.inl rfl) trivial
  refine (iput_lit fs6 ok6 (by decide) _ _ ⟨#[]⟩ rfl pu6 1 rfl _ _ _ _ T6).mono ?_
  rintro e w5 ⟨rfl, l5⟩
  clear T6
  have L5 : Hid (Later w1 w5) := (l2.out.trans l4.out).trans ((La (Lz _)).trans l5.out)
  have L5' : Hid (Later W3 w5) := l1.out.trans L5.out
  have T2' : Hid (Tr (fun x => w1.heap.size ≤ x) w5 A2 fsA) := T2.out.later (l4.out.trans ((La (Lz _)).trans l5.out))
  have T3' : Hid (Tr (fun _ => True) w5 (some ⟨w.heap.size + 1 + 1, 0, none⟩) fsA) := T3.out.later L5'.out
  have L0 : Hid (Later w w5) := L3.out.trans L5'.out
  clear L5 L5' T2 T3 T4 l1 l2 l4 l5 L3
  go_wp2_with (first | (go_at_call 12; refine (num_any _ _).mono ?_; rintro e w' ⟨rfl, hw⟩; have hw := hw.symm; subst hw) | (go_at_call 15; refine (isame_is fsA okA (by decide) _ _ rfl rfl _ _ _ _ _ _ _ T2'.out T3'.out).mono ?_; clear T2'; rintro e w6 ⟨rfl, l6⟩) | (go_at_call 13; refine (icount_is fsA okA (by decide) 3 (by kernel_rfl) _ rfl _ _ _ _ (T3'.out.later l6.out)).mono ?_; rintro e w7 ⟨rfl, l7⟩))
  go_ret
  exact ⟨rfl, (L0.out.trans l6.out).trans l7.out⟩
/-- a literal of bytes as a text -/
theorem conv_n (d : List Int) (hd : ∀ b ∈ d, 0 ≤ b ∧ b < 256) (n : Nat) (hn : d.length = n) (W : World) : (convert 53 9 (.slice (some ⟨W.heap.size, 0, none⟩) n n)).run Try.prog (W.alloc (.cells (bys d).toArray 5)) = .ok (.string (strOfNums d)) (W.alloc (.cells (bys d).toArray 5)) := by
  subst hn
  have hB : Lib.Bytes (W.alloc (.cells (bys d).toArray 5)) W.heap.size 0 (strOfNums d) := Lib.bytes_of_nums rfl hd (fun i hi => by
    rw [Nat.zero_add, cell_of_row _ _ _ _ _ _ (heap_alloc_new W _)]
    simp [bys, List.getD, hi])
  have := Lib.run_convert_whole (P := Try.prog) _ 53 5 9 Try.underlying53 Try.underlying5 Try.underlying9 W.heap.size 0 _ hB d.length
  rwa [strOfNums_size] at this
theorem str_app (a b : List Int) : strOfNums a ++ strOfNums b = strOfNums (a ++ b) := by
  apply ByteArray.ext
  rw [ByteArray.data_append]
  simp [strOfNums]
end Go.Proofs.Ytkdfmgdadnlnlaa
