/- What the laws of stage 15 share: a row's bytes as a text, a section, Module by its error. -/
import Derived.Test.YtngciahmoenkiabFA
import Derived.Test.YtngciahmoenkiabXS
set_option linter.unusedVariables false
set_option linter.unusedSimpArgs false
set_option maxRecDepth 100000
set_option maxHeartbeats 8000000
namespace Go.Proofs.Ytngciahmoenkiab
open Go.RowKit
theorem own : ownKnob Try.prog.godebug = none := by kernel_rfl
theorem wf_i64 {a : Int} (h : (Lit.int .i64 a).wf = true) : -9223372036854775808 ≤ a ∧ a ≤ 9223372036854775807 := by
  simp only [Lit.wf, IntKind.min, IntKind.max, IntKind.signed, IntKind.bits, Bool.and_eq_true, decide_eq_true_eq, if_true] at h
  omega
/-- Module's answer where only its error is looked at -/
def DcP (W : World) (cc : Int) (e : Ending) (w' : World) : Prop := ∃ (A : Nat → Option Addr) (n c : Nat → Nat) (st : Int), e = .returned (.tuple #[.agg #[.slice (A 0) (n 0) (c 0), .slice (A 1) (n 1) (c 1), .slice (A 2) (n 2) (c 2), .slice (A 3) (n 3) (c 3), .slice (A 4) (n 4) (c 4), .slice (A 5) (n 5) (c 5), .slice (A 6) (n 6) (c 6), .int .i64 st, .slice (A 8) (n 8) (c 8), .slice (A 9) (n 9) (c 9), .slice (A 10) (n 10) (c 10)], .int .i64 cc]) ∧ Hid (Later W w')
theorem dm_code {s : ByteArray} {cc : Int} (hs : s.size < 9223372036854775000) (hr : (unM s).2 = cc) (W : World) : Calls Try.prog 8 #[.string s] W (DcP W cc) := by
  obtain ⟨m, hm⟩ : ∃ m, unM s = (m, cc) := ⟨(unM s).1, by rw [← hr]⟩
  refine (dm_is hs hm W).mono ?_
  rintro e w' ⟨A, c, rfl, _, l⟩
  exact ⟨A, fun k => [m.ty.length, m.im.length, m.fu.length, m.ta.length, m.me.length, m.gl.length, m.ex.length, 0, m.el.length, m.co.length, m.da.length].getD k 0, c, m.st, rfl, l⟩
theorem conv_l (d : List Int) (hd : ∀ b ∈ d, 0 ≤ b ∧ b < 256) (n : Nat) (hn : d.length = n) {W W' : World} (hl : Later (W.alloc (.cells (bys d).toArray 5)) W') : (convert 39 9 (.slice (some ⟨W.heap.size, 0, none⟩) n n)).run Try.prog W' = .ok (.string (strOfNums d)) W' := by
  subst hn
  have hB : Lib.Bytes W' W.heap.size 0 (strOfNums d) := Lib.bytes_of_nums rfl hd (fun i hi => by
    rw [Nat.zero_add, hl.cell (by simp), cell_of_row _ _ _ _ _ _ (heap_alloc_new W _)]
    simp [bys, List.getD, hi])
  have := Lib.run_convert_whole (P := Try.prog) _ 39 5 9 Try.underlying39 Try.underlying5 Try.underlying9 W.heap.size 0 _ hB d.length
  rwa [strOfNums_size] at this
theorem lebL_max (x : Int) : (lebL x).length ≤ 10 := lebF_len 9 (x % 18446744073709551616)
/-- how a module begins -/
abbrev hd8 : ByteArray := ⟨#[0, 97, 115, 109, 1, 0, 0, 0]⟩
/-- a section: its number, its size, its bytes -/
def secB (id : Int) (b : ByteArray) : ByteArray := strOfNums [id] ++ strOfNums (lebL (b.size : Int)) ++ b
theorem section_any (id : Nat) (hid : id < 256) (b : ByteArray) (hb : b.size < 9223372036854775000) (w : World) : Calls Try.prog 9 #[.int .i64 (id : Int), .string b] w fun e w' => e = .returned (.string (secB (id : Int) b)) ∧ Later w w' := by
  have hl : Hid (∀ W : World, Calls Try.prog 11 #[.int .i64 (b.size : Int)] W fun e w' => e = .returned (.string (strOfNums (lebL (b.size : Int)))) ∧ Later W w') := fun W => leb_any (b.size : Int) W
  have cv : ∀ (W : World) (g : Nat), g = W.heap.size → (convert 39 9 (.slice (some ⟨g, 0, none⟩) 1 1)).run Try.prog (W.alloc (.cells #[.int .u8 (id : Int)] 5)) = .ok (.string (strOfNums [(id : Int)])) (W.alloc (.cells #[.int .u8 (id : Int)] 5)) := fun W g hg => by
    subst hg
    exact conv_l [(id : Int)] (by simp; omega) 1 rfl (Lz _)
  have cd : ∀ (W : World) (g : Nat), g = W.heap.size → (convert 39 9 (.slice (some ⟨g, 0, none⟩) 1 1)).run Try.prog ((W.alloc (.cells #[.int .u8 (id : Int)] 5)).drew) = .ok (.string (strOfNums [(id : Int)])) ((W.alloc (.cells #[.int .u8 (id : Int)] 5)).drew) := fun W g hg => by
    subst hg
    exact conv_l [(id : Int)] (by simp; omega) 1 rfl (Ld (Lz _))
  have cl : Hid (∀ W W' : World, Later (W.alloc (.cells #[.int .u8 (id : Int)] 5)) W' → (convert 39 9 (.slice (some ⟨W.heap.size, 0, none⟩) 1 1)).run Try.prog W' = .ok (.string (strOfNums [(id : Int)])) W') := fun W W' h => conv_l [(id : Int)] (by simp; omega) 1 rfl h
  have hw8 : IntKind.u8.wrap (id : Int) = (id : Int) := by rw [IntKind.wrap_u8]; omega
  have z1 : (strOfNums [(id : Int)]).size = 1 := strOfNums_size _
  have z2 : (strOfNums (lebL (b.size : Int))).size ≤ 10 := by rw [strOfNums_size]; exact lebL_max _
  have c1 : ¬ 9223372036854775807 < (strOfNums [(id : Int)]).size + (strOfNums (lebL (b.size : Int))).size := by omega
  have c2 : ¬ 9223372036854775807 < (strOfNums [(id : Int)]).size + (strOfNums (lebL (b.size : Int))).size + b.size := by omega
  have c3 : ¬ 9223372036854775807 < (strOfNums [(id : Int)] ++ strOfNums (lebL (b.size : Int))).size + b.size := by rw [ByteArray.size_append]; omega
  clear z1 z2 hb
  unfold secB
  generalize strOfNums [(id : Int)] = S1 at *
  generalize strOfNums (lebL (b.size : Int)) = S2 at *
  go_enter Try.func9, Try.ntmps9
  go_wp2_with fail
  go_region_law (go_simp; go_at_call 11; refine (hl.out _).mono ?_; rintro e1 w1 ⟨rfl, l1⟩; have L1 : Hid (Later w w1) := (by first | exact (Ld (La (Lz _))).trans l1 | exact (Ld (Lz _)).trans l1 | exact (La (Ld (Lz _))).trans l1); first | (have cw := cl.out w w1 ((Ld (Lz _)).trans l1)) | skip; clear l1)
  all_goals
    clear cv cd cl
    go_simp
    go_wp2_with fail
    go_ret
    exact ⟨rfl, by first | exact L1.out | exact La L1.out⟩
end Go.Proofs.Ytngciahmoenkiab
