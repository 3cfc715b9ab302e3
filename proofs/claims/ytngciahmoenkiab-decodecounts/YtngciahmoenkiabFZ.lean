/- A module that none is: what decode.Module answers with an error, held against the empty module; two answers of one module held against each other. -/
import Derived.Test.YtngciahmoenkiabFV
import Derived.Test.YtngciahmoenkiabFB
set_option linter.unusedVariables false
set_option linter.unusedSimpArgs false
set_option maxRecDepth 100000
set_option maxHeartbeats 8000000
namespace Go.Proofs.Ytngciahmoenkiab
open Go.RowKit
def DzP (W : World) (cc : Int) (e : Ending) (w' : World) : Prop := ∃ (A : Nat → Option Addr) (c : Nat → Nat), e = .returned (.tuple #[.agg #[.slice (A 0) 0 (c 0), .slice (A 1) 0 (c 1), .slice (A 2) 0 (c 2), .slice (A 3) 0 (c 3), .slice (A 4) 0 (c 4), .slice (A 5) 0 (c 5), .slice (A 6) 0 (c 6), .int .i64 0, .slice (A 8) 0 (c 8), .slice (A 9) 0 (c 9), .slice (A 10) 0 (c 10)], .int .i64 cc]) ∧ Hid (ModC (W.heap.size ≤ ·) w' (mdZ 0) [.slice (A 0) 0 (c 0), .slice (A 1) 0 (c 1), .slice (A 2) 0 (c 2), .slice (A 3) 0 (c 3), .slice (A 4) 0 (c 4), .slice (A 5) 0 (c 5), .slice (A 6) 0 (c 6), .int .i64 0, .slice (A 8) 0 (c 8), .slice (A 9) 0 (c 9), .slice (A 10) 0 (c 10)]) ∧ Hid (Later W w')
theorem dm_zero {s : ByteArray} {cc : Int} (hs : s.size < 9223372036854775000) (hr : unM s = (mdZ 0, cc)) (W : World) : Calls Try.prog 8 #[.string s] W (DzP W cc) := by
  refine (dm_is hs hr W).mono ?_
  rintro e w' ⟨A, c, rfl, C, l⟩
  exact ⟨A, c, rfl, C, l⟩
theorem same_zero {Z : Nat → Prop} {w2 : World} {A : Nat → Option Addr} {c : Nat → Nat} (C : Hid (ModC Z w2 (mdZ 0) [.slice (A 0) 0 (c 0), .slice (A 1) 0 (c 1), .slice (A 2) 0 (c 2), .slice (A 3) 0 (c 3), .slice (A 4) 0 (c 4), .slice (A 5) 0 (c 5), .slice (A 6) 0 (c 6), .int .i64 0, .slice (A 8) 0 (c 8), .slice (A 9) 0 (c 9), .slice (A 10) 0 (c 10)])) (W : World) (hW : Later w2 W) :
    Calls Try.prog 12 #[.agg #[.slice (A 0) 0 (c 0), .slice (A 1) 0 (c 1), .slice (A 2) 0 (c 2), .slice (A 3) 0 (c 3), .slice (A 4) 0 (c 4), .slice (A 5) 0 (c 5), .slice (A 6) 0 (c 6), .int .i64 0, .slice (A 8) 0 (c 8), .slice (A 9) 0 (c 9), .slice (A 10) 0 (c 10)], .agg #[.slice none 0 0, .slice none 0 0, .slice none 0 0, .slice none 0 0, .slice none 0 0, .slice none 0 0, .slice none 0 0, .int .i64 0, .slice none 0 0, .slice none 0 0, .slice none 0 0]] W fun e w' => e = .returned (.bool true) ∧ Later W w' :=
  smod_any (mdz_ok 0) (C.out.move fun k hk hl => ⟨hk, hW.block hl⟩) (ModC.zero (fun _ => True) W 0)
theorem same_two {Z Y : Nat → Prop} {m : Md} (hm : MdOk m) {w2 w3 : World} {A B : Nat → Option Addr} {c d : Nat → Nat} (C : Hid (ModC Z w2 m [.slice (A 0) m.ty.length (c 0), .slice (A 1) m.im.length (c 1), .slice (A 2) m.fu.length (c 2), .slice (A 3) m.ta.length (c 3), .slice (A 4) m.me.length (c 4), .slice (A 5) m.gl.length (c 5), .slice (A 6) m.ex.length (c 6), .int .i64 m.st, .slice (A 8) m.el.length (c 8), .slice (A 9) m.co.length (c 9), .slice (A 10) m.da.length (c 10)])) (D : Hid (ModC Y w3 m [.slice (B 0) m.ty.length (d 0), .slice (B 1) m.im.length (d 1), .slice (B 2) m.fu.length (d 2), .slice (B 3) m.ta.length (d 3), .slice (B 4) m.me.length (d 4), .slice (B 5) m.gl.length (d 5), .slice (B 6) m.ex.length (d 6), .int .i64 m.st, .slice (B 8) m.el.length (d 8), .slice (B 9) m.co.length (d 9), .slice (B 10) m.da.length (d 10)])) (W : World) (hW : Later w2 W) (hV : Later w3 W) :
    Calls Try.prog 12 #[.agg #[.slice (A 0) m.ty.length (c 0), .slice (A 1) m.im.length (c 1), .slice (A 2) m.fu.length (c 2), .slice (A 3) m.ta.length (c 3), .slice (A 4) m.me.length (c 4), .slice (A 5) m.gl.length (c 5), .slice (A 6) m.ex.length (c 6), .int .i64 m.st, .slice (A 8) m.el.length (c 8), .slice (A 9) m.co.length (c 9), .slice (A 10) m.da.length (c 10)], .agg #[.slice (B 0) m.ty.length (d 0), .slice (B 1) m.im.length (d 1), .slice (B 2) m.fu.length (d 2), .slice (B 3) m.ta.length (d 3), .slice (B 4) m.me.length (d 4), .slice (B 5) m.gl.length (d 5), .slice (B 6) m.ex.length (d 6), .int .i64 m.st, .slice (B 8) m.el.length (d 8), .slice (B 9) m.co.length (d 9), .slice (B 10) m.da.length (d 10)]] W fun e w' => e = .returned (.bool true) ∧ Later W w' :=
  smod_any hm (C.out.move fun k hk hl => ⟨hk, hW.block hl⟩) (D.out.move fun k hk hl => ⟨hk, hV.block hl⟩)
end Go.Proofs.Ytngciahmoenkiab
