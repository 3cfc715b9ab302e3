/- The faces of package instr, as the laws' walks take them. -/
import Derived.Test.YtkdfmgdadnlnlabHD
import Derived.Test.YtkdfmgdadnlnlabKE
import Derived.Test.YtkdfmgdadnlnlabRC
import Derived.Test.YtkdfmgdadnlnlabXN
import Derived.Test.YtkdfmgdadnlnlabXK
import Derived.Test.YtkdfmgdadnlnlabIP
import Derived.Test.YtkdfmgdadnlnlabIC
import Derived.Test.YtkdfmgdadnlnlabID
import Derived.Test.YtkdfmgdadnlnlabXP
set_option linter.unusedVariables false
namespace Go.Proofs.Ytkdfmgdadnlnlab
open Go.RowKit
theorem iput_any (f : Fs) (ho : f.Ok) (hn : f.len * 112 ≤ 140737488351232) (Z : Nat → Prop) (w : World) (A : Option Addr) (c : Nat) (hT : Tr Z w A f) :
    Calls Try.prog 8 #[.slice A f.len c] w fun e w' => e = .returned (.tuple #[.string (strOfNums (puR f).1), .int .i64 (puR f).2]) ∧ Hid (Later w w') := gi.iput_any f ho hn Z w A c hT
theorem iget_any (s : ByteArray) (hs : s.size < 9223372036854775000) (at_ : Int) (ha : -9223372036854775808 ≤ at_ ∧ at_ ≤ 9223372036854775807) (w : World) :
    Calls Try.prog 10 #[.string s, .int .i64 at_] w fun e w' => ∃ A c, e = .returned (.tuple #[.slice A (unI s at_).1.len c, .int .i64 (unI s at_).2.1, .int .i64 (unI s at_).2.2]) ∧ Hid (Tr (fun k => w.heap.size ≤ k ∧ Nf w' k) w' A (unI s at_).1) ∧ Hid (Later w w') := gi.iget_any s hs at_ ha w
theorem icount_any (f : Fs) (ho : f.Ok) (hn : f.len * 112 ≤ 140737488351232) (Z : Nat → Prop) (w : World) (A : Option Addr) (c : Nat) (hT : Tr Z w A f) :
    Calls Try.prog 13 #[.slice A f.len c] w fun e w' => e = .returned (.int .i64 ((al f 0 []).length : Nat)) ∧ Hid (Later w w') := rw.icount_any f ho hn Z w A c hT
end Go.Proofs.Ytkdfmgdadnlnlab
