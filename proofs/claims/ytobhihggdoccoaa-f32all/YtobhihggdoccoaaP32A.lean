/- Contracts of package f32n over this seat's translation: the library's doors, floats and their bits. -/
import Derived.Test.YtobhihggdoccoaaRows
import Derived.WalkKit
import Derived.ProofKit
import Derived.Deep.QuietTactic
import Derived.BigQuiet
import Derived.Laws.Externs
import Derived.Laws.FloatArith
import Derived.Test.YtobhihggdoccoaaFar
import Derived.Test.YtobhihggdoccoaaFData
namespace Go.Proofs.Ytobhihggdoccoaa
open Go.RowKit
set_option linter.unusedVariables false

theorem run_frombits (x : Nat) (w : World) : (callFunc 49 #[.int .u32 (x : Int)]).run Try.prog w = .ok (.value (.float .f32 x)) w := by
  rw [run_callFunc_extern (e := Extern.MathFloatBits.float32frombits) Try.func49 (by kernel_rfl) (by kernel_rfl) (by kernel_rfl) (by kernel_rfl)]
  rfl
theorem run_bits (x : Nat) (w : World) : (callFunc 43 #[.float .f32 x]).run Try.prog w = .ok (.value (.int .u32 (x : Int))) w := by
  rw [run_callFunc_extern (e := Extern.MathFloatBits.float32bits) Try.func43 (by kernel_rfl) (by kernel_rfl) (by kernel_rfl) (by kernel_rfl)]
  rfl
theorem floatOf_any (x : Nat) (h : (x : Int) < 4294967296) (w : World) :
    Calls Try.prog 23 #[.int .i64 (x : Int)] w fun e w' => e = .returned (.float .f32 x) ∧ w' = w := by
  have h1 := run_frombits x
  have h2 : IntKind.u32.wrap (x : Int) = (x : Int) := by rw [IntKind.wrap_u32]; omega
  go_enter Try.func23, Try.ntmps23
  go_wp2
  go_ret
  exact ⟨rfl, rfl⟩
end Go.Proofs.Ytobhihggdoccoaa
