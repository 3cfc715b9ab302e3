/- A load among blocks of the caller's own; the document's sizes. -/
import Derived.Test.YtbbjbgbpjhhcoaaDoorML
set_option linter.unusedVariables false
set_option linter.unusedSimpArgs false
set_option maxRecDepth 100000
set_option maxHeartbeats 4000000
namespace Go.Proofs.YtbbjbgbpjhhcoaaDoor
open Go.RowKit Go.BY
theorem st_load_l {w0 w : World} {p q : Nat} {top : Int} {f : Nat → Nat} (h : St w0 w p q top f) (k a o : Nat) (op ai oi R : Int) (hop : op = ((40 + k : Nat) : Int)) (ha : ai = (a : Int)) (ho : oi = (o : Int)) (hk : k < 14) (h1 : a < 4294967296) (h2 : o < 4294967296) (hfit : a + o + (ldAt k).1 ≤ q * 65536)
    (hR : lv (ldAt k).1 (ldAt k).2.1 (ldAt k).2.2 (wd f (a + o) (ldAt k).1) = R) :
    Calls Tryd.prog 15 #[.pointer (some ⟨p, 0, none⟩), .int .i64 op, .int .i64 ai, .int .i64 oi] w fun e w' => e = .returned (.tuple #[.int .i64 R, .int .i64 0]) ∧ St w0 w' p q top f ∧ Hid (Later w w') := by
  subst hop ha ho hR
  obtain ⟨b, _, _, _, _, h5, _⟩ := id h
  exact (load_in _ p b _ k a o top f hk h1 h2 w h.tabs h5 hfit).mono fun e w' hh => ⟨hh.1, h.later hh.2, hh.2⟩
end Go.Proofs.YtbbjbgbpjhhcoaaDoor
