/- Two modules that are alike (peloruslaw0: SameType, same1, SameModule), over this seat. -/
import Derived.Test.YtonnmbmdmkmhmaaEA
import Derived.Test.YtonnmbmdmkmhmaaID
set_option linter.unusedVariables false
set_option linter.unusedSimpArgs false
set_option maxRecDepth 100000
set_option maxHeartbeats 8000000
namespace Go.Proofs.Ytonnmbmdmkmhmaa
open Go.RowKit
theorem itc_get {Z : Nat → Prop} {w : World} : ∀ {fs : List Fd} {L : List Value}, itc Z w fs L → ∀ (n : Nat), itc Z w (fs.drop n) (L.drop n)
  | _, _, h, 0 => h
  | [], L, h, n + 1 => by
    obtain rfl : L = [] := h
    simpa using itc_get (fs := []) (L := []) (show ([] : List Value) = [] from rfl) n
  | x :: r, L, h, n + 1 => by
    obtain ⟨v, L', rfl, _, h2⟩ := h
    exact itc_get h2 n
theorem itc_take {Z : Nat → Prop} {w : World} : ∀ {fs : List Fd} {L : List Value}, itc Z w fs L → ∀ (n : Nat), itc Z w (fs.take n) (L.take n)
  | _, _, h, 0 => rfl
  | [], L, h, n + 1 => by
    obtain rfl : L = [] := h
    rfl
  | x :: r, L, h, n + 1 => by
    obtain ⟨v, L', rfl, h1, h2⟩ := h
    exact ⟨v, L'.take n, rfl, h1, itc_take h2 n⟩
theorem flat_part {α : Type} (f : α → List Fd) (k : Nat) (hf : ∀ x, (f x).length = k) : ∀ (xs : List α) (i : Nat) (x : α), xs[i]? = some x → ((xs.flatMap f).drop (i * k)).take k = f x
  | [], i, x, h => by simp at h
  | y :: xs, 0, x, h => by
    obtain rfl : y = x := by simpa using h
    rw [List.flatMap_cons, Nat.zero_mul, List.drop_zero, List.take_append_of_le_length (by rw [hf]; exact Nat.le_refl _), List.take_of_length_le (by rw [hf]; exact Nat.le_refl _)]
  | y :: xs, i + 1, x, h => by
    rw [List.flatMap_cons, show (i + 1) * k = (f y).length + i * k by rw [hf, Nat.add_mul, Nat.one_mul, Nat.add_comm], List.drop_append, Nat.add_sub_cancel_left, List.drop_of_length_le (by omega), List.nil_append]
    exact flat_part f k hf xs i x (by simpa using h)
/-- a struct of a row -/
theorem Rt.at {α : Type} {f : α → List Fd} {Z : Nat → Prop} {w : World} {A : Option Addr} {xs : List α} (k : Nat) (hf : ∀ x, (f x).length = k) (h : Rt f Z w A xs) (i : Nat) (hi : i < xs.length) :
    ∃ g o c, A = some ⟨g, o, none⟩ ∧ Z g ∧ (∀ (t : Nat) (u : Value), c[t]? = some u → w.cell? ⟨g, o + i * k + t, none⟩ = some u) ∧ itc Z w (f xs[i]) c := by
  rcases h with h | ⟨g, o, L, e, hz, hc, hi2⟩
  · rw [h] at hi
    exact absurd hi (by simp)
  · refine ⟨g, o, (L.drop (i * k)).take k, e, hz, fun t u ht => ?_, ?_⟩
    · have h2 : (L.drop (i * k))[t]? = some u := by
        rw [List.getElem?_take] at ht
        split at ht
        · exact ht
        · cases ht
      rw [List.getElem?_drop] at h2
      rw [Nat.add_assoc]
      exact hc _ _ h2
    · have := itc_take (itc_get hi2 (i * k)) k
      rwa [flat_part f k hf xs i xs[i] (List.getElem?_eq_getElem hi)] at this
theorem stype_any (Z Y : Nat → Prop) (x : List Int × List Int) (hx : x.1.length ≤ 9223372036854775807 ∧ x.2.length ≤ 9223372036854775807) (w : World) (A B C D : Option Addr) (a b c d : Nat) (h1 : Lq Z w A x.1) (h2 : Lq Z w B x.2) (h3 : Lq Y w C x.1) (h4 : Lq Y w D x.2) :
    Calls Try.prog 12 #[.agg #[.slice A x.1.length a, .slice B x.2.length b], .agg #[.slice C x.1.length c, .slice D x.2.length d]] w fun e w' => e = .returned (.bool true) ∧ Hid (Later w w') := by
  obtain ⟨p, q⟩ := x
  simp only [] at *
  have s1 : Hid (∀ W, Later w W → Calls Try.prog 26 #[.slice A p.length a, .slice C p.length c] W fun e w' => e = .returned (.bool true) ∧ Later W w') := fun W hW => same_any A C p.length a c _ hx.1 W (h1.later hW).1 (h3.later hW).1
  have s2 : Hid (∀ W, Later w W → Calls Try.prog 26 #[.slice B q.length b, .slice D q.length d] W fun e w' => e = .returned (.bool true) ∧ Later W w') := fun W hW => same_any B D q.length b d _ hx.2 W (h2.later hW).1 (h4.later hW).1
  clear h1 h2 h3 h4 hx
  generalize p.length = n at *
  generalize q.length = k at *
  go_enter Try.func12, Try.ntmps12
  go_wp2_with fail
  refine (s1.out _ (La (La (Lz _)))).mono ?_
  clear s1
  rintro e w1 ⟨rfl, l1⟩
  have k1 : w1.cell? ⟨w.heap.size, 1, none⟩ = some (.slice B k b) := l1.cell_of (by simp [go_sem])
  have k2 : w1.cell? ⟨w.heap.size + 1, 1, none⟩ = some (.slice D k d) := l1.cell_of (by simp [go_sem])
  have m1 := cell_lt k1
  have m2 := cell_lt k2
  have L1 : Hid (Later w w1) := (La (La (Lz _))).trans l1
  clear l1
  go_wp2_with fail
  refine (s2.out _ L1.out).mono ?_
  clear s2
  rintro e w2 ⟨rfl, l2⟩
  replace l2 : Hid (Later w1 w2) := l2
  go_wp2_with fail
  go_ret
  exact ⟨rfl, L1.out.trans l2.out⟩
end Go.Proofs.Ytonnmbmdmkmhmaa
