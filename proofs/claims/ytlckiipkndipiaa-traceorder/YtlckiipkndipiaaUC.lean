/- Over this seat's translation: lists of values and of bools; values held against each other, spoiled (package peloruslaw0). -/
import Derived.Test.YtlckiipkndipiaaUB
set_option linter.unusedVariables false
set_option linter.unusedSimpArgs false
set_option maxRecDepth 100000
set_option maxHeartbeats 4000000
namespace Go.Proofs.Ytlckiipkndipiaa
open Go.RowKit
/-- bools as cells -/
def bs (f : Nat → Bool) (n : Nat) : List Value := (List.range n).map fun j => Value.bool (f j)
theorem bs_len (f : Nat → Bool) (n : Nat) : (bs f n).length = n := by simp [bs]
theorem bs_get (f : Nat → Bool) (n j : Nat) (h : j < n) : (bs f n)[j]? = some (.bool (f j)) := by simp [bs, h]
theorem bs_succ (f : Nat → Bool) (n : Nat) : bs f n ++ [.bool (f n)] = bs f (n + 1) := by simp [bs, List.range_succ]
theorem bs_congr {f g : Nat → Bool} {n : Nat} (h : ∀ i, i < n → f i = g i) : bs f n = bs g n := by
  unfold bs
  apply List.map_congr_left
  intro i hi
  rw [h i (List.mem_range.1 hi)]
/-- values as cells: types and bits -/
def vc (t b : Nat → Int) (j : Nat) : Int := if j % 2 = 0 then t (j / 2) else b (j / 2)
def vs (t b : Nat → Int) (n : Nat) : List Value := (List.range (n * 2)).map fun j => Value.int .i64 (vc t b j)
theorem vs_len (t b : Nat → Int) (n : Nat) : (vs t b n).length = n * 2 := by simp [vs]
theorem vs_get (t b : Nat → Int) (n j : Nat) (h : j < n * 2) : (vs t b n)[j]? = some (.int .i64 (vc t b j)) := by simp [vs, h]
theorem vc_0 (t b : Nat → Int) (j : Nat) : vc t b (j * 2) = t j := by unfold vc; rw [if_pos (by omega)]; congr 1; omega
theorem vc_1 (t b : Nat → Int) (j : Nat) : vc t b (j * 2 + 1) = b j := by unfold vc; rw [if_neg (by omega)]; congr 1; omega
theorem vs_0 (t b : Nat → Int) (n j : Nat) (h : j < n) : (vs t b n)[j * 2]? = some (.int .i64 (t j)) := by rw [vs_get t b n _ (by omega), vc_0]
theorem vs_1 (t b : Nat → Int) (n j : Nat) (h : j < n) : (vs t b n)[j * 2 + 1]? = some (.int .i64 (b j)) := by rw [vs_get t b n _ (by omega), vc_1]
theorem vs_succ (t b : Nat → Int) (n : Nat) : vs t b n ++ [.int .i64 (t n), .int .i64 (b n)] = vs t b (n + 1) := by
  unfold vs
  rw [show (n + 1) * 2 = n * 2 + 1 + 1 by omega, List.range_succ, List.range_succ]
  simp [vc_0, vc_1]
theorem vs_congr {t b t' b' : Nat → Int} {n : Nat} (h : ∀ i, i < n → t i = t' i ∧ b i = b' i) : vs t b n = vs t' b' n := by
  unfold vs
  apply List.map_congr_left
  intro i hi
  have := h (i / 2) (by have := List.mem_range.1 hi; omega)
  unfold vc
  split
  · rw [this.1]
  · rw [this.2]
theorem vs_one (t b : Nat → Int) (n : Nat) : ∀ u ∈ vs t b n, u.oneCell' = true := by
  intro u hu
  simp only [vs, List.mem_map] at hu
  obtain ⟨j, _, rfl⟩ := hu
  rfl
/-- a list's cells: n values from an address on -/
def Vst (w : World) (A : Option Addr) (n : Nat) (t b : Nat → Int) : Prop := n = 0 ∨ ∃ g o, A = some ⟨g, o, none⟩ ∧ ∀ j, j < n → w.cell? ⟨g, o + j * 2, none⟩ = some (.int .i64 (t j)) ∧ w.cell? ⟨g, o + j * 2 + 1, none⟩ = some (.int .i64 (b j))
theorem Vst.later {w w' : World} {A : Option Addr} {n : Nat} {t b : Nat → Int} (h : Vst w A n t b) (hl : Later w w') : Vst w' A n t b := by
  rcases h with h | ⟨g, o, hA, h⟩
  · exact Or.inl h
  · exact Or.inr ⟨g, o, hA, fun j hj => ⟨hl.cell_of (h j hj).1, hl.cell_of (h j hj).2⟩⟩
theorem fld_vst {lab : Nat → Nat} {tag : Nat} {w : World} {B : Nat} {A : Option Addr} {n cap : Nat} {t b : Nat → Int} (h : Fld lab tag w B 56 2 (.slice A n cap) n (vs t b n)) : Vst w A n t b := by
  by_cases h0 : n = 0
  · exact Or.inl h0
  · obtain ⟨g, rfl, _, _, _, _, _, hc⟩ := h.at_ (by omega)
    exact Or.inr ⟨g, 0, rfl, fun j hj => ⟨by rw [Nat.zero_add]; exact hc _ _ (vs_0 t b n j hj), by rw [Nat.zero_add]; exact hc _ _ (vs_1 t b n j hj)⟩⟩
theorem info_val : (Try.prog.info? 56).map (fun i => (i.zero, i.size, i.bytes)) = some (some (.agg #[.int .i64 0, .int .i64 0]), 2, 16) := by kernel_rfl
theorem val_parts : ∃ i, Try.prog.info? 56 = some i ∧ i.zero = some (.agg #[.int .i64 0, .int .i64 0]) ∧ i.size = 2 ∧ i.bytes = 16 := by
  have h := info_val
  cases hh : Try.prog.info? 56 with
  | none => rw [hh] at h; cases h
  | some i =>
    rw [hh] at h
    simp only [Option.map_some, Option.some.injEq, Prod.mk.injEq] at h
    exact ⟨i, rfl, h⟩
/-- two lists of the same values -/
theorem samev_any (A B : Option Addr) (n c d : Nat) (t b : Nat → Int) (hn : n ≤ 9223372036854775807) (w : World) (h1 : Hid (Vst w A n t b)) (h2 : Hid (Vst w B n t b)) :
    Calls Try.prog 13 #[.slice A n c, .slice B n d] w fun e w' => e = .returned (.bool true) ∧ Later w w' := by
  by_cases h0 : n = 0
  · subst h0
    go_enter Try.func13, Try.ntmps13
    go_wp2_with fail
    refine wp_loop_rounds 1 ?_
    rw [rounds_succ]
    go_wp2
    go_ret
    exact ⟨rfl, Lz _⟩
  · obtain ⟨g1, o1, rfl, k1⟩ := h1.out.resolve_left h0
    obtain ⟨g2, o2, rfl, k2⟩ := h2.out.resolve_left h0
    replace k1 : Hid _ := k1
    replace k2 : Hid _ := k2
    clear h1 h2
    go_enter Try.func13, Try.ntmps13
    go_wp2_with fail
    go_loopw [5] (fun i wr => ∃ j d : Nat, j ≤ n ∧ i = .int .i64 (j : Nat) ∧ wr = w.drewN d) (fun i _ => n - (intOf i).toNat)
    case atStart => exact ⟨0, 0, Nat.zero_le _, rfl, by simp [World.drewN]⟩
    case round =>
      obtain ⟨j, d, hj, rfl, rfl⟩ := hrel
      by_cases hlt : j < n
      · obtain ⟨a0, a1⟩ := k1.out j hlt
        obtain ⟨b0, b1⟩ := k2.out j hlt
        have hl1 : (j : Int) < (n : Int) := by omega
        go_wp2
        go_quiet (fail)
        go_wp2
        go_roundw
        case rel => exact ⟨j + 1, _, by omega, by go_num, rfl⟩
        case measure => simp [intOf]; omega
      · have hje : j = n := by omega
        subst hje
        go_wp2
        go_ret
        exact ⟨rfl, Ln (Lz _)⟩
/-- one's own row written over -/
theorem spoilv_any (g cap n m : Nat) (T : TypeId) (F : Nat → Value) (t b : Nat → Int) (hn : n ≤ 9223372036854775807) (hm : n * 2 ≤ m) (w : World) (hr : Hid (w.rowIs g T m F)) (hF : Hid (∀ i, i < n → F (i * 2 + 1) = .int .i64 (b i))) :
    Calls Try.prog 10 #[.slice (some ⟨g, 0, none⟩) n cap] w fun e w' => e = .returned (.tuple #[]) ∧ Turned g w w' := by
  go_enter Try.func10, Try.ntmps10
  go_wp2_with fail
  go_loopw [2] (fun i wr => ∃ (j : Nat) (G : Nat → Value), j ≤ n ∧ i = .int .i64 (j : Nat) ∧ Turned g w wr ∧ wr.rowIs g T m G ∧ (∀ i, j * 2 ≤ i → G i = F i)) (fun i _ => n - (intOf i).toNat)
  case atStart => exact ⟨0, F, Nat.zero_le _, rfl, Turned.refl hr.out, hr.out, fun i _ => rfl⟩
  case round =>
    obtain ⟨j, G, hj, rfl, ht, hR, hG⟩ := hrel
    replace ht : Hid (Turned g w wr) := ht
    replace hR : Hid (wr.rowIs g T m G) := hR
    replace hG : Hid (∀ i, j * 2 ≤ i → G i = F i) := hG
    by_cases hlt : j < n
    · have hc := hR.out.cell (i := j * 2 + 1) (by omega)
      rw [hG.out (j * 2 + 1) (by omega), hF.out j hlt] at hc
      have hfr := hR.out.frozen (j * 2 + 1)
      have hl1 : (j : Int) < (n : Int) := by omega
      go_wp2
      go_roundw
      case rel => exact ⟨j + 1, _, by omega, by go_num, ht.out.set hr.out _ _, hR.out.set (j * 2 + 1) _, fun i hi => by show (if i = j * 2 + 1 then _ else G i) = F i; rw [if_neg (by omega)]; exact hG.out i (by omega)⟩
      case measure => simp [intOf]; omega
    · have hje : j = n := by omega
      subst hje
      go_wp2
      go_end0
      exact ⟨rfl, ht.out⟩
end Go.Proofs.Ytlckiipkndipiaa
