/- package instr: why a list is refused (fault). -/
import Derived.Test.YtngciahmoenkiacGD
import Derived.Test.YtngciahmoenkiacXT
import Derived.Test.YtngciahmoenkiacRC
import Derived.Test.YtngciahmoenkiacXI
set_option linter.unusedVariables false
set_option linter.unusedSimpArgs false
set_option maxRecDepth 100000
set_option maxHeartbeats 8000000
namespace Go.Proofs.Ytngciahmoenkiac.gi
open Go.RowKit Go.Shelf
attribute [local go_sem] Oper.semAt_some
theorem wds_iff (ls : List Int) : wds ls = true ↔ ∀ x ∈ ls, Wd x := by
  unfold wds
  rw [List.all_eq_true]
  simp only [wrd, decide_eq_true_eq, Wd]
theorem may_any (w : World) (g o : Nat) (op a b bi ty : Int) (LA : Option Addr) (ls : List Int) (lc : Nat) (B : Option Addr) (nb bc : Nat) (E : Option Addr) (ne ec : Nat) (h : Ic w g o op a b bi ty LA ls.length lc B nb bc E ne ec) (hS : Lst w LA ls.length (fun j => ls.getD j 0)) :
    Calls Try.prog 67 #[.pointer (some ⟨g, o, none⟩)] w fun e w' => ∃ r : Bool, e = .returned (.bool r) ∧ Hid (r = true ↔ mayP op a b bi ty ls nb ne) ∧ Hid (Later w w') := by
  rcases lay_inv op with ⟨hl, hf⟩ | ⟨hl, hf⟩ | ⟨hl, hf⟩ | ⟨hl, hf⟩ | ⟨hl, hf⟩ | ⟨hl, hf⟩ | ⟨hl, hf⟩ | ⟨hl, hf⟩ | ⟨hl, hf⟩ | ⟨hl, hf, ho⟩ | ⟨hl, hf, ho⟩ | ⟨hl, hf, ho⟩ | ⟨hl, hf, ho⟩
  · exact (mb_0 w g o op a b bi ty LA ls lc B nb bc E ne ec h hl).mono fun e w' hh => ⟨_, hh.1, by unfold Hid mayP; rw [hf]; simp, hh.2⟩
  · exact (mb_1 w g o op a b bi ty LA ls lc B nb bc E ne ec h hl).mono fun e w' hh => ⟨_, hh.1, by unfold Hid mayP; rw [hf]; generalize ls.length = nl; simp [iz] <;> omega, hh.2⟩
  · exact (mb_2 w g o op a b bi ty LA ls lc B nb bc E ne ec h hl).mono fun e w' hh => ⟨_, hh.1, by unfold Hid mayP; rw [hf]; generalize ls.length = nl; simp [iz, bty] <;> omega, hh.2⟩
  · exact (mb_3 w g o op a b bi ty LA ls lc B nb bc E ne ec h hl).mono fun e w' hh => ⟨_, hh.1, by unfold Hid mayP; rw [hf]; generalize ls.length = nl; simp [iz, bty] <;> omega, hh.2⟩
  · exact (mb_4 w g o op a b bi ty LA ls lc B nb bc E ne ec h hl).mono fun e w' hh => ⟨_, hh.1, by unfold Hid mayP; rw [hf]; generalize ls.length = nl; simp [iz, wrd] <;> omega, hh.2⟩
  · exact (mb_5 w g o op a b bi ty LA ls lc B nb bc E ne ec h hl hS).mono fun e w' hh => ⟨_, hh.1, by
      unfold Hid mayP; rw [hf]
      rw [← wds_iff]
      unfold mlb iz
      generalize ls.length = nl
      generalize wds ls = q
      cases q <;> simp <;> omega, hh.2⟩
  · exact (mb_6 w g o op a b bi ty LA ls lc B nb bc E ne ec h hl).mono fun e w' hh => ⟨_, hh.1, by unfold Hid mayP; rw [hf]; generalize ls.length = nl; simp [iz, wrd] <;> omega, hh.2⟩
  · exact (mb_7 w g o op a b bi ty LA ls lc B nb bc E ne ec h hl).mono fun e w' hh => ⟨_, hh.1, by unfold Hid mayP; rw [hf]; generalize ls.length = nl; simp [iz, wrd] <;> omega, hh.2⟩
  · exact (mb_8 w g o op a b bi ty LA ls lc B nb bc E ne ec h hl).mono fun e w' hh => ⟨_, hh.1, by unfold Hid mayP; rw [hf]; generalize ls.length = nl; simp [iz] <;> omega, hh.2⟩
  · exact (mb_9 w g o op a b bi ty LA ls lc B nb bc E ne ec h hl).mono fun e w' hh => ⟨_, hh.1, by unfold Hid mayP; rw [hf, ho]; generalize ls.length = nl; simp [iz, wrd] <;> omega, hh.2⟩
  · exact (mb_10 w g o op a b bi ty LA ls lc B nb bc E ne ec h hl).mono fun e w' hh => ⟨_, hh.1, by unfold Hid mayP; rw [hf, ho]; generalize ls.length = nl; simp [iz, wrd] <;> omega, hh.2⟩
  · exact (mb_11 w g o op a b bi ty LA ls lc B nb bc E ne ec h hl).mono fun e w' hh => ⟨_, hh.1, by unfold Hid mayP; rw [hf, ho]; generalize ls.length = nl; simp [iz, wrd] <;> omega, hh.2⟩
  · exact (mb_12 w g o op a b bi ty LA ls lc B nb bc E ne ec h hl).mono fun e w' hh => ⟨_, hh.1, by unfold Hid mayP; rw [hf, ho]; generalize ls.length = nl; simp [iz, wrd] <;> omega, hh.2⟩
/-- the first error of a row of instructions, so many having come -/
def fe : List rw.Nk → Int → Int
  | [], _ => 0
  | k :: t, c =>
    if c + 1 > 8192 then 1400
    else if (fo k.op = 1 ∨ fo k.op = 2) ∧ k.deep ≥ 32 then 1402
    else @ite _ (¬ mayP k.op k.a k.b k.bi k.ty k.ls k.bo.len k.el.len) (@instDecidableNot _ (mayD k.op k.a k.b k.bi k.ty k.ls k.bo.len k.el.len)) 1400 (fe t (c + 1))
theorem fe_ck : ∀ (f : Fs) (d c : Int) (t : List rw.Nk), fe (rw.sq f d ++ t) c = if (ck f d c).1 = 0 then fe t (ck f d c).2 else (ck f d c).1
  | ⟨none⟩, d, c, t => by simp [rw.sq, ck]
  | ⟨some (op, a, b, bi, ty, ls, bo, el, r)⟩, d, c, t => by
    have h1 := fe_ck bo (d + 1) (c + 1) (rw.sq el (d + 1) ++ (rw.sq r d ++ t))
    have h2 := fe_ck el (d + 1) (ck bo (d + 1) (c + 1)).2 (rw.sq r d ++ t)
    have h3 := fe_ck r d (ck el (d + 1) (ck bo (d + 1) (c + 1)).2).2 t
    unfold ck
    simp only [rw.sq, List.cons_append, List.append_assoc]
    conv => lhs; unfold fe
    split
    · simp
    · split
      · simp
      · split
        · simp
        · rw [h1]
          split
          · rw [h2]
            split
            · exact h3
            · rfl
          · rfl
theorem fe_take : ∀ (l : List rw.Nk) (m : Nat) (c : Int), c ≤ 8192 → 8193 ≤ c + m → fe (l.take m) c = fe l c
  | [], m, c, h1, h2 => by simp
  | k :: t, 0, c, h1, h2 => by simp at h2; omega
  | k :: t, m + 1, c, h1, h2 => by
    simp only [List.take_succ_cons]
    unfold fe
    split
    · rfl
    · rw [fe_take t m (c + 1) (by omega) (by omega)]
theorem fe_all (f : Fs) : fe ((rw.sq f 0).take 8193) 0 = (ck f 0 0).1 := by
  rw [fe_take _ _ _ (by decide) (by decide)]
  have := fe_ck f 0 0 []
  rw [List.append_nil] at this
  rw [this]
  split
  · rename_i h; simp [fe, h]
  · rfl
end Go.Proofs.Ytngciahmoenkiac.gi
