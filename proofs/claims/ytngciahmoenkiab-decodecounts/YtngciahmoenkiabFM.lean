/- A module that was read is bounded: how long its lists are, that its instructions are such as are held against each other. -/
import Derived.Test.YtngciahmoenkiabFA
set_option linter.unusedVariables false
set_option linter.unusedSimpArgs false
set_option maxRecDepth 100000
set_option maxHeartbeats 8000000
namespace Go.Proofs.Ytngciahmoenkiab
open Go.RowKit
/-- instructions that may be held against each other -/
def Fok (f : Fs) : Prop := f.Ok ∧ f.len * 112 ≤ 140737488351232
structure MdOk (m : Md) : Prop where
  ty : m.ty.length ≤ 1024 ∧ ∀ x ∈ m.ty, x.1.length ≤ 1024 ∧ x.2.length ≤ 1024
  im : m.im.length ≤ 1024
  fu : m.fu.length ≤ 1024
  ta : m.ta.length ≤ 1024
  me : m.me.length ≤ 1024
  gl : m.gl.length ≤ 1024 ∧ ∀ x ∈ m.gl, Fok x.2.2
  ex : m.ex.length ≤ 1024
  el : m.el.length ≤ 1024 ∧ ∀ x ∈ m.el, Fok x.1 ∧ x.2.length ≤ 1024
  co : m.co.length ≤ 1024 ∧ ∀ x ∈ m.co, x.1.length ≤ 1024 ∧ Fok x.2
  da : m.da.length ≤ 1024 ∧ ∀ x ∈ m.da, Fok x.1
theorem srep_all {α : Type} {P : α → Prop} (f : Sst → α × Sst) (hf : ∀ st, P (f st).1) : ∀ (k : Nat) (st : Sst), ∀ x ∈ (srep f k st).1, P x
  | 0, st, x, h => by cases h
  | k + 1, st, x, h => by
    rw [srep] at h
    split at h
    · rcases List.mem_cons.1 h with e | h
      · rw [e]
        exact hf st
      · exact srep_all f hf k _ x h
    · cases h
theorem smany_most (s : ByteArray) (m : Nat) (hm : m ≤ 1024) (st : Sst) : (smany s (m : Int) st).1.toNat ≤ 1024 := by
  unfold smany
  split
  · exact Nat.zero_le _
  · omega
theorem skinds_len (s : ByteArray) (st : Sst) : (skinds s st).1.length ≤ 1024 := Nat.le_trans (srep_len _ _ _) (smany_most s 1024 (by decide) st)
theorem snums_len (s : ByteArray) (st : Sst) : (snums s st).1.length ≤ 1024 := Nat.le_trans (srep_len _ _ _) (smany_most s 1024 (by decide) st)
theorem fok_nil : Fok .nil := ⟨trivial, by decide⟩
theorem sinstrs_ok (s : ByteArray) (st : Sst) : Fok (sinstrs s st).1 := by
  unfold sinstrs
  split
  · exact fok_nil
  · split
    · exact unI_ok s st.at_
    · split
      · exact fok_nil
      · exact fok_nil
theorem mdz_ok (x : Int) : MdOk (mdZ x) := by
  constructor <;> simp [mdZ]
theorem ssec_ok (u : ByteArray) (id : Int) {m : Md} (h : MdOk m) : MdOk (ssec u id m).1 := by
  have b1 := smany_most u 1024 (by decide)
  have b2 := smany_most u 256 (by decide)
  obtain ⟨h0, h1, h2, h3, h4, h5, h6, h7, h8, h9⟩ := h
  unfold ssec
  split
  · exact ⟨⟨Nat.le_trans (srep_len _ _ _) (b2 _), srep_all (P := fun (x : List Int × List Int) => x.1.length ≤ 1024 ∧ x.2.length ≤ 1024) _ (fun st => ⟨skinds_len _ _, skinds_len _ _⟩) _ _⟩, h1, h2, h3, h4, h5, h6, h7, h8, h9⟩
  split
  · exact ⟨h0, Nat.le_trans (srep_len _ _ _) (b1 _), h2, h3, h4, h5, h6, h7, h8, h9⟩
  split
  · exact ⟨h0, h1, Nat.le_trans (srep_len _ _ _) (b2 _), h3, h4, h5, h6, h7, h8, h9⟩
  split
  · exact ⟨h0, h1, h2, Nat.le_trans (srep_len _ _ _) (b1 _), h4, h5, h6, h7, h8, h9⟩
  split
  · exact ⟨h0, h1, h2, h3, Nat.le_trans (srep_len _ _ _) (b1 _), h5, h6, h7, h8, h9⟩
  split
  · exact ⟨h0, h1, h2, h3, h4, ⟨Nat.le_trans (srep_len _ _ _) (b1 _), srep_all (P := fun (x : Int × Bool × Fs) => Fok x.2.2) _ (fun st => sinstrs_ok _ _) _ _⟩, h6, h7, h8, h9⟩
  split
  · exact ⟨h0, h1, h2, h3, h4, h5, Nat.le_trans (srep_len _ _ _) (b1 _), h7, h8, h9⟩
  split
  · exact ⟨h0, h1, h2, h3, h4, h5, h6, h7, h8, h9⟩
  split
  · exact ⟨h0, h1, h2, h3, h4, h5, h6, ⟨Nat.le_trans (srep_len _ _ _) (b1 _), srep_all (P := fun (x : Fs × List Int) => Fok x.1 ∧ x.2.length ≤ 1024) _ (fun st => ⟨sinstrs_ok _ _, snums_len _ _⟩) _ _⟩, h8, h9⟩
  split
  · exact ⟨h0, h1, h2, h3, h4, h5, h6, h7, ⟨Nat.le_trans (srep_len _ _ _) (b2 _), srep_all (P := fun (x : List Int × Fs) => x.1.length ≤ 1024 ∧ Fok x.2) _ (fun st => ⟨Nat.le_trans (slocs_len _ _ _ (Nat.zero_le _)) (by decide), sinstrs_ok _ _⟩) _ _⟩, h9⟩
  · exact ⟨h0, h1, h2, h3, h4, h5, h6, h7, h8, ⟨Nat.le_trans (srep_len _ _ _) (b1 _), srep_all (P := fun (x : Fs × ByteArray) => Fok x.1) _ (fun st => sinstrs_ok _ _) _ _⟩⟩
theorem unL_ok (s : ByteArray) : ∀ (n a b : Nat) (m : Md), MdOk m → MdOk (unL s n a b m).1
  | 0, a, b, m, h => h
  | n + 1, a, b, m, h => by
    rw [unL]
    split
    · split
      · exact mdz_ok 0
      split
      · exact mdz_ok 0
      split
      · exact mdz_ok 0
      split
      · refine unL_ok s n _ _ _ ?_
        unfold ssec0
        split
        · exact h
        · exact ssec_ok _ _ h
      · exact mdz_ok 0
    · split
      · exact h
      · exact mdz_ok 0
theorem unM_ok (s : ByteArray) : MdOk (unM s).1 := by
  unfold unM
  split
  · exact mdz_ok 0
  split
  · exact mdz_ok 0
  · exact unL_ok s _ _ _ _ (mdz_ok (-1))
end Go.Proofs.Ytngciahmoenkiab
