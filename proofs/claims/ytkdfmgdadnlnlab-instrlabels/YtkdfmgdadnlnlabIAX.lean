/- One instruction without blocks: put and got. -/
import Derived.Test.YtkdfmgdadnlnlabIAW
import Derived.Test.YtkdfmgdadnlnlabXO
set_option linter.unusedVariables false
set_option linter.unusedSimpArgs false
set_option maxRecDepth 100000
set_option maxHeartbeats 4000000
namespace Go.Proofs.Ytkdfmgdadnlnlab
open Go.RowKit
/-- one instruction without blocks: put and got -/
theorem put_one (o a b bi ty : Int) (ls : List Int) (hm : mayP o a b bi ty ls 0 0) (hd : True) : puR (.cons o a b bi ty ls .nil .nil .nil) = (ltB (.cons o a b bi ty ls .nil .nil .nil) ++ [11], 0) := by
  have h : (ck (.cons o a b bi ty ls .nil .nil .nil) 0 0).1 = 0 := by
    unfold ck
    rw [if_neg (by decide), if_neg (fun x => absurd x.2 (by decide)), if_neg (fun x => x hm)]
    simp [ck]
  unfold puR
  rw [if_pos h]
theorem get_one (o a b bi ty : Int) (ls : List Int) (hm : mayP o a b bi ty ls 0 0) (hok : (Fs.cons o a b bi ty ls .nil .nil .nil).Ok) : unI (strOfNums (ltB (.cons o a b bi ty ls .nil .nil .nil) ++ [11])) 0 = (.cons o a b bi ty ls .nil .nil .nil, ((strOfNums (ltB (.cons o a b bi ty ls .nil .nil .nil) ++ [11])).size : Int), 0) := by
  have h : (ck (.cons o a b bi ty ls .nil .nil .nil) 0 0).1 = 0 := by
    unfold ck
    rw [if_neg (by decide), if_neg (fun x => absurd x.2 (by decide)), if_neg (fun x => x hm)]
    simp [ck]
  generalize hF : Fs.cons o a b bi ty ls .nil .nil .nil = F at *
  have hby : ∀ b ∈ ltB F ++ [11], 0 ≤ b ∧ b < 256 := by
    intro b hb
    rcases List.mem_append.1 hb with hb | hb
    · exact ltB_byte F b hb
    · simp at hb; omega
  have hsz := strOfNums_size (ltB F ++ [11])
  have hr := rl_back (s := strOfNums (ltB F ++ [11])) F 0 0 0 ((strOfNums (ltB F ++ [11])).size + 1) false 11 hok h (bl_num _ hby) (Or.inl rfl) (by omega)
  rw [show (((0 : Nat) : Int)) = 0 from rfl] at hr
  unfold unI
  rw [if_pos ⟨by decide, by omega⟩, hr]
  simp only
  rw [if_pos trivial]
  refine Prod.ext rfl (Prod.ext ?_ rfl)
  simp only
  rw [hsz]
  simp
end Go.Proofs.Ytkdfmgdadnlnlab
