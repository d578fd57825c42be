/-
  The text of Var.
-/
import Derived.Test.YtimpokbcfjgdaaaDoorCore
namespace Go.Proofs.YtimpokbcfjgdaaaDoor
open Go.RowKit
open Plain

/-- The text of Var. -/
def varS (n : Int) : ByteArray := if 0 ≤ n ∧ n ≤ 562949953421311 then strOfNums (vb n.toNat) else ⟨#[]⟩
theorem varS_size (n : Int) : (varS n).size ≤ 7 := by
  unfold varS
  split
  · rename_i h
    rw [strOfNums_size]
    exact vb_len7 _ (by omega)
  · decide

end Go.Proofs.YtimpokbcfjgdaaaDoor
