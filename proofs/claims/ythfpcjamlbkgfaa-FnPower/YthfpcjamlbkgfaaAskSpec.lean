/-
  What Used and FileText answer, as Lean functions alone.
-/
import Derived.Test.YthfpcjamlbkgfaaDiskOkSpec
namespace Go.Proofs.Ythfpcjamlbkgfaa
open Go.RowKit
open Plain

def usedA (fs : List FileV) (c u : Int) : Int := if diskOk fs c u = true then (usedF fs : Int) else 0
/-- What FileText answers. -/
def textA (fs : List FileV) (c u : Int) (nm : ByteArray) : ByteArray × Bool := if diskOk fs c u = true then (if findF fs nm < 0 then (⟨#[]⟩, false) else ((fs.getD (findF fs nm).toNat zeroF).text, true)) else (⟨#[]⟩, false)
theorem findF_at (fs : List FileV) (nm : ByteArray) (h : ¬ findF fs nm < 0) : ∃ k : Nat, findF fs nm = (k : Int) ∧ k < fs.length := by
  unfold findF at *
  cases hf : fs.findIdx? (fun f => decide (f.name = nm)) with
  | none => rw [hf] at h; simp at h
  | some i =>
    refine ⟨i, rfl, ?_⟩
    rw [List.findIdx?_eq_some_iff_getElem] at hf
    exact hf.1

end Go.Proofs.Ythfpcjamlbkgfaa
