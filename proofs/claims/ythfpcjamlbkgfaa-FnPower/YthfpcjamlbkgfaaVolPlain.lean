/-
  When power fails, as Lean functions: how many bytes are not kept, and what is left of a file.
-/
import Derived.Test.YthfpcjamlbkgfaaDiskOkBase
import Derived.Test.YthfpcjamlbkgfaaRise
namespace Go.Proofs.Ythfpcjamlbkgfaa
open Go.RowKit
open Plain

def looseF (f : FileV) : Int := (f.text.size : Int) - f.safe
def volF : List FileV → Int
  | [] => 0
  | f :: r => looseF f + volF r
def volA (fs : List FileV) (c u : Int) : Int := if diskOk fs c u = true then volF fs else 0
def setA (fs : List FileV) (c u : Int) : Bool := diskOk fs c u && (volF fs == 0)
/-- Safe of each is from 0 to how many bytes it has. -/
def SafeOk (fs : List FileV) : Prop := ∀ i, (h : i < fs.length) → 0 ≤ (fs[i]).safe ∧ (fs[i]).safe ≤ ((fs[i]).text.size : Int)
theorem safe_of {fs : List FileV} {c u : Int} (h : diskOk fs c u = true) : SafeOk fs := by
  intro i hi
  have h1 := okAt_of h i hi
  unfold okAt at h1
  rw [getD_of hi, Bool.and_eq_true] at h1
  have h2 := h1.1
  unfold okF inB at h2
  simp only [Bool.and_eq_true, decide_eq_true_eq] at h2
  exact h2.2
theorem volF_take_succ (fs : List FileV) (k : Nat) (h : k < fs.length) : volF (fs.take (k + 1)) = volF (fs.take k) + looseF (fs[k]) := by
  induction fs generalizing k with
  | nil => simp at h
  | cons f r ih =>
    cases k with
    | zero => simp [volF]
    | succ k =>
      have := ih k (by simpa using h)
      simp [volF] at this ⊢
      omega
theorem volF_bd (fs : List FileV) (h : SafeOk fs) : ∀ k, 0 ≤ volF (fs.take k) ∧ volF (fs.take k) ≤ (usedF (fs.take k) : Int) := by
  intro k
  induction k with
  | zero => simp [volF, usedF]
  | succ k ih =>
    by_cases hk : k < fs.length
    · rw [volF_take_succ fs k hk, usedF_take_succ fs k hk]
      have h1 := h k hk
      unfold looseF
      omega
    · rw [List.take_of_length_le (by omega)] at ih ⊢
      exact ih

end Go.Proofs.Ythfpcjamlbkgfaa
