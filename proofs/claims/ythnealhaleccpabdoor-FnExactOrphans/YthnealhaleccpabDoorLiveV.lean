/-
  Lists of segments with no Go in sight: which are right.
-/
import Derived.Test.YthnealhaleccpabDoorCore
namespace Go.Proofs.YthnealhaleccpabDoor
open Go.RowKit
open Plain

structure LiveV where
  next : Int
  ids : List Int
/-- Numbers that rise from above prev on, up to next - 1. -/
def okFrom (next : Int) : Int → List Int → Bool
  | _, [] => true
  | prev, x :: r => decide (prev < x ∧ x ≤ next - 1) && okFrom next x r
def liveB (v : LiveV) : Bool := decide (1 ≤ v.next ∧ v.next ≤ 100000 ∧ 1 ≤ v.ids.length ∧ v.ids.length ≤ 60) && okFrom v.next 0 v.ids
theorem okFrom_bd (next : Int) (l : List Int) : ∀ prev, 0 ≤ prev → okFrom next prev l = true → ∀ x ∈ l, 0 < x ∧ x ≤ next - 1 := by
  induction l with
  | nil => intro prev _ _ x hx; cases hx
  | cons y r ih =>
    intro prev hp h x hx
    rw [okFrom, Bool.and_eq_true, decide_eq_true_iff] at h
    rcases List.mem_cons.1 hx with rfl | hx
    · omega
    · exact ih y (by omega) h.2 x hx
theorem live_bd {v : LiveV} (h : liveB v = true) : (1 ≤ v.next ∧ v.next ≤ 100000) ∧ (1 ≤ v.ids.length ∧ v.ids.length ≤ 60) ∧ ∀ x ∈ v.ids, 0 < x ∧ x ≤ 99999 := by
  unfold liveB at h
  rw [Bool.and_eq_true, decide_eq_true_iff] at h
  refine ⟨⟨h.1.1, h.1.2.1⟩, ⟨h.1.2.2.1, h.1.2.2.2⟩, fun x hx => ?_⟩
  have := okFrom_bd _ _ 0 (by omega) h.2 x hx
  omega

end Go.Proofs.YthnealhaleccpabDoor
