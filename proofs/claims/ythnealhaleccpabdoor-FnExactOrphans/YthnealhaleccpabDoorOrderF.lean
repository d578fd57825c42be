/-
  The order of texts, byte by byte, as Lean's own order of lists.
-/
import Derived.Test.YthnealhaleccpabDoorDiskOkBase
namespace Go.Proofs.YthnealhaleccpabDoor
open Go.RowKit
open Plain

theorem bytesLess_lt : ∀ (x y : List UInt8), Op.bytesLess x y = decide (x < y)
  | x, [] => by simp [Op.bytesLess]
  | [], b :: y => by simp [Op.bytesLess]
  | a :: x, b :: y => by
    rw [Op.bytesLess, bytesLess_lt x y]
    simp only [List.cons_lt_cons_iff]
    by_cases h1 : a < b <;> by_cases h2 : a = b <;> by_cases h3 : x < y <;> simp [h1, h2, h3]
theorem sle_less (a b : ByteArray) : sle a b = !(Op.bytesLess b.toList a.toList) := by
  unfold sle
  rw [bytesLess_lt, bytesLess_lt]
  by_cases h1 : a.toList < b.toList
  · have h2 : ¬ b.toList < a.toList := List.lt_asymm h1
    simp [h1, h2]
  · by_cases h3 : a.toList = b.toList
    · rw [h3]; simp [List.lt_irrefl]
    · have h2 : b.toList < a.toList := by
        rcases List.le_iff_lt_or_eq.1 (List.not_lt.1 h1) with h | h
        · exact h
        · exact absurd h.symm h3
      simp [h2, h3, List.lt_asymm h2]

end Go.Proofs.YthnealhaleccpabDoor
