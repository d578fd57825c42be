/-
  Texts that are the same, and texts that are not.
-/
import Derived.Test.YtdodlaindeclpabCore
import Derived.Below
namespace Go.Proofs.Ytdodlaindeclpab
open Go.RowKit
open Plain

theorem toList_inj {a b : ByteArray} (h : a.toList = b.toList) : a = b := by
  rw [ByteArray.toList_eq, ByteArray.toList_eq] at h
  cases a; cases b
  simp at h
  subst h
  rfl
theorem str_eq (a b : ByteArray) (h : a = b) : (a.toList == b.toList) = true := by subst h; simp
theorem str_ne (a b : ByteArray) (h : ¬ a = b) : (a.toList == b.toList) = false := by
  simp
  intro e
  exact h (toList_inj e)

end Go.Proofs.Ytdodlaindeclpab
