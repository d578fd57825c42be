/-
  Which names of files belong to no list, with no Go in sight.
-/
import Derived.Test.YthnealhaleccpabDoorNamesIdP
import Derived.Test.YthnealhaleccpabDoorDiskOkBase
namespace Go.Proofs.YthnealhaleccpabDoor
open Go.RowKit
open Plain

def tempS : ByteArray := ⟨#[116, 101, 109, 112]⟩
theorem temp_list : tempS.toList = [116, 101, 109, 112] := by rw [ByteArray.toList_eq]; rfl
theorem temp_eq {s : ByteArray} (h : s = tempS) : (s.toList == [116, 101, 109, 112]) = true := by subst h; rw [temp_list]; rfl
theorem temp_ne {s : ByteArray} (h : ¬ s = tempS) : (s.toList == [116, 101, 109, 112]) = false := by
  rw [← temp_list]
  by_cases q : (s.toList == tempS.toList) = true
  · exact absurd (toList_inj (by simpa using q)) h
  · simpa using q
def orphB (ids : List Int) (nm : ByteArray) : Bool := ((io nm).2 && !(ids.contains (io nm).1)) || decide (nm = tempS)
def orphL (fs : List FileV) (ids : List Int) : List ByteArray := (fs.map (·.name)).filter (orphB ids)
def orphS (fs : List FileV) (c u : Int) (ids : List Int) : List ByteArray := if diskOk fs c u = true then orphL fs ids else []
theorem orphL_succ (fs : List FileV) (ids : List Int) (k : Nat) (h : k < fs.length) : orphL (fs.take (k + 1)) ids = orphL (fs.take k) ids ++ (if orphB ids (fs[k]).name = true then [(fs[k]).name] else []) := by
  unfold orphL
  rw [List.take_succ_eq_append_getElem h, List.map_append, List.filter_append]
  congr 1
  rw [List.map_cons, List.map_nil, List.filter_cons]
  split <;> rfl
theorem orphL_len (fs : List FileV) (ids : List Int) : (orphL fs ids).length ≤ fs.length := by
  unfold orphL
  have := List.length_filter_le (orphB ids) (fs.map (·.name))
  rw [List.length_map] at this
  exact this
theorem ok_len {fs : List FileV} {c u : Int} (h : diskOk fs c u = true) : fs.length ≤ 130 := by
  unfold diskOk headOk at h
  rw [Bool.and_eq_true, Bool.and_eq_true, decide_eq_true_iff] at h
  exact h.1.1
/-- Is the number among the first k? -/
def hasK (ids : List Int) (n : Int) (k : Nat) : Bool := (ids.take k).contains n
theorem hasK_succ (ids : List Int) (n : Int) (k : Nat) (h : k < ids.length) : hasK ids n (k + 1) = (hasK ids n k || (ids[k] == n)) := by
  unfold hasK
  rw [List.take_succ_eq_append_getElem h]
  rw [Bool.eq_iff_iff]
  simp only [List.contains_iff_mem, List.mem_append, List.mem_singleton, Bool.or_eq_true, beq_iff_eq]
  constructor
  · rintro (h | h)
    · exact Or.inl h
    · exact Or.inr h.symm
  · rintro (h | h)
    · exact Or.inl h
    · exact Or.inr h.symm
theorem hasK_all (ids : List Int) (n : Int) : hasK ids n ids.length = ids.contains n := by unfold hasK; rw [List.take_length]

end Go.Proofs.YthnealhaleccpabDoor
