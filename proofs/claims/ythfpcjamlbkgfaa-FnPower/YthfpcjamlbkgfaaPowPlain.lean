/-
  What is left of a disk when the power fails, as Lean functions.
-/
import Derived.Test.YthfpcjamlbkgfaaVolPlain
namespace Go.Proofs.Ythfpcjamlbkgfaa
open Go.RowKit
open Plain

/-- The tear of file i. -/
def tearAt (zs : List Int) (i : Nat) : Int := if zs.length = 0 then 0 else max 0 (zs.getD (i % zs.length) 0)
theorem tearAt_nonneg (zs : List Int) (i : Nat) : 0 ≤ tearAt zs i := by unfold tearAt; split <;> omega
/-- How many bytes are left. -/
def leftK (f : FileV) (t : Int) : Int := f.safe + t % (looseF f + 1)
def leftF (f : FileV) (t : Int) : FileV := ⟨f.name, f.text.extract 0 (leftK f t).toNat, leftK f t⟩
theorem leftK_bd {f : FileV} (h : 0 ≤ f.safe ∧ f.safe ≤ (f.text.size : Int)) (t : Int) : f.safe ≤ leftK f t ∧ leftK f t ≤ (f.text.size : Int) := by
  unfold leftK looseF
  have h1 := Int.emod_nonneg t (b := (f.text.size : Int) - f.safe + 1) (by omega)
  have h2 := Int.emod_lt_of_pos t (b := (f.text.size : Int) - f.safe + 1) (by omega)
  omega
theorem ext_size (s : ByteArray) (k : Nat) (h : k ≤ s.size) : (s.extract 0 k).size = k := by rw [ByteArray.size_extract]; omega
def powL (zs : List Int) : Nat → List FileV → List FileV
  | _, [] => []
  | i, f :: r => leftF f (tearAt zs i) :: powL zs (i + 1) r
theorem powL_length (zs : List Int) : ∀ (fs : List FileV) (i : Nat), (powL zs i fs).length = fs.length
  | [], i => rfl
  | f :: r, i => by simp [powL, powL_length zs r (i + 1)]
theorem powL_get (zs : List Int) : ∀ (fs : List FileV) (i k : Nat) (h : k < fs.length), (powL zs i fs)[k]? = some (leftF (fs[k]) (tearAt zs (i + k)))
  | [], i, k, h => by simp at h
  | f :: r, i, 0, h => by simp [powL]
  | f :: r, i, k + 1, h => by
    have := powL_get zs r (i + 1) k (by simpa using h)
    simp only [powL, List.getElem?_cons_succ, this, List.getElem_cons_succ]
    congr 3
    omega
/-- The copy, its first k files as they are left. -/
def powK (zs : List Int) (fs : List FileV) (k : Nat) : List FileV := (powL zs 0 fs).take k ++ fs.drop k
theorem powK_zero (zs : List Int) (fs : List FileV) : powK zs fs 0 = fs := by simp [powK]
theorem powK_all (zs : List Int) (fs : List FileV) : powK zs fs fs.length = powL zs 0 fs := by
  unfold powK
  rw [List.take_of_length_le (by rw [powL_length]; exact Nat.le_refl _), List.drop_length, List.append_nil]
theorem powK_length (zs : List Int) (fs : List FileV) (k : Nat) (h : k ≤ fs.length) : (powK zs fs k).length = fs.length := by
  unfold powK
  rw [List.length_append, List.length_take, powL_length, List.length_drop]
  omega
theorem powK_get (zs : List Int) (fs : List FileV) (k : Nat) (h : k < fs.length) : (powK zs fs k)[k]? = some (fs[k]) := by
  unfold powK
  have h1 : ((powL zs 0 fs).take k).length = k := by rw [List.length_take, powL_length]; omega
  rw [List.getElem?_append_right (by omega), h1, Nat.sub_self, List.getElem?_drop, Nat.add_zero, List.getElem?_eq_getElem h]
theorem powK_succ (zs : List Int) (fs : List FileV) (k : Nat) (h : k < fs.length) : (powK zs fs k).set k (leftF (fs[k]) (tearAt zs k)) = powK zs fs (k + 1) := by
  have h1 : ((powL zs 0 fs).take k).length = k := by rw [List.length_take, powL_length]; omega
  have hl : k < (powL zs 0 fs).length := by rw [powL_length]; exact h
  have hg := powL_get zs fs 0 k h
  rw [List.getElem?_eq_getElem hl, Nat.zero_add] at hg
  injection hg with hg
  unfold powK
  rw [List.set_append_right _ _ (by omega), h1, Nat.sub_self, List.take_succ_eq_append_getElem hl, hg, List.drop_eq_getElem_cons h, List.set_cons_zero, List.append_assoc]
  rfl
def powF (fs : List FileV) (c u : Int) (zs : List Int) : List FileV := if diskOk fs c u = true then powL zs 0 fs else fs
def powU (fs : List FileV) (c u : Int) : Int := if diskOk fs c u = true then -1 else u
def powD (fs : List FileV) (c u : Int) (d : Bool) : Bool := if diskOk fs c u = true then false else d
theorem powF_length (fs : List FileV) (c u : Int) (zs : List Int) : (powF fs c u zs).length = fs.length := by
  unfold powF
  split
  · exact powL_length zs fs 0
  · rfl
/-- The first k bytes of a text, byte by byte. -/
def headB (s : ByteArray) (k : Nat) : List Int := (s.data.toList.take k).map fun b => (b.toNat : Int)
theorem headB_str (s : ByteArray) (k : Nat) : strOfNums (headB s k) = s.extract 0 k := by
  unfold strOfNums headB
  rw [List.map_map]
  apply ByteArray.ext
  rw [ByteArray.data_extract]
  have e : (List.map ((fun n : Int => UInt8.ofNat n.toNat) ∘ fun b : UInt8 => (b.toNat : Int)) (s.data.toList.take k)) = s.data.toList.take k := by
    conv => rhs; rw [← List.map_id (s.data.toList.take k)]
    apply List.map_congr_left
    intro b _
    simp
  rw [e]
  apply Array.ext'
  simp
theorem headB_length (s : ByteArray) (k : Nat) (h : k ≤ s.size) : (headB s k).length = k := by
  unfold headB
  simp only [List.length_map, List.length_take, Array.length_toList]
  have : s.data.size = s.size := rfl
  omega
theorem headB_get (s : ByteArray) (k j : Nat) (h : k ≤ s.size) (hj : j < k) : (headB s k).getD j 0 = ((s.data.toList.getD j 0).toNat : Int) := by
  have hs : s.data.size = s.size := rfl
  have h1 : j < s.data.toList.length := by simp; omega
  unfold headB
  rw [List.getD, List.getElem?_map, List.getElem?_take_of_lt hj, List.getElem?_eq_getElem h1, List.getD, List.getElem?_eq_getElem h1]
  rfl

end Go.Proofs.Ythfpcjamlbkgfaa
