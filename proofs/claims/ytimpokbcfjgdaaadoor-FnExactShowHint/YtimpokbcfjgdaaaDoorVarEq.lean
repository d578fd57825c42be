/-
  When the text of Var is a beginning of another text.
-/
import Derived.Test.YtimpokbcfjgdaaaDoorCore
namespace Go.Proofs.YtimpokbcfjgdaaaDoor
open Go.RowKit
open Plain

theorem vval_drop (l : List Nat) (t b : Nat) (h : l[t]? = some b) : vval (l.drop t) = b % 128 + 128 * vval (l.drop (t + 1)) := by
  have ht : t < l.length := by
    rcases Nat.lt_or_ge t l.length with h' | h'
    · exact h'
    · rw [List.getElem?_eq_none h'] at h; simp at h
  rw [List.drop_eq_getElem_cons ht, vval]
  rw [List.getElem?_eq_getElem ht] at h
  simp at h
  rw [h]
theorem vb_byte (n : Nat) : ∀ x ∈ vb n, 0 ≤ x ∧ x < 256 := by
  induction n using Nat.strongRecOn with
  | ind n ih =>
    intro x hx
    by_cases h : n < 128
    · rw [vb_small n h] at hx
      simp at hx
      omega
    · rw [vb_big n h] at hx
      simp only [List.mem_cons] at hx
      rcases hx with rfl | hx
      · omega
      · exact ih (n / 128) (by omega) x hx
theorem var_eq_iff (s : ByteArray) (k : Nat) : ((strOfNums (vb (vval ((bl s).take k)))).toList == (s.extract 0 k).toList) = true ↔ IsVar ((bl s).take k) := by
  have e1 : (strOfNums (vb (vval ((bl s).take k)))).toList = (vb (vval ((bl s).take k))).map fun n => UInt8.ofNat n.toNat := by rw [ByteArray.toList_eq]; rfl
  have e2 : (s.extract 0 k).toList = s.data.toList.take k := by
    rw [ByteArray.toList_eq]
    simp
  rw [e1, e2, beq_iff_eq]
  have e3 : ((bl s).take k).map (fun b : Nat => (b : Int)) = (s.data.toList.take k).map (fun b : UInt8 => ((b.toNat : Nat) : Int)) := by
    rw [bl, ← List.map_take, List.map_map]; rfl
  unfold IsVar
  rw [e3]
  constructor
  · intro h
    rw [← h, List.map_map]
    have : ∀ x ∈ vb (vval ((bl s).take k)), ((fun b : UInt8 => ((b.toNat : Nat) : Int)) ∘ fun n : Int => UInt8.ofNat n.toNat) x = x := by
      intro x hx
      have := vb_byte _ x hx
      simp only [Function.comp, UInt8.toNat_ofNat']
      omega
    rw [List.map_congr_left this]
    simp
  · intro h
    rw [h, List.map_map]
    have : ∀ x ∈ s.data.toList.take k, ((fun n : Int => UInt8.ofNat n.toNat) ∘ fun b : UInt8 => ((b.toNat : Nat) : Int)) x = x := by
      intro x _
      simp
    rw [List.map_congr_left this]
    simp

end Go.Proofs.YtimpokbcfjgdaaaDoor
