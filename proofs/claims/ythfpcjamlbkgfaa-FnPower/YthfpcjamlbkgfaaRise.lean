/-
  Files in the order of their names; a right disk's are so; where a file of a name stands.
-/
import Derived.Test.YthfpcjamlbkgfaaCmpS
import Derived.Test.YthfpcjamlbkgfaaDiskRead
namespace Go.Proofs.Ythfpcjamlbkgfaa
open Go.RowKit
open Plain

theorem name_of_data {a b : ByteArray} (h : a.data.toList = b.data.toList) : a = b := by
  obtain ⟨⟨x⟩⟩ := a
  obtain ⟨⟨y⟩⟩ := b
  simp at h
  rw [h]
/-- Files in the order of their names. -/
def Rising (S : List FileV) : Prop := S.Pairwise (fun f g => f.name.data.toList < g.name.data.toList)
theorem okAt_of {fs : List FileV} {c u : Int} (h : diskOk fs c u = true) : ∀ i, i < fs.length → okAt fs i = true := by
  intro i hi
  unfold diskOk at h
  rw [Bool.and_eq_true] at h
  exact List.all_eq_true.1 h.2 i (by simpa using hi)
theorem len_of {fs : List FileV} {c u : Int} (h : diskOk fs c u = true) : fs.length ≤ 130 ∧ -1 ≤ u ∧ 0 ≤ c ∧ c ≤ 100000 ∧ (usedF fs : Int) ≤ c := by
  unfold diskOk headOk at h
  simp only [Bool.and_eq_true, decide_eq_true_eq] at h
  obtain ⟨⟨h1, h2, h3, h4⟩, _⟩ := h
  unfold inB at h2 h3
  simp only [decide_eq_true_eq] at h2 h3
  exact ⟨h1, h3.1, h2.1, h2.2, h4⟩
theorem rising_of {fs : List FileV} {c u : Int} (h : diskOk fs c u = true) : Rising fs := by
  have hk := okAt_of h
  have step : ∀ i, (hi : i + 1 < fs.length) → (fs[i]).name.data.toList < (fs[i + 1]).name.data.toList := fun i hi => by
    have h1 := hk (i + 1) hi
    unfold okAt at h1
    have e1 : fs.getD (i + 1) zeroF = fs[i + 1] := by simp [List.getD, hi]
    have e2 : fs.getD (i + 1 - 1) zeroF = fs[i] := by simp [List.getD, show i < fs.length by omega]
    rw [e1, e2] at h1
    simp only [Bool.and_eq_true, Bool.or_eq_true, decide_eq_true_eq, Nat.add_eq_zero_iff, Nat.one_ne_zero, and_false, false_or, Bool.not_eq_true'] at h1
    have h2 := h1.2
    rw [sle_less, bytesLess_lt] at h2
    have h3 := of_decide_eq_true (by simpa using h2 : decide ((fs[i]).name.toList < (fs[i + 1]).name.toList) = true)
    rw [tl, tl] at h3
    exact h3
  have far : ∀ k i, (hi : i + k + 1 < fs.length) → (fs[i]).name.data.toList < (fs[i + k + 1]).name.data.toList := by
    intro k
    induction k with
    | zero => intro i hi; exact step i hi
    | succ k ih => intro i hi; exact List.lt_trans (ih i (by omega)) (step (i + k + 1) hi)
  unfold Rising
  rw [List.pairwise_iff_getElem]
  intro i j hi hj hij
  obtain ⟨k, rfl⟩ : ∃ k, j = i + k + 1 := ⟨j - i - 1, by omega⟩
  exact far k i hj
theorem findF_none {fs : List FileV} {nm : ByteArray} (h : findF fs nm < 0) : ∀ g, g ∈ fs → g.name ≠ nm := by
  intro g hg e
  obtain ⟨j, hj, rfl⟩ := List.mem_iff_getElem.1 hg
  unfold findF at h
  cases hf : fs.findIdx? (fun f => decide (f.name = nm)) with
  | none =>
    rw [List.findIdx?_eq_none_iff] at hf
    have := hf _ (List.getElem_mem hj)
    simp [e] at this
  | some i => rw [hf] at h; simp at h; omega
theorem findF_name {fs : List FileV} {nm : ByteArray} (h : ¬ findF fs nm < 0) : ∃ k : Nat, findF fs nm = (k : Int) ∧ ∃ hk : k < fs.length, (fs[k]).name = nm := by
  unfold findF at *
  cases hf : fs.findIdx? (fun f => decide (f.name = nm)) with
  | none => rw [hf] at h; simp at h
  | some i =>
    rw [List.findIdx?_eq_some_iff_getElem] at hf
    obtain ⟨h1, h2, _⟩ := hf
    exact ⟨i, rfl, h1, by simpa using h2⟩
theorem getD_of {fs : List FileV} {k : Nat} (hk : k < fs.length) : fs.getD k zeroF = fs[k] := by simp [List.getD, hk]

end Go.Proofs.Ythfpcjamlbkgfaa
