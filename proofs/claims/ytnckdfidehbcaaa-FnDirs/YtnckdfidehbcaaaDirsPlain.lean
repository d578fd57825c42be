/-
  What holds of a right directory: a key that is put is found, one that is dropped is not, all else is as it was, keys rise.
-/
import Derived.Test.YtnckdfidehbcaaaDirOkS
namespace Go.Proofs.Ytnckdfidehbcaaa
open Go.RowKit
open Plain

def RiseE (xs : List EntV) : Prop := xs.Pairwise (fun a b => klt a.key b.key = true)
theorem okAt_of {xs : List EntV} (h : dirOk xs = true) (i : Nat) (hi : i < xs.length) : okAt xs i = true := by
  unfold dirOk at h
  rw [Bool.and_eq_true] at h
  exact List.all_eq_true.1 h.2 i (by simpa using hi)
theorem len_of {xs : List EntV} (h : dirOk xs = true) : xs.length ≤ 20 := by
  unfold dirOk at h
  rw [Bool.and_eq_true] at h
  exact of_decide_eq_true h.1
theorem entOk_of {xs : List EntV} (h : dirOk xs = true) : ∀ x, x ∈ xs → entOk x = true := by
  intro x hx
  obtain ⟨i, hi, rfl⟩ := List.mem_iff_getElem.1 hx
  have h1 := okAt_of h i hi
  unfold okAt at h1
  rw [getD_at hi, Bool.and_eq_true] at h1
  exact h1.1
theorem rise_of {xs : List EntV} (h : dirOk xs = true) : RiseE xs := by
  have step : ∀ i, (hi : i + 1 < xs.length) → klt (xs[i]).key (xs[i + 1]).key = true := fun i hi => by
    have h1 := okAt_of h (i + 1) hi
    unfold okAt at h1
    rw [getD_at hi, show i + 1 - 1 = i from rfl, getD_at (show i < xs.length by omega), Bool.and_eq_true, Bool.or_eq_true] at h1
    rcases h1.2 with h2 | h2
    · simp at h2
    · exact h2
  have far : ∀ k i, (hi : i + k + 1 < xs.length) → klt (xs[i]).key (xs[i + k + 1]).key = true := by
    intro k
    induction k with
    | zero => intro i hi; exact step i hi
    | succ k ih => intro i hi; exact klt_trans (ih i (by omega)) (step (i + k + 1) hi)
  unfold RiseE
  rw [List.pairwise_iff_getElem]
  intro i j hi hj hij
  obtain ⟨k, rfl⟩ : ∃ k, j = i + k + 1 := ⟨j - i - 1, by omega⟩
  exact far k i hj
theorem dirOk_of {xs : List EntV} (h1 : xs.length ≤ 20) (h2 : ∀ x, x ∈ xs → entOk x = true) (h3 : RiseE xs) : dirOk xs = true := by
  refine dirOk_yes h1 (fun i hi => ?_)
  unfold okAt
  rw [getD_at hi, h2 _ (List.getElem_mem hi), Bool.true_and, Bool.or_eq_true]
  by_cases h0 : i = 0
  · exact .inl (decide_eq_true h0)
  · refine .inr ?_
    rw [getD_at (show i - 1 < xs.length by omega)]
    exact List.pairwise_iff_getElem.1 h3 (i - 1) i (by omega) hi (by omega)
theorem mem_dropE {xs : List EntV} {key : ByteArray} {x : EntV} : x ∈ dropE xs key ↔ x ∈ xs ∧ ¬ x.key = key := by
  unfold dropE
  rw [List.mem_filter]
  simp
theorem mem_insE {xs : List EntV} {p x : EntV} : x ∈ insE xs p ↔ x = p ∨ x ∈ xs := by
  induction xs with
  | nil => simp [insE]
  | cons a r ih =>
    rw [insE]
    split
    · rw [List.mem_cons]
    · rw [List.mem_cons, ih, List.mem_cons]
      constructor
      · rintro (h | h | h)
        · exact .inr (.inl h)
        · exact .inl h
        · exact .inr (.inr h)
      · rintro (h | h | h)
        · exact .inr (.inl h)
        · exact .inl h
        · exact .inr (.inr h)
theorem rise_insE {xs : List EntV} {p : EntV} (h : RiseE xs) (hn : ∀ x, x ∈ xs → ¬ x.key = p.key) : RiseE (insE xs p) := by
  induction xs with
  | nil => exact List.pairwise_singleton _ _
  | cons a r ih =>
    obtain ⟨h1, h2⟩ := List.pairwise_cons.1 h
    rw [insE]
    split
    · rename_i hk
      refine List.pairwise_cons.2 ⟨fun b hb => ?_, h⟩
      rcases List.mem_cons.1 hb with rfl | hb
      · exact hk
      · exact klt_trans hk (h1 b hb)
    · rename_i hk
      refine List.pairwise_cons.2 ⟨fun b hb => ?_, ih h2 (fun x hx => hn x (List.mem_cons_of_mem _ hx))⟩
      rcases mem_insE.1 hb with rfl | hb
      · exact klt_other (by simpa using hk) (hn a List.mem_cons_self)
      · exact h1 b hb
theorem getE_mem {xs : List EntV} (h : RiseE xs) {z : EntV} (hz : z ∈ xs) : getE xs z.key = some z := by
  induction xs with
  | nil => simp at hz
  | cons a r ih =>
    obtain ⟨h1, h2⟩ := List.pairwise_cons.1 h
    unfold getE
    by_cases he : a.key = z.key
    · rw [List.find?_cons_of_pos (by simpa using he)]
      rcases List.mem_cons.1 hz with rfl | hz
      · rfl
      · exact absurd he (klt_ne (h1 z hz))
    · rw [List.find?_cons_of_neg (by simpa using he)]
      rcases List.mem_cons.1 hz with rfl | hz
      · exact absurd rfl he
      · exact ih h2 hz
theorem getE_not {xs : List EntV} {key : ByteArray} (h : ∀ x, x ∈ xs → ¬ x.key = key) : getE xs key = none := by
  unfold getE
  rw [List.find?_eq_none]
  intro x hx
  simpa using h x hx
theorem dropE_self {xs : List EntV} {key : ByteArray} (h : ∀ x, x ∈ xs → ¬ x.key = key) : dropE xs key = xs := by
  unfold dropE
  rw [List.filter_eq_self]
  intro x hx
  simpa using h x hx
theorem dropE_insE (xs : List EntV) (p : EntV) : dropE (insE xs p) p.key = dropE xs p.key := by
  induction xs with
  | nil => simp [insE, dropE]
  | cons a r ih =>
    unfold dropE at ih ⊢
    rw [insE]
    split
    · rw [List.filter_cons_of_neg (by simp)]
    · by_cases he : a.key = p.key
      · rw [List.filter_cons_of_neg (by simpa using he), List.filter_cons_of_neg (by simpa using he), ih]
      · rw [List.filter_cons_of_pos (by simpa using he), List.filter_cons_of_pos (by simpa using he), ih]

/-- What the law asks of a right directory l, an entry p. -/
structure DirsP (l : List EntV) (p : EntV) : Prop where
  got : getE (putE l p) p.key = some p
  gone : getE (dropE (putE l p) p.key) p.key = none
  ok : dirOk (dropE (putE l p) p.key) = true
  len : (putE l p).length = (dropE (putE l p) p.key).length + 1
  there : ∀ z, z ∈ l → ¬ z.key = p.key → getE (putE l p) z.key = some z
  still : ∀ z, z ∈ l → ¬ z.key = p.key → getE (dropE (putE l p) p.key) z.key = some z
  rise : RiseE (putE l p)
  again : putE (putE l p) p = putE l p
  small : (putE l p).length ≤ 21
theorem dirs_of {l : List EntV} (h : dirOk l = true) (p : EntV) : DirsP l p := by
  have hn : ∀ x, x ∈ dropE l p.key → ¬ x.key = p.key := fun x hx => (mem_dropE.1 hx).2
  have hd : dropE (putE l p) p.key = dropE l p.key := by unfold putE; rw [dropE_insE, dropE_self hn]
  have hr : RiseE (dropE l p.key) := (rise_of h).sublist List.filter_sublist
  have hrp : RiseE (putE l p) := rise_insE hr hn
  have hl := len_of h
  have hdl := dropE_len l p.key
  have hpl : (putE l p).length = (dropE l p.key).length + 1 := insE_len _ _
  refine ⟨getE_mem hrp (mem_insE.2 (.inl rfl)), ?_, ?_, ?_, fun z hz hk => getE_mem hrp (mem_insE.2 (.inr (mem_dropE.2 ⟨hz, hk⟩))), ?_, hrp, ?_, by omega⟩
  · rw [hd]; exact getE_not hn
  · rw [hd]; exact dirOk_of (by omega) (fun x hx => entOk_of h x (mem_dropE.1 hx).1) hr
  · rw [hd, hpl]
  · intro z hz hk
    rw [hd]
    exact getE_mem hr (mem_dropE.2 ⟨hz, hk⟩)
  · show insE (dropE (putE l p) p.key) p = putE l p
    rw [hd]
    rfl

end Go.Proofs.Ytnckdfidehbcaaa
