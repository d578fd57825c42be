/-
  Which numbers are those that rise, said as impl says it: sorted and without doubles they are as they were, in rows of sixty.
-/
import Derived.Test.YthnealhaleccpaaDoorLiveV
import Derived.Lib.SlicesCompact
import Derived.Lib.Slices
namespace Go.Proofs.YthnealhaleccpaaDoor
open Go.RowKit
open Plain

def sortL (l : List Int) : List Int := l.mergeSort fun x y => decide (x ≤ y)
def risenL (l : List Int) : List Int := Lib.compact (sortL l)
def padL (l : List Int) : List Int := l ++ List.replicate (60 - l.length) 0

theorem okFrom_iff (next : Int) (l : List Int) : ∀ prev, okFrom next prev l = true ↔ ((prev :: l).Pairwise (· < ·) ∧ ∀ x ∈ l, x ≤ next - 1) := by
  induction l with
  | nil => intro prev; simp [okFrom]
  | cons x r ih =>
    intro prev
    rw [okFrom, Bool.and_eq_true, decide_eq_true_iff, ih x]
    constructor
    · rintro ⟨⟨h1, h2⟩, h3, h4⟩
      refine ⟨List.pairwise_cons.2 ⟨fun y hy => ?_, h3⟩, fun y hy => ?_⟩
      · rcases List.mem_cons.1 hy with rfl | hy
        · exact h1
        · have := (List.pairwise_cons.1 h3).1 y hy
          omega
      · rcases List.mem_cons.1 hy with rfl | hy
        · exact h2
        · exact h4 y hy
    · rintro ⟨h1, h2⟩
      have h3 := List.pairwise_cons.1 h1
      exact ⟨⟨h3.1 x (List.mem_cons_self ..), h2 x (List.mem_cons_self ..)⟩, h3.2, fun y hy => h2 y (List.mem_cons_of_mem _ hy)⟩

theorem foldMin (l : List Int) : ∀ a : Int, 1 ≤ l.foldl min a ↔ 1 ≤ a ∧ ∀ x ∈ l, 1 ≤ x := by
  induction l with
  | nil => intro a; simp
  | cons x r ih =>
    intro a
    rw [List.foldl_cons, ih, Int.le_min, and_assoc]
    simp only [List.mem_cons, forall_eq_or_imp]
theorem foldMax (m : Int) (l : List Int) : ∀ a : Int, l.foldl max a < m ↔ a < m ∧ ∀ x ∈ l, x < m := by
  induction l with
  | nil => intro a; simp
  | cons x r ih =>
    intro a
    rw [List.foldl_cons, ih, Int.max_lt, and_assoc]
    simp only [List.mem_cons, forall_eq_or_imp]
theorem minOf_iff (l : List Int) (h : 0 < l.length) : 1 ≤ Lib.minOf l ↔ ∀ x ∈ l, 1 ≤ x := by
  unfold Lib.minOf
  rw [foldMin]
  cases l with
  | nil => cases h
  | cons x r => simp
theorem maxOf_iff (m : Int) (l : List Int) (h : 0 < l.length) : Lib.maxOf l < m ↔ ∀ x ∈ l, x < m := by
  unfold Lib.maxOf
  rw [foldMax]
  cases l with
  | nil => cases h
  | cons x r => simp

theorem sortL_length (l : List Int) : (sortL l).length = l.length := List.length_mergeSort l
theorem sortL_up (l : List Int) : (sortL l).Pairwise (· ≤ ·) := by
  have h := List.pairwise_mergeSort (le := fun x y : Int => decide (x ≤ y)) (fun a b c => by simp only [decide_eq_true_eq]; omega) (fun a b => by simp only [Bool.or_eq_true, decide_eq_true_eq]; omega) l
  exact h.imp (fun {a b} hab => of_decide_eq_true hab)
theorem sortL_risen (l : List Int) (h : l.Pairwise (· < ·)) : sortL l = l :=
  List.mergeSort_of_pairwise (h.imp (fun {a b} hab => by simp only [decide_eq_true_eq]; omega))
theorem keeps_iff (l : List Int) (j : Nat) (hj : j < l.length) : Lib.keeps l.toArray j = true ↔ (j = 0 ∨ l[j]'hj ≠ l[j - 1]'(by omega)) := by
  unfold Lib.keeps
  rw [decide_eq_true_iff, getElem!_pos l.toArray j (by simpa using hj), getElem!_pos l.toArray (j - 1) (by simp; omega)]
  simp
theorem risen_keeps (l : List Int) (h : l.Pairwise (· < ·)) : ∀ j, j < l.length → Lib.keeps l.toArray j = true := by
  intro j hj
  rw [keeps_iff l j hj]
  by_cases h0 : j = 0
  · exact Or.inl h0
  · have := List.pairwise_iff_getElem.1 h (j - 1) j (by omega) hj (by omega)
    exact Or.inr (by omega)
theorem keeps_risen (l : List Int) (hs : l.Pairwise (· ≤ ·)) (h : ∀ j, j < l.length → Lib.keeps l.toArray j = true) : l.Pairwise (· < ·) := by
  have step : ∀ d i, (hd : i + d + 1 < l.length) → l[i]'(by omega) < l[i + d + 1]'hd := by
    intro d i hd
    have h1 := (keeps_iff l (i + d + 1) hd).1 (h _ hd)
    have h2 : l[i + d]'(by omega) ≤ l[i + d + 1]'hd := List.pairwise_iff_getElem.1 hs (i + d) (i + d + 1) (by omega) hd (by omega)
    have h3 : l[i]'(by omega) ≤ l[i + d]'(by omega) := by
      by_cases h0 : d = 0
      · subst h0; exact Int.le_refl _
      · exact List.pairwise_iff_getElem.1 hs i (i + d) (by omega) (by omega) (by omega)
    rcases h1 with h1 | h1
    · omega
    · simp only [Nat.add_sub_cancel] at h1
      omega
  rw [List.pairwise_iff_getElem]
  intro i j hi hj hij
  have h1 := step (j - i - 1) i (by omega)
  have e : i + (j - i - 1) + 1 = j := by omega
  simpa only [e] using h1
theorem risenL_of (l : List Int) (h : l.Pairwise (· < ·)) : risenL l = l := by
  unfold risenL
  rw [sortL_risen l h]
  exact Lib.compact_all l (risen_keeps l h)
theorem risenL_length (l : List Int) : (risenL l).length ≤ l.length := by
  unfold risenL
  unfold Lib.compact Lib.compactUpTo
  rw [List.length_map]
  have h := List.length_filter_le (Lib.keeps (sortL l).toArray) (List.range (sortL l).length)
  rw [List.length_range, sortL_length] at h
  rw [sortL_length]
  exact h
theorem risenL_eq (l : List Int) (h : risenL l = l) : l.Pairwise (· < ·) := by
  have hl : (Lib.compact (sortL l)).length = (sortL l).length := by
    have := congrArg List.length h
    unfold risenL at this
    rw [this, sortL_length]
  have hk : ∀ j, j < (sortL l).length → Lib.keeps (sortL l).toArray j = true := by
    unfold Lib.compact Lib.compactUpTo at hl
    rw [List.length_map] at hl
    have h1 := List.length_filter_eq_length_iff.1 (hl.trans List.length_range.symm)
    exact fun j hj => h1 j (List.mem_range.2 hj)
  have h2 := keeps_risen _ (sortL_up l) hk
  have h3 : risenL l = sortL l := Lib.compact_all _ hk
  rw [← h, h3]
  exact h2
theorem padL_length (l : List Int) (h : l.length ≤ 60) : (padL l).length = 60 := by
  unfold padL
  rw [List.length_append, List.length_replicate]
  omega
theorem padL_eq (l c : List Int) (h1 : ∀ x ∈ l, 1 ≤ x) (hc : c.length ≤ l.length) (hl : l.length ≤ 60) (h : padL l = padL c) : c = l := by
  have e : c.length = l.length := by
    rcases Nat.lt_or_ge c.length l.length with hlt | hge
    · exfalso
      have h2 := congrArg (fun x : List Int => x[c.length]?) h
      simp only [padL] at h2
      rw [List.getElem?_append_left hlt, List.getElem?_append_right (Nat.le_refl _), Nat.sub_self, List.getElem?_replicate, if_pos (by omega), List.getElem?_eq_getElem hlt] at h2
      injection h2 with h2
      have := h1 _ (List.getElem_mem hlt)
      omega
    · omega
  have h2 := congrArg (List.take l.length) h
  unfold padL at h2
  rw [List.take_left', ← e, List.take_left'] at h2
  · exact h2.symm
  · rfl
  · rfl
/-- What impl asks of a list of segments. -/
def liveI (v : LiveV) : Bool := decide (1 ≤ v.next ∧ v.next ≤ 100000 ∧ 1 ≤ v.ids.length ∧ v.ids.length ≤ 60) && (decide (1 ≤ Lib.minOf v.ids) && (decide (Lib.maxOf v.ids < v.next) && decide (padL v.ids = padL (risenL v.ids))))
theorem liveI_eq (v : LiveV) : liveI v = liveB v := by
  unfold liveI liveB
  cases hb : decide (1 ≤ v.next ∧ v.next ≤ 100000 ∧ 1 ≤ v.ids.length ∧ v.ids.length ≤ 60) with
  | false => rfl
  | true =>
    rw [decide_eq_true_iff] at hb
    rw [Bool.true_and, Bool.true_and, Bool.eq_iff_iff, Bool.and_eq_true, Bool.and_eq_true, decide_eq_true_iff, decide_eq_true_iff, decide_eq_true_iff, minOf_iff _ (by omega), maxOf_iff _ _ (by omega), okFrom_iff, List.pairwise_cons]
    constructor
    · rintro ⟨h1, h2, h3⟩
      have h4 := padL_eq _ _ h1 (risenL_length _) (by omega) h3
      exact ⟨⟨fun x hx => by have := h1 x hx; omega, risenL_eq _ h4⟩, fun x hx => by have := h2 x hx; omega⟩
    · rintro ⟨⟨h1, h2⟩, h3⟩
      refine ⟨fun x hx => by have := h1 x hx; omega, fun x hx => by have := h3 x hx; omega, ?_⟩
      rw [risenL_of _ h2]

end Go.Proofs.YthnealhaleccpaaDoor
