/-
  A directory in plain words: an entry of a key, a directory without a key, an entry put into its place.
-/
import Derived.Test.YtnckdfidehbcaaaEntBase
import Derived.Laws.Cover1
namespace Go.Proofs.Ytnckdfidehbcaaa
open Go.RowKit
open Plain

/-- Does the one text stand ahead of the other? -/
def klt (a b : ByteArray) : Bool := Op.bytesLess a.toList b.toList
theorem blt_lt : ∀ (x y : List UInt8), Op.bytesLess x y = decide (x < y)
  | x, [] => by simp [Op.bytesLess]
  | [], b :: y => by simp [Op.bytesLess]
  | a :: x, b :: y => by
    rw [Op.bytesLess, blt_lt x y]
    simp only [List.cons_lt_cons_iff]
    by_cases h1 : a < b <;> by_cases h2 : a = b <;> by_cases h3 : x < y <;> simp [h1, h2, h3]
theorem klt_iff {a b : ByteArray} : klt a b = true ↔ a.toList < b.toList := by unfold klt; rw [blt_lt, decide_eq_true_iff]
theorem klt_no {a b : ByteArray} : klt a b = false ↔ ¬ a.toList < b.toList := by unfold klt; rw [blt_lt, decide_eq_false_iff_not]
theorem klt_trans {a b c : ByteArray} (h : klt a b = true) (h2 : klt b c = true) : klt a c = true := klt_iff.2 (List.lt_trans (klt_iff.1 h) (klt_iff.1 h2))
theorem klt_asymm {a b : ByteArray} (h : klt a b = true) : klt b a = false := klt_no.2 (List.lt_asymm (klt_iff.1 h))
theorem klt_irrefl (a : ByteArray) : klt a a = false := klt_no.2 (List.lt_irrefl _)
theorem klt_other {a b : ByteArray} (h : klt a b = false) (hn : ¬ b = a) : klt b a = true := by
  rw [klt_no] at h
  rw [klt_iff]
  rcases List.le_iff_lt_or_eq.1 (List.not_lt.1 h) with h1 | h1
  · exact h1
  · exact absurd (toList_inj h1) hn
theorem klt_ne {a b : ByteArray} (h : klt a b = true) : ¬ a = b := fun e => by rw [e, klt_irrefl] at h; cases h
def dropE (xs : List EntV) (key : ByteArray) : List EntV := xs.filter (fun e => decide (¬ e.key = key))
def insE : List EntV → EntV → List EntV
  | [], e => [e]
  | x :: r, e => if klt e.key x.key = true then e :: x :: r else x :: insE r e
def putE (xs : List EntV) (e : EntV) : List EntV := insE (dropE xs e.key) e
def getE (xs : List EntV) (key : ByteArray) : Option EntV := xs.find? (fun e => decide (e.key = key))

theorem dropE_len (xs : List EntV) (key : ByteArray) : (dropE xs key).length ≤ xs.length := List.length_filter_le _ _
theorem dropE_succ_ne (xs : List EntV) (key : ByteArray) (k : Nat) (h : k < xs.length) (hk : ¬ (xs[k]).key = key) : dropE (xs.take (k + 1)) key = dropE (xs.take k) key ++ [xs[k]] := by
  unfold dropE
  rw [List.take_succ_eq_append_getElem h, List.filter_append]
  simp [hk]
theorem dropE_succ_eq (xs : List EntV) (key : ByteArray) (k : Nat) (h : k < xs.length) (hk : (xs[k]).key = key) : dropE (xs.take (k + 1)) key = dropE (xs.take k) key := by
  unfold dropE
  rw [List.take_succ_eq_append_getElem h, List.filter_append]
  simp [hk]
/-- No entry of the list stands behind e. -/
def NoneGt (xs : List EntV) (e : EntV) : Prop := ∀ x, x ∈ xs → klt e.key x.key = false
theorem insE_behind (xs : List EntV) (r : List EntV) (e : EntV) (h : NoneGt xs e) : insE (xs ++ r) e = xs ++ insE r e := by
  induction xs with
  | nil => rfl
  | cons x l ih =>
    have h1 := h x List.mem_cons_self
    rw [List.cons_append, insE, if_neg (by rw [h1]; simp), ih (fun y hy => h y (List.mem_cons_of_mem _ hy)), List.cons_append]
theorem insE_end (xs : List EntV) (e : EntV) (h : NoneGt xs e) : insE xs e = xs ++ [e] := by
  have := insE_behind xs [] e h
  rw [List.append_nil] at this
  exact this
theorem insE_more (xs : List EntV) (r : List EntV) (e : EntV) (h : ∃ x, x ∈ xs ∧ klt e.key x.key = true) : insE (xs ++ r) e = insE xs e ++ r := by
  induction xs with
  | nil => obtain ⟨x, hx, _⟩ := h; simp at hx
  | cons x l ih =>
    rw [List.cons_append, insE, insE]
    by_cases hx : klt e.key x.key = true
    · rw [if_pos hx, if_pos hx]
      rfl
    · rw [if_neg hx, if_neg hx, List.cons_append]
      obtain ⟨y, hy, hg⟩ := h
      rcases List.mem_cons.1 hy with rfl | hy
      · exact absurd hg hx
      · rw [ih ⟨y, hy, hg⟩]
theorem insE_len (xs : List EntV) (e : EntV) : (insE xs e).length = xs.length + 1 := by
  induction xs with
  | nil => rfl
  | cons x l ih =>
    rw [insE]
    split
    · rfl
    · rw [List.length_cons, ih, List.length_cons]
theorem insE_at (xs : List EntV) (e : EntV) (k : Nat) (hk : k < xs.length) (h1 : NoneGt (xs.take k) e) (h2 : klt e.key (xs[k]).key = true) : insE xs e = xs.take k ++ e :: xs.drop k := by
  have h := insE_behind (xs.take k) (xs.drop k) e h1
  rw [List.take_append_drop] at h
  rw [h, List.drop_eq_getElem_cons hk, insE, if_pos h2]

/-- What spec.DirPut holds behind its first k entries. -/
structure PutSt (xs : List EntV) (e : EntV) (k : Nat) (done : Bool) (out : List EntV) : Prop where
  no : done = false → out = dropE (xs.take k) e.key ∧ NoneGt (dropE (xs.take k) e.key) e
  yes : done = true → out = insE (dropE (xs.take k) e.key) e ∧ ∃ x, x ∈ dropE (xs.take k) e.key ∧ klt e.key x.key = true
theorem PutSt.start (xs : List EntV) (e : EntV) : PutSt xs e 0 false [] := ⟨fun _ => ⟨rfl, fun x hx => by simp [dropE] at hx⟩, fun h => by cases h⟩
theorem PutSt.same {xs : List EntV} {e : EntV} {k : Nat} {done : Bool} {out : List EntV} (h : PutSt xs e k done out) (hk : k < xs.length) (he : (xs[k]).key = e.key) : PutSt xs e (k + 1) done out := by
  have hd := dropE_succ_eq xs e.key k hk he
  exact ⟨fun q => by rw [hd]; exact h.no q, fun q => by rw [hd]; exact h.yes q⟩
theorem PutSt.gt {xs : List EntV} {e : EntV} {k : Nat} {out : List EntV} (h : PutSt xs e k false out) (hk : k < xs.length) (he : ¬ (xs[k]).key = e.key) (hg : klt e.key (xs[k]).key = true) : PutSt xs e (k + 1) true (out ++ [e] ++ [xs[k]]) := by
  have hd := dropE_succ_ne xs e.key k hk he
  obtain ⟨h1, h2⟩ := h.no rfl
  refine ⟨fun q => (by cases q), fun _ => ⟨?_, xs[k], ?_, hg⟩⟩
  · rw [hd, insE_behind _ _ _ h2, h1, insE, if_pos hg]
    simp
  · rw [hd]; simp
theorem PutSt.le {xs : List EntV} {e : EntV} {k : Nat} {out : List EntV} (h : PutSt xs e k false out) (hk : k < xs.length) (he : ¬ (xs[k]).key = e.key) (hg : klt e.key (xs[k]).key = false) : PutSt xs e (k + 1) false (out ++ [xs[k]]) := by
  have hd := dropE_succ_ne xs e.key k hk he
  obtain ⟨h1, h2⟩ := h.no rfl
  refine ⟨fun _ => ⟨by rw [hd, h1], fun x hx => ?_⟩, fun q => by cases q⟩
  rw [hd] at hx
  rcases List.mem_append.1 hx with hx | hx
  · exact h2 x hx
  · obtain rfl : x = xs[k] := by simpa using hx
    exact hg
theorem PutSt.on {xs : List EntV} {e : EntV} {k : Nat} {out : List EntV} (h : PutSt xs e k true out) (hk : k < xs.length) (he : ¬ (xs[k]).key = e.key) : PutSt xs e (k + 1) true (out ++ [xs[k]]) := by
  have hd := dropE_succ_ne xs e.key k hk he
  obtain ⟨h1, y, hy, hg⟩ := h.yes rfl
  refine ⟨fun q => (by cases q), fun _ => ⟨?_, y, ?_, hg⟩⟩
  · rw [hd, insE_more _ _ _ ⟨y, hy, hg⟩, h1]
  · rw [hd]; exact List.mem_append_left _ hy
theorem PutSt.end_no {xs : List EntV} {e : EntV} {out : List EntV} (h : PutSt xs e xs.length false out) : putE xs e = out ++ [e] := by
  obtain ⟨h1, h2⟩ := h.no rfl
  rw [List.take_length] at h1 h2
  unfold putE
  rw [insE_end _ _ h2, h1]
theorem PutSt.end_yes {xs : List EntV} {e : EntV} {out : List EntV} (h : PutSt xs e xs.length true out) : putE xs e = out := by
  obtain ⟨h1, _⟩ := h.yes rfl
  rw [List.take_length] at h1
  exact h1.symm
theorem PutSt.len {xs : List EntV} {e : EntV} {k : Nat} {done : Bool} {out : List EntV} (h : PutSt xs e k done out) : out.length ≤ k + 1 := by
  have h1 := dropE_len (xs.take k) e.key
  rw [List.length_take] at h1
  cases done with
  | false => rw [(h.no rfl).1]; omega
  | true => rw [(h.yes rfl).1, insE_len]; omega
theorem getE_none {xs : List EntV} {key : ByteArray} {k : Nat} (hk : k < xs.length) (h : getE (xs.take k) key = none) (hn : ¬ (xs[k]).key = key) : getE (xs.take (k + 1)) key = none := by
  unfold getE at h ⊢
  rw [List.take_succ_eq_append_getElem hk, List.find?_append, h]
  simp [hn]
theorem getE_here {xs : List EntV} {key : ByteArray} {k : Nat} (hk : k < xs.length) (h : getE (xs.take k) key = none) (hn : (xs[k]).key = key) : getE xs key = some (xs[k]) := by
  unfold getE at h ⊢
  have e : xs = xs.take k ++ xs[k] :: xs.drop (k + 1) := by
    rw [← List.drop_eq_getElem_cons hk, List.take_append_drop]
  have h2 : (xs.take k ++ xs[k] :: xs.drop (k + 1)).find? (fun e => decide (e.key = key)) = some (xs[k]) := by
    rw [List.find?_append, h, List.find?_cons_of_pos (by simpa using hn)]
    rfl
  rw [← e] at h2
  exact h2

end Go.Proofs.Ytnckdfidehbcaaa
