/-
  Records in plain words: their six fields, which are right, and which key is one.
-/
import Derived.Test.YtnckdfidehbcaaaIn
import Derived.Below
import Derived.Laws.StructEq
namespace Go.Proofs.Ytnckdfidehbcaaa
open Go.RowKit
open Plain

/-- A record. -/
structure RecV where
  kind : Int
  batch : Int
  key : ByteArray
  val : ByteArray
  cnt : Int
  sum : Int
theorem RecV.ext' {r q : RecV} (h1 : r.kind = q.kind) (h2 : r.batch = q.batch) (h3 : r.key = q.key) (h4 : r.val = q.val) (h5 : r.cnt = q.cnt) (h6 : r.sum = q.sum) : r = q := by
  cases r; cases q; simp_all

/-- Is it a key? -/
def keyB (s : ByteArray) : Bool := decide (1 ≤ s.size ∧ s.size ≤ 8)
theorem keyB_yes {s : ByteArray} (h : 1 ≤ s.size ∧ s.size ≤ 8) : keyB s = true := decide_eq_true h
theorem keyB_no {s : ByteArray} (h : ¬ (1 ≤ s.size ∧ s.size ≤ 8)) : keyB s = false := decide_eq_false h

/-- What a right record is. -/
def RecOkP (k b : Int) (key val : Nat) (c s : Int) : Prop :=
  (1 ≤ b ∨ (b = 0 ∧ k = 5)) ∧ b ≤ 1000000 ∧
    (((k = 1 ∨ k = 4) ∧ 1 ≤ key ∧ key ≤ 8 ∧ val ≤ 24 ∧ c = 0 ∧ s = 0) ∨
     (k = 2 ∧ 1 ≤ key ∧ key ≤ 8 ∧ val = 0 ∧ c = 0 ∧ s = 0) ∨
     (k = 3 ∧ key = 0 ∧ val = 0 ∧ 0 ≤ c ∧ c ≤ 8 ∧ 0 ≤ s ∧ s ≤ 4294967295) ∨
     (k = 5 ∧ key = 0 ∧ val = 0 ∧ 0 ≤ c ∧ c ≤ 20 ∧ 0 ≤ s ∧ s ≤ 4294967295))
/-- The same as an answer. -/
def okN (k b : Int) (key val : Nat) (c s : Int) : Bool :=
  decide ((1 ≤ b ∨ (b = 0 ∧ k = 5)) ∧ b ≤ 1000000 ∧
    (((k = 1 ∨ k = 4) ∧ 1 ≤ key ∧ key ≤ 8 ∧ val ≤ 24 ∧ c = 0 ∧ s = 0) ∨
     (k = 2 ∧ 1 ≤ key ∧ key ≤ 8 ∧ val = 0 ∧ c = 0 ∧ s = 0) ∨
     (k = 3 ∧ key = 0 ∧ val = 0 ∧ 0 ≤ c ∧ c ≤ 8 ∧ 0 ≤ s ∧ s ≤ 4294967295) ∨
     (k = 5 ∧ key = 0 ∧ val = 0 ∧ 0 ≤ c ∧ c ≤ 20 ∧ 0 ≤ s ∧ s ≤ 4294967295)))
theorem okN_yes {k b : Int} {key val : Nat} {c s : Int} (h : RecOkP k b key val c s) : okN k b key val c s = true := decide_eq_true h
theorem okN_no {k b : Int} {key val : Nat} {c s : Int} (h : ¬ RecOkP k b key val c s) : okN k b key val c s = false := decide_eq_false h
theorem okN_iff {k b : Int} {key val : Nat} {c s : Int} : okN k b key val c s = true ↔ RecOkP k b key val c s := decide_eq_true_iff
def recOkB (r : RecV) : Bool := okN r.kind r.batch r.key.size r.val.size r.cnt r.sum

theorem toList_inj {a b : ByteArray} (h : a.toList = b.toList) : a = b := by
  rw [ByteArray.toList_eq, ByteArray.toList_eq] at h
  cases a; cases b
  simp at h
  subst h
  rfl
theorem str_eq (a b : ByteArray) (h : a = b) : (a.toList == b.toList) = true := by subst h; simp
theorem str_ne (a b : ByteArray) (h : ¬ a = b) : (a.toList == b.toList) = false := by
  simp
  intro e
  exact h (toList_inj e)
theorem empty_of {a : ByteArray} (h : a.size = 0) : a = ⟨#[]⟩ := by
  obtain ⟨⟨l⟩⟩ := a
  have : l.length = 0 := h
  rw [List.length_eq_zero_iff] at this
  subst this
  rfl
theorem nil_eq {a : ByteArray} (h : a.size = 0) : a.toList = [] := by rw [empty_of h, ByteArray.toList_eq]
theorem nil_ne {a : ByteArray} (h : ¬ a.size = 0) : ¬ a.toList = [] := fun e => h (by
  have : a = ⟨#[]⟩ := toList_inj (e.trans (by rw [ByteArray.toList_eq]))
  rw [this]; rfl)

set_option maxHeartbeats 400000 in
theorem specKey_any (s : ByteArray) (w : World) :
    Calls Try.prog 26 #[.string s] w fun e w' => e = .returned (.bool (keyB s)) ∧ w = w' := by
  have HK : Hid (decide ((1 : Int) ≤ (s.size : Int) ∧ (s.size : Int) ≤ 8) = keyB s) := hide (by unfold keyB; apply decide_eq_decide.2; omega)
  go_enter Try.func26, Try.ntmps26
  go_wp2_with (go_at_call 27; refine (in_any _ _ _ _).mono ?_; rw [HK.out]; rintro e w' ⟨rfl, rfl⟩)
  go_ret
  exact ⟨rfl, rfl⟩

end Go.Proofs.Ytnckdfidehbcaaa
