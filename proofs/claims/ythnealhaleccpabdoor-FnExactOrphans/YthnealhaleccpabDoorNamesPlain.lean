/-
  Names of segments and of hints with no Go in sight, and the number of a name.
-/
import Derived.Test.YthnealhaleccpabDoorDecBase
import Derived.Test.YthnealhaleccpabDoorPlainDec
import Derived.Test.YthnealhaleccpabDoorNumV
namespace Go.Proofs.YthnealhaleccpabDoor
open Go.RowKit
open Plain

def segP : ByteArray := ⟨#[115, 101, 103]⟩
def hintP : ByteArray := ⟨#[104, 105, 110, 116]⟩
def segS (n : Int) : ByteArray := if 1 ≤ n ∧ n ≤ 100000 then segP ++ itoaS n else ⟨#[]⟩
def hintS (n : Int) : ByteArray := if 1 ≤ n ∧ n ≤ 100000 then hintP ++ itoaS n else ⟨#[]⟩
theorem segS_in (n : Int) (h : 1 ≤ n ∧ n ≤ 100000) : segS n = segP ++ itoaS n := if_pos h
theorem hintS_in (n : Int) (h : 1 ≤ n ∧ n ≤ 100000) : hintS n = hintP ++ itoaS n := if_pos h
theorem itoaS_inj {n m : Int} (h : itoaS n = itoaS m) : n = m := by
  have e : Lib.itoa n = Lib.itoa m := by
    have := congrArg (fun s : ByteArray => s.data.toList) h
    simpa [itoaS] using this
  have e1 := atoi_itoa n
  rw [e, atoi_itoa m] at e1
  injection e1 with e1
  exact e1.symm
theorem seg_cut (n : Int) (h : 1 ≤ n ∧ n ≤ 100000) : (segS n).extract 3 (segS n).size = itoaS n := by
  rw [segS_in n h]
  exact ba_drop segP (itoaS n)
theorem hint_cut (n : Int) (h : 1 ≤ n ∧ n ≤ 100000) : (hintS n).extract 4 (hintS n).size = itoaS n := by
  rw [hintS_in n h]
  exact ba_drop hintP (itoaS n)
theorem seg_head (n : Int) (h : 1 ≤ n ∧ n ≤ 100000) : (segS n).data.toList.head? = some 115 := by
  rw [segS_in n h, ByteArray.data_append, Array.toList_append]
  rfl
theorem hint_head (n : Int) (h : 1 ≤ n ∧ n ≤ 100000) : (hintS n).data.toList.head? = some 104 := by
  rw [hintS_in n h, ByteArray.data_append, Array.toList_append]
  rfl
/-- This name is the segment's or the hint's of n. -/
def IsName (s : ByteArray) (n : Int) : Prop := (1 ≤ n ∧ n ≤ 100000) ∧ (segS n = s ∨ hintS n = s)
theorem name_one {s : ByteArray} {n m : Int} (h : IsName s n) (k : IsName s m) : n = m := by
  obtain ⟨h0, h⟩ := h
  obtain ⟨k0, k⟩ := k
  rcases h with rfl | rfl
  · rcases k with k | k
    · have e := seg_cut n h0
      rw [← k, seg_cut m k0] at e
      exact (itoaS_inj e).symm
    · have e := seg_head n h0
      rw [← k, hint_head m k0] at e
      cases e
  · rcases k with k | k
    · have e := hint_head n h0
      rw [← k, seg_head m k0] at e
      cases e
    · have e := hint_cut n h0
      rw [← k, hint_cut m k0] at e
      exact (itoaS_inj e).symm
/-- What IdOf tells. -/
def ID (s : ByteArray) (n : Int) (ok : Bool) : Prop := (ok = true ∧ IsName s n) ∨ (ok = false ∧ n = 0 ∧ ∀ m, ¬ IsName s m)
theorem ID_one {s : ByteArray} {n m : Int} {a b : Bool} (h : ID s n a) (k : ID s m b) : n = m ∧ a = b := by
  rcases h with ⟨rfl, h⟩ | ⟨rfl, rfl, h⟩
  · rcases k with ⟨rfl, k⟩ | ⟨_, _, k⟩
    · exact ⟨name_one h k, rfl⟩
    · exact absurd h (k n)
  · rcases k with ⟨rfl, k⟩ | ⟨rfl, rfl, _⟩
    · exact absurd k (h m)
    · exact ⟨rfl, rfl⟩
/-- The number that stands behind the first k bytes, if the name is its. -/
def ioK (s : ByteArray) (k : Nat) : Option Int :=
  match Lib.atoi (s.extract k s.size).data.toList with
  | some n => if (1 ≤ n ∧ n ≤ 100000) ∧ (segS n = s ∨ hintS n = s) then some n else none
  | none => none
theorem ioK_name {s : ByteArray} {k : Nat} {n : Int} (h : ioK s k = some n) : IsName s n := by
  unfold ioK at h
  split at h
  · split at h
    · rename_i h1
      injection h with h
      subst h
      exact h1
    · cases h
  · cases h
theorem ioK_seg (n : Int) (h : 1 ≤ n ∧ n ≤ 100000) : ioK (segS n) 3 = some n := by
  unfold ioK
  rw [seg_cut n h]
  simp only [itoaS, atoi_itoa]
  rw [if_pos ⟨h, Or.inl trivial⟩]
theorem ioK_hint (n : Int) (h : 1 ≤ n ∧ n ≤ 100000) : ioK (hintS n) 4 = some n := by
  unfold ioK
  rw [hint_cut n h]
  simp only [itoaS, atoi_itoa]
  rw [if_pos ⟨h, Or.inr trivial⟩]
def io (s : ByteArray) : Int × Bool :=
  match ioK s 3 with
  | some n => (n, true)
  | none => match ioK s 4 with
    | some n => (n, true)
    | none => (0, false)
theorem io_ID (s : ByteArray) : ID s (io s).1 (io s).2 := by
  unfold io
  split
  · rename_i n h
    exact Or.inl ⟨rfl, ioK_name h⟩
  · rename_i h3
    split
    · rename_i n h
      exact Or.inl ⟨rfl, ioK_name h⟩
    · rename_i h4
      refine Or.inr ⟨rfl, rfl, fun m hm => ?_⟩
      obtain ⟨hr, rfl | rfl⟩ := hm
      · rw [ioK_seg m hr] at h3
        cases h3
      · rw [ioK_hint m hr] at h4
        cases h4
theorem io_of {s : ByteArray} {n : Int} {ok : Bool} (h : ID s n ok) : io s = (n, ok) := by
  obtain ⟨h1, h2⟩ := ID_one (io_ID s) h
  rw [← h1, ← h2]

end Go.Proofs.YthnealhaleccpabDoor
