/-
  Files of a disk as Lean values, and how a slice of them lies in the world: three cells a file.
-/
import Derived.Test.YtnckdfidehbcaaaCore
import Derived.WalkKit
import Derived.Below
namespace Go.Proofs.Ytnckdfidehbcaaa
open Go.RowKit
open Plain

/-- A file: its name, its text, how much of it is kept. -/
structure FileV where
  name : ByteArray
  text : ByteArray
  safe : Int
def FileV.cells (f : FileV) : List Value := [.string f.name, .string f.text, .int .i64 f.safe]
/-- The slice v shows these files; what it leads to lies in blocks from base on. -/
structure FRow (w : World) (base : Nat) (a : Option Addr) (len : Nat) (fs : List FileV) : Prop where
  len : fs.length = len
  cells : ∀ i, (h : i < fs.length) → ∃ b off, a = some ⟨b, off, none⟩ ∧ base ≤ b ∧ b < w.heap.size ∧
    w.cell? ⟨b, off + i * 3, none⟩ = some (.string (fs[i]).name) ∧ w.cell? ⟨b, off + i * 3 + 1, none⟩ = some (.string (fs[i]).text) ∧ w.cell? ⟨b, off + i * 3 + 2, none⟩ = some (.int .i64 (fs[i]).safe)
theorem FRow.later {w w' : World} {base K : Nat} {a : Option Addr} {len : Nat} {fs : List FileV} (h : FRow w base a len fs) (hb : Below K w w') (hK : w.heap.size ≤ K) : FRow w' base a len fs where
  len := h.len
  cells := fun i hi => by
    obtain ⟨b, off, h1, h2, h3, h4, h5, h6⟩ := h.cells i hi
    refine ⟨b, off, h1, h2, Nat.lt_of_lt_of_le h3 hb.size, ?_, ?_, ?_⟩
    · rw [hb.cell (p := ⟨b, _, none⟩) (Nat.lt_of_lt_of_le h3 hK)]; exact h4
    · rw [hb.cell (p := ⟨b, _, none⟩) (Nat.lt_of_lt_of_le h3 hK)]; exact h5
    · rw [hb.cell (p := ⟨b, _, none⟩) (Nat.lt_of_lt_of_le h3 hK)]; exact h6

/-- How much a list of files weighs. -/
def szF (f : FileV) : Nat := f.name.size + f.text.size
def szFs : List FileV → Nat
  | [] => 0
  | f :: r => szF f + szFs r
theorem szFs_take_succ (fs : List FileV) (k : Nat) (h : k < fs.length) : szFs (fs.take (k + 1)) = szFs (fs.take k) + szF (fs[k]) := by
  induction fs generalizing k with
  | nil => simp at h
  | cons f r ih =>
    cases k with
    | zero => simp [szFs]
    | succ k =>
      have := ih k (by simpa using h)
      simp [szFs] at this ⊢
      omega
theorem szFs_take_le (fs : List FileV) (k : Nat) : szFs (fs.take k) ≤ szFs fs := by
  induction fs generalizing k with
  | nil => simp [szFs]
  | cons f r ih =>
    cases k with
    | zero => simp [szFs]
    | succ k => simp [szFs]; exact ih k

end Go.Proofs.Ytnckdfidehbcaaa
