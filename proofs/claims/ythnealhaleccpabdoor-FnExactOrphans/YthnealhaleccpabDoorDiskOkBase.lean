/-
  Is a disk right? As a Lean function, and what spec.DiskOk leans on.
-/
import Derived.Test.YthnealhaleccpabDoorDiskRead
import Derived.Test.YthnealhaleccpabDoorNameSpec
import Derived.Deep.RegionHeld3
import Derived.Laws.Cover1
namespace Go.Proofs.YthnealhaleccpabDoor
open Go.RowKit
open Plain

def inB (lo x hi : Int) : Bool := decide (lo ≤ x ∧ x ≤ hi)
theorem inB_yes {lo x hi : Int} (h : lo ≤ x ∧ x ≤ hi) : inB lo x hi = true := by simp [inB, h]
theorem inB_no {lo x hi : Int} (h : ¬ (lo ≤ x ∧ x ≤ hi)) : inB lo x hi = false := by unfold inB; simpa using h
theorem in_anyB (x lo hi : Int) (w : World) :
    Calls Tryd.prog 39 #[.int .i64 x, .int .i64 lo, .int .i64 hi] w fun e w' => e = .returned (.bool (inB lo x hi)) ∧ w = w' := in_any x lo hi w

/-- Is one text not behind the other one? -/
def sle (a b : ByteArray) : Bool := Op.bytesLess a.toList b.toList || a.toList == b.toList
def okF (f : FileV) : Bool := nameOk f.name && inB 0 f.safe f.text.size
def okAt (fs : List FileV) (i : Nat) : Bool := okF (fs.getD i zeroF) && (decide (i = 0) || !(sle (fs.getD i zeroF).name (fs.getD (i - 1) zeroF).name))
def okAll (fs : List FileV) : Bool := (List.range fs.length).all (okAt fs)
def headOk (fs : List FileV) (c u : Int) : Bool := decide (fs.length ≤ 130) && (inB 0 c 100000 && (inB (-1) u 100000 && decide ((usedF fs : Int) ≤ c)))
def diskOk (fs : List FileV) (c u : Int) : Bool := headOk fs c u && okAll fs
theorem okAll_bad (fs : List FileV) (i : Nat) (hi : i < fs.length) (h : okAt fs i = false) : okAll fs = false := by
  cases ha : okAll fs with
  | false => rfl
  | true =>
    have := List.all_eq_true.1 ha i (by simpa using hi)
    rw [h] at this
    cases this
theorem okAll_good (fs : List FileV) (h : ∀ i, i < fs.length → okAt fs i = true) : okAll fs = true := List.all_eq_true.2 (fun i hi => h i (by simpa using hi))

theorem szF_le (fs : List FileV) : ∀ k, (h : k < fs.length) → szF (fs[k]) ≤ szFs fs := by
  induction fs with
  | nil => intro k h; simp at h
  | cons f r ih =>
    intro k h
    cases k with
    | zero => simp [szFs]
    | succ k =>
      have := ih k (by simpa using h)
      simp [szFs]
      omega
theorem name_le (fs : List FileV) (k : Nat) (h : k < fs.length) : (fs[k]).name.size ≤ szFs fs := by have := szF_le fs k h; unfold szF at this; omega
theorem text_le (fs : List FileV) (k : Nat) (h : k < fs.length) : (fs[k]).text.size ≤ szFs fs := by have := szF_le fs k h; unfold szF at this; omega
end Go.Proofs.YthnealhaleccpabDoor
