/-
  spec.DiskNew: an empty disk of that room, or the zero disk.
-/
import Derived.Test.YthfpcjamlbkgfaaIn
import Derived.Test.YthfpcjamlbkgfaaFiles
namespace Go.Proofs.Ythfpcjamlbkgfaa
open Go.RowKit
open Plain

def newC (x : Int) : Int := if 0 ≤ x ∧ x ≤ 100000 then x else 0
def newU (x : Int) : Int := if 0 ≤ x ∧ x ≤ 100000 then -1 else 0

set_option maxRecDepth 100000 in
set_option maxHeartbeats 1000000 in
theorem specNew_any (x : Int) (w : World) :
    Calls Try.prog 59 #[.int .i64 x] w fun e w' => e = .returned (.agg #[.slice none 0 0, .int .i64 (newC x), .int .i64 (newU x), .bool false]) ∧ Below w.heap.size w w' := by
  go_enter Try.func59, Try.ntmps59
  go_wp2_with fail
  refine (in_any x 0 100000 _).mono ?_
  rintro e w2 ⟨rfl, rfl⟩
  by_cases h : 0 ≤ x ∧ x ≤ 100000
  · have HC : Hid (newC x = x ∧ newU x = -1) := hide (by unfold newC newU; rw [if_pos h, if_pos h]; exact ⟨rfl, rfl⟩)
    have hd : decide (0 ≤ x ∧ x ≤ 100000) = true := by simpa using h
    rw [hd]
    clear h hd
    go_wp2
    refine bodyPost_ret (v := .agg #[.slice none 0 0, .int .i64 x, .int .i64 (-1), .bool false]) (by simp [results, Try.results59, go_sem]) rfl ⟨by rw [HC.out.1, HC.out.2], ?_⟩
    exact (Below.refl _ _).alloc (Nat.le_refl _) _
  · have HC : Hid (newC x = 0 ∧ newU x = 0) := hide (by unfold newC newU; rw [if_neg h, if_neg h]; exact ⟨rfl, rfl⟩)
    have hd : decide (0 ≤ x ∧ x ≤ 100000) = false := by simpa using h
    rw [hd]
    clear h hd
    go_wp2
    refine bodyPost_ret (v := .agg #[.slice none 0 0, .int .i64 0, .int .i64 0, .bool false]) (by simp [results, Try.results59, go_sem]) rfl ⟨by rw [HC.out.1, HC.out.2], ?_⟩
    exact (Below.refl _ _).alloc (Nat.le_refl _) _

end Go.Proofs.Ythfpcjamlbkgfaa
