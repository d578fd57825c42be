/-
  impl.DiskNew: an empty disk of that room, or the zero disk.
-/
import Derived.Test.YthhjomaccbpnbaaNewSpec
import Derived.Below
namespace Go.Proofs.Ythhjomaccbpnbaa
open Go.RowKit
open Plain

set_option maxRecDepth 100000 in
set_option maxHeartbeats 1000000 in
theorem implNew_any (x : Int) (w : World) :
    Calls Try.prog 16 #[.int .i64 x] w fun e w' => e = .returned (.agg #[.slice none 0 0, .int .i64 (newC x), .int .i64 (newU x), .bool false]) ∧ Below w.heap.size w w' := by
  by_cases h : 0 ≤ x ∧ x ≤ 100000
  · have HC : Hid (newC x = x ∧ newU x = -1) := hide (by unfold newC newU; rw [if_pos h, if_pos h]; exact ⟨rfl, rfl⟩)
    have t1 : decide (x < 0) = false := by simp; omega
    have t2 : decide (100000 < x) = false := by simp; omega
    clear h
    go_enter Try.func16, Try.ntmps16
    go_wp2
    refine bodyPost_ret (v := .agg #[.slice none 0 0, .int .i64 x, .int .i64 (-1), .bool false]) (by simp [results, Try.results16, go_sem]) rfl ⟨by rw [HC.out.1, HC.out.2], ?_⟩
    exact (Below.refl _ _).alloc (Nat.le_refl _) _
  · have HC : Hid (newC x = 0 ∧ newU x = 0) := hide (by unfold newC newU; rw [if_neg h, if_neg h]; exact ⟨rfl, rfl⟩)
    by_cases h1 : x < 0
    · have t1 : decide (x < 0) = true := by simpa using h1
      clear h
      go_enter Try.func16, Try.ntmps16
      go_wp2
      refine bodyPost_ret (v := .agg #[.slice none 0 0, .int .i64 0, .int .i64 0, .bool false]) (by simp [results, Try.results16, go_sem]) rfl ⟨by rw [HC.out.1, HC.out.2], ?_⟩
      exact (Below.refl _ _).alloc (Nat.le_refl _) _
    · have t1 : decide (x < 0) = false := by simpa using h1
      have t2 : decide (100000 < x) = true := by simp; omega
      clear h
      go_enter Try.func16, Try.ntmps16
      go_wp2
      refine bodyPost_ret (v := .agg #[.slice none 0 0, .int .i64 0, .int .i64 0, .bool false]) (by simp [results, Try.results16, go_sem]) rfl ⟨by rw [HC.out.1, HC.out.2], ?_⟩
      exact (Below.refl _ _).alloc (Nat.le_refl _) _

end Go.Proofs.Ythhjomaccbpnbaa
