/-
  spec's l3Used and l3Find: how many bytes all files have; the place of a file.
-/
import Derived.Test.YthnealhaleccpabDoorFiles
import Derived.Test.YthnealhaleccpabDoorEqDisk
namespace Go.Proofs.YthnealhaleccpabDoor
open Go.RowKit
open Plain

def usedF : List FileV → Nat
  | [] => 0
  | f :: r => f.text.size + usedF r
theorem usedF_take_succ (fs : List FileV) (k : Nat) (h : k < fs.length) : usedF (fs.take (k + 1)) = usedF (fs.take k) + (fs[k]).text.size := by
  induction fs generalizing k with
  | nil => simp at h
  | cons f r ih =>
    cases k with
    | zero => simp [usedF]
    | succ k =>
      have := ih k (by simpa using h)
      simp [usedF] at this ⊢
      omega
theorem usedF_take_le (fs : List FileV) (k : Nat) : usedF (fs.take k) ≤ usedF fs := by
  induction fs generalizing k with
  | nil => simp [usedF]
  | cons f r ih =>
    cases k with
    | zero => simp [usedF]
    | succ k => simp [usedF]; exact ih k
theorem usedF_le_sz (fs : List FileV) : usedF fs ≤ szFs fs := by
  induction fs with
  | nil => simp [usedF]
  | cons f r ih => simp [usedF, szFs, szF]; omega

/-- A disk's block: what a struct that came in is boxed as. -/
theorem box4 (w : World) (x0 x1 x2 x3 : Value) (ty : TypeId) : Below w.heap.size w (w.alloc (.cells #[x0, x1, x2, x3] ty)) ∧ (w.alloc (.cells #[x0, x1, x2, x3] ty)).heap[w.heap.size]? = some (.cells #[x0, x1, x2, x3] ty (0, 0)) :=
  ⟨(Below.refl _ w).alloc (Nat.le_refl _) _, heap_alloc_new w _⟩

set_option maxRecDepth 100000 in
set_option maxHeartbeats 1000000 in
theorem specUsed_any (w : World) (a : Option Addr) (n cap : Nat) (fs : List FileV) (hr : FRow w 0 a n fs) (hn : n ≤ 1099511627776) (hu : usedF fs ≤ 1099511627776) (c u : Int) (d : Bool) :
    Calls Tryd.prog 45 #[.agg #[.slice a n cap, .int .i64 c, .int .i64 u, .bool d]] w fun e w' => e = .returned (.int .i64 (usedF fs)) ∧ Below w.heap.size w w' := by
  have hbx := box4 w (.slice a n cap) (.int .i64 c) (.int .i64 u) (.bool d) 37
  have HR := hide (hr.later hbx.1 (Nat.le_refl _))
  have HB := hide hbx.1
  have hlen := hr.len
  obtain ⟨c0, -⟩ := cells4 hbx.2
  clear hr hbx
  go_enter Tryd.func45, Tryd.ntmps45
  go_wp2
  go_loop [3, 4] (fun v i => ∃ k : Nat, k ≤ n ∧ i = .int .i64 k ∧ v = .int .i64 (usedF (fs.take k) : Nat)) (fun _ i => n - (intOf i).toNat)
  case atStart => exact ⟨0, by omega, rfl, by simp [usedF]⟩
  case round =>
    obtain ⟨k, hk, rfl, rfl⟩ := hrel
    by_cases hlt : k < n
    · have hkf : k < fs.length := by omega
      obtain ⟨b, off, rfl, -, hbw, e1, e2, e3⟩ := HR.out.cells k hkf
      have hst := hide (usedF_take_succ fs k hkf)
      have hle := usedF_take_le fs (k + 1)
      have hst2 := hst.out
      have hS : usedF (fs.take k) + (fs[k]).text.size ≤ 1099511627776 := by omega
      clear hle hst2
      generalize usedF (fs.take k) = S at *
      go_wp2
      go_round
      case rel => exact ⟨k + 1, by omega, by go_num, by rw [hst.out]; go_num⟩
      case measure => first | (simp [intOf]; done) | (simp [intOf]; omega)
    · obtain rfl : k = n := by omega
      rw [List.take_of_length_le (by omega)]
      go_wp2
      go_ret
      exact ⟨rfl, HB.out⟩


end Go.Proofs.YthnealhaleccpabDoor
