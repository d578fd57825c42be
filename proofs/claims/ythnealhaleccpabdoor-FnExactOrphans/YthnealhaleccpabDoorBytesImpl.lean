/-
  impl.bytesIn: how many bytes all files have.
-/
import Derived.Test.YthnealhaleccpabDoorDiskRead
namespace Go.Proofs.YthnealhaleccpabDoor
open Go.RowKit
open Plain

set_option maxRecDepth 100000 in
set_option maxHeartbeats 1000000 in
theorem implBytes_any (w : World) (a : Option Addr) (n cap : Nat) (fs : List FileV) (hr : FRow w 0 a n fs) (hn : n ≤ 1099511627776) (hu : usedF fs ≤ 1099511627776) :
    Calls Tryd.prog 49 #[.slice a n cap] w fun e w' => e = .returned (.int .i64 (usedF fs)) ∧ Below w.heap.size w w' := by
  have HR := hide hr
  have hlen := hr.len
  clear hr
  go_enter Tryd.func49, Tryd.ntmps49
  go_wp2
  go_loopw [3, 8] (fun v i wr => ∃ k : Nat, k ≤ n ∧ i = .int .i64 k ∧ v = .int .i64 (usedF (fs.take k) : Nat) ∧ Hid (Below w.heap.size w wr)) (fun _ i _ => n - (intOf i).toNat)
  case atStart => exact ⟨0, by omega, rfl, by simp [usedF], hide (Below.refl _ _)⟩
  case round =>
    obtain ⟨k, hk, rfl, rfl, HB⟩ := hrel
    by_cases hlt : k < n
    · have hkf : k < fs.length := by omega
      obtain ⟨b, off, rfl, -, hbw, e1, e2, e3⟩ := (HR.out.later HB.out (Nat.le_refl _)).cells k hkf
      have hst := hide (usedF_take_succ fs k hkf)
      have hle := usedF_take_le fs (k + 1)
      have hst2 := hst.out
      have hS : usedF (fs.take k) + (fs[k]).text.size ≤ 1099511627776 := by omega
      clear hle hst2
      generalize usedF (fs.take k) = S at *
      go_wp2
      go_roundw
      case rel => exact ⟨k + 1, by omega, by go_num, by rw [hst.out]; go_num, hide (HB.out.alloc HB.out.size _)⟩
      case measure => first | (simp [intOf]; done) | (simp [intOf]; omega)
    · obtain rfl : k = n := by omega
      rw [List.take_of_length_le (by omega)]
      go_wp2
      go_ret
      exact ⟨rfl, HB.out⟩

end Go.Proofs.YthnealhaleccpabDoor
