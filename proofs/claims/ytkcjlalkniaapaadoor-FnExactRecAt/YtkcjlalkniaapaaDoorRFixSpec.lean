/-
  What spec.ReadFixed answers, at every text of at most 1048576 bytes and every width; it leaves the world as it was.
-/
import Derived.Test.YtkcjlalkniaapaaDoorIn
namespace Go.Proofs.YtkcjlalkniaapaaDoor
open Go.RowKit
open Plain

set_option maxHeartbeats 400000 in
theorem specReadFixed_no (s : ByteArray) (n : Int) (w : World) (_hs : s.size ≤ 1048576) (h : n < 1 ∨ 7 < n ∨ s.size < n) :
    Calls Tryd.prog 69 #[.string s, .int .i64 n] w fun e w' => e = .returned (.tuple #[.int .i64 0, .bool false]) ∧ w = w' := by
  by_cases h1 : 1 ≤ n ∧ n ≤ 7
  · have hin : decide (1 ≤ n ∧ n ≤ 7) = true := by simpa using h1
    go_enter Tryd.func69, Tryd.ntmps69
    go_wp2_with (go_at_call 50; refine (in_any _ _ _ _).mono ?_; rw [hin]; rintro e w' ⟨rfl, rfl⟩)
    go_ret2
    exact ⟨rfl, rfl⟩
  · have hin : decide (1 ≤ n ∧ n ≤ 7) = false := by simpa using h1
    go_enter Tryd.func69, Tryd.ntmps69
    go_wp2_with (go_at_call 50; refine (in_any _ _ _ _).mono ?_; rw [hin]; rintro e w' ⟨rfl, rfl⟩)
    go_ret2
    exact ⟨rfl, rfl⟩

set_option maxHeartbeats 400000 in
theorem specReadFixed_yes (s : ByteArray) (m : Nat) (w : World) (hs : s.size ≤ 1048576) (h1 : 1 ≤ m) (h2 : m ≤ 7) (h3 : m ≤ s.size) :
    Calls Tryd.prog 69 #[.string s, .int .i64 m] w fun e w' => e = .returned (.tuple #[.int .i64 (fixVal s m), .bool true]) ∧ w = w' := by
  have hin : decide ((1:Int) ≤ m ∧ (m:Int) ≤ 7) = true := by simp; omega
  go_enter Tryd.func69, Tryd.ntmps69
  go_wp2_with (go_at_call 50; refine (in_any _ _ _ _).mono ?_; rw [hin]; rintro e w' ⟨rfl, rfl⟩)
  go_loop [6, 7] (fun n i => ∃ k : Nat, k ≤ m ∧ i = .int .i64 k ∧ n = .int .i64 (fixVal s k)) (fun _ i => m - (intOf i).toNat)
  case atStart => exact ⟨0, Nat.zero_le _, rfl, rfl⟩
  case round =>
    obtain ⟨k, hk, rfl, rfl⟩ := hrel
    by_cases hlt : k < m
    · have hb := fixVal_bd s k (by omega)
      have hk2 : k < s.size := by omega
      have hc := UInt8.toNat_lt s[k]
      have HS : Hid (fixVal s (k + 1) = fixVal s k * 256 + s[k].toNat) := by show _ = _; rw [fixVal, byteAt_eq s k hk2]
      go_wp2
      go_round
      case rel => exact ⟨k + 1, by omega, by go_num, val_int (by rw [HS.out]; omega)⟩
      case measure => simp [intOf]; omega
    · obtain rfl : k = m := by omega
      go_wp2
      go_ret2
      exact ⟨rfl, rfl⟩

end Go.Proofs.YtkcjlalkniaapaaDoor
