/-
  What spec.ReadFixed and impl.ReadFixed answer, at every text and every width, and that they leave the world as it was.
-/
import Derived.Test.YtelfhodaahpggajProg
import Derived.Test.YtelfhodaahpggajMath
import Derived.WalkKit
namespace Go.Proofs.Ytelfhodaahpggaj
open Go.RowKit
open Plain

theorem hide {p : Prop} (h : p) : Hid p := h
theorem ret_two {k : IntKind} {a b : Int} {c : Bool} (h : a = b) : Ending.returned (.tuple #[.int k a, .bool c]) = .returned (.tuple #[.int k b, .bool c]) := by rw [h]
theorem val_int {k : IntKind} {a b : Int} (h : a = b) : Value.int k a = .int k b := by rw [h]

set_option maxHeartbeats 400000 in
theorem in_any (x lo hi : Int) (w : World) :
    Calls Try.prog 18 #[.int .i64 x, .int .i64 lo, .int .i64 hi] w fun e w' => e = .returned (.bool (decide (lo ≤ x ∧ x ≤ hi))) ∧ w = w' := by
  by_cases h1 : lo ≤ x
  · by_cases h2 : x ≤ hi
    all_goals
      go_enter Try.func18, Try.ntmps18
      go_wp2
      go_ret
      exact ⟨by simp [h1, h2], rfl⟩
  · have h3 : decide (lo ≤ x) = false := by simpa using h1
    go_enter Try.func18, Try.ntmps18
    go_wp2
    go_ret
    exact ⟨by first | (simp; done) | (simp; omega), rfl⟩

set_option maxHeartbeats 400000 in
theorem specReadFixed_no (s : ByteArray) (n : Int) (w : World) (_hs : s.size ≤ 1048576) (h : n < 1 ∨ 7 < n ∨ s.size < n) :
    Calls Try.prog 10 #[.string s, .int .i64 n] w fun e w' => e = .returned (.tuple #[.int .i64 0, .bool false]) ∧ w = w' := by
  by_cases h1 : 1 ≤ n ∧ n ≤ 7
  · have hin : decide (1 ≤ n ∧ n ≤ 7) = true := by simpa using h1
    go_enter Try.func10, Try.ntmps10
    go_wp2_with (go_at_call 18; refine (in_any _ _ _ _).mono ?_; rw [hin]; rintro e w' ⟨rfl, rfl⟩)
    go_ret2
    exact ⟨rfl, rfl⟩
  · have hin : decide (1 ≤ n ∧ n ≤ 7) = false := by simpa using h1
    go_enter Try.func10, Try.ntmps10
    go_wp2_with (go_at_call 18; refine (in_any _ _ _ _).mono ?_; rw [hin]; rintro e w' ⟨rfl, rfl⟩)
    go_ret2
    exact ⟨rfl, rfl⟩

set_option maxHeartbeats 400000 in
theorem specReadFixed_yes (s : ByteArray) (m : Nat) (w : World) (hs : s.size ≤ 1048576) (h1 : 1 ≤ m) (h2 : m ≤ 7) (h3 : m ≤ s.size) :
    Calls Try.prog 10 #[.string s, .int .i64 m] w fun e w' => e = .returned (.tuple #[.int .i64 (fixVal s m), .bool true]) ∧ w = w' := by
  have hin : decide ((1:Int) ≤ m ∧ (m:Int) ≤ 7) = true := by simp; omega
  go_enter Try.func10, Try.ntmps10
  go_wp2_with (go_at_call 18; refine (in_any _ _ _ _).mono ?_; rw [hin]; rintro e w' ⟨rfl, rfl⟩)
  go_loop [6, 7] (fun n i => ∃ k : Nat, k ≤ m ∧ i = .int .i64 k ∧ n = .int .i64 (fixVal s k)) (fun _ i => m - (intOf i).toNat)
  case atStart => exact ⟨0, Nat.zero_le _, rfl, rfl⟩
  case round =>
    obtain ⟨k, hk, rfl, rfl⟩ := hrel
    by_cases hlt : k < m
    · have hb := fixVal_bd s k (by omega)
      have hk2 : k < s.size := by omega
      have hc := UInt8.toNat_lt s[k]
      have HS : Hid (fixVal s (k + 1) = fixVal s k * 256 + s[k].toNat) := by show _ = _; rw [fixVal, byteAt_eq s k hk2]
      go_wp2
      go_round
      case rel => exact ⟨k + 1, by omega, by go_num, val_int (by rw [HS.out]; omega)⟩
      case measure => simp [intOf]; omega
    · obtain rfl : k = m := by omega
      go_wp2
      go_ret2
      exact ⟨rfl, rfl⟩

set_option maxHeartbeats 400000 in
theorem implReadFixed_no (s : ByteArray) (n : Int) (w : World) (_hs : s.size ≤ 1048576) (h : n < 1 ∨ 7 < n ∨ s.size < n) :
    Calls Try.prog 11 #[.string s, .int .i64 n] w fun e w' => e = .returned (.tuple #[.int .i64 0, .bool false]) ∧ w = w' := by
  by_cases h1 : n < 1
  · go_enter Try.func11, Try.ntmps11
    go_wp2
    go_ret2
    exact ⟨rfl, rfl⟩
  · by_cases h2 : 7 < n
    · go_enter Try.func11, Try.ntmps11
      go_wp2
      go_ret2
      exact ⟨rfl, rfl⟩
    · go_enter Try.func11, Try.ntmps11
      go_wp2
      go_ret2
      exact ⟨rfl, rfl⟩

set_option maxHeartbeats 400000 in
theorem implReadFixed_yes (s : ByteArray) (m : Nat) (w : World) (hs : s.size ≤ 1048576) (h1 : 1 ≤ m) (h2 : m ≤ 7) (h3 : m ≤ s.size) :
    Calls Try.prog 11 #[.string s, .int .i64 m] w fun e w' => e = .returned (.tuple #[.int .i64 (fixVal s m), .bool true]) ∧ w = w' := by
  go_enter Try.func11, Try.ntmps11
  go_wp2
  go_loop [6, 21] (fun n i => ∃ k : Nat, k ≤ m ∧ i = .int .i64 k ∧ n = .int .i64 (fixVal s k)) (fun _ i => m - (intOf i).toNat)
  case atStart => exact ⟨0, Nat.zero_le _, rfl, rfl⟩
  case round =>
    obtain ⟨k, hk, rfl, rfl⟩ := hrel
    by_cases hlt : k < m
    · have hb := fixVal_bd s k (by omega)
      have hk2 : k < s.size := by omega
      have hc := UInt8.toNat_lt s[k]
      have HS : Hid (fixVal s (k + 1) = fixVal s k * 256 + s[k].toNat) := by show _ = _; rw [fixVal, byteAt_eq s k hk2]
      go_wp2
      go_round
      case rel => exact ⟨k + 1, by omega, by go_num, val_int (by rw [HS.out]; rw [or_byte _ _ (by omega) (by omega) (by omega) (by omega)]; omega)⟩
      case measure => simp [intOf]; omega
    · obtain rfl : k = m := by omega
      go_wp2
      go_ret2
      exact ⟨rfl, rfl⟩

end Go.Proofs.Ytelfhodaahpggaj
