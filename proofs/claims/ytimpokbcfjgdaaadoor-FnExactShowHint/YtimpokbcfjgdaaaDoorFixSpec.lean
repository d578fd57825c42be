/-
  What spec.Fixed answers at every number and every width; it makes new memory only.
-/
import Derived.Test.YtimpokbcfjgdaaaDoorIn
import Derived.Test.YtimpokbcfjgdaaaDoorFixStr
namespace Go.Proofs.YtimpokbcfjgdaaaDoor
open Go.RowKit
open Plain

set_option maxHeartbeats 400000 in
theorem specFixed_no (n m : Int) (w : World) (h : n < 0 ∨ m < 1 ∨ 7 < m) :
    Calls Tryd.prog 17 #[.int .i64 n, .int .i64 m] w fun e w' => e = .returned (.string ⟨#[]⟩) ∧ w = w' := by
  by_cases h1 : 1 ≤ m ∧ m ≤ 7
  · have hin : decide (1 ≤ m ∧ m ≤ 7) = true := by simpa using h1
    go_enter Tryd.func17, Tryd.ntmps17
    go_wp2_with (go_at_call 35; refine (in_any _ _ _ _).mono ?_; rw [hin]; rintro e w' ⟨rfl, rfl⟩)
    go_ret
    exact ⟨rfl, rfl⟩
  · have hin : decide (1 ≤ m ∧ m ≤ 7) = false := by simpa using h1
    go_enter Tryd.func17, Tryd.ntmps17
    go_wp2_with (go_at_call 35; refine (in_any _ _ _ _).mono ?_; rw [hin]; rintro e w' ⟨rfl, rfl⟩)
    go_ret
    exact ⟨rfl, rfl⟩

set_option maxHeartbeats 400000 in
theorem specFixed_yes (n m : Nat) (w : World) (hn : n ≤ 9223372036854775807) (h1 : 1 ≤ m) (h2 : m ≤ 7) :
    Calls Tryd.prog 17 #[.int .i64 n, .int .i64 m] w fun e w' => e = .returned (.string (fixStr n m)) ∧ Below w.heap.size w w' := by
  have hin : decide ((1:Int) ≤ m ∧ (m:Int) ≤ 7) = true := by simp; omega
  go_enter Tryd.func17, Tryd.ntmps17
  go_wp2_with (go_at_call 35; refine (in_any _ _ _ _).mono ?_; rw [hin]; rintro e w' ⟨rfl, rfl⟩)
  go_loopw [0, 5, 6] (fun q o i wr => ∃ k : Nat, k ≤ m ∧ i = .int .i64 k ∧ q = .int .i64 ((n / 256 ^ k : Nat) : Int) ∧ o = .string (strOfNums (low n k)) ∧ Below w.heap.size w wr) (fun _ _ i _ => m - (intOf i).toNat)
  case atStart => exact ⟨0, Nat.zero_le _, rfl, by simp, by simp [low, strOfNums], Below.refl _ _⟩
  case round =>
    obtain ⟨k, hk, rfl, rfl, rfl, hB⟩ := hrel
    by_cases hlt : k < m
    · have HQ : Hid (n / 256 ^ (k + 1) = n / 256 ^ k / 256) := hide (div_step n k).symm
      have HL : Hid (low n (k + 1) = ((n / 256 ^ k % 256 : Nat) : Int) :: low n k) := hide (low_succ n k)
      have hq : n / 256 ^ k ≤ n := Nat.div_le_self _ _
      have ho : (strOfNums (low n k)).size ≤ 7 := by rw [strOfNums_size, low_length]; omega
      generalize hqq : n / 256 ^ k = q at *
      generalize hll : low n k = L at *
      have ho1 : (strOfNums [(q : Int) % 256]).size ≤ 1 := by rw [strOfNums_size]; simp
      clear hqq hll
      have hcv := cv_one wr
      go_wp2
      go_roundw
      case rel => exact ⟨k + 1, by omega, by go_num, val_int (by rw [HQ.out]; omega), by rw [strOfNums_append, HL.out]; rfl, hB.alloc hB.size _⟩
      case measure => simp [intOf]; omega
    · obtain rfl : k = m := by omega
      have hd := div_pos_iff n k
      have hpw : 0 < 256 ^ k := Nat.pow_pos (by omega)
      by_cases hbig : 256 ^ k ≤ n
      · have hp : 0 < n / 256 ^ k := hd.2 hbig
        have HF : Hid (fixStr n k = ⟨#[]⟩) := hide (by simp [fixStr]; omega)
        clear hd hbig hpw
        generalize n / 256 ^ k = q at *
        go_wp2
        go_ret
        exact ⟨by rw [HF.out]; rfl, hB⟩
      · have hp : n / 256 ^ k = 0 := Nat.div_eq_of_lt (by omega)
        have HF : Hid (fixStr n k = strOfNums (low n k)) := hide (by simp [fixStr]; omega)
        rw [hp]
        clear hd hbig hpw hp
        go_wp2
        go_ret
        exact ⟨by rw [HF.out]; rfl, hB⟩

end Go.Proofs.YtimpokbcfjgdaaaDoor
