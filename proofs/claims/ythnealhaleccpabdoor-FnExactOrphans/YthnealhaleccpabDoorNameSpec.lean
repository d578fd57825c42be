/-
  spec.NameOk: a name is 1 to 12 bytes, each from a to z or 0 to 9.
-/
import Derived.Test.YthnealhaleccpabDoorIn
import Derived.Test.YthnealhaleccpabDoorFileBase
namespace Go.Proofs.YthnealhaleccpabDoor
open Go.RowKit
open Plain

def nmB (b : Nat) : Bool := (decide (97 ≤ b) && decide (b ≤ 122)) || (decide (48 ≤ b) && decide (b ≤ 57))
def nameOk (s : ByteArray) : Bool := (bl s).all nmB && decide (1 ≤ s.size ∧ s.size ≤ 12)
theorem all_take_succ (s : ByteArray) (k : Nat) (h : k < s.size) : ((bl s).take (k + 1)).all nmB = (((bl s).take k).all nmB && nmB s[k].toNat) := by
  rw [bl_take_succ s k h, List.all_append]
  simp

set_option maxRecDepth 100000 in
set_option maxHeartbeats 1000000 in
theorem specName_any (s : ByteArray) (w : World) (hs : s.size ≤ 1099511627776) :
    Calls Tryd.prog 46 #[.string s] w fun e w' => e = .returned (.bool (nameOk s)) ∧ w = w' := by
  go_enter Tryd.func46, Tryd.ntmps46
  go_wp2
  go_loop [3] (fun i => ∃ k : Nat, k ≤ s.size ∧ i = .int .i64 k ∧ Hid (((bl s).take k).all nmB = true)) (fun i => s.size - (intOf i).toNat)
  case atStart => exact ⟨0, by omega, rfl, hide (by simp)⟩
  case round =>
    obtain ⟨k, hk, rfl, HA⟩ := hrel
    by_cases hlt : k < s.size
    · have hb := UInt8.toNat_lt s[k]
      have HS := hide (all_take_succ s k hlt)
      have HN : Hid (nmB s[k].toNat = true → ((bl s).take (k + 1)).all nmB = true) := hide (fun h => by rw [HS.out, HA.out, h]; rfl)
      have HF : Hid (nmB s[k].toNat = false → nameOk s = false) := hide (fun h => by
        unfold nameOk
        have h2 : (bl s).all nmB = false := by
          cases hall : (bl s).all nmB with
          | false => rfl
          | true =>
            have h3 := List.all_eq_true.1 hall (s[k].toNat) (by
              have := bl_get s k hlt
              exact List.mem_of_getElem? this)
            rw [h] at h3
            cases h3
        rw [h2]
        rfl)
      clear HS HA
      by_cases c1 : 97 ≤ s[k].toNat
      · by_cases c2 : s[k].toNat ≤ 122
        · have HN2 := hide (HN.out (by simp [nmB, c1, c2]))
          have d1 : decide ((97 : Int) ≤ (s[k].toNat : Int)) = true := by simp; omega
          have d2 : decide ((s[k].toNat : Int) ≤ 122) = true := by simp; omega
          go_wp2
          go_round
          case rel => exact ⟨k + 1, by omega, by go_num, HN2⟩
          case measure => first | (simp [intOf]; done) | (simp [intOf]; omega)
        · have HF2 := hide (HF.out (by simp [nmB]; omega))
          have d1 : decide ((97 : Int) ≤ (s[k].toNat : Int)) = true := by simp; omega
          have d2 : decide ((s[k].toNat : Int) ≤ 122) = false := by simp; omega
          have d3 : decide ((48 : Int) ≤ (s[k].toNat : Int)) = true := by simp; omega
          have d4 : decide ((s[k].toNat : Int) ≤ 57) = false := by simp; omega
          go_wp2
          go_ret
          exact ⟨by rw [HF2.out]; rfl, rfl⟩
      · by_cases c3 : 48 ≤ s[k].toNat
        · by_cases c4 : s[k].toNat ≤ 57
          · have HN2 := hide (HN.out (by simp [nmB, c3, c4]))
            have d1 : decide ((97 : Int) ≤ (s[k].toNat : Int)) = false := by simp; omega
            have d3 : decide ((48 : Int) ≤ (s[k].toNat : Int)) = true := by simp; omega
            have d4 : decide ((s[k].toNat : Int) ≤ 57) = true := by simp; omega
            go_wp2
            go_round
            case rel => exact ⟨k + 1, by omega, by go_num, HN2⟩
            case measure => first | (simp [intOf]; done) | (simp [intOf]; omega)
          · have HF2 := hide (HF.out (by simp [nmB]; omega))
            have d1 : decide ((97 : Int) ≤ (s[k].toNat : Int)) = false := by simp; omega
            have d3 : decide ((48 : Int) ≤ (s[k].toNat : Int)) = true := by simp; omega
            have d4 : decide ((s[k].toNat : Int) ≤ 57) = false := by simp; omega
            go_wp2
            go_ret
            exact ⟨by rw [HF2.out]; rfl, rfl⟩
        · have HF2 := hide (HF.out (by simp [nmB]; omega))
          have d1 : decide ((97 : Int) ≤ (s[k].toNat : Int)) = false := by simp; omega
          have d3 : decide ((48 : Int) ≤ (s[k].toNat : Int)) = false := by simp; omega
          go_wp2
          go_ret
          exact ⟨by rw [HF2.out]; rfl, rfl⟩
    · obtain rfl : k = s.size := by omega
      have HL : Hid (nameOk s = decide ((1 : Int) ≤ (s.size : Int) ∧ (s.size : Int) ≤ 12)) := hide (by
        have h := HA.out
        rw [List.take_of_length_le (by rw [bl_length]; exact Nat.le_refl _)] at h
        unfold nameOk
        rw [h, Bool.true_and]
        apply decide_eq_decide.2
        omega)
      go_wp2_with fail
      refine (in_any (s.size : Int) 1 12 w).mono ?_
      rintro e w2 ⟨rfl, rfl⟩
      rw [← HL.out]
      go_wp2
      go_ret
      exact ⟨rfl, rfl⟩

end Go.Proofs.YthnealhaleccpabDoor
