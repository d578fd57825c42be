/-
  impl.NameOk: a name is 1 to 12 bytes, each from a to z or 0 to 9.
-/
import Derived.Test.YthnealhaleccpabDoorNameSpec
namespace Go.Proofs.YthnealhaleccpabDoor
open Go.RowKit
open Plain

set_option maxRecDepth 100000 in
set_option maxHeartbeats 1000000 in
theorem implName_any (s : ByteArray) (w : World) (hs : s.size ≤ 1099511627776) :
    Calls Tryd.prog 48 #[.string s] w fun e w' => e = .returned (.bool (nameOk s)) ∧ w = w' := by
  by_cases q1 : s.size < 1
  · have t1 : decide ((s.size : Int) < 1) = true := by simp; omega
    have HV : Hid (nameOk s = false) := hide (by unfold nameOk; rw [decide_eq_false (p := 1 ≤ s.size ∧ s.size ≤ 12) (by omega), Bool.and_false])
    go_enter Tryd.func48, Tryd.ntmps48
    go_wp2
    go_ret
    exact ⟨by rw [HV.out]; rfl, rfl⟩
  · have t1 : decide ((s.size : Int) < 1) = false := by simp; omega
    by_cases q2 : 12 < s.size
    · have t2 : decide ((12 : Int) < (s.size : Int)) = true := by simp; omega
      have HV : Hid (nameOk s = false) := hide (by unfold nameOk; rw [decide_eq_false (p := 1 ≤ s.size ∧ s.size ≤ 12) (by omega), Bool.and_false])
      go_enter Tryd.func48, Tryd.ntmps48
      go_wp2
      go_ret
      exact ⟨by rw [HV.out]; rfl, rfl⟩
    · have t2 : decide ((12 : Int) < (s.size : Int)) = false := by simp; omega
      go_enter Tryd.func48, Tryd.ntmps48
      go_wp2
      go_loop [16] (fun i => ∃ k : Nat, k ≤ s.size ∧ i = .int .i64 k ∧ Hid (((bl s).take k).all nmB = true)) (fun i => s.size - (intOf i).toNat)
      case atStart => exact ⟨0, by omega, rfl, hide (by simp)⟩
      case round =>
        obtain ⟨k, hk, rfl, HA⟩ := hrel
        by_cases hlt : k < s.size
        · have hb := UInt8.toNat_lt s[k]
          have HS := hide (all_take_succ s k hlt)
          have HN : Hid (nmB s[k].toNat = true → ((bl s).take (k + 1)).all nmB = true) := hide (fun h => by rw [HS.out, HA.out, h]; rfl)
          have HF : Hid (nmB s[k].toNat = false → nameOk s = false) := hide (fun h => by
            unfold nameOk
            have h2 : (bl s).all nmB = false := by
              cases hall : (bl s).all nmB with
              | false => rfl
              | true =>
                have h3 := List.all_eq_true.1 hall (s[k].toNat) (by
                  have := bl_get s k hlt
                  exact List.mem_of_getElem? this)
                rw [h] at h3
                cases h3
            rw [h2]
            rfl)
          clear HS HA
          by_cases c1 : 97 ≤ s[k].toNat
          · by_cases c2 : s[k].toNat ≤ 122
            · have HN2 := hide (HN.out (by simp [nmB, c1, c2]))
              have d1 : decide ((97 : Int) ≤ (s[k].toNat : Int)) = true := by simp; omega
              have d2 : decide ((s[k].toNat : Int) ≤ 122) = true := by simp; omega
              have d3 : decide ((48 : Int) ≤ (s[k].toNat : Int)) = true := by simp; omega
              have d4 : decide ((s[k].toNat : Int) ≤ 57) = false := by simp; omega
              go_wp2
              go_round
              case rel => exact ⟨k + 1, by omega, by go_num, HN2⟩
              case measure => first | (simp [intOf]; done) | (simp [intOf]; omega)
            · have HF2 := hide (HF.out (by simp [nmB]; omega))
              have d1 : decide ((97 : Int) ≤ (s[k].toNat : Int)) = true := by simp; omega
              have d2 : decide ((s[k].toNat : Int) ≤ 122) = false := by simp; omega
              have d3 : decide ((48 : Int) ≤ (s[k].toNat : Int)) = true := by simp; omega
              have d4 : decide ((s[k].toNat : Int) ≤ 57) = false := by simp; omega
              go_wp2
              go_ret
              exact ⟨by rw [HF2.out]; rfl, rfl⟩
          · by_cases c3 : 48 ≤ s[k].toNat
            · by_cases c4 : s[k].toNat ≤ 57
              · have HN2 := hide (HN.out (by simp [nmB, c3, c4]))
                have d1 : decide ((97 : Int) ≤ (s[k].toNat : Int)) = false := by simp; omega
                have d3 : decide ((48 : Int) ≤ (s[k].toNat : Int)) = true := by simp; omega
                have d4 : decide ((s[k].toNat : Int) ≤ 57) = true := by simp; omega
                go_wp2
                go_round
                case rel => exact ⟨k + 1, by omega, by go_num, HN2⟩
                case measure => first | (simp [intOf]; done) | (simp [intOf]; omega)
              · have HF2 := hide (HF.out (by simp [nmB]; omega))
                have d1 : decide ((97 : Int) ≤ (s[k].toNat : Int)) = false := by simp; omega
                have d3 : decide ((48 : Int) ≤ (s[k].toNat : Int)) = true := by simp; omega
                have d4 : decide ((s[k].toNat : Int) ≤ 57) = false := by simp; omega
                go_wp2
                go_ret
                exact ⟨by rw [HF2.out]; rfl, rfl⟩
            · have HF2 := hide (HF.out (by simp [nmB]; omega))
              have d1 : decide ((97 : Int) ≤ (s[k].toNat : Int)) = false := by simp; omega
              have d3 : decide ((48 : Int) ≤ (s[k].toNat : Int)) = false := by simp; omega
              go_wp2
              go_ret
              exact ⟨by rw [HF2.out]; rfl, rfl⟩
        · obtain rfl : k = s.size := by omega
          have HL : Hid (nameOk s = true) := hide (by
            have h := HA.out
            rw [List.take_of_length_le (by rw [bl_length]; exact Nat.le_refl _)] at h
            unfold nameOk
            rw [h, Bool.true_and]
            exact decide_eq_true (by omega))
          go_wp2
          go_ret
          exact ⟨by rw [HL.out]; rfl, rfl⟩

end Go.Proofs.YthnealhaleccpabDoor
