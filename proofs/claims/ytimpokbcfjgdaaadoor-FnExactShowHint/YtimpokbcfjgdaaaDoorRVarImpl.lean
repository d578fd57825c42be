/-
  What impl.ReadVar answers at every text of at most 1048576 bytes; it leaves the world as it was.
-/
import Derived.Test.YtimpokbcfjgdaaaDoorCore
namespace Go.Proofs.YtimpokbcfjgdaaaDoor
open Go.RowKit
open Plain

theorem and127_u8 (b : Nat) (h : b < 256) : bits .and .u8 (b : Int) 127 = ((b % 128 : Nat) : Int) := by
  have := u8_and_nat b 127 h (by omega)
  rw [nat_mask7] at this
  exact this
theorem pow128 (k : Nat) : (2 : Nat) ^ (7 * k) = 128 ^ k := by rw [Nat.pow_mul]
theorem pow128_le (k : Nat) (h : k ≤ 6) : 128 ^ k ≤ 4398046511104 := by
  have h2 : 128 ^ k ≤ 128 ^ 6 := Nat.pow_le_pow_right (by omega) h
  have h3 : (128 : Nat) ^ 6 = 4398046511104 := by decide
  omega

/-- 'n |= int(c&127) << (7 * i)'. -/
theorem or_step (l : List Nat) (b k : Nat) (hl : l.length = k) (hk : k ≤ 6) : bits .or .i64 ((vval l : Nat) : Int) (wrap64 ((b : Int) % 128 * 2 ^ (7 * k))) = ((vval (l ++ [b]) : Nat) : Int) := by
  have h1 := vval_lt l
  rw [hl] at h1
  have h2 := pow128_le k hk
  have h3 := Nat.mod_lt b (show 0 < 128 by omega)
  have e : (b : Int) % 128 * 2 ^ (7 * k) = ((b % 128 * 128 ^ k : Nat) : Int) := by rw [← pow128 k]; norm_cast
  have h4 : b % 128 * 128 ^ k ≤ 127 * 4398046511104 := Nat.mul_le_mul (by omega) h2
  rw [e, IntWalk.wrap64_in _ ⟨by omega, by omega⟩, i64_or_nat _ _ (by omega) (by omega), vval_snoc, hl, Nat.or_comm, nat_join (7 * k) _ _ (by rw [pow128]; exact Nat.mul_mod_left _ _) (by rw [pow128]; exact h1), Nat.add_comm]

set_option maxRecDepth 100000 in
set_option maxHeartbeats 400000 in
theorem implReadVar_any (s : ByteArray) (w : World) (hs : s.size ≤ 1048576) :
    Calls Tryd.prog 51 #[.string s] w fun e w' => (∃ n k : Nat, e = .returned (.tuple #[.int .i64 n, .int .i64 k]) ∧ RV s n k) ∧ w = w' := by
  obtain ⟨m, hm, hms, hm7⟩ : ∃ m : Nat, ((min (s.size : Int) 7) = (m : Int)) ∧ m ≤ s.size ∧ m ≤ 7 := ⟨min s.size 7, by omega, by omega, by omega⟩
  have HM : Hid (m = 7 ∨ m = s.size) := hide (by omega)
  go_enter Tryd.func51, Tryd.ntmps51
  go_wp2
  all_goals
    go_loop [4, 9] (fun n i => ∃ k : Nat, k ≤ m ∧ i = .int .i64 k ∧ n = .int .i64 (vval ((bl s).take k)) ∧ Hid (∀ j, j < k → 128 ≤ (bl s).getD j 0)) (fun _ i => m - (intOf i).toNat)
    case atStart => exact ⟨0, Nat.zero_le _, rfl, rfl, hide (by intro j hj; omega)⟩
    case round =>
      obtain ⟨k, hk, rfl, rfl, HA⟩ := hrel
      by_cases hlt : k < m
      · have hk2 : k < s.size := by omega
        have hc := UInt8.toNat_lt s[k]
        have e1 := and127_u8 s[k].toNat hc
        have HN : Hid (bits .or .i64 ((vval ((bl s).take k) : Nat) : Int) (wrap64 ((s[k].toNat : Int) % 128 * 2 ^ (7 * k))) = ((vval ((bl s).take (k + 1)) : Nat) : Int)) := hide (by
          rw [bl_take_succ s k hk2]
          exact or_step _ _ k (by rw [List.length_take, bl_length]; omega) (by omega))
        have HG := hide (getD_bl s k hk2)
        by_cases hbig : s[k].toNat < 128
        · by_cases hk0 : 0 < k
          · by_cases hz : s[k].toNat = 0
            · have hz2 : ((s[k].toNat : Int) == 0) = true := by simp [hz]
              have HZ := hide hz
              clear hz
              go_wp2
              go_ret2
              exact ⟨⟨0, 0, rfl, RV_nought s k (by omega) hk2 HA.out hk0 (by rw [HG.out]; exact HZ.out)⟩, rfl⟩
            · have hz2 : ((s[k].toNat : Int) == 0) = false := by simp; omega
              go_wp2
              go_ret2
              exact ⟨⟨_, k + 1, ret_ints HN.out (by omega), RV_hit s k (by omega) hk2 HA.out (by rw [HG.out]; exact hbig) (Or.inr (by rw [HG.out]; exact hz))⟩, rfl⟩
          · go_wp2
            go_ret2
            exact ⟨⟨_, k + 1, ret_ints HN.out (by omega), RV_hit s k (by omega) hk2 HA.out (by rw [HG.out]; exact hbig) (Or.inl (by omega))⟩, rfl⟩
        · go_wp2
          go_round
          case rel => exact ⟨k + 1, by omega, by go_num, val_int HN.out, hide (by
            intro j hj
            by_cases hjk : j < k
            · exact HA.out j hjk
            · obtain rfl : j = k := by omega
              rw [HG.out]; omega)⟩
          case measure => simp [intOf]; omega
      · obtain rfl : k = m := by omega
        go_wp2
        go_ret2
        exact ⟨⟨0, 0, rfl, RV_none s k HM.out HA.out⟩, rfl⟩

end Go.Proofs.YtimpokbcfjgdaaaDoor
