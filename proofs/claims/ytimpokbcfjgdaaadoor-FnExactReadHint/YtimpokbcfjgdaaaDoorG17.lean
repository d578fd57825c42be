/-
  spec.Crc: the sum of a text, bit by bit. spec.Crc answers, and touches nothing.
-/
import Derived.Test.YtimpokbcfjgdaaaDoorG00
import Derived.Test.YtimpokbcfjgdaaaDoorG04
import Derived.Test.YtimpokbcfjgdaaaDoorG08
namespace Go.Proofs.YtimpokbcfjgdaaaDoor
open Go.RowKit
open Plain

theorem i64_xor_nat (a b : Nat) (ha : a < 9223372036854775808) (hb : b < 9223372036854775808) : bits .xor .i64 (a : Int) (b : Int) = ((a ^^^ b : Nat) : Int) := by
  have hx : a ^^^ b < 2 ^ 63 := Nat.xor_lt_two_pow (by omega) (by omega)
  show IntKind.i64.wrap ((BitVec.ofInt 64 (a : Int) ^^^ BitVec.ofInt 64 (b : Int)).toNat : Int) = _
  rw [BitVec.toNat_xor, ofInt_i64 a (by omega), ofInt_i64 b (by omega), IntKind.wrap_i64]
  omega

theorem tk_odd (c : Nat) (h : (c : Int) % 2 = 1) (hc : c < 4294967296) : bits .xor .i64 ((c : Int) / 2) 2197175160 = (tk c : Int) := by
  have e : (c : Int) / 2 = ((c / 2 : Nat) : Int) := by omega
  have e2 : (2197175160 : Int) = ((2197175160 : Nat) : Int) := rfl
  rw [e, e2, i64_xor_nat _ _ (by omega) (by omega), tk, if_pos (by omega)]
theorem tk_even (c : Nat) (h : ¬ (c : Int) % 2 = 1) : (c : Int) / 2 = (tk c : Int) := by
  rw [tk, if_neg (by omega)]
  omega

set_option maxRecDepth 100000 in
set_option maxHeartbeats 1000000 in
theorem specCrc_any (s : ByteArray) (w : World) (hs : s.size ≤ 1099511627776) :
    Calls Tryd.prog 18 #[.string s] w fun e w' => e = .returned (.int .i64 (crcN s)) ∧ w = w' := by
  go_enter Tryd.func18, Tryd.ntmps18
  go_wp2
  go_loop [3, 4] (fun c i => ∃ k : Nat, k ≤ s.size ∧ c = .int .i64 (ck s k) ∧ i = .int .i64 k) (fun _ i => s.size - (intOf i).toNat)
  case atStart => exact ⟨0, by omega, by rw [ck_zero]; rfl, rfl⟩
  case round =>
    obtain ⟨k, hk, rfl, rfl⟩ := hrel
    have hlt := ck_lt s k
    by_cases h : k < s.size
    · have hcs := hide (ck_succ s k h)
      have hb := UInt8.toNat_lt s[k]
      have hx := i64_xor_nat (ck s k) s[k].toNat (by omega) (by omega)
      have hxl := xor_lt32 (ck s k) s[k].toNat hlt (by omega)
      go_wp2
      clear hx
      have HX : Hid (tkN 8 (ck s k ^^^ s[k].toNat) = ck s (k + 1)) := hide (by rw [hcs.out]; rfl)
      generalize ck s k ^^^ s[k].toNat = x at *
      clear hcs hb
      go_loop [3, 5] (fun c i => ∃ j : Nat, j ≤ 8 ∧ c = .int .i64 (tkN j x) ∧ i = .int .i64 j) (fun _ i => 8 - (intOf i).toNat)
      case atStart => exact ⟨0, by omega, rfl, rfl⟩
      case round =>
        obtain ⟨j, hj, rfl, rfl⟩ := hrel
        have hjl := tkN_lt j x hxl
        by_cases h8 : j < 8
        · have HT : Hid (tkN (j + 1) x = tk (tkN j x)) := hide rfl
          generalize tkN j x = y at *
          by_cases ho : (y : Int) % 2 = 1
          · have hodd := tk_odd y ho hjl
            go_wp2
            go_round
            case rel => exact ⟨j + 1, by omega, by rw [HT.out], by go_num⟩
            case measure => first | (simp [intOf]; done) | (simp [intOf]; omega)
          · have hev := hide (tk_even y ho)
            go_wp2
            go_round
            case rel => exact ⟨j + 1, by omega, by rw [HT.out, ← hev.out], by go_num⟩
            case measure => first | (simp [intOf]; done) | (simp [intOf]; omega)
        · obtain rfl : j = 8 := by omega
          rw [HX.out]
          go_wp2
          go_round
          case rel => exact ⟨k + 1, by omega, rfl, by go_num⟩
          case measure => first | (simp [intOf]; done) | (simp [intOf]; omega)
    · obtain rfl : k = s.size := by omega
      have hcc := hide (crc_ck s)
      go_wp2
      go_ret
      rw [hcc.out]
      exact ⟨rfl, rfl⟩

end Go.Proofs.YtimpokbcfjgdaaaDoor
namespace Go.Proofs.YtimpokbcfjgdaaaDoor
open Go.RowKit
open Plain

theorem specCrc_ans (s : ByteArray) (hs : s.size ≤ 1099511627776) : Ans 18 #[.string s] (.int .i64 (crcN s)) := by
  intro w
  refine (specCrc_any s w hs).mono ?_
  rintro e w' ⟨rfl, rfl⟩
  exact ⟨rfl, Below.refl _ _⟩

end Go.Proofs.YtimpokbcfjgdaaaDoor
