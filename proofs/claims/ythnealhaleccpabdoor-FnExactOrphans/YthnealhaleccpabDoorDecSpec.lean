/-
  What spec.Dec answers at every int: the decimal numeral; it makes new memory only.
-/
import Derived.Test.YthnealhaleccpabDoorDecBase
namespace Go.Proofs.YthnealhaleccpabDoor
open Go.RowKit
open Plain

set_option maxRecDepth 100000 in
set_option maxHeartbeats 400000 in
theorem specDec_zero (w : World) : Calls Tryd.prog 38 #[.int .i64 0] w fun e w' => e = .returned (.string ⟨#[48]⟩) ∧ Below w.heap.size w w' := by
  go_enter Tryd.func38, Tryd.ntmps38
  go_wp2
  go_ret
  exact ⟨rfl, Below.refl _ _⟩

set_option maxRecDepth 100000 in
set_option maxHeartbeats 400000 in
theorem specDec_pos (a : Nat) (w : World) (h0 : 0 < a) (h1 : a ≤ 9223372036854775807) :
    Calls Tryd.prog 38 #[.int .i64 a] w fun e w' => e = .returned (.string ⟨(dd a).toArray⟩) ∧ Below w.heap.size w w' := by
  have H20 := hide (dd_len20 a (by omega))
  have ha : ((a : Int) == 0) = false := by simp; omega
  go_enter Tryd.func38, Tryd.ntmps38
  go_wp2
  go_loopw [0, 3] (fun n o wr => ∃ (q : Nat) (l : List UInt8), q ≤ a ∧ n = .int .i64 q ∧ o = .string ⟨l.toArray⟩ ∧ Hid (dd a = dd q ++ l) ∧ Below w.heap.size w wr) (fun n _ _ => (intOf n).toNat)
  case atStart => exact ⟨a, [], by omega, rfl, rfl, hide (by simp), Below.refl _ _⟩
  case round =>
    obtain ⟨q, l, hq, rfl, rfl, HD, hB⟩ := hrel
    have hl : l.length ≤ 20 := by
      have e := congrArg List.length HD.out
      have := H20.out
      rw [List.length_append] at e
      omega
    by_cases hz : q = 0
    · subst hz
      have HE : Hid (dd a = l) := hide (by rw [HD.out]; rfl)
      go_wp2
      go_ret
      exact ⟨by rw [HE.out]; rfl, hB⟩
    · have hq0 : ((q : Int) != 0) = true := by simp; omega
      have HS := hide (dd_step q hz)
      have hcv := cv_one wr
      have hsz : (strOfNums [(48 : Int) + (q : Int) % 10]).size ≤ 1 := by rw [strOfNums_size]; simp
      have hsl : (ByteArray.mk l.toArray).size ≤ 20 := by simpa [ByteArray.size] using hl
      have HC : Hid (strOfNums [(48 : Int) + (q : Int) % 10] ++ ⟨l.toArray⟩ = ⟨(UInt8.ofNat (48 + q % 10) :: l).toArray⟩) := hide (str_cons (q % 10) (by omega) l)
      go_wp2
      go_roundw
      case rel => exact ⟨q / 10, UInt8.ofNat (48 + q % 10) :: l, by omega, by go_num, by rw [HC.out], hide (by rw [HD.out, HS.out]; simp), hB.alloc hB.size _⟩
      case measure => simp [intOf]; omega

theorem tmod_neg (q : Nat) : (-(q : Int)).tmod 10 = -((q % 10 : Nat) : Int) := by rw [Int.neg_tmod, Int.tmod_eq_emod_of_nonneg (by omega)]; omega
theorem tdiv_neg (q : Nat) : (-(q : Int)).tdiv 10 = -((q / 10 : Nat) : Int) := by rw [Int.neg_tdiv, Int.tdiv_eq_ediv_of_nonneg (by omega)]; omega

set_option maxRecDepth 100000 in
set_option maxHeartbeats 800000 in
theorem specDec_neg (a : Nat) (w : World) (h0 : 0 < a) (h1 : a ≤ 9223372036854775808) :
    Calls Tryd.prog 38 #[.int .i64 (-(a : Int))] w fun e w' => e = .returned (.string ⟨(45 :: dd a).toArray⟩) ∧ Below w.heap.size w w' := by
  have H20 := hide (dd_len20 a (by omega))
  have ha : (-(a : Int) == 0) = false := by simp; omega
  go_enter Tryd.func38, Tryd.ntmps38
  go_wp2
  go_loopw [0, 3] (fun n o wr => ∃ (q : Nat) (l : List UInt8), q ≤ a ∧ n = .int .i64 (-(q : Int)) ∧ o = .string ⟨l.toArray⟩ ∧ Hid (dd a = dd q ++ l) ∧ Below w.heap.size w wr) (fun n _ _ => (- intOf n).toNat)
  case atStart => exact ⟨a, [], by omega, rfl, rfl, hide (by simp), Below.refl _ _⟩
  case round =>
    obtain ⟨q, l, hq, rfl, rfl, HD, hB⟩ := hrel
    have hl : l.length ≤ 20 := by
      have e := congrArg List.length HD.out
      have := H20.out
      rw [List.length_append] at e
      omega
    have hsl : (ByteArray.mk l.toArray).size ≤ 20 := by simpa [ByteArray.size] using hl
    by_cases hz : q = 0
    · subst hz
      have HE : Hid (dd a = l) := hide (by rw [HD.out]; rfl)
      have hm : (ByteArray.mk #[45]).size ≤ 1 := by decide
      have HC : Hid (ByteArray.mk #[45] ++ ⟨l.toArray⟩ = ⟨(45 :: l).toArray⟩) := hide (by rw [show (#[45] : Array UInt8) = [45].toArray from rfl, ByteArray.mk_append_mk]; rfl)
      go_wp2
      go_ret
      exact ⟨by rw [HE.out, ← HC.out]; rfl, hB⟩
    · have hq0 : (-(q : Int) != 0) = true := by simp; omega
      have HS := hide (dd_step q hz)
      have hcv := cv_one wr
      have et := tmod_neg q
      have eq := tdiv_neg q
      have hsz : (strOfNums [(48 : Int) + (q : Int) % 10]).size ≤ 1 := by rw [strOfNums_size]; simp
      have HC : Hid (strOfNums [(48 : Int) + (q : Int) % 10] ++ ⟨l.toArray⟩ = ⟨(UInt8.ofNat (48 + q % 10) :: l).toArray⟩) := hide (str_cons (q % 10) (by omega) l)
      by_cases hd : q % 10 = 0
      · have hs8 : (strOfNums [(48 : Int)]).size ≤ 1 := by rw [strOfNums_size]; simp
        have H8 : Hid (strOfNums [(48 : Int)] ++ ⟨l.toArray⟩ = ⟨(UInt8.ofNat (48 + 0) :: l).toArray⟩) := hide (str_cons 0 (by omega) l)
        have HZ := hide hd
        go_wp2
        go_roundw
        case rel => exact ⟨q / 10, UInt8.ofNat (48 + 0) :: l, by omega, by go_num, by rw [H8.out], hide (by rw [HD.out, HS.out, HZ.out]; simp), hB.alloc hB.size _⟩
        case measure => simp [intOf]; omega
      · go_wp2
        go_roundw
        case rel => exact ⟨q / 10, UInt8.ofNat (48 + q % 10) :: l, by omega, by go_num, by rw [HC.out], hide (by rw [HD.out, HS.out]; simp), hB.alloc hB.size _⟩
        case measure => simp [intOf]; omega

theorem specDec_any (n : Int) (w : World) (h0 : -9223372036854775808 ≤ n) (h1 : n ≤ 9223372036854775807) :
    Calls Tryd.prog 38 #[.int .i64 n] w fun e w' => e = .returned (.string (itoaS n)) ∧ Below w.heap.size w w' := by
  rcases Int.lt_trichotomy n 0 with h | h | h
  · obtain ⟨a, ha⟩ := Int.eq_ofNat_of_zero_le (show 0 ≤ -n by omega)
    obtain rfl : n = -(a : Int) := by omega
    have e : itoaS (-(a : Int)) = ⟨(45 :: dd a).toArray⟩ := by
      unfold itoaS Lib.itoa
      rw [if_pos h, dd_pos a (by omega), show (-(a : Int)).natAbs = a from by omega]
    rw [e]
    exact specDec_neg a w (by omega) (by omega)
  · subst h
    have e : itoaS 0 = ⟨#[48]⟩ := by
      unfold itoaS Lib.itoa
      rw [if_neg (by omega), Lib.decDigits]
      rfl
    rw [e]
    exact specDec_zero w
  · obtain ⟨a, rfl⟩ := Int.eq_ofNat_of_zero_le (show 0 ≤ n by omega)
    have e : itoaS (a : Int) = ⟨(dd a).toArray⟩ := by
      unfold itoaS Lib.itoa
      rw [if_neg (by omega), dd_pos a (by omega), Int.toNat_natCast]
    rw [e]
    exact specDec_pos a w (by omega) (by omega)

end Go.Proofs.YthnealhaleccpabDoor
