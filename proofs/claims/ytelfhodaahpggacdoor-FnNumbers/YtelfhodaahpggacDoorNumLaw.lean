/-
  Contracts of chapter 1 at every number, as the law FnNumbers wants them.
-/
import Derived.Test.YtelfhodaahpggacDoorNum
import Derived.Test.YtelfhodaahpggacDoorDraw2
import Derived.Test.YtelfhodaahpggacDoorRFixImpl
import Derived.Test.YtelfhodaahpggacDoorFixImpl
import Derived.Test.YtelfhodaahpggacDoorVarImpl
import Derived.Test.YtelfhodaahpggacDoorRVarImpl
import Derived.Test.YtelfhodaahpggacDoorHexImpl
import Derived.Test.YtelfhodaahpggacDoorUnhexImpl
import Derived.Test.YtelfhodaahpggacDoorDecImpl
import Derived.Test.YtelfhodaahpggacDoorReadDecImpl
namespace Go.Proofs.YtelfhodaahpggacDoor
open Go.RowKit
open Plain

theorem implVar_any (n : Int) (w : World) : Calls Tryd.prog 7 #[.int .i64 n] w fun e w' => e = .returned (.string (varS n)) ∧ Below w.heap.size w w' := by
  by_cases h : 0 ≤ n ∧ n ≤ 562949953421311
  · obtain ⟨m, rfl⟩ := Int.eq_ofNat_of_zero_le h.1
    rw [varS_in m (by omega)]
    exact implVar_yes m w (by omega)
  · rw [varS_out n (by omega)]
    refine (implVar_no n w (by omega)).mono ?_
    rintro e w' ⟨rfl, rfl⟩
    exact ⟨rfl, Below.refl _ _⟩
theorem implFixed_any (n : Int) (w : World) (h1 : n ≤ 9223372036854775807) : Calls Tryd.prog 9 #[.int .i64 n, .int .i64 7] w fun e w' => e = .returned (.string (fixS n)) ∧ Below w.heap.size w w' := by
  by_cases h : 0 ≤ n
  · obtain ⟨m, rfl⟩ := Int.eq_ofNat_of_zero_le h
    have e : fixS (m : Int) = fixStr m 7 := by unfold fixS; rw [if_pos h, Int.toNat_natCast]
    rw [e]
    exact implFixed_yes m 7 w (by omega) (by omega) (by omega)
  · have e : fixS n = ⟨#[]⟩ := by unfold fixS; rw [if_neg h]
    rw [e]
    refine (implFixed_no n 7 w (by omega)).mono ?_
    rintro e w' ⟨rfl, rfl⟩
    exact ⟨rfl, Below.refl _ _⟩
/-- What ReadFixed tells of a text, seven bytes wide. -/
def r7 (s : ByteArray) : Int := if 7 ≤ s.size then (fixVal s 7 : Int) else 0
def r7b (s : ByteArray) : Bool := decide (7 ≤ s.size)
theorem implReadFixed_7 (s : ByteArray) (w : World) (hs : s.size ≤ 1048576) : Calls Tryd.prog 10 #[.string s, .int .i64 7] w fun e w' => e = .returned (.tuple #[.int .i64 (r7 s), .bool (r7b s)]) ∧ w = w' := by
  by_cases h : 7 ≤ s.size
  · have e1 : r7 s = (fixVal s 7 : Int) := by unfold r7; rw [if_pos h]
    have e2 : r7b s = true := by unfold r7b; simpa using h
    rw [e1, e2]
    exact implReadFixed_yes s 7 w hs (by omega) (by omega) h
  · have e1 : r7 s = 0 := by unfold r7; rw [if_neg h]
    have e2 : r7b s = false := by unfold r7b; simpa using h
    rw [e1, e2]
    exact implReadFixed_no s 7 w hs (by omega)
theorem fixS_size (n : Int) : (fixS n).size ≤ 7 := by
  unfold fixS fixStr
  split
  · split
    · rw [strOfNums_size, low_length]; omega
    · decide
  · decide
theorem itoaS_size (n : Int) (h0 : -9223372036854775808 ≤ n) (h1 : n ≤ 9223372036854775807) : (itoaS n).size ≤ 30 := by
  have h := dd_len20 n.natAbs (by omega)
  have e : (itoaS n).size = (Lib.itoa n).length := by unfold itoaS; simp [ByteArray.size]
  rw [e]
  unfold Lib.itoa
  by_cases hn : n < 0
  · rw [if_pos hn, List.length_cons, ← dd_pos _ (by omega)]; omega
  · rw [if_neg hn]
    by_cases hz : n = 0
    · subst hz; rw [Lib.decDigits]; simp
    · rw [← dd_pos _ (by omega), show n.toNat = n.natAbs from by omega]; omega
theorem hex_size (T : ByteArray) : (strOfNums (hx (bl T))).size = 2 * T.size := by rw [strOfNums_size, hx_length, bl_length]

theorem nil_str : (ByteArray.mk #[]).toList.isEmpty = true := by rw [ByteArray.toList_eq]; rfl
/-- What the law asks of the first number, as Bools. -/
theorem ask1 (n : Int) (T : ByteArray) (x k : Nat) (h : RV (varS n ++ T) x k) :
    ((0 ≤ n ∧ n ≤ 562949953421311) ∧ (varS n).toList.isEmpty = false ∧ (x : Int) = n ∧ (k : Int) = ((varS n).size : Int)) ∨ ((n < 0 ∨ 562949953421311 < n) ∧ (varS n).toList.isEmpty = true) := by
  by_cases hn : 0 ≤ n ∧ n ≤ 562949953421311
  · left
    obtain ⟨m, rfl⟩ := Int.eq_ofNat_of_zero_le hn.1
    rw [varS_in m (by omega)] at h ⊢
    have := RV_one h (RV_var m (by omega) T)
    refine ⟨hn, ?_, by omega, by rw [strOfNums_size]; omega⟩
    rw [empty_str]
    have := vb_pos m
    cases hv : vb m with
    | nil => rw [hv] at this; simp at this
    | cons _ _ => rfl
  · right
    rw [varS_out n (by omega)]
    exact ⟨by omega, nil_str⟩
theorem p56 : (256 : Nat) ^ 7 = 72057594037927936 := by decide
theorem ask2 (n : Int) (T : ByteArray) :
    ((0 ≤ n ∧ n < 72057594037927936) ∧ (fixS n).toList.isEmpty = false ∧ r7b (fixS n ++ T) = true ∧ r7 (fixS n ++ T) = n ∧ (fixS n).size = 7) ∨ ((n < 0 ∨ 72057594037927936 ≤ n) ∧ (fixS n).toList.isEmpty = true) := by
  by_cases hn : 0 ≤ n ∧ n < 72057594037927936
  · left
    obtain ⟨m, rfl⟩ := Int.eq_ofNat_of_zero_le hn.1
    have hm : m < 256 ^ 7 := by rw [p56]; omega
    have e : fixS (m : Int) = strOfNums (low m 7) := by unfold fixS fixStr; rw [if_pos hn.1, Int.toNat_natCast, if_pos hm]
    have hs : (fixS (m : Int)).size = 7 := by rw [e, strOfNums_size, low_length]
    have h7 : 7 ≤ (fixS (m : Int) ++ T).size := by rw [ByteArray.size_append, hs]; omega
    refine ⟨hn, ?_, by unfold r7b; simpa using h7, ?_, hs⟩
    · rw [e, empty_str]
      have := low_length m 7
      cases hv : low m 7 with
      | nil => rw [hv] at this; simp at this
      | cons _ _ => rfl
    · unfold r7
      rw [if_pos h7, e, fixVal_7 m hm T]
  · right
    refine ⟨by omega, ?_⟩
    unfold fixS
    by_cases h0 : 0 ≤ n
    · rw [if_pos h0]
      unfold fixStr
      rw [if_neg (by rw [p56]; omega)]
      exact nil_str
    · rw [if_neg h0]
      exact nil_str

set_option maxHeartbeats 400000 in
theorem big_any (a : Option Addr) (len cap : Nat) (w : World) : Calls Tryd.prog 4 #[.slice a len cap] w fun e w' => e = .returned (.bool (decide (1048576 < len))) ∧ w = w' := by
  by_cases h : 1048576 < len
  · go_enter Tryd.func4, Tryd.ntmps4
    go_wp2
    go_ret
    exact ⟨by simp [h]; omega, rfl⟩
  · go_enter Tryd.func4, Tryd.ntmps4
    go_wp2
    go_ret
    exact ⟨by simp [h]; omega, rfl⟩

end Go.Proofs.YtelfhodaahpggacDoor
