/-
  Contracts of chapter 1's functions at every number, as records want them: what they answer in whatever world.
-/
import Derived.Test.YthnealhaleccpaaDoorRecPlain
import Derived.Test.YthnealhaleccpaaDoorRecOkI
import Derived.Test.YthnealhaleccpaaDoorVarSpec
import Derived.Test.YthnealhaleccpaaDoorVarImpl
import Derived.Test.YthnealhaleccpaaDoorFixSpec
import Derived.Test.YthnealhaleccpaaDoorFixImpl
import Derived.Test.YthnealhaleccpaaDoorRFixImpl
import Derived.Test.YthnealhaleccpaaDoorRVarSpec
import Derived.Test.YthnealhaleccpaaDoorRVarImpl
namespace Go.Proofs.YthnealhaleccpaaDoor
open Go.RowKit
open Plain

theorem implVar_any (n : Int) : Ans 27 #[.int .i64 n] (.string (varS n)) := by
  intro w
  by_cases h : 0 ≤ n ∧ n ≤ 562949953421311
  · obtain ⟨m, rfl⟩ := Int.eq_ofNat_of_zero_le h.1
    rw [varS_in m (by omega)]
    exact implVar_yes m w (by omega)
  · rw [varS_out n (by omega)]
    refine (implVar_no n w (by omega)).mono ?_
    rintro e w' ⟨rfl, rfl⟩
    exact ⟨rfl, Below.refl _ _⟩
theorem specVar_any (n : Int) : Ans 22 #[.int .i64 n] (.string (varS n)) := by
  intro w
  by_cases h : 0 ≤ n ∧ n ≤ 562949953421311
  · obtain ⟨m, rfl⟩ := Int.eq_ofNat_of_zero_le h.1
    rw [varS_in m (by omega)]
    exact specVar_yes m w (by omega)
  · rw [varS_out n (by omega)]
    refine (specVar_no n w (by omega)).mono ?_
    rintro e w' ⟨rfl, rfl⟩
    exact ⟨rfl, Below.refl _ _⟩
theorem implFix4_any (n : Int) (h1 : n ≤ 9223372036854775807) : Ans 49 #[.int .i64 n, .int .i64 4] (.string (fixN n 4)) := by
  intro w
  by_cases h : 0 ≤ n
  · obtain ⟨m, rfl⟩ := Int.eq_ofNat_of_zero_le h
    have e : fixN (m : Int) 4 = fixStr m 4 := by unfold fixN; rw [if_pos h, Int.toNat_natCast]
    rw [e]
    exact implFixed_yes m 4 w (by omega) (by omega) (by omega)
  · have e : fixN n 4 = ⟨#[]⟩ := by unfold fixN; rw [if_neg h]
    rw [e]
    refine (implFixed_no n 4 w (by omega)).mono ?_
    rintro e w' ⟨rfl, rfl⟩
    exact ⟨rfl, Below.refl _ _⟩
theorem specFix4_any (n : Int) (h1 : n ≤ 9223372036854775807) : Ans 40 #[.int .i64 n, .int .i64 4] (.string (fixN n 4)) := by
  intro w
  by_cases h : 0 ≤ n
  · obtain ⟨m, rfl⟩ := Int.eq_ofNat_of_zero_le h
    have e : fixN (m : Int) 4 = fixStr m 4 := by unfold fixN; rw [if_pos h, Int.toNat_natCast]
    rw [e]
    exact specFixed_yes m 4 w (by omega) (by omega) (by omega)
  · have e : fixN n 4 = ⟨#[]⟩ := by unfold fixN; rw [if_neg h]
    rw [e]
    refine (specFixed_no n 4 w (by omega)).mono ?_
    rintro e w' ⟨rfl, rfl⟩
    exact ⟨rfl, Below.refl _ _⟩
theorem implRV_any (s : ByteArray) (hs : s.size ≤ 1048576) (w : World) : Calls Tryd.prog 62 #[.string s] w fun e w' => e = .returned (.tuple #[.int .i64 ((rv s).1 : Nat), .int .i64 ((rv s).2 : Nat)]) ∧ w = w' := by
  refine (implReadVar_any s w hs).mono ?_
  rintro e w' ⟨⟨n, k, rfl, h⟩, hb⟩
  rw [rv_of h]
  exact ⟨rfl, hb⟩
theorem specRV_any (s : ByteArray) (hs : s.size ≤ 1048576) : Ans 32 #[.string s] (.tuple #[.int .i64 ((rv s).1 : Nat), .int .i64 ((rv s).2 : Nat)]) := by
  intro w
  refine (specReadVar_any s w hs).mono ?_
  rintro e w' ⟨⟨n, k, rfl, h⟩, hb⟩
  rw [rv_of h]
  exact ⟨rfl, hb⟩
theorem implRF4_any (s : ByteArray) (hs : s.size ≤ 1048576) (w : World) : Calls Tryd.prog 61 #[.string s, .int .i64 4] w fun e w' => e = .returned (.tuple #[.int .i64 (sumV s : Nat), .bool (!sumF s)]) ∧ w = w' := by
  by_cases h : 4 ≤ s.size
  · have e1 : sumV s = fixVal s 4 := by unfold sumV; rw [if_pos h]
    have e2 : sumF s = false := decide_eq_false (by omega)
    rw [e1, e2]
    exact implReadFixed_yes s 4 w hs (by omega) (by omega) h
  · have e1 : sumV s = 0 := by unfold sumV; rw [if_neg h]
    have e2 : sumF s = true := decide_eq_true (by omega)
    rw [e1, e2]
    exact implReadFixed_no s 4 w hs (by omega)

end Go.Proofs.YthnealhaleccpaaDoor
