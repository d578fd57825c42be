/-
  Contracts of chapter 1's functions at every number, as records want them: what they answer in whatever world.
-/
import Derived.Test.YtimpokbcfjgdaaaDoorRecPlain
import Derived.Test.YtimpokbcfjgdaaaDoorRecOkI
import Derived.Test.YtimpokbcfjgdaaaDoorVarSpec
import Derived.Test.YtimpokbcfjgdaaaDoorVarImpl
import Derived.Test.YtimpokbcfjgdaaaDoorFixSpec
import Derived.Test.YtimpokbcfjgdaaaDoorFixImpl
import Derived.Test.YtimpokbcfjgdaaaDoorRFixImpl
import Derived.Test.YtimpokbcfjgdaaaDoorRVarSpec
import Derived.Test.YtimpokbcfjgdaaaDoorRVarImpl
namespace Go.Proofs.YtimpokbcfjgdaaaDoor
open Go.RowKit
open Plain

theorem implVar_any (n : Int) : Ans 22 #[.int .i64 n] (.string (varS n)) := by
  intro w
  by_cases h : 0 ≤ n ∧ n ≤ 562949953421311
  · obtain ⟨m, rfl⟩ := Int.eq_ofNat_of_zero_le h.1
    rw [varS_in m (by omega)]
    exact implVar_yes m w (by omega)
  · rw [varS_out n (by omega)]
    refine (implVar_no n w (by omega)).mono ?_
    rintro e w' ⟨rfl, rfl⟩
    exact ⟨rfl, Below.refl _ _⟩
theorem specVar_any (n : Int) : Ans 16 #[.int .i64 n] (.string (varS n)) := by
  intro w
  by_cases h : 0 ≤ n ∧ n ≤ 562949953421311
  · obtain ⟨m, rfl⟩ := Int.eq_ofNat_of_zero_le h.1
    rw [varS_in m (by omega)]
    exact specVar_yes m w (by omega)
  · rw [varS_out n (by omega)]
    refine (specVar_no n w (by omega)).mono ?_
    rintro e w' ⟨rfl, rfl⟩
    exact ⟨rfl, Below.refl _ _⟩
theorem implFix4_any (n : Int) (h1 : n ≤ 9223372036854775807) : Ans 24 #[.int .i64 n, .int .i64 4] (.string (fixN n 4)) := by
  intro w
  by_cases h : 0 ≤ n
  · obtain ⟨m, rfl⟩ := Int.eq_ofNat_of_zero_le h
    have e : fixN (m : Int) 4 = fixStr m 4 := by unfold fixN; rw [if_pos h, Int.toNat_natCast]
    rw [e]
    exact implFixed_yes m 4 w (by omega) (by omega) (by omega)
  · have e : fixN n 4 = ⟨#[]⟩ := by unfold fixN; rw [if_neg h]
    rw [e]
    refine (implFixed_no n 4 w (by omega)).mono ?_
    rintro e w' ⟨rfl, rfl⟩
    exact ⟨rfl, Below.refl _ _⟩
theorem specFix4_any (n : Int) (h1 : n ≤ 9223372036854775807) : Ans 17 #[.int .i64 n, .int .i64 4] (.string (fixN n 4)) := by
  intro w
  by_cases h : 0 ≤ n
  · obtain ⟨m, rfl⟩ := Int.eq_ofNat_of_zero_le h
    have e : fixN (m : Int) 4 = fixStr m 4 := by unfold fixN; rw [if_pos h, Int.toNat_natCast]
    rw [e]
    exact specFixed_yes m 4 w (by omega) (by omega) (by omega)
  · have e : fixN n 4 = ⟨#[]⟩ := by unfold fixN; rw [if_neg h]
    rw [e]
    refine (specFixed_no n 4 w (by omega)).mono ?_
    rintro e w' ⟨rfl, rfl⟩
    exact ⟨rfl, Below.refl _ _⟩
theorem implRV_any (s : ByteArray) (hs : s.size ≤ 1048576) (w : World) : Calls Tryd.prog 51 #[.string s] w fun e w' => e = .returned (.tuple #[.int .i64 ((rv s).1 : Nat), .int .i64 ((rv s).2 : Nat)]) ∧ w = w' := by
  refine (implReadVar_any s w hs).mono ?_
  rintro e w' ⟨⟨n, k, rfl, h⟩, hb⟩
  rw [rv_of h]
  exact ⟨rfl, hb⟩
theorem specRV_any (s : ByteArray) (hs : s.size ≤ 1048576) : Ans 43 #[.string s] (.tuple #[.int .i64 ((rv s).1 : Nat), .int .i64 ((rv s).2 : Nat)]) := by
  intro w
  refine (specReadVar_any s w hs).mono ?_
  rintro e w' ⟨⟨n, k, rfl, h⟩, hb⟩
  rw [rv_of h]
  exact ⟨rfl, hb⟩
theorem implRF4_any (s : ByteArray) (hs : s.size ≤ 1048576) (w : World) : Calls Tryd.prog 44 #[.string s, .int .i64 4] w fun e w' => e = .returned (.tuple #[.int .i64 (sumV s : Nat), .bool (!sumF s)]) ∧ w = w' := by
  by_cases h : 4 ≤ s.size
  · have e1 : sumV s = fixVal s 4 := by unfold sumV; rw [if_pos h]
    have e2 : sumF s = false := decide_eq_false (by omega)
    rw [e1, e2]
    exact implReadFixed_yes s 4 w hs (by omega) (by omega) h
  · have e1 : sumV s = 0 := by unfold sumV; rw [if_neg h]
    have e2 : sumF s = true := decide_eq_true (by omega)
    rw [e1, e2]
    exact implReadFixed_no s 4 w hs (by omega)

end Go.Proofs.YtimpokbcfjgdaaaDoor
