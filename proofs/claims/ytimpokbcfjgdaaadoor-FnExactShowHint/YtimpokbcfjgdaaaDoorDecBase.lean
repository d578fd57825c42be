/-
  The decimal numeral of an int, as spec.Dec makes it.
-/
import Derived.Test.YtimpokbcfjgdaaaDoorCore
import Derived.Lib.ItoaNum
namespace Go.Proofs.YtimpokbcfjgdaaaDoor
open Go.RowKit
open Plain

/-- The digits of q, none of 0. -/
def dd (q : Nat) : List UInt8 := if q = 0 then [] else Lib.decDigits q
theorem dd_step (q : Nat) (h : q ≠ 0) : dd q = dd (q / 10) ++ [UInt8.ofNat (48 + q % 10)] := by
  unfold dd
  rw [if_neg h, Lib.decDigits]
  by_cases h1 : q < 10
  · rw [dif_pos h1, if_pos (by omega), show q % 10 = q from by omega]; rfl
  · rw [dif_neg h1, if_neg (by omega)]
theorem dd_len (k : Nat) : ∀ q, q < 10 ^ k → (dd q).length ≤ k := by
  induction k with
  | zero => intro q h; have : q = 0 := by simpa using h
            subst this; simp [dd]
  | succ k ih =>
    intro q h
    by_cases h0 : q = 0
    · subst h0; simp [dd]
    · rw [dd_step q h0, List.length_append]
      have := ih (q / 10) (by rw [Nat.pow_succ] at h; omega)
      simp
      omega
theorem dd_len20 (q : Nat) (h : q ≤ 9223372036854775808) : (dd q).length ≤ 20 := by
  have e : (10 : Nat) ^ 20 = 100000000000000000000 := by decide
  exact dd_len 20 q (by omega)
def itoaS (n : Int) : ByteArray := ⟨(Lib.itoa n).toArray⟩
theorem str_cons (d : Nat) (hd : d < 10) (l : List UInt8) : strOfNums [(48 : Int) + (d : Int)] ++ ⟨l.toArray⟩ = ⟨(UInt8.ofNat (48 + d) :: l).toArray⟩ := by
  have e : strOfNums [(48 : Int) + (d : Int)] = ⟨[UInt8.ofNat (48 + d)].toArray⟩ := by
    unfold strOfNums
    simp only [List.map_cons, List.map_nil]
    rw [show ((48 : Int) + (d : Int)).toNat = 48 + d from by omega]
  rw [e, ByteArray.mk_append_mk]
  rfl

theorem dd_pos (a : Nat) (h : 0 < a) : dd a = Lib.decDigits a := by unfold dd; rw [if_neg (by omega)]

end Go.Proofs.YtimpokbcfjgdaaaDoor
