/-
  cmp.Compare at texts.
-/
import Derived.Test.YthhjomaccbpnbabDoorOrderF
import Derived.Lib.Strings
import Derived.WalkKit
namespace Go.Proofs.YthhjomaccbpnbabDoor
open Go.RowKit
open Plain

/-- Go's cmp.Compare of two texts. -/
def cmpB (x y : ByteArray) : Int := if Op.bytesLess x.toList y.toList = true then -1 else if Op.bytesLess y.toList x.toList = true then 1 else 0

set_option maxRecDepth 100000 in
theorem isNaN_any (x : ByteArray) (w : World) : Calls Tryd.prog 69 #[.string x] w fun e w' => e = .returned (.bool false) ∧ w = w' := by
  go_enter Tryd.func69, Tryd.ntmps69
  go_wp2
  go_ret
  exact ⟨by simp, rfl⟩
set_option maxRecDepth 100000 in
set_option maxHeartbeats 1000000 in
theorem cmpS_any (x y : ByteArray) (w : World) : Calls Tryd.prog 66 #[.string x, .string y] w fun e w' => e = .returned (.int .i64 (cmpB x y)) ∧ w = w' := by
  by_cases h1 : Op.bytesLess x.toList y.toList = true
  · have HV : Hid (cmpB x y = -1) := hide (by unfold cmpB; rw [if_pos h1])
    go_enter Tryd.func66, Tryd.ntmps66
    go_wp2_with (go_at_call 69; refine (isNaN_any _ _).mono ?_; rintro e w' ⟨rfl, rfl⟩)
    go_ret
    exact ⟨by rw [HV.out]; rfl, rfl⟩
  · have h1' : Op.bytesLess x.toList y.toList = false := by simpa using h1
    by_cases h2 : Op.bytesLess y.toList x.toList = true
    · have HV : Hid (cmpB x y = 1) := hide (by unfold cmpB; rw [if_neg h1, if_pos h2])
      have h3 : (x.toList == y.toList) = false := by
        cases hq : (x.toList == y.toList) with
        | false => rfl
        | true => rw [beq_iff_eq.1 hq, bytesLess_lt] at h2; exact absurd (of_decide_eq_true h2) (List.lt_irrefl _)
      go_enter Tryd.func66, Tryd.ntmps66
      go_wp2_with (go_at_call 69; refine (isNaN_any _ _).mono ?_; rintro e w' ⟨rfl, rfl⟩)
      go_ret
      exact ⟨by rw [HV.out]; rfl, rfl⟩
    · have h2' : Op.bytesLess y.toList x.toList = false := by simpa using h2
      have HV : Hid (cmpB x y = 0) := hide (by unfold cmpB; rw [if_neg h1, if_neg h2])
      have h3 : (x.toList == y.toList) = true := by
        rw [bytesLess_lt] at h1' h2'
        rcases List.le_iff_lt_or_eq.1 (List.not_lt.1 (of_decide_eq_false h1')) with h | h
        · exact absurd h (of_decide_eq_false h2')
        · exact beq_iff_eq.2 h.symm
      go_enter Tryd.func66, Tryd.ntmps66
      go_wp2_with (go_at_call 69; refine (isNaN_any _ _).mono ?_; rintro e w' ⟨rfl, rfl⟩)
      go_ret
      exact ⟨by rw [HV.out]; rfl, rfl⟩

theorem tl (x : ByteArray) : x.toList = x.data.toList := Lib.toList_data x

end Go.Proofs.YthhjomaccbpnbabDoor
