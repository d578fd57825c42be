/-
  The laws' big.
-/
import Derived.Test.YtnckdfidehbcaaaDrawT
namespace Go.Proofs.Ytnckdfidehbcaaa
open Go.RowKit
open Plain

theorem big_any (a : Option Addr) (len cap : Nat) (w : World) : Calls Try.prog 6 #[.slice a len cap] w fun e w' => e = .returned (.bool (decide (1048576 < len))) ∧ w = w' := by
  by_cases h : 1048576 < len
  · go_enter Try.func6, Try.ntmps6
    go_wp2
    go_ret
    exact ⟨by simp [h]; omega, rfl⟩
  · go_enter Try.func6, Try.ntmps6
    go_wp2
    go_ret
    exact ⟨by simp [h]; omega, rfl⟩

end Go.Proofs.Ytnckdfidehbcaaa
