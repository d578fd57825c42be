/-
  The walk of the exact law of KeyOk, over a contract of impl's function.
-/
import Derived.Test.YtlppgbfpbkpocaaRecBase
import Derived.Below
namespace Go.Proofs.Ytlppgbfpbkpocaa
open Go.RowKit
open Plain

set_option maxRecDepth 100000 in
theorem lawKey_walk (a0 : ByteArray) (w0 : a0.size ≤ maxLen) (w : World)
    (hI : a0.size ≤ 1048576 → ∀ W : World, Calls Try.prog 16 #[.string a0] W fun e w' => e = .returned (.bool (keyB a0)) ∧ Below W.heap.size W w') :
    Calls Try.prog 4 #[.string a0] w fun e w' => e = .returned (.bool true) ∧ Below w.heap.size w w' := by
  by_cases hb : a0.size ≤ 1048576
  · have HI := hide (hI hb)
    clear hI
    go_enter Try.func4, Try.ntmps4
    go_wp2_with fail
    refine (specKey_any a0 _).mono ?_
    rintro e w2 ⟨rfl, rfl⟩
    go_wp2_with fail
    refine (HI.out _).mono ?_
    rintro e w3 ⟨rfl, hb3⟩
    clear HI
    go_wp2
    go_ret
    exact ⟨rfl, hb3⟩
  · unfold maxLen at w0
    clear hI
    go_enter Try.func4, Try.ntmps4
    go_wp2
    go_ret
    exact ⟨rfl, Below.refl _ _⟩

end Go.Proofs.Ytlppgbfpbkpocaa
