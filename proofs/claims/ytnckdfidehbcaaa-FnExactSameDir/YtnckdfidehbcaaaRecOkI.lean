/-
  What a function answers in whatever world.
-/
import Derived.Test.YtnckdfidehbcaaaRecBase
namespace Go.Proofs.Ytnckdfidehbcaaa
open Go.RowKit
open Plain

theorem al1 (w : World) (a : Obj) : Below w.heap.size w (w.alloc a) := (Below.refl _ _).alloc (Nat.le_refl _) a
theorem al2 (w : World) (a b : Obj) : Below w.heap.size w ((w.alloc a).alloc b) := (al1 w a).alloc (by simp) b
/-- In whatever world f answers v, and touches nothing that was there. -/
def Ans (f : FuncId) (args : Array Value) (v : Value) : Prop := ∀ W : World, Calls Try.prog f args W fun e w' => e = .returned v ∧ Below W.heap.size W w'

end Go.Proofs.Ytnckdfidehbcaaa
