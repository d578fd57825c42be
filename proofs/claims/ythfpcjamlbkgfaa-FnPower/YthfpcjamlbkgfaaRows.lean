/-
  No cell of these rows narrows 'for every input' (looked for: loops, veiled, ifaces, maps, wideKeys, modest, calm, conditions, laid).
  DERIVED. THE GIVEN ROWS OF THIS SEAT. 5 by the template 'for every input the law returns true; each argument reads behind the call as it read before'; 0 by the template 'total and deterministic' (their statements: YthfpcjamlbkgfaaTotals.lean).
  GIVEN WITH THE SEED: the statements are not yours to turn. If you find one false, say at which input.
  Laid BY PROGRAM, IN A SANDBOX (cutbox-rows.mjs): the forced cells as the released guide's own fill.sh prints them over the translation ea5563e8f8fb1384… (all of the seat's roots in one cut). By AI agents, Wed Nov 11 2026. No macro, syntax, notation, axiom, sorry.
-/
import Derived.Test.YthfpcjamlbkgfaaChecked
import GoSem.Claim
import GoSem.ClaimJoined
import GoSem.ClaimMapViews
import Derived.JoinedTies
import Derived.KernelRfl
namespace Go.Proofs.Ythfpcjamlbkgfaa
/- THE CELL 'sum', in the pinned program and in every row, IS THE sha256 OF THE DUMP (.gsa) THAT YthfpcjamlbkgfaaProg.lean LOADS. Nothing in Lean hashes anything: it is a label: what it is worth is what the hold of that sum in a sandbox is worth. -/
noncomputable def Try.pinned : Pinned := { name := "ythfpcjamlbkgfaa", sum := "ea5563e8f8fb1384f573901bb5f3f71770d0049ff69f4c3bfbea7ae797c08800", checked := Try.checked }
namespace Rows
def none {H : Type} : Left H := { results := [], args := [] }

/-- 'laws.FnPower': WHATEVER THE INPUT: true; the input reads as it did. -/
def fnPowerSpec : ChangeSpec := { name := "fnPower", fn := fun _ => fun
  | [d] => { results := [.lit (.bool true)], args := [d] }
  | _ => none }
def fnPowerRow : OpenClaim := { program := "ythfpcjamlbkgfaa", sum := "ea5563e8f8fb1384f573901bb5f3f71770d0049ff69f4c3bfbea7ae797c08800", func := "loop.example/g01397/laws.FnPower", spec := "fnPower", apart := false }
def FnPowerSaid : Prop := fnPowerRow.holds Try.pinned (OpenSpec.ofChange fnPowerSpec)

/-- ITS FALSE NEIGHBOUR: 'it returns false'. Refute it at one input. -/
def fnPowerWrong : ChangeSpec := { name := "fnPower", fn := fun _ => fun
  | [d] => { results := [.lit (.bool false)], args := [d] }
  | _ => none }
def FnPowerWrongFalsely : Prop := fnPowerRow.holds Try.pinned (OpenSpec.ofChange fnPowerWrong)

/-- 'laws.FnExactPower': WHATEVER THE INPUT: true; the input reads as it did. -/
def fnExactPowerSpec : ChangeSpec := { name := "fnExactPower", fn := fun _ => fun
  | [d1, d2] => { results := [.lit (.bool true)], args := [d1, d2] }
  | _ => none }
def fnExactPowerRow : OpenClaim := { program := "ythfpcjamlbkgfaa", sum := "ea5563e8f8fb1384f573901bb5f3f71770d0049ff69f4c3bfbea7ae797c08800", func := "loop.example/g01397/laws.FnExactPower", spec := "fnExactPower", apart := false }
def FnExactPowerSaid : Prop := fnExactPowerRow.holds Try.pinned (OpenSpec.ofChange fnExactPowerSpec)

/-- ITS FALSE NEIGHBOUR: 'it returns false'. Refute it at one input. -/
def fnExactPowerWrong : ChangeSpec := { name := "fnExactPower", fn := fun _ => fun
  | [d1, d2] => { results := [.lit (.bool false)], args := [d1, d2] }
  | _ => none }
def FnExactPowerWrongFalsely : Prop := fnExactPowerRow.holds Try.pinned (OpenSpec.ofChange fnExactPowerWrong)

/-- 'laws.FnExactSettled': WHATEVER THE INPUT: true; the input reads as it did. -/
def fnExactSettledSpec : ChangeSpec := { name := "fnExactSettled", fn := fun _ => fun
  | [d] => { results := [.lit (.bool true)], args := [d] }
  | _ => none }
def fnExactSettledRow : OpenClaim := { program := "ythfpcjamlbkgfaa", sum := "ea5563e8f8fb1384f573901bb5f3f71770d0049ff69f4c3bfbea7ae797c08800", func := "loop.example/g01397/laws.FnExactSettled", spec := "fnExactSettled", apart := false }
def FnExactSettledSaid : Prop := fnExactSettledRow.holds Try.pinned (OpenSpec.ofChange fnExactSettledSpec)

/-- ITS FALSE NEIGHBOUR: 'it returns false'. Refute it at one input. -/
def fnExactSettledWrong : ChangeSpec := { name := "fnExactSettled", fn := fun _ => fun
  | [d] => { results := [.lit (.bool false)], args := [d] }
  | _ => none }
def FnExactSettledWrongFalsely : Prop := fnExactSettledRow.holds Try.pinned (OpenSpec.ofChange fnExactSettledWrong)

/-- 'laws.FnExactWithFuel': WHATEVER THE INPUT: true; the input reads as it did. -/
def fnExactWithFuelSpec : ChangeSpec := { name := "fnExactWithFuel", fn := fun _ => fun
  | [d1, d2] => { results := [.lit (.bool true)], args := [d1, d2] }
  | _ => none }
def fnExactWithFuelRow : OpenClaim := { program := "ythfpcjamlbkgfaa", sum := "ea5563e8f8fb1384f573901bb5f3f71770d0049ff69f4c3bfbea7ae797c08800", func := "loop.example/g01397/laws.FnExactWithFuel", spec := "fnExactWithFuel", apart := false }
def FnExactWithFuelSaid : Prop := fnExactWithFuelRow.holds Try.pinned (OpenSpec.ofChange fnExactWithFuelSpec)

/-- ITS FALSE NEIGHBOUR: 'it returns false'. Refute it at one input. -/
def fnExactWithFuelWrong : ChangeSpec := { name := "fnExactWithFuel", fn := fun _ => fun
  | [d1, d2] => { results := [.lit (.bool false)], args := [d1, d2] }
  | _ => none }
def FnExactWithFuelWrongFalsely : Prop := fnExactWithFuelRow.holds Try.pinned (OpenSpec.ofChange fnExactWithFuelWrong)

/-- 'laws.FnExactVolatile': WHATEVER THE INPUT: true; the input reads as it did. -/
def fnExactVolatileSpec : ChangeSpec := { name := "fnExactVolatile", fn := fun _ => fun
  | [d] => { results := [.lit (.bool true)], args := [d] }
  | _ => none }
def fnExactVolatileRow : OpenClaim := { program := "ythfpcjamlbkgfaa", sum := "ea5563e8f8fb1384f573901bb5f3f71770d0049ff69f4c3bfbea7ae797c08800", func := "loop.example/g01397/laws.FnExactVolatile", spec := "fnExactVolatile", apart := false }
def FnExactVolatileSaid : Prop := fnExactVolatileRow.holds Try.pinned (OpenSpec.ofChange fnExactVolatileSpec)

/-- ITS FALSE NEIGHBOUR: 'it returns false'. Refute it at one input. -/
def fnExactVolatileWrong : ChangeSpec := { name := "fnExactVolatile", fn := fun _ => fun
  | [d] => { results := [.lit (.bool false)], args := [d] }
  | _ => none }
def FnExactVolatileWrongFalsely : Prop := fnExactVolatileRow.holds Try.pinned (OpenSpec.ofChange fnExactVolatileWrong)

/- THE SECOND FORM. 'bulk': how many values and letters a reading holds, each counted each time it is reached (what is shared counts as often as it is met; a slice's spare places count too). A statement '..UptoSaid' is the law's where the arguments, and the package variables that the reading takes, are together of bulk at most 1048576: NARROWER than '..Said'. Prove '..Said' where nothing that the law and all that it calls make is longer than what came in: it says more and counts as full. Else prove '..UptoSaid'. A law counts once. -/
mutual
def uptoBulk {H : Type} : DataW H → Nat
  | .lit (.string bytes) => bytes.length + 1
  | .lit _ => 1
  | .nil => 1
  | .ptr d => uptoBulk d + 1
  | .slice elems spare => uptoBulkAll elems + uptoBulkAll spare + 1
  | .agg parts => uptoBulkAll parts + 1
  | .iface _ d => uptoBulk d + 1
  | .map entries => uptoBulkEntries entries + 1
  | .held _ => 1
def uptoBulkAll {H : Type} : List (DataW H) → Nat
  | [] => 0
  | d :: r => uptoBulk d + uptoBulkAll r
def uptoBulkEntries {H : Type} : List (Lit × DataW H) → Nat
  | [] => 0
  | x :: r => uptoBulkEntry x + uptoBulkEntries r
def uptoBulkEntry {H : Type} : Lit × DataW H → Nat
  | (.string bytes, d) => bytes.length + uptoBulk d + 1
  | (_, d) => uptoBulk d + 1
 end
def uptoSmall : (H : Type) → List (DataW H) → Bool := fun _ ds => decide (uptoBulkAll ds ≤ 1048576)
def OpenSpec.upto (s : _root_.Go.ChangeSpec) : _root_.Go.OpenSpec := { _root_.Go.OpenSpec.ofChange s with cond := some uptoSmall }

/-- 'laws.FnPower', WHERE WHAT IT READS IS OF BULK AT MOST 1048576: true; the input reads as it did. -/
def fnPowerUptoRow : OpenClaim := { program := "ythfpcjamlbkgfaa", sum := "ea5563e8f8fb1384f573901bb5f3f71770d0049ff69f4c3bfbea7ae797c08800", func := "loop.example/g01397/laws.FnPower", spec := "fnPower", apart := false, narrowed := true }
def FnPowerUptoSaid : Prop := fnPowerUptoRow.holds Try.pinned (OpenSpec.upto fnPowerSpec)

/-- 'laws.FnExactPower', WHERE WHAT IT READS IS OF BULK AT MOST 1048576: true; the input reads as it did. -/
def fnExactPowerUptoRow : OpenClaim := { program := "ythfpcjamlbkgfaa", sum := "ea5563e8f8fb1384f573901bb5f3f71770d0049ff69f4c3bfbea7ae797c08800", func := "loop.example/g01397/laws.FnExactPower", spec := "fnExactPower", apart := false, narrowed := true }
def FnExactPowerUptoSaid : Prop := fnExactPowerUptoRow.holds Try.pinned (OpenSpec.upto fnExactPowerSpec)

/-- 'laws.FnExactSettled', WHERE WHAT IT READS IS OF BULK AT MOST 1048576: true; the input reads as it did. -/
def fnExactSettledUptoRow : OpenClaim := { program := "ythfpcjamlbkgfaa", sum := "ea5563e8f8fb1384f573901bb5f3f71770d0049ff69f4c3bfbea7ae797c08800", func := "loop.example/g01397/laws.FnExactSettled", spec := "fnExactSettled", apart := false, narrowed := true }
def FnExactSettledUptoSaid : Prop := fnExactSettledUptoRow.holds Try.pinned (OpenSpec.upto fnExactSettledSpec)

/-- 'laws.FnExactWithFuel', WHERE WHAT IT READS IS OF BULK AT MOST 1048576: true; the input reads as it did. -/
def fnExactWithFuelUptoRow : OpenClaim := { program := "ythfpcjamlbkgfaa", sum := "ea5563e8f8fb1384f573901bb5f3f71770d0049ff69f4c3bfbea7ae797c08800", func := "loop.example/g01397/laws.FnExactWithFuel", spec := "fnExactWithFuel", apart := false, narrowed := true }
def FnExactWithFuelUptoSaid : Prop := fnExactWithFuelUptoRow.holds Try.pinned (OpenSpec.upto fnExactWithFuelSpec)

/-- 'laws.FnExactVolatile', WHERE WHAT IT READS IS OF BULK AT MOST 1048576: true; the input reads as it did. -/
def fnExactVolatileUptoRow : OpenClaim := { program := "ythfpcjamlbkgfaa", sum := "ea5563e8f8fb1384f573901bb5f3f71770d0049ff69f4c3bfbea7ae797c08800", func := "loop.example/g01397/laws.FnExactVolatile", spec := "fnExactVolatile", apart := false, narrowed := true }
def FnExactVolatileUptoSaid : Prop := fnExactVolatileUptoRow.holds Try.pinned (OpenSpec.upto fnExactVolatileSpec)

end Rows
end Go.Proofs.Ythfpcjamlbkgfaa
