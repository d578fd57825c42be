/-
  NARROWER THAN 'FOR EVERY INPUT', by the rows' own cells (each row's printed sentence says how): FnHints: ifaces, laid · FnExactHintOf: ifaces, laid · FnExactHintFits: ifaces, laid.
  DERIVED. THE GIVEN ROWS OF THIS SEAT. 3 by the template 'for every input the law returns true; each argument reads behind the call as it read before'; 0 by the template 'total and deterministic' (their statements: YtimpokbcfjgdaaaGreatDoorTotals.lean).
  GIVEN WITH THE SEED: the statements are not yours to turn. If you find one false, say at which input.
  Laid BY PROGRAM, IN A SANDBOX (cutbox-rows.mjs): the forced cells as the released guide's own fill.sh prints them over the translation 657b8d3add3144ab… (all of the seat's roots in one cut). By AI agents, Wed Nov 11 2026. No macro, syntax, notation, axiom, sorry.
-/
import Derived.Test.YtimpokbcfjgdaaaGreatDoorChecked
import GoSem.Claim
import GoSem.ClaimJoined
import GoSem.ClaimMapViews
import Derived.JoinedTies
import Derived.KernelRfl
namespace Go.Proofs.YtimpokbcfjgdaaaGreatDoor
/- THE CELL 'sum', in the pinned program and in every row, IS THE sha256 OF THE DUMP (.gsa) THAT YtimpokbcfjgdaaaGreatDoorProg.lean LOADS. Nothing in Lean hashes anything: it is a label: what it is worth is what the hold of that sum in a sandbox is worth. -/
noncomputable def Tryz.pinned : Pinned := { name := "ytimpokbcfjgdaaagreatdoor", sum := "657b8d3add3144ab7b30a917a33301fdb3a94aca5f56afef4f6a79557c8782ea", checked := Tryz.checked }
namespace Rows
def none {H : Type} : Left H := { results := [], args := [] }

/- WHAT THE LISTED PACKAGE-LEVEL VARIABLES READ AS WHEN THE CALL BEGINS. Each datum BY PROGRAM (the guide's laid-datum.mjs) off the statement by which the dump's own 'gosem.cut.vars' lays the variable. In a bare row this is a premise. The card (YtimpokbcfjgdaaaGreatDoorCards.lean) ties it to the program's text. -/
def laid_loop_example_g01397_impl_sumTable {H : Type} : DataW H := .agg [.lit (.int .u32 0), .lit (.int .u32 274646895), .lit (.int .u32 549293790), .lit (.int .u32 820201905), .lit (.int .u32 1098587580), .lit (.int .u32 1361435347), .lit (.int .u32 1640403810), .lit (.int .u32 1905808397), .lit (.int .u32 2197175160), .lit (.int .u32 2460548119), .lit (.int .u32 2722870694), .lit (.int .u32 2987750089), .lit (.int .u32 3280807620), .lit (.int .u32 3553878443), .lit (.int .u32 3811616794), .lit (.int .u32 4084100981)]
def laid_loop_example_g01397_impl_errTorn {H : Type} : DataW H := .iface "*errors.errorString" (.ptr (.agg [.lit (.string [110, 111, 32, 119, 104, 111, 108, 101, 32, 102, 114, 97, 109, 101])]))
def laid_loop_example_g01397_impl_errNoRec {H : Type} : DataW H := .iface "*errors.errorString" (.ptr (.agg [.lit (.string [97, 32, 102, 114, 97, 109, 101, 32, 119, 105, 116, 104, 111, 117, 116, 32, 97, 32, 114, 101, 99, 111, 114, 100])]))

/-- 'laws.FnHints': WHATEVER THE INPUT: true; the input reads as it did. -/
def fnHintsSpec : ChangeSpec := { name := "fnHints", vars := ["loop.example/g01397/impl.sumTable", "loop.example/g01397/impl.errTorn", "loop.example/g01397/impl.errNoRec"], fn := fun _ => fun
  | [d, g1, g2, g3] => { results := [.lit (.bool true)], args := [d], vars := [g1, g2, g3] }
  | _ => none }
def fnHintsRow : OpenClaim := { program := "ytimpokbcfjgdaaagreatdoor", sum := "657b8d3add3144ab7b30a917a33301fdb3a94aca5f56afef4f6a79557c8782ea", func := "loop.example/g01397/laws.FnHints", spec := "fnHints", inPlace := ["internal/abi.NoEscape", "internal/reflectlite.TypeOf", "slices.overlaps[loop.example/g01397/impl.Entry]"], unfollowed := true, recurses := true, named := ["loop.example/g01397/impl.sumTable", "loop.example/g01397/impl.errTorn", "loop.example/g01397/impl.errNoRec"], ifaces := true, apart := false, laid := [("loop.example/g01397/impl.sumTable", laid_loop_example_g01397_impl_sumTable), ("loop.example/g01397/impl.errTorn", laid_loop_example_g01397_impl_errTorn), ("loop.example/g01397/impl.errNoRec", laid_loop_example_g01397_impl_errNoRec)] }
def FnHintsSaid : Prop := fnHintsRow.holds Tryz.pinned (OpenSpec.ofChange fnHintsSpec)

/-- ITS FALSE NEIGHBOUR: 'it returns false'. Refute it at one input. -/
def fnHintsWrong : ChangeSpec := { name := "fnHints", vars := ["loop.example/g01397/impl.sumTable", "loop.example/g01397/impl.errTorn", "loop.example/g01397/impl.errNoRec"], fn := fun _ => fun
  | [d, g1, g2, g3] => { results := [.lit (.bool false)], args := [d], vars := [g1, g2, g3] }
  | _ => none }
def FnHintsWrongFalsely : Prop := fnHintsRow.holds Tryz.pinned (OpenSpec.ofChange fnHintsWrong)

/-- 'laws.FnExactHintOf': WHATEVER THE INPUT: true; the input reads as it did. -/
def fnExactHintOfSpec : ChangeSpec := { name := "fnExactHintOf", vars := ["loop.example/g01397/impl.errTorn", "loop.example/g01397/impl.errNoRec", "loop.example/g01397/impl.sumTable"], fn := fun _ => fun
  | [d1, d2, g1, g2, g3] => { results := [.lit (.bool true)], args := [d1, d2], vars := [g1, g2, g3] }
  | _ => none }
def fnExactHintOfRow : OpenClaim := { program := "ytimpokbcfjgdaaagreatdoor", sum := "657b8d3add3144ab7b30a917a33301fdb3a94aca5f56afef4f6a79557c8782ea", func := "loop.example/g01397/laws.FnExactHintOf", spec := "fnExactHintOf", inPlace := ["internal/reflectlite.TypeOf", "internal/abi.NoEscape", "slices.overlaps[loop.example/g01397/impl.Entry]"], unfollowed := true, recurses := true, named := ["loop.example/g01397/impl.errTorn", "loop.example/g01397/impl.errNoRec", "loop.example/g01397/impl.sumTable"], ifaces := true, apart := false, laid := [("loop.example/g01397/impl.sumTable", laid_loop_example_g01397_impl_sumTable), ("loop.example/g01397/impl.errTorn", laid_loop_example_g01397_impl_errTorn), ("loop.example/g01397/impl.errNoRec", laid_loop_example_g01397_impl_errNoRec)] }
def FnExactHintOfSaid : Prop := fnExactHintOfRow.holds Tryz.pinned (OpenSpec.ofChange fnExactHintOfSpec)

/-- ITS FALSE NEIGHBOUR: 'it returns false'. Refute it at one input. -/
def fnExactHintOfWrong : ChangeSpec := { name := "fnExactHintOf", vars := ["loop.example/g01397/impl.errTorn", "loop.example/g01397/impl.errNoRec", "loop.example/g01397/impl.sumTable"], fn := fun _ => fun
  | [d1, d2, g1, g2, g3] => { results := [.lit (.bool false)], args := [d1, d2], vars := [g1, g2, g3] }
  | _ => none }
def FnExactHintOfWrongFalsely : Prop := fnExactHintOfRow.holds Tryz.pinned (OpenSpec.ofChange fnExactHintOfWrong)

/-- 'laws.FnExactHintFits': WHATEVER THE INPUT: true; the input reads as it did. -/
def fnExactHintFitsSpec : ChangeSpec := { name := "fnExactHintFits", vars := ["loop.example/g01397/impl.errTorn", "loop.example/g01397/impl.errNoRec", "loop.example/g01397/impl.sumTable"], fn := fun _ => fun
  | [d1, d2, d3, g1, g2, g3] => { results := [.lit (.bool true)], args := [d1, d2, d3], vars := [g1, g2, g3] }
  | _ => none }
def fnExactHintFitsRow : OpenClaim := { program := "ytimpokbcfjgdaaagreatdoor", sum := "657b8d3add3144ab7b30a917a33301fdb3a94aca5f56afef4f6a79557c8782ea", func := "loop.example/g01397/laws.FnExactHintFits", spec := "fnExactHintFits", inPlace := ["internal/reflectlite.TypeOf", "internal/abi.NoEscape", "slices.overlaps[loop.example/g01397/impl.Entry]"], unfollowed := true, recurses := true, named := ["loop.example/g01397/impl.errTorn", "loop.example/g01397/impl.errNoRec", "loop.example/g01397/impl.sumTable"], ifaces := true, apart := false, laid := [("loop.example/g01397/impl.sumTable", laid_loop_example_g01397_impl_sumTable), ("loop.example/g01397/impl.errTorn", laid_loop_example_g01397_impl_errTorn), ("loop.example/g01397/impl.errNoRec", laid_loop_example_g01397_impl_errNoRec)] }
def FnExactHintFitsSaid : Prop := fnExactHintFitsRow.holds Tryz.pinned (OpenSpec.ofChange fnExactHintFitsSpec)

/-- ITS FALSE NEIGHBOUR: 'it returns false'. Refute it at one input. -/
def fnExactHintFitsWrong : ChangeSpec := { name := "fnExactHintFits", vars := ["loop.example/g01397/impl.errTorn", "loop.example/g01397/impl.errNoRec", "loop.example/g01397/impl.sumTable"], fn := fun _ => fun
  | [d1, d2, d3, g1, g2, g3] => { results := [.lit (.bool false)], args := [d1, d2, d3], vars := [g1, g2, g3] }
  | _ => none }
def FnExactHintFitsWrongFalsely : Prop := fnExactHintFitsRow.holds Tryz.pinned (OpenSpec.ofChange fnExactHintFitsWrong)

/- THE SECOND FORM. 'bulk': how many values and letters a reading holds, each counted each time it is reached (what is shared counts as often as it is met; a slice's spare places count too). A statement '..UptoSaid' is the law's where the arguments, and the package variables that the reading takes, are together of bulk at most 1048576: NARROWER than '..Said'. Prove '..Said' where nothing that the law and all that it calls make is longer than what came in: it says more and counts as full. Else prove '..UptoSaid'. A law counts once. -/
mutual
def uptoBulk {H : Type} : DataW H → Nat
  | .lit (.string bytes) => bytes.length + 1
  | .lit _ => 1
  | .nil => 1
  | .ptr d => uptoBulk d + 1
  | .slice elems spare => uptoBulkAll elems + uptoBulkAll spare + 1
  | .agg parts => uptoBulkAll parts + 1
  | .iface _ d => uptoBulk d + 1
  | .map entries => uptoBulkEntries entries + 1
  | .held _ => 1
def uptoBulkAll {H : Type} : List (DataW H) → Nat
  | [] => 0
  | d :: r => uptoBulk d + uptoBulkAll r
def uptoBulkEntries {H : Type} : List (Lit × DataW H) → Nat
  | [] => 0
  | x :: r => uptoBulkEntry x + uptoBulkEntries r
def uptoBulkEntry {H : Type} : Lit × DataW H → Nat
  | (.string bytes, d) => bytes.length + uptoBulk d + 1
  | (_, d) => uptoBulk d + 1
 end
def uptoSmall : (H : Type) → List (DataW H) → Bool := fun _ ds => decide (uptoBulkAll ds ≤ 1048576)
def OpenSpec.upto (s : _root_.Go.ChangeSpec) : _root_.Go.OpenSpec := { _root_.Go.OpenSpec.ofChange s with cond := some uptoSmall }

/-- 'laws.FnHints', WHERE WHAT IT READS IS OF BULK AT MOST 1048576: true; the input reads as it did. -/
def fnHintsUptoRow : OpenClaim := { program := "ytimpokbcfjgdaaagreatdoor", sum := "657b8d3add3144ab7b30a917a33301fdb3a94aca5f56afef4f6a79557c8782ea", func := "loop.example/g01397/laws.FnHints", spec := "fnHints", inPlace := ["internal/abi.NoEscape", "internal/reflectlite.TypeOf", "slices.overlaps[loop.example/g01397/impl.Entry]"], unfollowed := true, recurses := true, named := ["loop.example/g01397/impl.sumTable", "loop.example/g01397/impl.errTorn", "loop.example/g01397/impl.errNoRec"], ifaces := true, apart := false, laid := [("loop.example/g01397/impl.sumTable", laid_loop_example_g01397_impl_sumTable), ("loop.example/g01397/impl.errTorn", laid_loop_example_g01397_impl_errTorn), ("loop.example/g01397/impl.errNoRec", laid_loop_example_g01397_impl_errNoRec)], narrowed := true }
def FnHintsUptoSaid : Prop := fnHintsUptoRow.holds Tryz.pinned (OpenSpec.upto fnHintsSpec)

/-- 'laws.FnExactHintOf', WHERE WHAT IT READS IS OF BULK AT MOST 1048576: true; the input reads as it did. -/
def fnExactHintOfUptoRow : OpenClaim := { program := "ytimpokbcfjgdaaagreatdoor", sum := "657b8d3add3144ab7b30a917a33301fdb3a94aca5f56afef4f6a79557c8782ea", func := "loop.example/g01397/laws.FnExactHintOf", spec := "fnExactHintOf", inPlace := ["internal/reflectlite.TypeOf", "internal/abi.NoEscape", "slices.overlaps[loop.example/g01397/impl.Entry]"], unfollowed := true, recurses := true, named := ["loop.example/g01397/impl.errTorn", "loop.example/g01397/impl.errNoRec", "loop.example/g01397/impl.sumTable"], ifaces := true, apart := false, laid := [("loop.example/g01397/impl.sumTable", laid_loop_example_g01397_impl_sumTable), ("loop.example/g01397/impl.errTorn", laid_loop_example_g01397_impl_errTorn), ("loop.example/g01397/impl.errNoRec", laid_loop_example_g01397_impl_errNoRec)], narrowed := true }
def FnExactHintOfUptoSaid : Prop := fnExactHintOfUptoRow.holds Tryz.pinned (OpenSpec.upto fnExactHintOfSpec)

/-- 'laws.FnExactHintFits', WHERE WHAT IT READS IS OF BULK AT MOST 1048576: true; the input reads as it did. -/
def fnExactHintFitsUptoRow : OpenClaim := { program := "ytimpokbcfjgdaaagreatdoor", sum := "657b8d3add3144ab7b30a917a33301fdb3a94aca5f56afef4f6a79557c8782ea", func := "loop.example/g01397/laws.FnExactHintFits", spec := "fnExactHintFits", inPlace := ["internal/reflectlite.TypeOf", "internal/abi.NoEscape", "slices.overlaps[loop.example/g01397/impl.Entry]"], unfollowed := true, recurses := true, named := ["loop.example/g01397/impl.errTorn", "loop.example/g01397/impl.errNoRec", "loop.example/g01397/impl.sumTable"], ifaces := true, apart := false, laid := [("loop.example/g01397/impl.sumTable", laid_loop_example_g01397_impl_sumTable), ("loop.example/g01397/impl.errTorn", laid_loop_example_g01397_impl_errTorn), ("loop.example/g01397/impl.errNoRec", laid_loop_example_g01397_impl_errNoRec)], narrowed := true }
def FnExactHintFitsUptoSaid : Prop := fnExactHintFitsUptoRow.holds Tryz.pinned (OpenSpec.upto fnExactHintFitsSpec)

end Rows
end Go.Proofs.YtimpokbcfjgdaaaGreatDoor
