/-
  NARROWER THAN 'FOR EVERY INPUT', by the rows' own cells (each row's printed sentence says how): FnFrames: ifaces, laid · FnExactFrame: laid · FnExactUnframe: laid · FnExactScanRecs: ifaces, laid · FnExactRecAt: ifaces, laid · FnExactSumOf: laid.
  DERIVED. THE GIVEN ROWS OF THIS SEAT. 6 by the template 'for every input the law returns true; each argument reads behind the call as it read before'; 0 by the template 'total and deterministic' (their statements: YtkcjlalkniaapaaDoorTotals.lean).
  GIVEN WITH THE SEED: the statements are not yours to turn. If you find one false, say at which input.
  Laid BY PROGRAM, IN A SANDBOX (cutbox-rows.mjs): the forced cells as the released guide's own fill.sh prints them over the translation 727a1fabda23d2a2… (all of the seat's roots in one cut). By AI agents, Wed Nov 11 2026. No macro, syntax, notation, axiom, sorry.
-/
import Derived.Test.YtkcjlalkniaapaaDoorChecked
import GoSem.Claim
import GoSem.ClaimJoined
import GoSem.ClaimMapViews
import Derived.JoinedTies
import Derived.KernelRfl
namespace Go.Proofs.YtkcjlalkniaapaaDoor
/- THE CELL 'sum', in the pinned program and in every row, IS THE sha256 OF THE DUMP (.gsa) THAT YtkcjlalkniaapaaDoorProg.lean LOADS. Nothing in Lean hashes anything: it is a label: what it is worth is what the hold of that sum in a sandbox is worth. -/
noncomputable def Tryd.pinned : Pinned := { name := "ytkcjlalkniaapaadoor", sum := "727a1fabda23d2a21d832b63538f33e9e8b959ce9fe572179e1d1129c050feba", checked := Tryd.checked }
namespace Rows
def none {H : Type} : Left H := { results := [], args := [] }

/- WHAT THE LISTED PACKAGE-LEVEL VARIABLES READ AS WHEN THE CALL BEGINS. Each datum BY PROGRAM (the guide's laid-datum.mjs) off the statement by which the dump's own 'gosem.cut.vars' lays the variable. In a bare row this is a premise. The card (YtkcjlalkniaapaaDoorCards.lean) ties it to the program's text. -/
def laid_loop_example_g01397_impl_sumTable {H : Type} : DataW H := .agg [.lit (.int .u32 0), .lit (.int .u32 274646895), .lit (.int .u32 549293790), .lit (.int .u32 820201905), .lit (.int .u32 1098587580), .lit (.int .u32 1361435347), .lit (.int .u32 1640403810), .lit (.int .u32 1905808397), .lit (.int .u32 2197175160), .lit (.int .u32 2460548119), .lit (.int .u32 2722870694), .lit (.int .u32 2987750089), .lit (.int .u32 3280807620), .lit (.int .u32 3553878443), .lit (.int .u32 3811616794), .lit (.int .u32 4084100981)]
def laid_loop_example_g01397_impl_errTorn {H : Type} : DataW H := .iface "*errors.errorString" (.ptr (.agg [.lit (.string [110, 111, 32, 119, 104, 111, 108, 101, 32, 102, 114, 97, 109, 101])]))
def laid_loop_example_g01397_impl_errNoRec {H : Type} : DataW H := .iface "*errors.errorString" (.ptr (.agg [.lit (.string [97, 32, 102, 114, 97, 109, 101, 32, 119, 105, 116, 104, 111, 117, 116, 32, 97, 32, 114, 101, 99, 111, 114, 100])]))

/-- 'laws.FnFrames': WHATEVER THE INPUT: true; the input reads as it did. -/
def fnFramesSpec : ChangeSpec := { name := "fnFrames", vars := ["loop.example/g01397/impl.sumTable", "loop.example/g01397/impl.errTorn", "loop.example/g01397/impl.errNoRec"], fn := fun _ => fun
  | [d, g1, g2, g3] => { results := [.lit (.bool true)], args := [d], vars := [g1, g2, g3] }
  | _ => none }
def fnFramesRow : OpenClaim := { program := "ytkcjlalkniaapaadoor", sum := "727a1fabda23d2a21d832b63538f33e9e8b959ce9fe572179e1d1129c050feba", func := "loop.example/g01397/laws.FnFrames", spec := "fnFrames", inPlace := ["internal/reflectlite.TypeOf"], unfollowed := true, recurses := true, named := ["loop.example/g01397/impl.sumTable", "loop.example/g01397/impl.errTorn", "loop.example/g01397/impl.errNoRec"], ifaces := true, apart := false, laid := [("loop.example/g01397/impl.sumTable", laid_loop_example_g01397_impl_sumTable), ("loop.example/g01397/impl.errTorn", laid_loop_example_g01397_impl_errTorn), ("loop.example/g01397/impl.errNoRec", laid_loop_example_g01397_impl_errNoRec)] }
def FnFramesSaid : Prop := fnFramesRow.holds Tryd.pinned (OpenSpec.ofChange fnFramesSpec)

/-- ITS FALSE NEIGHBOUR: 'it returns false'. Refute it at one input. -/
def fnFramesWrong : ChangeSpec := { name := "fnFrames", vars := ["loop.example/g01397/impl.sumTable", "loop.example/g01397/impl.errTorn", "loop.example/g01397/impl.errNoRec"], fn := fun _ => fun
  | [d, g1, g2, g3] => { results := [.lit (.bool false)], args := [d], vars := [g1, g2, g3] }
  | _ => none }
def FnFramesWrongFalsely : Prop := fnFramesRow.holds Tryd.pinned (OpenSpec.ofChange fnFramesWrong)

/-- 'laws.FnExactFrame': WHATEVER THE INPUT: true; the input reads as it did. -/
def fnExactFrameSpec : ChangeSpec := { name := "fnExactFrame", vars := ["loop.example/g01397/impl.sumTable"], fn := fun _ => fun
  | [d, g1] => { results := [.lit (.bool true)], args := [d], vars := [g1] }
  | _ => none }
def fnExactFrameRow : OpenClaim := { program := "ytkcjlalkniaapaadoor", sum := "727a1fabda23d2a21d832b63538f33e9e8b959ce9fe572179e1d1129c050feba", func := "loop.example/g01397/laws.FnExactFrame", spec := "fnExactFrame", named := ["loop.example/g01397/impl.sumTable"], apart := false, laid := [("loop.example/g01397/impl.sumTable", laid_loop_example_g01397_impl_sumTable)] }
def FnExactFrameSaid : Prop := fnExactFrameRow.holds Tryd.pinned (OpenSpec.ofChange fnExactFrameSpec)

/-- ITS FALSE NEIGHBOUR: 'it returns false'. Refute it at one input. -/
def fnExactFrameWrong : ChangeSpec := { name := "fnExactFrame", vars := ["loop.example/g01397/impl.sumTable"], fn := fun _ => fun
  | [d, g1] => { results := [.lit (.bool false)], args := [d], vars := [g1] }
  | _ => none }
def FnExactFrameWrongFalsely : Prop := fnExactFrameRow.holds Tryd.pinned (OpenSpec.ofChange fnExactFrameWrong)

/-- 'laws.FnExactUnframe': WHATEVER THE INPUT: true; the input reads as it did. -/
def fnExactUnframeSpec : ChangeSpec := { name := "fnExactUnframe", vars := ["loop.example/g01397/impl.sumTable"], fn := fun _ => fun
  | [d, g1] => { results := [.lit (.bool true)], args := [d], vars := [g1] }
  | _ => none }
def fnExactUnframeRow : OpenClaim := { program := "ytkcjlalkniaapaadoor", sum := "727a1fabda23d2a21d832b63538f33e9e8b959ce9fe572179e1d1129c050feba", func := "loop.example/g01397/laws.FnExactUnframe", spec := "fnExactUnframe", named := ["loop.example/g01397/impl.sumTable"], apart := false, laid := [("loop.example/g01397/impl.sumTable", laid_loop_example_g01397_impl_sumTable)] }
def FnExactUnframeSaid : Prop := fnExactUnframeRow.holds Tryd.pinned (OpenSpec.ofChange fnExactUnframeSpec)

/-- ITS FALSE NEIGHBOUR: 'it returns false'. Refute it at one input. -/
def fnExactUnframeWrong : ChangeSpec := { name := "fnExactUnframe", vars := ["loop.example/g01397/impl.sumTable"], fn := fun _ => fun
  | [d, g1] => { results := [.lit (.bool false)], args := [d], vars := [g1] }
  | _ => none }
def FnExactUnframeWrongFalsely : Prop := fnExactUnframeRow.holds Tryd.pinned (OpenSpec.ofChange fnExactUnframeWrong)

/-- 'laws.FnExactScanRecs': WHATEVER THE INPUT: true; the input reads as it did. -/
def fnExactScanRecsSpec : ChangeSpec := { name := "fnExactScanRecs", vars := ["loop.example/g01397/impl.errTorn", "loop.example/g01397/impl.errNoRec", "loop.example/g01397/impl.sumTable"], fn := fun _ => fun
  | [d, g1, g2, g3] => { results := [.lit (.bool true)], args := [d], vars := [g1, g2, g3] }
  | _ => none }
def fnExactScanRecsRow : OpenClaim := { program := "ytkcjlalkniaapaadoor", sum := "727a1fabda23d2a21d832b63538f33e9e8b959ce9fe572179e1d1129c050feba", func := "loop.example/g01397/laws.FnExactScanRecs", spec := "fnExactScanRecs", inPlace := ["internal/reflectlite.TypeOf"], unfollowed := true, recurses := true, named := ["loop.example/g01397/impl.errTorn", "loop.example/g01397/impl.errNoRec", "loop.example/g01397/impl.sumTable"], ifaces := true, apart := false, laid := [("loop.example/g01397/impl.sumTable", laid_loop_example_g01397_impl_sumTable), ("loop.example/g01397/impl.errTorn", laid_loop_example_g01397_impl_errTorn), ("loop.example/g01397/impl.errNoRec", laid_loop_example_g01397_impl_errNoRec)] }
def FnExactScanRecsSaid : Prop := fnExactScanRecsRow.holds Tryd.pinned (OpenSpec.ofChange fnExactScanRecsSpec)

/-- ITS FALSE NEIGHBOUR: 'it returns false'. Refute it at one input. -/
def fnExactScanRecsWrong : ChangeSpec := { name := "fnExactScanRecs", vars := ["loop.example/g01397/impl.errTorn", "loop.example/g01397/impl.errNoRec", "loop.example/g01397/impl.sumTable"], fn := fun _ => fun
  | [d, g1, g2, g3] => { results := [.lit (.bool false)], args := [d], vars := [g1, g2, g3] }
  | _ => none }
def FnExactScanRecsWrongFalsely : Prop := fnExactScanRecsRow.holds Tryd.pinned (OpenSpec.ofChange fnExactScanRecsWrong)

/-- 'laws.FnExactRecAt': WHATEVER THE INPUT: true; the input reads as it did. -/
def fnExactRecAtSpec : ChangeSpec := { name := "fnExactRecAt", vars := ["loop.example/g01397/impl.errTorn", "loop.example/g01397/impl.errNoRec", "loop.example/g01397/impl.sumTable"], fn := fun _ => fun
  | [d1, d2, d3, g1, g2, g3] => { results := [.lit (.bool true)], args := [d1, d2, d3], vars := [g1, g2, g3] }
  | _ => none }
def fnExactRecAtRow : OpenClaim := { program := "ytkcjlalkniaapaadoor", sum := "727a1fabda23d2a21d832b63538f33e9e8b959ce9fe572179e1d1129c050feba", func := "loop.example/g01397/laws.FnExactRecAt", spec := "fnExactRecAt", unfollowed := true, recurses := true, named := ["loop.example/g01397/impl.errTorn", "loop.example/g01397/impl.errNoRec", "loop.example/g01397/impl.sumTable"], ifaces := true, apart := false, laid := [("loop.example/g01397/impl.sumTable", laid_loop_example_g01397_impl_sumTable), ("loop.example/g01397/impl.errTorn", laid_loop_example_g01397_impl_errTorn), ("loop.example/g01397/impl.errNoRec", laid_loop_example_g01397_impl_errNoRec)] }
def FnExactRecAtSaid : Prop := fnExactRecAtRow.holds Tryd.pinned (OpenSpec.ofChange fnExactRecAtSpec)

/-- ITS FALSE NEIGHBOUR: 'it returns false'. Refute it at one input. -/
def fnExactRecAtWrong : ChangeSpec := { name := "fnExactRecAt", vars := ["loop.example/g01397/impl.errTorn", "loop.example/g01397/impl.errNoRec", "loop.example/g01397/impl.sumTable"], fn := fun _ => fun
  | [d1, d2, d3, g1, g2, g3] => { results := [.lit (.bool false)], args := [d1, d2, d3], vars := [g1, g2, g3] }
  | _ => none }
def FnExactRecAtWrongFalsely : Prop := fnExactRecAtRow.holds Tryd.pinned (OpenSpec.ofChange fnExactRecAtWrong)

/-- 'laws.FnExactSumOf': WHATEVER THE INPUT: true; the input reads as it did. -/
def fnExactSumOfSpec : ChangeSpec := { name := "fnExactSumOf", vars := ["loop.example/g01397/impl.sumTable"], fn := fun _ => fun
  | [d, g1] => { results := [.lit (.bool true)], args := [d], vars := [g1] }
  | _ => none }
def fnExactSumOfRow : OpenClaim := { program := "ytkcjlalkniaapaadoor", sum := "727a1fabda23d2a21d832b63538f33e9e8b959ce9fe572179e1d1129c050feba", func := "loop.example/g01397/laws.FnExactSumOf", spec := "fnExactSumOf", inPlace := ["internal/abi.NoEscape"], unfollowed := true, recurses := true, named := ["loop.example/g01397/impl.sumTable"], apart := false, laid := [("loop.example/g01397/impl.sumTable", laid_loop_example_g01397_impl_sumTable)] }
def FnExactSumOfSaid : Prop := fnExactSumOfRow.holds Tryd.pinned (OpenSpec.ofChange fnExactSumOfSpec)

/-- ITS FALSE NEIGHBOUR: 'it returns false'. Refute it at one input. -/
def fnExactSumOfWrong : ChangeSpec := { name := "fnExactSumOf", vars := ["loop.example/g01397/impl.sumTable"], fn := fun _ => fun
  | [d, g1] => { results := [.lit (.bool false)], args := [d], vars := [g1] }
  | _ => none }
def FnExactSumOfWrongFalsely : Prop := fnExactSumOfRow.holds Tryd.pinned (OpenSpec.ofChange fnExactSumOfWrong)

/- THE SECOND FORM. 'bulk': how many values and letters a reading holds, each counted each time it is reached (what is shared counts as often as it is met; a slice's spare places count too). A statement '..UptoSaid' is the law's where the arguments, and the package variables that the reading takes, are together of bulk at most 1048576: NARROWER than '..Said'. Prove '..Said' where nothing that the law and all that it calls make is longer than what came in: it says more and counts as full. Else prove '..UptoSaid'. A law counts once. -/
mutual
def uptoBulk {H : Type} : DataW H → Nat
  | .lit (.string bytes) => bytes.length + 1
  | .lit _ => 1
  | .nil => 1
  | .ptr d => uptoBulk d + 1
  | .slice elems spare => uptoBulkAll elems + uptoBulkAll spare + 1
  | .agg parts => uptoBulkAll parts + 1
  | .iface _ d => uptoBulk d + 1
  | .map entries => uptoBulkEntries entries + 1
  | .held _ => 1
def uptoBulkAll {H : Type} : List (DataW H) → Nat
  | [] => 0
  | d :: r => uptoBulk d + uptoBulkAll r
def uptoBulkEntries {H : Type} : List (Lit × DataW H) → Nat
  | [] => 0
  | x :: r => uptoBulkEntry x + uptoBulkEntries r
def uptoBulkEntry {H : Type} : Lit × DataW H → Nat
  | (.string bytes, d) => bytes.length + uptoBulk d + 1
  | (_, d) => uptoBulk d + 1
 end
def uptoSmall : (H : Type) → List (DataW H) → Bool := fun _ ds => decide (uptoBulkAll ds ≤ 1048576)
def OpenSpec.upto (s : _root_.Go.ChangeSpec) : _root_.Go.OpenSpec := { _root_.Go.OpenSpec.ofChange s with cond := some uptoSmall }

/-- 'laws.FnFrames', WHERE WHAT IT READS IS OF BULK AT MOST 1048576: true; the input reads as it did. -/
def fnFramesUptoRow : OpenClaim := { program := "ytkcjlalkniaapaadoor", sum := "727a1fabda23d2a21d832b63538f33e9e8b959ce9fe572179e1d1129c050feba", func := "loop.example/g01397/laws.FnFrames", spec := "fnFrames", inPlace := ["internal/reflectlite.TypeOf"], unfollowed := true, recurses := true, named := ["loop.example/g01397/impl.sumTable", "loop.example/g01397/impl.errTorn", "loop.example/g01397/impl.errNoRec"], ifaces := true, apart := false, laid := [("loop.example/g01397/impl.sumTable", laid_loop_example_g01397_impl_sumTable), ("loop.example/g01397/impl.errTorn", laid_loop_example_g01397_impl_errTorn), ("loop.example/g01397/impl.errNoRec", laid_loop_example_g01397_impl_errNoRec)], narrowed := true }
def FnFramesUptoSaid : Prop := fnFramesUptoRow.holds Tryd.pinned (OpenSpec.upto fnFramesSpec)

/-- 'laws.FnExactFrame', WHERE WHAT IT READS IS OF BULK AT MOST 1048576: true; the input reads as it did. -/
def fnExactFrameUptoRow : OpenClaim := { program := "ytkcjlalkniaapaadoor", sum := "727a1fabda23d2a21d832b63538f33e9e8b959ce9fe572179e1d1129c050feba", func := "loop.example/g01397/laws.FnExactFrame", spec := "fnExactFrame", named := ["loop.example/g01397/impl.sumTable"], apart := false, laid := [("loop.example/g01397/impl.sumTable", laid_loop_example_g01397_impl_sumTable)], narrowed := true }
def FnExactFrameUptoSaid : Prop := fnExactFrameUptoRow.holds Tryd.pinned (OpenSpec.upto fnExactFrameSpec)

/-- 'laws.FnExactUnframe', WHERE WHAT IT READS IS OF BULK AT MOST 1048576: true; the input reads as it did. -/
def fnExactUnframeUptoRow : OpenClaim := { program := "ytkcjlalkniaapaadoor", sum := "727a1fabda23d2a21d832b63538f33e9e8b959ce9fe572179e1d1129c050feba", func := "loop.example/g01397/laws.FnExactUnframe", spec := "fnExactUnframe", named := ["loop.example/g01397/impl.sumTable"], apart := false, laid := [("loop.example/g01397/impl.sumTable", laid_loop_example_g01397_impl_sumTable)], narrowed := true }
def FnExactUnframeUptoSaid : Prop := fnExactUnframeUptoRow.holds Tryd.pinned (OpenSpec.upto fnExactUnframeSpec)

/-- 'laws.FnExactScanRecs', WHERE WHAT IT READS IS OF BULK AT MOST 1048576: true; the input reads as it did. -/
def fnExactScanRecsUptoRow : OpenClaim := { program := "ytkcjlalkniaapaadoor", sum := "727a1fabda23d2a21d832b63538f33e9e8b959ce9fe572179e1d1129c050feba", func := "loop.example/g01397/laws.FnExactScanRecs", spec := "fnExactScanRecs", inPlace := ["internal/reflectlite.TypeOf"], unfollowed := true, recurses := true, named := ["loop.example/g01397/impl.errTorn", "loop.example/g01397/impl.errNoRec", "loop.example/g01397/impl.sumTable"], ifaces := true, apart := false, laid := [("loop.example/g01397/impl.sumTable", laid_loop_example_g01397_impl_sumTable), ("loop.example/g01397/impl.errTorn", laid_loop_example_g01397_impl_errTorn), ("loop.example/g01397/impl.errNoRec", laid_loop_example_g01397_impl_errNoRec)], narrowed := true }
def FnExactScanRecsUptoSaid : Prop := fnExactScanRecsUptoRow.holds Tryd.pinned (OpenSpec.upto fnExactScanRecsSpec)

/-- 'laws.FnExactRecAt', WHERE WHAT IT READS IS OF BULK AT MOST 1048576: true; the input reads as it did. -/
def fnExactRecAtUptoRow : OpenClaim := { program := "ytkcjlalkniaapaadoor", sum := "727a1fabda23d2a21d832b63538f33e9e8b959ce9fe572179e1d1129c050feba", func := "loop.example/g01397/laws.FnExactRecAt", spec := "fnExactRecAt", unfollowed := true, recurses := true, named := ["loop.example/g01397/impl.errTorn", "loop.example/g01397/impl.errNoRec", "loop.example/g01397/impl.sumTable"], ifaces := true, apart := false, laid := [("loop.example/g01397/impl.sumTable", laid_loop_example_g01397_impl_sumTable), ("loop.example/g01397/impl.errTorn", laid_loop_example_g01397_impl_errTorn), ("loop.example/g01397/impl.errNoRec", laid_loop_example_g01397_impl_errNoRec)], narrowed := true }
def FnExactRecAtUptoSaid : Prop := fnExactRecAtUptoRow.holds Tryd.pinned (OpenSpec.upto fnExactRecAtSpec)

/-- 'laws.FnExactSumOf', WHERE WHAT IT READS IS OF BULK AT MOST 1048576: true; the input reads as it did. -/
def fnExactSumOfUptoRow : OpenClaim := { program := "ytkcjlalkniaapaadoor", sum := "727a1fabda23d2a21d832b63538f33e9e8b959ce9fe572179e1d1129c050feba", func := "loop.example/g01397/laws.FnExactSumOf", spec := "fnExactSumOf", inPlace := ["internal/abi.NoEscape"], unfollowed := true, recurses := true, named := ["loop.example/g01397/impl.sumTable"], apart := false, laid := [("loop.example/g01397/impl.sumTable", laid_loop_example_g01397_impl_sumTable)], narrowed := true }
def FnExactSumOfUptoSaid : Prop := fnExactSumOfUptoRow.holds Tryd.pinned (OpenSpec.upto fnExactSumOfSpec)

end Rows
end Go.Proofs.YtkcjlalkniaapaaDoor
