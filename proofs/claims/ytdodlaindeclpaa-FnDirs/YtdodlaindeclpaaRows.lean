/-
  No cell of these rows narrows 'for every input' (looked for: loops, veiled, ifaces, maps, wideKeys, modest, calm, conditions, laid).
  DERIVED. THE GIVEN ROWS OF THIS SEAT. 6 by the template 'for every input the law returns true; each argument reads behind the call as it read before'; 0 by the template 'total and deterministic' (their statements: YtdodlaindeclpaaTotals.lean).
  GIVEN WITH THE SEED: the statements are not yours to turn. If you find one false, say at which input.
  Laid BY PROGRAM, IN A SANDBOX (cutbox-rows.mjs): the forced cells as the released guide's own fill.sh prints them over the translation d7637ef9c2c5d51c… (all of the seat's roots in one cut). By AI agents, Wed Nov 11 2026. No macro, syntax, notation, axiom, sorry.
-/
import Derived.Test.YtdodlaindeclpaaChecked
import GoSem.Claim
import GoSem.ClaimJoined
import GoSem.ClaimMapViews
import Derived.JoinedTies
import Derived.KernelRfl
namespace Go.Proofs.Ytdodlaindeclpaa
/- THE CELL 'sum', in the pinned program and in every row, IS THE sha256 OF THE DUMP (.gsa) THAT YtdodlaindeclpaaProg.lean LOADS. Nothing in Lean hashes anything: it is a label: what it is worth is what the hold of that sum in a sandbox is worth. -/
noncomputable def Try.pinned : Pinned := { name := "ytdodlaindeclpaa", sum := "d7637ef9c2c5d51c2943f351be25d5a0cca54b46d1c8952fe5ffdbc560e4e2ab", checked := Try.checked }
namespace Rows
def none {H : Type} : Left H := { results := [], args := [] }

/-- 'laws.FnDirs': WHATEVER THE INPUT: true; the input reads as it did. -/
def fnDirsSpec : ChangeSpec := { name := "fnDirs", fn := fun _ => fun
  | [d] => { results := [.lit (.bool true)], args := [d] }
  | _ => none }
def fnDirsRow : OpenClaim := { program := "ytdodlaindeclpaa", sum := "d7637ef9c2c5d51c2943f351be25d5a0cca54b46d1c8952fe5ffdbc560e4e2ab", func := "loop.example/g01397/laws.FnDirs", spec := "fnDirs", inPlace := ["slices.overlaps[loop.example/g01397/impl.Entry]"], unfollowed := true, recurses := true, apart := false }
def FnDirsSaid : Prop := fnDirsRow.holds Try.pinned (OpenSpec.ofChange fnDirsSpec)

/-- ITS FALSE NEIGHBOUR: 'it returns false'. Refute it at one input. -/
def fnDirsWrong : ChangeSpec := { name := "fnDirs", fn := fun _ => fun
  | [d] => { results := [.lit (.bool false)], args := [d] }
  | _ => none }
def FnDirsWrongFalsely : Prop := fnDirsRow.holds Try.pinned (OpenSpec.ofChange fnDirsWrong)

/-- 'laws.FnExactDirOk': WHATEVER THE INPUT: true; the input reads as it did. -/
def fnExactDirOkSpec : ChangeSpec := { name := "fnExactDirOk", fn := fun _ => fun
  | [d] => { results := [.lit (.bool true)], args := [d] }
  | _ => none }
def fnExactDirOkRow : OpenClaim := { program := "ytdodlaindeclpaa", sum := "d7637ef9c2c5d51c2943f351be25d5a0cca54b46d1c8952fe5ffdbc560e4e2ab", func := "loop.example/g01397/laws.FnExactDirOk", spec := "fnExactDirOk", apart := false }
def FnExactDirOkSaid : Prop := fnExactDirOkRow.holds Try.pinned (OpenSpec.ofChange fnExactDirOkSpec)

/-- ITS FALSE NEIGHBOUR: 'it returns false'. Refute it at one input. -/
def fnExactDirOkWrong : ChangeSpec := { name := "fnExactDirOk", fn := fun _ => fun
  | [d] => { results := [.lit (.bool false)], args := [d] }
  | _ => none }
def FnExactDirOkWrongFalsely : Prop := fnExactDirOkRow.holds Try.pinned (OpenSpec.ofChange fnExactDirOkWrong)

/-- 'laws.FnExactDirGet': WHATEVER THE INPUT: true; the input reads as it did. -/
def fnExactDirGetSpec : ChangeSpec := { name := "fnExactDirGet", fn := fun _ => fun
  | [d1, d2] => { results := [.lit (.bool true)], args := [d1, d2] }
  | _ => none }
def fnExactDirGetRow : OpenClaim := { program := "ytdodlaindeclpaa", sum := "d7637ef9c2c5d51c2943f351be25d5a0cca54b46d1c8952fe5ffdbc560e4e2ab", func := "loop.example/g01397/laws.FnExactDirGet", spec := "fnExactDirGet", unfollowed := true, recurses := true, apart := false }
def FnExactDirGetSaid : Prop := fnExactDirGetRow.holds Try.pinned (OpenSpec.ofChange fnExactDirGetSpec)

/-- ITS FALSE NEIGHBOUR: 'it returns false'. Refute it at one input. -/
def fnExactDirGetWrong : ChangeSpec := { name := "fnExactDirGet", fn := fun _ => fun
  | [d1, d2] => { results := [.lit (.bool false)], args := [d1, d2] }
  | _ => none }
def FnExactDirGetWrongFalsely : Prop := fnExactDirGetRow.holds Try.pinned (OpenSpec.ofChange fnExactDirGetWrong)

/-- 'laws.FnExactDirPut': WHATEVER THE INPUT: true; the input reads as it did. -/
def fnExactDirPutSpec : ChangeSpec := { name := "fnExactDirPut", fn := fun _ => fun
  | [d1, d2] => { results := [.lit (.bool true)], args := [d1, d2] }
  | _ => none }
def fnExactDirPutRow : OpenClaim := { program := "ytdodlaindeclpaa", sum := "d7637ef9c2c5d51c2943f351be25d5a0cca54b46d1c8952fe5ffdbc560e4e2ab", func := "loop.example/g01397/laws.FnExactDirPut", spec := "fnExactDirPut", inPlace := ["slices.overlaps[loop.example/g01397/impl.Entry]"], unfollowed := true, recurses := true, apart := false }
def FnExactDirPutSaid : Prop := fnExactDirPutRow.holds Try.pinned (OpenSpec.ofChange fnExactDirPutSpec)

/-- ITS FALSE NEIGHBOUR: 'it returns false'. Refute it at one input. -/
def fnExactDirPutWrong : ChangeSpec := { name := "fnExactDirPut", fn := fun _ => fun
  | [d1, d2] => { results := [.lit (.bool false)], args := [d1, d2] }
  | _ => none }
def FnExactDirPutWrongFalsely : Prop := fnExactDirPutRow.holds Try.pinned (OpenSpec.ofChange fnExactDirPutWrong)

/-- 'laws.FnExactDirDrop': WHATEVER THE INPUT: true; the input reads as it did. -/
def fnExactDirDropSpec : ChangeSpec := { name := "fnExactDirDrop", fn := fun _ => fun
  | [d1, d2] => { results := [.lit (.bool true)], args := [d1, d2] }
  | _ => none }
def fnExactDirDropRow : OpenClaim := { program := "ytdodlaindeclpaa", sum := "d7637ef9c2c5d51c2943f351be25d5a0cca54b46d1c8952fe5ffdbc560e4e2ab", func := "loop.example/g01397/laws.FnExactDirDrop", spec := "fnExactDirDrop", unfollowed := true, recurses := true, apart := false }
def FnExactDirDropSaid : Prop := fnExactDirDropRow.holds Try.pinned (OpenSpec.ofChange fnExactDirDropSpec)

/-- ITS FALSE NEIGHBOUR: 'it returns false'. Refute it at one input. -/
def fnExactDirDropWrong : ChangeSpec := { name := "fnExactDirDrop", fn := fun _ => fun
  | [d1, d2] => { results := [.lit (.bool false)], args := [d1, d2] }
  | _ => none }
def FnExactDirDropWrongFalsely : Prop := fnExactDirDropRow.holds Try.pinned (OpenSpec.ofChange fnExactDirDropWrong)

/-- 'laws.FnExactDirKeys': WHATEVER THE INPUT: true; the input reads as it did. -/
def fnExactDirKeysSpec : ChangeSpec := { name := "fnExactDirKeys", fn := fun _ => fun
  | [d] => { results := [.lit (.bool true)], args := [d] }
  | _ => none }
def fnExactDirKeysRow : OpenClaim := { program := "ytdodlaindeclpaa", sum := "d7637ef9c2c5d51c2943f351be25d5a0cca54b46d1c8952fe5ffdbc560e4e2ab", func := "loop.example/g01397/laws.FnExactDirKeys", spec := "fnExactDirKeys", apart := false }
def FnExactDirKeysSaid : Prop := fnExactDirKeysRow.holds Try.pinned (OpenSpec.ofChange fnExactDirKeysSpec)

/-- ITS FALSE NEIGHBOUR: 'it returns false'. Refute it at one input. -/
def fnExactDirKeysWrong : ChangeSpec := { name := "fnExactDirKeys", fn := fun _ => fun
  | [d] => { results := [.lit (.bool false)], args := [d] }
  | _ => none }
def FnExactDirKeysWrongFalsely : Prop := fnExactDirKeysRow.holds Try.pinned (OpenSpec.ofChange fnExactDirKeysWrong)

/- THE SECOND FORM. 'bulk': how many values and letters a reading holds, each counted each time it is reached (what is shared counts as often as it is met; a slice's spare places count too). A statement '..UptoSaid' is the law's where the arguments, and the package variables that the reading takes, are together of bulk at most 1048576: NARROWER than '..Said'. Prove '..Said' where nothing that the law and all that it calls make is longer than what came in: it says more and counts as full. Else prove '..UptoSaid'. A law counts once. -/
mutual
def uptoBulk {H : Type} : DataW H → Nat
  | .lit (.string bytes) => bytes.length + 1
  | .lit _ => 1
  | .nil => 1
  | .ptr d => uptoBulk d + 1
  | .slice elems spare => uptoBulkAll elems + uptoBulkAll spare + 1
  | .agg parts => uptoBulkAll parts + 1
  | .iface _ d => uptoBulk d + 1
  | .map entries => uptoBulkEntries entries + 1
  | .held _ => 1
def uptoBulkAll {H : Type} : List (DataW H) → Nat
  | [] => 0
  | d :: r => uptoBulk d + uptoBulkAll r
def uptoBulkEntries {H : Type} : List (Lit × DataW H) → Nat
  | [] => 0
  | x :: r => uptoBulkEntry x + uptoBulkEntries r
def uptoBulkEntry {H : Type} : Lit × DataW H → Nat
  | (.string bytes, d) => bytes.length + uptoBulk d + 1
  | (_, d) => uptoBulk d + 1
 end
def uptoSmall : (H : Type) → List (DataW H) → Bool := fun _ ds => decide (uptoBulkAll ds ≤ 1048576)
def OpenSpec.upto (s : _root_.Go.ChangeSpec) : _root_.Go.OpenSpec := { _root_.Go.OpenSpec.ofChange s with cond := some uptoSmall }

/-- 'laws.FnDirs', WHERE WHAT IT READS IS OF BULK AT MOST 1048576: true; the input reads as it did. -/
def fnDirsUptoRow : OpenClaim := { program := "ytdodlaindeclpaa", sum := "d7637ef9c2c5d51c2943f351be25d5a0cca54b46d1c8952fe5ffdbc560e4e2ab", func := "loop.example/g01397/laws.FnDirs", spec := "fnDirs", inPlace := ["slices.overlaps[loop.example/g01397/impl.Entry]"], unfollowed := true, recurses := true, apart := false, narrowed := true }
def FnDirsUptoSaid : Prop := fnDirsUptoRow.holds Try.pinned (OpenSpec.upto fnDirsSpec)

/-- 'laws.FnExactDirOk', WHERE WHAT IT READS IS OF BULK AT MOST 1048576: true; the input reads as it did. -/
def fnExactDirOkUptoRow : OpenClaim := { program := "ytdodlaindeclpaa", sum := "d7637ef9c2c5d51c2943f351be25d5a0cca54b46d1c8952fe5ffdbc560e4e2ab", func := "loop.example/g01397/laws.FnExactDirOk", spec := "fnExactDirOk", apart := false, narrowed := true }
def FnExactDirOkUptoSaid : Prop := fnExactDirOkUptoRow.holds Try.pinned (OpenSpec.upto fnExactDirOkSpec)

/-- 'laws.FnExactDirGet', WHERE WHAT IT READS IS OF BULK AT MOST 1048576: true; the input reads as it did. -/
def fnExactDirGetUptoRow : OpenClaim := { program := "ytdodlaindeclpaa", sum := "d7637ef9c2c5d51c2943f351be25d5a0cca54b46d1c8952fe5ffdbc560e4e2ab", func := "loop.example/g01397/laws.FnExactDirGet", spec := "fnExactDirGet", unfollowed := true, recurses := true, apart := false, narrowed := true }
def FnExactDirGetUptoSaid : Prop := fnExactDirGetUptoRow.holds Try.pinned (OpenSpec.upto fnExactDirGetSpec)

/-- 'laws.FnExactDirPut', WHERE WHAT IT READS IS OF BULK AT MOST 1048576: true; the input reads as it did. -/
def fnExactDirPutUptoRow : OpenClaim := { program := "ytdodlaindeclpaa", sum := "d7637ef9c2c5d51c2943f351be25d5a0cca54b46d1c8952fe5ffdbc560e4e2ab", func := "loop.example/g01397/laws.FnExactDirPut", spec := "fnExactDirPut", inPlace := ["slices.overlaps[loop.example/g01397/impl.Entry]"], unfollowed := true, recurses := true, apart := false, narrowed := true }
def FnExactDirPutUptoSaid : Prop := fnExactDirPutUptoRow.holds Try.pinned (OpenSpec.upto fnExactDirPutSpec)

/-- 'laws.FnExactDirDrop', WHERE WHAT IT READS IS OF BULK AT MOST 1048576: true; the input reads as it did. -/
def fnExactDirDropUptoRow : OpenClaim := { program := "ytdodlaindeclpaa", sum := "d7637ef9c2c5d51c2943f351be25d5a0cca54b46d1c8952fe5ffdbc560e4e2ab", func := "loop.example/g01397/laws.FnExactDirDrop", spec := "fnExactDirDrop", unfollowed := true, recurses := true, apart := false, narrowed := true }
def FnExactDirDropUptoSaid : Prop := fnExactDirDropUptoRow.holds Try.pinned (OpenSpec.upto fnExactDirDropSpec)

/-- 'laws.FnExactDirKeys', WHERE WHAT IT READS IS OF BULK AT MOST 1048576: true; the input reads as it did. -/
def fnExactDirKeysUptoRow : OpenClaim := { program := "ytdodlaindeclpaa", sum := "d7637ef9c2c5d51c2943f351be25d5a0cca54b46d1c8952fe5ffdbc560e4e2ab", func := "loop.example/g01397/laws.FnExactDirKeys", spec := "fnExactDirKeys", apart := false, narrowed := true }
def FnExactDirKeysUptoSaid : Prop := fnExactDirKeysUptoRow.holds Try.pinned (OpenSpec.upto fnExactDirKeysSpec)

end Rows
end Go.Proofs.Ytdodlaindeclpaa
