/-
  NARROWER THAN 'FOR EVERY INPUT', by the rows' own cells (each row's printed sentence says how): FnExactShowLive: laid · FnExactReadLive: laid · FnExactSegName: laid · FnExactHintName: laid.
  DERIVED. THE GIVEN ROWS OF THIS SEAT. 4 by the template 'for every input the law returns true; each argument reads behind the call as it read before'; 0 by the template 'total and deterministic' (their statements: YthnealhaleccpaaDoorTotals.lean).
  GIVEN WITH THE SEED: the statements are not yours to turn. If you find one false, say at which input.
  Laid BY PROGRAM, IN A SANDBOX (cutbox-rows.mjs): the forced cells as the released guide's own fill.sh prints them over the translation 9a3a2e28cf0003f8… (all of the seat's roots in one cut). By AI agents, Wed Nov 11 2026. No macro, syntax, notation, axiom, sorry.
-/
import Derived.Test.YthnealhaleccpaaDoorChecked
import GoSem.Claim
import GoSem.ClaimJoined
import GoSem.ClaimMapViews
import Derived.JoinedTies
import Derived.KernelRfl
namespace Go.Proofs.YthnealhaleccpaaDoor
/- THE CELL 'sum', in the pinned program and in every row, IS THE sha256 OF THE DUMP (.gsa) THAT YthnealhaleccpaaDoorProg.lean LOADS. Nothing in Lean hashes anything: it is a label: what it is worth is what the hold of that sum in a sandbox is worth. -/
noncomputable def Tryd.pinned : Pinned := { name := "ythnealhaleccpaadoor", sum := "9a3a2e28cf0003f88ec0c292eba3e7eecfdc495f9dcad0ca2a290fdf4a11dd15", checked := Tryd.checked }
namespace Rows
def none {H : Type} : Left H := { results := [], args := [] }

/- WHAT THE LISTED PACKAGE-LEVEL VARIABLES READ AS WHEN THE CALL BEGINS. Each datum BY PROGRAM (the guide's laid-datum.mjs) off the statement by which the dump's own 'gosem.cut.vars' lays the variable. In a bare row this is a premise. The card (YthnealhaleccpaaDoorCards.lean) ties it to the program's text. -/
def laid_loop_example_g01397_impl_sumTable {H : Type} : DataW H := .agg [.lit (.int .u32 0), .lit (.int .u32 274646895), .lit (.int .u32 549293790), .lit (.int .u32 820201905), .lit (.int .u32 1098587580), .lit (.int .u32 1361435347), .lit (.int .u32 1640403810), .lit (.int .u32 1905808397), .lit (.int .u32 2197175160), .lit (.int .u32 2460548119), .lit (.int .u32 2722870694), .lit (.int .u32 2987750089), .lit (.int .u32 3280807620), .lit (.int .u32 3553878443), .lit (.int .u32 3811616794), .lit (.int .u32 4084100981)]
def laid_math_bits_deBruijn32tab {H : Type} : DataW H := .agg [.lit (.int .u8 0), .lit (.int .u8 1), .lit (.int .u8 28), .lit (.int .u8 2), .lit (.int .u8 29), .lit (.int .u8 14), .lit (.int .u8 24), .lit (.int .u8 3), .lit (.int .u8 30), .lit (.int .u8 22), .lit (.int .u8 20), .lit (.int .u8 15), .lit (.int .u8 25), .lit (.int .u8 17), .lit (.int .u8 4), .lit (.int .u8 8), .lit (.int .u8 31), .lit (.int .u8 27), .lit (.int .u8 13), .lit (.int .u8 23), .lit (.int .u8 21), .lit (.int .u8 19), .lit (.int .u8 16), .lit (.int .u8 7), .lit (.int .u8 26), .lit (.int .u8 12), .lit (.int .u8 18), .lit (.int .u8 6), .lit (.int .u8 11), .lit (.int .u8 5), .lit (.int .u8 10), .lit (.int .u8 9)]
def laid_math_bits_deBruijn64tab {H : Type} : DataW H := .agg [.lit (.int .u8 0), .lit (.int .u8 1), .lit (.int .u8 56), .lit (.int .u8 2), .lit (.int .u8 57), .lit (.int .u8 49), .lit (.int .u8 28), .lit (.int .u8 3), .lit (.int .u8 61), .lit (.int .u8 58), .lit (.int .u8 42), .lit (.int .u8 50), .lit (.int .u8 38), .lit (.int .u8 29), .lit (.int .u8 17), .lit (.int .u8 4), .lit (.int .u8 62), .lit (.int .u8 47), .lit (.int .u8 59), .lit (.int .u8 36), .lit (.int .u8 45), .lit (.int .u8 43), .lit (.int .u8 51), .lit (.int .u8 22), .lit (.int .u8 53), .lit (.int .u8 39), .lit (.int .u8 33), .lit (.int .u8 30), .lit (.int .u8 24), .lit (.int .u8 18), .lit (.int .u8 12), .lit (.int .u8 5), .lit (.int .u8 63), .lit (.int .u8 55), .lit (.int .u8 48), .lit (.int .u8 27), .lit (.int .u8 60), .lit (.int .u8 41), .lit (.int .u8 37), .lit (.int .u8 16), .lit (.int .u8 46), .lit (.int .u8 35), .lit (.int .u8 44), .lit (.int .u8 21), .lit (.int .u8 52), .lit (.int .u8 32), .lit (.int .u8 23), .lit (.int .u8 11), .lit (.int .u8 54), .lit (.int .u8 26), .lit (.int .u8 40), .lit (.int .u8 15), .lit (.int .u8 34), .lit (.int .u8 20), .lit (.int .u8 31), .lit (.int .u8 10), .lit (.int .u8 25), .lit (.int .u8 14), .lit (.int .u8 19), .lit (.int .u8 9), .lit (.int .u8 13), .lit (.int .u8 8), .lit (.int .u8 7), .lit (.int .u8 6)]
def laid_internal_strconv_uint64pow10 {H : Type} : DataW H := .agg [.lit (.int .u64 1), .lit (.int .u64 10), .lit (.int .u64 100), .lit (.int .u64 1000), .lit (.int .u64 10000), .lit (.int .u64 100000), .lit (.int .u64 1000000), .lit (.int .u64 10000000), .lit (.int .u64 100000000), .lit (.int .u64 1000000000), .lit (.int .u64 10000000000), .lit (.int .u64 100000000000), .lit (.int .u64 1000000000000), .lit (.int .u64 10000000000000), .lit (.int .u64 100000000000000), .lit (.int .u64 1000000000000000), .lit (.int .u64 10000000000000000), .lit (.int .u64 100000000000000000), .lit (.int .u64 1000000000000000000), .lit (.int .u64 10000000000000000000)]

/-- 'laws.FnExactShowLive': WHATEVER THE INPUT: true; the input reads as it did. -/
def fnExactShowLiveSpec : ChangeSpec := { name := "fnExactShowLive", vars := ["loop.example/g01397/impl.sumTable"], fn := fun _ => fun
  | [d, g1] => { results := [.lit (.bool true)], args := [d], vars := [g1] }
  | _ => none }
def fnExactShowLiveRow : OpenClaim := { program := "ythnealhaleccpaadoor", sum := "9a3a2e28cf0003f88ec0c292eba3e7eecfdc495f9dcad0ca2a290fdf4a11dd15", func := "loop.example/g01397/laws.FnExactShowLive", spec := "fnExactShowLive", inPlace := ["internal/abi.NoEscape"], recurses := true, named := ["loop.example/g01397/impl.sumTable"], apart := false, laid := [("loop.example/g01397/impl.sumTable", laid_loop_example_g01397_impl_sumTable)] }
def FnExactShowLiveSaid : Prop := fnExactShowLiveRow.holds Tryd.pinned (OpenSpec.ofChange fnExactShowLiveSpec)

/-- ITS FALSE NEIGHBOUR: 'it returns false'. Refute it at one input. -/
def fnExactShowLiveWrong : ChangeSpec := { name := "fnExactShowLive", vars := ["loop.example/g01397/impl.sumTable"], fn := fun _ => fun
  | [d, g1] => { results := [.lit (.bool false)], args := [d], vars := [g1] }
  | _ => none }
def FnExactShowLiveWrongFalsely : Prop := fnExactShowLiveRow.holds Tryd.pinned (OpenSpec.ofChange fnExactShowLiveWrong)

/-- 'laws.FnExactReadLive': WHATEVER THE INPUT: true; the input reads as it did. -/
def fnExactReadLiveSpec : ChangeSpec := { name := "fnExactReadLive", vars := ["loop.example/g01397/impl.sumTable"], fn := fun _ => fun
  | [d, g1] => { results := [.lit (.bool true)], args := [d], vars := [g1] }
  | _ => none }
def fnExactReadLiveRow : OpenClaim := { program := "ythnealhaleccpaadoor", sum := "9a3a2e28cf0003f88ec0c292eba3e7eecfdc495f9dcad0ca2a290fdf4a11dd15", func := "loop.example/g01397/laws.FnExactReadLive", spec := "fnExactReadLive", recurses := true, named := ["loop.example/g01397/impl.sumTable"], apart := false, laid := [("loop.example/g01397/impl.sumTable", laid_loop_example_g01397_impl_sumTable)] }
def FnExactReadLiveSaid : Prop := fnExactReadLiveRow.holds Tryd.pinned (OpenSpec.ofChange fnExactReadLiveSpec)

/-- ITS FALSE NEIGHBOUR: 'it returns false'. Refute it at one input. -/
def fnExactReadLiveWrong : ChangeSpec := { name := "fnExactReadLive", vars := ["loop.example/g01397/impl.sumTable"], fn := fun _ => fun
  | [d, g1] => { results := [.lit (.bool false)], args := [d], vars := [g1] }
  | _ => none }
def FnExactReadLiveWrongFalsely : Prop := fnExactReadLiveRow.holds Tryd.pinned (OpenSpec.ofChange fnExactReadLiveWrong)

/-- 'laws.FnExactSegName': WHATEVER THE INPUT: true; the input reads as it did. -/
def fnExactSegNameSpec : ChangeSpec := { name := "fnExactSegName", fn := fun _ => fun
  | [d] => { results := [.lit (.bool true)], args := [d] }
  | _ => none }
def fnExactSegNameRow : OpenClaim := { program := "ythnealhaleccpaadoor", sum := "9a3a2e28cf0003f88ec0c292eba3e7eecfdc495f9dcad0ca2a290fdf4a11dd15", func := "loop.example/g01397/laws.FnExactSegName", spec := "fnExactSegName", named := ["internal/strconv.uint64pow10", "math/bits.deBruijn32tab", "math/bits.deBruijn64tab"], apart := false, laid := [("math/bits.deBruijn32tab", laid_math_bits_deBruijn32tab), ("math/bits.deBruijn64tab", laid_math_bits_deBruijn64tab), ("internal/strconv.uint64pow10", laid_internal_strconv_uint64pow10)] }
def FnExactSegNameSaid : Prop := fnExactSegNameRow.holds Tryd.pinned (OpenSpec.ofChange fnExactSegNameSpec)

/-- ITS FALSE NEIGHBOUR: 'it returns false'. Refute it at one input. -/
def fnExactSegNameWrong : ChangeSpec := { name := "fnExactSegName", fn := fun _ => fun
  | [d] => { results := [.lit (.bool false)], args := [d] }
  | _ => none }
def FnExactSegNameWrongFalsely : Prop := fnExactSegNameRow.holds Tryd.pinned (OpenSpec.ofChange fnExactSegNameWrong)

/-- 'laws.FnExactHintName': WHATEVER THE INPUT: true; the input reads as it did. -/
def fnExactHintNameSpec : ChangeSpec := { name := "fnExactHintName", fn := fun _ => fun
  | [d] => { results := [.lit (.bool true)], args := [d] }
  | _ => none }
def fnExactHintNameRow : OpenClaim := { program := "ythnealhaleccpaadoor", sum := "9a3a2e28cf0003f88ec0c292eba3e7eecfdc495f9dcad0ca2a290fdf4a11dd15", func := "loop.example/g01397/laws.FnExactHintName", spec := "fnExactHintName", named := ["internal/strconv.uint64pow10", "math/bits.deBruijn32tab", "math/bits.deBruijn64tab"], apart := false, laid := [("math/bits.deBruijn32tab", laid_math_bits_deBruijn32tab), ("math/bits.deBruijn64tab", laid_math_bits_deBruijn64tab), ("internal/strconv.uint64pow10", laid_internal_strconv_uint64pow10)] }
def FnExactHintNameSaid : Prop := fnExactHintNameRow.holds Tryd.pinned (OpenSpec.ofChange fnExactHintNameSpec)

/-- ITS FALSE NEIGHBOUR: 'it returns false'. Refute it at one input. -/
def fnExactHintNameWrong : ChangeSpec := { name := "fnExactHintName", fn := fun _ => fun
  | [d] => { results := [.lit (.bool false)], args := [d] }
  | _ => none }
def FnExactHintNameWrongFalsely : Prop := fnExactHintNameRow.holds Tryd.pinned (OpenSpec.ofChange fnExactHintNameWrong)

/- THE SECOND FORM. 'bulk': how many values and letters a reading holds, each counted each time it is reached (what is shared counts as often as it is met; a slice's spare places count too). A statement '..UptoSaid' is the law's where the arguments, and the package variables that the reading takes, are together of bulk at most 1048576: NARROWER than '..Said'. Prove '..Said' where nothing that the law and all that it calls make is longer than what came in: it says more and counts as full. Else prove '..UptoSaid'. A law counts once. -/
mutual
def uptoBulk {H : Type} : DataW H → Nat
  | .lit (.string bytes) => bytes.length + 1
  | .lit _ => 1
  | .nil => 1
  | .ptr d => uptoBulk d + 1
  | .slice elems spare => uptoBulkAll elems + uptoBulkAll spare + 1
  | .agg parts => uptoBulkAll parts + 1
  | .iface _ d => uptoBulk d + 1
  | .map entries => uptoBulkEntries entries + 1
  | .held _ => 1
def uptoBulkAll {H : Type} : List (DataW H) → Nat
  | [] => 0
  | d :: r => uptoBulk d + uptoBulkAll r
def uptoBulkEntries {H : Type} : List (Lit × DataW H) → Nat
  | [] => 0
  | x :: r => uptoBulkEntry x + uptoBulkEntries r
def uptoBulkEntry {H : Type} : Lit × DataW H → Nat
  | (.string bytes, d) => bytes.length + uptoBulk d + 1
  | (_, d) => uptoBulk d + 1
 end
def uptoSmall : (H : Type) → List (DataW H) → Bool := fun _ ds => decide (uptoBulkAll ds ≤ 1048576)
def OpenSpec.upto (s : _root_.Go.ChangeSpec) : _root_.Go.OpenSpec := { _root_.Go.OpenSpec.ofChange s with cond := some uptoSmall }

/-- 'laws.FnExactShowLive', WHERE WHAT IT READS IS OF BULK AT MOST 1048576: true; the input reads as it did. -/
def fnExactShowLiveUptoRow : OpenClaim := { program := "ythnealhaleccpaadoor", sum := "9a3a2e28cf0003f88ec0c292eba3e7eecfdc495f9dcad0ca2a290fdf4a11dd15", func := "loop.example/g01397/laws.FnExactShowLive", spec := "fnExactShowLive", inPlace := ["internal/abi.NoEscape"], recurses := true, named := ["loop.example/g01397/impl.sumTable"], apart := false, laid := [("loop.example/g01397/impl.sumTable", laid_loop_example_g01397_impl_sumTable)], narrowed := true }
def FnExactShowLiveUptoSaid : Prop := fnExactShowLiveUptoRow.holds Tryd.pinned (OpenSpec.upto fnExactShowLiveSpec)

/-- 'laws.FnExactReadLive', WHERE WHAT IT READS IS OF BULK AT MOST 1048576: true; the input reads as it did. -/
def fnExactReadLiveUptoRow : OpenClaim := { program := "ythnealhaleccpaadoor", sum := "9a3a2e28cf0003f88ec0c292eba3e7eecfdc495f9dcad0ca2a290fdf4a11dd15", func := "loop.example/g01397/laws.FnExactReadLive", spec := "fnExactReadLive", recurses := true, named := ["loop.example/g01397/impl.sumTable"], apart := false, laid := [("loop.example/g01397/impl.sumTable", laid_loop_example_g01397_impl_sumTable)], narrowed := true }
def FnExactReadLiveUptoSaid : Prop := fnExactReadLiveUptoRow.holds Tryd.pinned (OpenSpec.upto fnExactReadLiveSpec)

/-- 'laws.FnExactSegName', WHERE WHAT IT READS IS OF BULK AT MOST 1048576: true; the input reads as it did. -/
def fnExactSegNameUptoRow : OpenClaim := { program := "ythnealhaleccpaadoor", sum := "9a3a2e28cf0003f88ec0c292eba3e7eecfdc495f9dcad0ca2a290fdf4a11dd15", func := "loop.example/g01397/laws.FnExactSegName", spec := "fnExactSegName", named := ["internal/strconv.uint64pow10", "math/bits.deBruijn32tab", "math/bits.deBruijn64tab"], apart := false, laid := [("math/bits.deBruijn32tab", laid_math_bits_deBruijn32tab), ("math/bits.deBruijn64tab", laid_math_bits_deBruijn64tab), ("internal/strconv.uint64pow10", laid_internal_strconv_uint64pow10)], narrowed := true }
def FnExactSegNameUptoSaid : Prop := fnExactSegNameUptoRow.holds Tryd.pinned (OpenSpec.upto fnExactSegNameSpec)

/-- 'laws.FnExactHintName', WHERE WHAT IT READS IS OF BULK AT MOST 1048576: true; the input reads as it did. -/
def fnExactHintNameUptoRow : OpenClaim := { program := "ythnealhaleccpaadoor", sum := "9a3a2e28cf0003f88ec0c292eba3e7eecfdc495f9dcad0ca2a290fdf4a11dd15", func := "loop.example/g01397/laws.FnExactHintName", spec := "fnExactHintName", named := ["internal/strconv.uint64pow10", "math/bits.deBruijn32tab", "math/bits.deBruijn64tab"], apart := false, laid := [("math/bits.deBruijn32tab", laid_math_bits_deBruijn32tab), ("math/bits.deBruijn64tab", laid_math_bits_deBruijn64tab), ("internal/strconv.uint64pow10", laid_internal_strconv_uint64pow10)], narrowed := true }
def FnExactHintNameUptoSaid : Prop := fnExactHintNameUptoRow.holds Tryd.pinned (OpenSpec.upto fnExactHintNameSpec)

end Rows
end Go.Proofs.YthnealhaleccpaaDoor
