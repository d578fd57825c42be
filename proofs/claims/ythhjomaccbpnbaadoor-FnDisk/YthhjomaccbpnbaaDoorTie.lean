/-
  DERIVED. GIVEN WITH THE SEED: THE PROGRAM's TIES (one call each: nine closed facts by the kernel) AND EACH ROW's TIE, after the 31st guide's Derived/Test/Toyas{Tie, Card}.lean. No idea stands in it: it is a product of the set-up. Laid BY PROGRAM, IN A SANDBOX (cutbox-door.mjs). By AI agents, Wed Nov 11 2026. No macro, syntax, notation, axiom, sorry.
-/
import Derived.Test.YthhjomaccbpnbaaDoorRows
import Derived.LaidByTextLater
import Derived.SevenTiedAt
import Derived.LaidSub
import Derived.LaidOnce
namespace Go.Proofs.YthhjomaccbpnbaaDoor
open Go
set_option maxRecDepth 100000
theorem seatTie1 : Tryd.prog.laidByTextLater [("loop.example/g01397/impl.errDown", Rows.laid_loop_example_g01397_impl_errDown), ("loop.example/g01397/impl.errFull", Rows.laid_loop_example_g01397_impl_errFull), ("loop.example/g01397/impl.errNone", Rows.laid_loop_example_g01397_impl_errNone), ("loop.example/g01397/impl.errHas", Rows.laid_loop_example_g01397_impl_errHas), ("loop.example/g01397/impl.errArgs", Rows.laid_loop_example_g01397_impl_errArgs)] [.sentinel, .sentinel, .sentinel, .sentinel, .sentinel] true :=
  Program.laidByTextLater_by_one 104 8 2 (by kernel_rfl) (by kernel_rfl) (by kernel_rfl) (by kernel_rfl) (by kernel_rfl) (by kernel_rfl) (fun _ _ => by kernel_rfl)
theorem noOwnUnsafe : Tryd.pinned.checked.prog.headLifts.contains "ownunsafe" = false := by kernel_rfl
theorem tie : Tryd.prog.laidByTextLater [("loop.example/g01397/impl.errDown", Rows.laid_loop_example_g01397_impl_errDown), ("loop.example/g01397/impl.errFull", Rows.laid_loop_example_g01397_impl_errFull), ("loop.example/g01397/impl.errNone", Rows.laid_loop_example_g01397_impl_errNone), ("loop.example/g01397/impl.errHas", Rows.laid_loop_example_g01397_impl_errHas), ("loop.example/g01397/impl.errArgs", Rows.laid_loop_example_g01397_impl_errArgs)] [.sentinel, .sentinel, .sentinel, .sentinel, .sentinel] true :=
  Program.laidByTextLater.sub seatTie1 ["loop.example/g01397/impl.errDown", "loop.example/g01397/impl.errFull", "loop.example/g01397/impl.errNone", "loop.example/g01397/impl.errHas", "loop.example/g01397/impl.errArgs"] (by kernel_rfl) (by kernel_rfl)
theorem fnDisk_row_tie : Rows.fnDiskRow.laidByTextAt .later Tryd.pinned [.sentinel, .sentinel, .sentinel, .sentinel, .sentinel] true :=
  OpenClaim.laidByTextAt_later rfl rfl tie noOwnUnsafe
theorem fnDiskUpto_row_tie : Rows.fnDiskUptoRow.laidByTextAt .later Tryd.pinned [.sentinel, .sentinel, .sentinel, .sentinel, .sentinel] true :=
  OpenClaim.laidByTextAt_later rfl rfl tie noOwnUnsafe
end Go.Proofs.YthhjomaccbpnbaaDoor
