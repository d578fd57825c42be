/-
  DERIVED. GIVEN WITH THE SEED: THE CARDS: each row of YthnealhaleccpabDoorRows.lean that lists a variable, with what it lists TIED to the program's text (the seventh form; the later family's looks); each row that meets fmt, with fmt's text TOLD by the authors' own Lean function (tested against real Go, not proved from fmt's source: count such statements apart). THE CARD IS WHAT COUNTS. Prove the row's statement (the work); the ties are given (YthnealhaleccpabDoorTie.lean); close each card by the builder's one call (the guide's Derived/Test/ToyasCard.lean, 'card_holds'). Laid BY PROGRAM, IN A SANDBOX (cutbox-door.mjs). By AI agents, Wed Nov 11 2026. No macro, syntax, notation, axiom, sorry.
-/
import Derived.Test.YthnealhaleccpabDoorRows
import GoSem.ClaimSeven
namespace Go.Proofs.YthnealhaleccpabDoor
namespace Rows

/-- THE TIED CARD OF 'laws.FnExactIdOf'. -/
def fnExactIdOfCard : Claim7 := { stood := { row := fnExactIdOfRow, standIns := [], harness := (true, "aae980a80dab7e1c65fbd823a77b2a7babb197696ed24dec41741162599d4914"), looks := true }, kinds := [], alts := [], laidByText := true, laidKinds := [.data, .data, .data, .sentinel, .sentinel], laidTests := true, laidLooks := .later }
def FnExactIdOfCardSaid : Prop := Claim7.holds Tryd.pinned (.plain (OpenSpec.ofChange fnExactIdOfSpec)) fnExactIdOfCard

/-- THE TIED CARD OF 'laws.FnExactOrphans'. -/
def fnExactOrphansCard : Claim7 := { stood := { row := fnExactOrphansRow, standIns := [], harness := (true, "aae980a80dab7e1c65fbd823a77b2a7babb197696ed24dec41741162599d4914"), looks := true }, kinds := [], alts := [], laidByText := true, laidKinds := [.data, .data, .data, .sentinel, .sentinel], laidTests := true, laidLooks := .later }
def FnExactOrphansCardSaid : Prop := Claim7.holds Tryd.pinned (.plain (OpenSpec.ofChange fnExactOrphansSpec)) fnExactOrphansCard

/-- THE SECOND FORM's CARD OF 'laws.FnExactIdOf'. -/
def fnExactIdOfUptoCard : Claim7 := { stood := { row := fnExactIdOfUptoRow, standIns := [], harness := (true, "aae980a80dab7e1c65fbd823a77b2a7babb197696ed24dec41741162599d4914"), looks := true }, kinds := [], alts := [], laidByText := true, laidKinds := [.data, .data, .data, .sentinel, .sentinel], laidTests := true, laidLooks := .later }
def FnExactIdOfUptoCardSaid : Prop := Claim7.holds Tryd.pinned (.plain (OpenSpec.upto fnExactIdOfSpec)) fnExactIdOfUptoCard

/-- THE SECOND FORM's CARD OF 'laws.FnExactOrphans'. -/
def fnExactOrphansUptoCard : Claim7 := { stood := { row := fnExactOrphansUptoRow, standIns := [], harness := (true, "aae980a80dab7e1c65fbd823a77b2a7babb197696ed24dec41741162599d4914"), looks := true }, kinds := [], alts := [], laidByText := true, laidKinds := [.data, .data, .data, .sentinel, .sentinel], laidTests := true, laidLooks := .later }
def FnExactOrphansUptoCardSaid : Prop := Claim7.holds Tryd.pinned (.plain (OpenSpec.upto fnExactOrphansSpec)) fnExactOrphansUptoCard
end Rows
end Go.Proofs.YthnealhaleccpabDoor
