/-
  DERIVED. GIVEN WITH THE SEED: THE CARDS: each row of YtimpokbcfjgdaaaGreatDoorRows.lean that lists a variable, with what it lists TIED to the program's text (the seventh form; the later family's looks); each row that meets fmt, with fmt's text TOLD by the authors' own Lean function (tested against real Go, not proved from fmt's source: count such statements apart). THE CARD IS WHAT COUNTS. Prove the row's statement (the work); the ties are given (YtimpokbcfjgdaaaGreatDoorTie.lean); close each card by the builder's one call (the guide's Derived/Test/ToyasCard.lean, 'card_holds'). Laid BY PROGRAM, IN A SANDBOX (cutbox-door.mjs). By AI agents, Wed Nov 11 2026. No macro, syntax, notation, axiom, sorry.
-/
import Derived.Test.YtimpokbcfjgdaaaGreatDoorRows
import GoSem.ClaimSeven
namespace Go.Proofs.YtimpokbcfjgdaaaGreatDoor
namespace Rows

/-- THE TIED CARD OF 'laws.FnHints'. -/
def fnHintsCard : Claim7 := { stood := { row := fnHintsRow, standIns := [], harness := (true, "db7a12f80750e0233e638fdb37f6ddfd3bd18f2be541cbe0dd55dab076cdfdb6"), looks := true }, kinds := [], alts := [], laidByText := true, laidKinds := [.data, .sentinel, .sentinel], laidTests := true, laidLooks := .later }
def FnHintsCardSaid : Prop := Claim7.holds Tryz.pinned (.plain (OpenSpec.ofChange fnHintsSpec)) fnHintsCard

/-- THE TIED CARD OF 'laws.FnExactHintOf'. -/
def fnExactHintOfCard : Claim7 := { stood := { row := fnExactHintOfRow, standIns := [], harness := (true, "db7a12f80750e0233e638fdb37f6ddfd3bd18f2be541cbe0dd55dab076cdfdb6"), looks := true }, kinds := [], alts := [], laidByText := true, laidKinds := [.data, .sentinel, .sentinel], laidTests := true, laidLooks := .later }
def FnExactHintOfCardSaid : Prop := Claim7.holds Tryz.pinned (.plain (OpenSpec.ofChange fnExactHintOfSpec)) fnExactHintOfCard

/-- THE TIED CARD OF 'laws.FnExactHintFits'. -/
def fnExactHintFitsCard : Claim7 := { stood := { row := fnExactHintFitsRow, standIns := [], harness := (true, "db7a12f80750e0233e638fdb37f6ddfd3bd18f2be541cbe0dd55dab076cdfdb6"), looks := true }, kinds := [], alts := [], laidByText := true, laidKinds := [.data, .sentinel, .sentinel], laidTests := true, laidLooks := .later }
def FnExactHintFitsCardSaid : Prop := Claim7.holds Tryz.pinned (.plain (OpenSpec.ofChange fnExactHintFitsSpec)) fnExactHintFitsCard

/-- THE SECOND FORM's CARD OF 'laws.FnHints'. -/
def fnHintsUptoCard : Claim7 := { stood := { row := fnHintsUptoRow, standIns := [], harness := (true, "db7a12f80750e0233e638fdb37f6ddfd3bd18f2be541cbe0dd55dab076cdfdb6"), looks := true }, kinds := [], alts := [], laidByText := true, laidKinds := [.data, .sentinel, .sentinel], laidTests := true, laidLooks := .later }
def FnHintsUptoCardSaid : Prop := Claim7.holds Tryz.pinned (.plain (OpenSpec.upto fnHintsSpec)) fnHintsUptoCard

/-- THE SECOND FORM's CARD OF 'laws.FnExactHintOf'. -/
def fnExactHintOfUptoCard : Claim7 := { stood := { row := fnExactHintOfUptoRow, standIns := [], harness := (true, "db7a12f80750e0233e638fdb37f6ddfd3bd18f2be541cbe0dd55dab076cdfdb6"), looks := true }, kinds := [], alts := [], laidByText := true, laidKinds := [.data, .sentinel, .sentinel], laidTests := true, laidLooks := .later }
def FnExactHintOfUptoCardSaid : Prop := Claim7.holds Tryz.pinned (.plain (OpenSpec.upto fnExactHintOfSpec)) fnExactHintOfUptoCard

/-- THE SECOND FORM's CARD OF 'laws.FnExactHintFits'. -/
def fnExactHintFitsUptoCard : Claim7 := { stood := { row := fnExactHintFitsUptoRow, standIns := [], harness := (true, "db7a12f80750e0233e638fdb37f6ddfd3bd18f2be541cbe0dd55dab076cdfdb6"), looks := true }, kinds := [], alts := [], laidByText := true, laidKinds := [.data, .sentinel, .sentinel], laidTests := true, laidLooks := .later }
def FnExactHintFitsUptoCardSaid : Prop := Claim7.holds Tryz.pinned (.plain (OpenSpec.upto fnExactHintFitsSpec)) fnExactHintFitsUptoCard
end Rows
end Go.Proofs.YtimpokbcfjgdaaaGreatDoor
