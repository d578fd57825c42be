/-
  DERIVED. GIVEN WITH THE SEED: THE CARDS: each row of YtphbinkkgmlnmaaGreatDoorRows.lean that lists a variable, with what it lists TIED to the program's text (the seventh form; the later family's looks); each row that meets fmt, with fmt's text TOLD by the authors' own Lean function (tested against real Go, not proved from fmt's source: count such statements apart). THE CARD IS WHAT COUNTS. Prove the row's statement (the work); the ties are given (YtphbinkkgmlnmaaGreatDoorTie.lean); close each card by the builder's one call (the guide's Derived/Test/ToyasCard.lean, 'card_holds'). Laid BY PROGRAM, IN A SANDBOX (cutbox-door.mjs). By AI agents, Wed Nov 11 2026. No macro, syntax, notation, axiom, sorry.
-/
import Derived.Test.YtphbinkkgmlnmaaGreatDoorRows
import GoSem.ClaimSeven
namespace Go.Proofs.YtphbinkkgmlnmaaGreatDoor
namespace Rows

/-- THE TIED CARD OF 'laws.FnGroups'. -/
def fnGroupsCard : Claim7 := { stood := { row := fnGroupsRow, standIns := [], harness := (true, "ed0ddbb5397660e09f9b0b5e400f9da36417aadb75ba951c3a60217eca6720ca"), looks := true }, kinds := [], alts := [], laidByText := true, laidKinds := [.data], laidTests := true, laidLooks := .later }
def FnGroupsCardSaid : Prop := Claim7.holds Tryz.pinned (.plain (OpenSpec.ofChange fnGroupsSpec)) fnGroupsCard

/-- THE TIED CARD OF 'laws.FnExactRegroup'. -/
def fnExactRegroupCard : Claim7 := { stood := { row := fnExactRegroupRow, standIns := [], harness := (true, "ed0ddbb5397660e09f9b0b5e400f9da36417aadb75ba951c3a60217eca6720ca"), looks := true }, kinds := [], alts := [], laidByText := true, laidKinds := [.data], laidTests := true, laidLooks := .later }
def FnExactRegroupCardSaid : Prop := Claim7.holds Tryz.pinned (.plain (OpenSpec.ofChange fnExactRegroupSpec)) fnExactRegroupCard

/-- THE SECOND FORM's CARD OF 'laws.FnGroups'. -/
def fnGroupsUptoCard : Claim7 := { stood := { row := fnGroupsUptoRow, standIns := [], harness := (true, "ed0ddbb5397660e09f9b0b5e400f9da36417aadb75ba951c3a60217eca6720ca"), looks := true }, kinds := [], alts := [], laidByText := true, laidKinds := [.data], laidTests := true, laidLooks := .later }
def FnGroupsUptoCardSaid : Prop := Claim7.holds Tryz.pinned (.plain (OpenSpec.upto fnGroupsSpec)) fnGroupsUptoCard

/-- THE SECOND FORM's CARD OF 'laws.FnExactRegroup'. -/
def fnExactRegroupUptoCard : Claim7 := { stood := { row := fnExactRegroupUptoRow, standIns := [], harness := (true, "ed0ddbb5397660e09f9b0b5e400f9da36417aadb75ba951c3a60217eca6720ca"), looks := true }, kinds := [], alts := [], laidByText := true, laidKinds := [.data], laidTests := true, laidLooks := .later }
def FnExactRegroupUptoCardSaid : Prop := Claim7.holds Tryz.pinned (.plain (OpenSpec.upto fnExactRegroupSpec)) fnExactRegroupUptoCard
end Rows
end Go.Proofs.YtphbinkkgmlnmaaGreatDoor
