/-
  DERIVED. GIVEN WITH THE SEED: THE CARDS: each row of YtimpokbcfjgdaaaDoorRows.lean that lists a variable, with what it lists TIED to the program's text (the seventh form; the later family's looks); each row that meets fmt, with fmt's text TOLD by the authors' own Lean function (tested against real Go, not proved from fmt's source: count such statements apart). THE CARD IS WHAT COUNTS. Prove the row's statement (the work); the ties are given (YtimpokbcfjgdaaaDoorTie.lean); close each card by the builder's one call (the guide's Derived/Test/ToyasCard.lean, 'card_holds'). Laid BY PROGRAM, IN A SANDBOX (cutbox-door.mjs). By AI agents, Wed Nov 11 2026. No macro, syntax, notation, axiom, sorry.
-/
import Derived.Test.YtimpokbcfjgdaaaDoorRows
import GoSem.ClaimSeven
namespace Go.Proofs.YtimpokbcfjgdaaaDoor
namespace Rows

/-- THE TIED CARD OF 'laws.FnExactShowHint'. -/
def fnExactShowHintCard : Claim7 := { stood := { row := fnExactShowHintRow, standIns := [], harness := (true, "3a6d433aa569ea71d56132c1c787c87b20cb396995ef516c616d2146dcb9ee41"), looks := false }, kinds := [], alts := [], laidByText := true, laidKinds := [.data], laidTests := true, laidLooks := .later }
def FnExactShowHintCardSaid : Prop := Claim7.holds Tryd.pinned (.plain (OpenSpec.ofChange fnExactShowHintSpec)) fnExactShowHintCard

/-- THE TIED CARD OF 'laws.FnExactReadHint'. -/
def fnExactReadHintCard : Claim7 := { stood := { row := fnExactReadHintRow, standIns := [], harness := (true, "3a6d433aa569ea71d56132c1c787c87b20cb396995ef516c616d2146dcb9ee41"), looks := false }, kinds := [], alts := [], laidByText := true, laidKinds := [.data], laidTests := true, laidLooks := .later }
def FnExactReadHintCardSaid : Prop := Claim7.holds Tryd.pinned (.plain (OpenSpec.ofChange fnExactReadHintSpec)) fnExactReadHintCard

/-- THE SECOND FORM's CARD OF 'laws.FnExactShowHint'. -/
def fnExactShowHintUptoCard : Claim7 := { stood := { row := fnExactShowHintUptoRow, standIns := [], harness := (true, "3a6d433aa569ea71d56132c1c787c87b20cb396995ef516c616d2146dcb9ee41"), looks := false }, kinds := [], alts := [], laidByText := true, laidKinds := [.data], laidTests := true, laidLooks := .later }
def FnExactShowHintUptoCardSaid : Prop := Claim7.holds Tryd.pinned (.plain (OpenSpec.upto fnExactShowHintSpec)) fnExactShowHintUptoCard

/-- THE SECOND FORM's CARD OF 'laws.FnExactReadHint'. -/
def fnExactReadHintUptoCard : Claim7 := { stood := { row := fnExactReadHintUptoRow, standIns := [], harness := (true, "3a6d433aa569ea71d56132c1c787c87b20cb396995ef516c616d2146dcb9ee41"), looks := false }, kinds := [], alts := [], laidByText := true, laidKinds := [.data], laidTests := true, laidLooks := .later }
def FnExactReadHintUptoCardSaid : Prop := Claim7.holds Tryd.pinned (.plain (OpenSpec.upto fnExactReadHintSpec)) fnExactReadHintUptoCard
end Rows
end Go.Proofs.YtimpokbcfjgdaaaDoor
