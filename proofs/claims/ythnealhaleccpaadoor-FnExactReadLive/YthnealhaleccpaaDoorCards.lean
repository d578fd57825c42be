/-
  DERIVED. GIVEN WITH THE SEED: THE CARDS: each row of YthnealhaleccpaaDoorRows.lean that lists a variable, with what it lists TIED to the program's text (the seventh form; the later family's looks); each row that meets fmt, with fmt's text TOLD by the authors' own Lean function (tested against real Go, not proved from fmt's source: count such statements apart). THE CARD IS WHAT COUNTS. Prove the row's statement (the work); the ties are given (YthnealhaleccpaaDoorTie.lean); close each card by the builder's one call (the guide's Derived/Test/ToyasCard.lean, 'card_holds'). Laid BY PROGRAM, IN A SANDBOX (cutbox-door.mjs). By AI agents, Wed Nov 11 2026. No macro, syntax, notation, axiom, sorry.
-/
import Derived.Test.YthnealhaleccpaaDoorRows
import GoSem.ClaimSeven
namespace Go.Proofs.YthnealhaleccpaaDoor
namespace Rows

/-- THE TIED CARD OF 'laws.FnExactShowLive'. -/
def fnExactShowLiveCard : Claim7 := { stood := { row := fnExactShowLiveRow, standIns := [], harness := (true, "254150456eeeec378b29be3d1ac9add056c0ba721325c814474f5632e0e44380"), looks := false }, kinds := [], alts := [], laidByText := true, laidKinds := [.data], laidTests := true, laidLooks := .later }
def FnExactShowLiveCardSaid : Prop := Claim7.holds Tryd.pinned (.plain (OpenSpec.ofChange fnExactShowLiveSpec)) fnExactShowLiveCard

/-- THE TIED CARD OF 'laws.FnExactReadLive'. -/
def fnExactReadLiveCard : Claim7 := { stood := { row := fnExactReadLiveRow, standIns := [], harness := (true, "254150456eeeec378b29be3d1ac9add056c0ba721325c814474f5632e0e44380"), looks := false }, kinds := [], alts := [], laidByText := true, laidKinds := [.data], laidTests := true, laidLooks := .later }
def FnExactReadLiveCardSaid : Prop := Claim7.holds Tryd.pinned (.plain (OpenSpec.ofChange fnExactReadLiveSpec)) fnExactReadLiveCard

/-- THE TIED CARD OF 'laws.FnExactSegName'. -/
def fnExactSegNameCard : Claim7 := { stood := { row := fnExactSegNameRow, standIns := [], harness := (true, "254150456eeeec378b29be3d1ac9add056c0ba721325c814474f5632e0e44380"), looks := false }, kinds := [], alts := [], laidByText := true, laidKinds := [.data, .data, .data], laidTests := true, laidLooks := .later }
def FnExactSegNameCardSaid : Prop := Claim7.holds Tryd.pinned (.plain (OpenSpec.ofChange fnExactSegNameSpec)) fnExactSegNameCard

/-- THE TIED CARD OF 'laws.FnExactHintName'. -/
def fnExactHintNameCard : Claim7 := { stood := { row := fnExactHintNameRow, standIns := [], harness := (true, "254150456eeeec378b29be3d1ac9add056c0ba721325c814474f5632e0e44380"), looks := false }, kinds := [], alts := [], laidByText := true, laidKinds := [.data, .data, .data], laidTests := true, laidLooks := .later }
def FnExactHintNameCardSaid : Prop := Claim7.holds Tryd.pinned (.plain (OpenSpec.ofChange fnExactHintNameSpec)) fnExactHintNameCard

/-- THE SECOND FORM's CARD OF 'laws.FnExactShowLive'. -/
def fnExactShowLiveUptoCard : Claim7 := { stood := { row := fnExactShowLiveUptoRow, standIns := [], harness := (true, "254150456eeeec378b29be3d1ac9add056c0ba721325c814474f5632e0e44380"), looks := false }, kinds := [], alts := [], laidByText := true, laidKinds := [.data], laidTests := true, laidLooks := .later }
def FnExactShowLiveUptoCardSaid : Prop := Claim7.holds Tryd.pinned (.plain (OpenSpec.upto fnExactShowLiveSpec)) fnExactShowLiveUptoCard

/-- THE SECOND FORM's CARD OF 'laws.FnExactReadLive'. -/
def fnExactReadLiveUptoCard : Claim7 := { stood := { row := fnExactReadLiveUptoRow, standIns := [], harness := (true, "254150456eeeec378b29be3d1ac9add056c0ba721325c814474f5632e0e44380"), looks := false }, kinds := [], alts := [], laidByText := true, laidKinds := [.data], laidTests := true, laidLooks := .later }
def FnExactReadLiveUptoCardSaid : Prop := Claim7.holds Tryd.pinned (.plain (OpenSpec.upto fnExactReadLiveSpec)) fnExactReadLiveUptoCard

/-- THE SECOND FORM's CARD OF 'laws.FnExactSegName'. -/
def fnExactSegNameUptoCard : Claim7 := { stood := { row := fnExactSegNameUptoRow, standIns := [], harness := (true, "254150456eeeec378b29be3d1ac9add056c0ba721325c814474f5632e0e44380"), looks := false }, kinds := [], alts := [], laidByText := true, laidKinds := [.data, .data, .data], laidTests := true, laidLooks := .later }
def FnExactSegNameUptoCardSaid : Prop := Claim7.holds Tryd.pinned (.plain (OpenSpec.upto fnExactSegNameSpec)) fnExactSegNameUptoCard

/-- THE SECOND FORM's CARD OF 'laws.FnExactHintName'. -/
def fnExactHintNameUptoCard : Claim7 := { stood := { row := fnExactHintNameUptoRow, standIns := [], harness := (true, "254150456eeeec378b29be3d1ac9add056c0ba721325c814474f5632e0e44380"), looks := false }, kinds := [], alts := [], laidByText := true, laidKinds := [.data, .data, .data], laidTests := true, laidLooks := .later }
def FnExactHintNameUptoCardSaid : Prop := Claim7.holds Tryd.pinned (.plain (OpenSpec.upto fnExactHintNameSpec)) fnExactHintNameUptoCard
end Rows
end Go.Proofs.YthnealhaleccpaaDoor
