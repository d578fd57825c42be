/-
  DERIVED. GIVEN WITH THE SEED: THE CARDS: each row of YthhjomaccbpnbabDoorRows.lean that lists a variable, with what it lists TIED to the program's text (the seventh form; the later family's looks); each row that meets fmt, with fmt's text TOLD by the authors' own Lean function (tested against real Go, not proved from fmt's source: count such statements apart). THE CARD IS WHAT COUNTS. Prove the row's statement (the work); the ties are given (YthhjomaccbpnbabDoorTie.lean); close each card by the builder's one call (the guide's Derived/Test/ToyasCard.lean, 'card_holds'). Laid BY PROGRAM, IN A SANDBOX (cutbox-door.mjs). By AI agents, Wed Nov 11 2026. No macro, syntax, notation, axiom, sorry.
-/
import Derived.Test.YthhjomaccbpnbabDoorRows
import GoSem.ClaimSeven
namespace Go.Proofs.YthhjomaccbpnbabDoor
namespace Rows

/-- THE TIED CARD OF 'laws.FnExactCreate'. -/
def fnExactCreateCard : Claim7 := { stood := { row := fnExactCreateRow, standIns := [], harness := (true, "55da2302afdcd02e88cfdb02cbb81a48cfbae97991c26994b3ee25ecd5947bc8"), looks := true }, kinds := [], alts := [], laidByText := true, laidKinds := [.sentinel, .sentinel, .sentinel, .sentinel, .sentinel], laidTests := true, laidLooks := .later }
def FnExactCreateCardSaid : Prop := Claim7.holds Tryd.pinned (.plain (OpenSpec.ofChange fnExactCreateSpec)) fnExactCreateCard

/-- THE TIED CARD OF 'laws.FnExactAppend'. -/
def fnExactAppendCard : Claim7 := { stood := { row := fnExactAppendRow, standIns := [], harness := (true, "55da2302afdcd02e88cfdb02cbb81a48cfbae97991c26994b3ee25ecd5947bc8"), looks := true }, kinds := [], alts := [], laidByText := true, laidKinds := [.sentinel, .sentinel, .sentinel, .sentinel, .sentinel], laidTests := true, laidLooks := .later }
def FnExactAppendCardSaid : Prop := Claim7.holds Tryd.pinned (.plain (OpenSpec.ofChange fnExactAppendSpec)) fnExactAppendCard

/-- THE TIED CARD OF 'laws.FnExactSync'. -/
def fnExactSyncCard : Claim7 := { stood := { row := fnExactSyncRow, standIns := [], harness := (true, "55da2302afdcd02e88cfdb02cbb81a48cfbae97991c26994b3ee25ecd5947bc8"), looks := true }, kinds := [], alts := [], laidByText := true, laidKinds := [.sentinel, .sentinel, .sentinel, .sentinel, .sentinel], laidTests := true, laidLooks := .later }
def FnExactSyncCardSaid : Prop := Claim7.holds Tryd.pinned (.plain (OpenSpec.ofChange fnExactSyncSpec)) fnExactSyncCard

/-- THE TIED CARD OF 'laws.FnExactRename'. -/
def fnExactRenameCard : Claim7 := { stood := { row := fnExactRenameRow, standIns := [], harness := (true, "55da2302afdcd02e88cfdb02cbb81a48cfbae97991c26994b3ee25ecd5947bc8"), looks := true }, kinds := [], alts := [], laidByText := true, laidKinds := [.sentinel, .sentinel, .sentinel, .sentinel, .sentinel], laidTests := true, laidLooks := .later }
def FnExactRenameCardSaid : Prop := Claim7.holds Tryd.pinned (.plain (OpenSpec.ofChange fnExactRenameSpec)) fnExactRenameCard

/-- THE TIED CARD OF 'laws.FnExactRemove'. -/
def fnExactRemoveCard : Claim7 := { stood := { row := fnExactRemoveRow, standIns := [], harness := (true, "55da2302afdcd02e88cfdb02cbb81a48cfbae97991c26994b3ee25ecd5947bc8"), looks := true }, kinds := [], alts := [], laidByText := true, laidKinds := [.sentinel, .sentinel, .sentinel, .sentinel, .sentinel], laidTests := true, laidLooks := .later }
def FnExactRemoveCardSaid : Prop := Claim7.holds Tryd.pinned (.plain (OpenSpec.ofChange fnExactRemoveSpec)) fnExactRemoveCard

/-- THE TIED CARD OF 'laws.FnExactTruncate'. -/
def fnExactTruncateCard : Claim7 := { stood := { row := fnExactTruncateRow, standIns := [], harness := (true, "55da2302afdcd02e88cfdb02cbb81a48cfbae97991c26994b3ee25ecd5947bc8"), looks := true }, kinds := [], alts := [], laidByText := true, laidKinds := [.sentinel, .sentinel, .sentinel, .sentinel, .sentinel], laidTests := true, laidLooks := .later }
def FnExactTruncateCardSaid : Prop := Claim7.holds Tryd.pinned (.plain (OpenSpec.ofChange fnExactTruncateSpec)) fnExactTruncateCard

/-- THE SECOND FORM's CARD OF 'laws.FnExactCreate'. -/
def fnExactCreateUptoCard : Claim7 := { stood := { row := fnExactCreateUptoRow, standIns := [], harness := (true, "55da2302afdcd02e88cfdb02cbb81a48cfbae97991c26994b3ee25ecd5947bc8"), looks := true }, kinds := [], alts := [], laidByText := true, laidKinds := [.sentinel, .sentinel, .sentinel, .sentinel, .sentinel], laidTests := true, laidLooks := .later }
def FnExactCreateUptoCardSaid : Prop := Claim7.holds Tryd.pinned (.plain (OpenSpec.upto fnExactCreateSpec)) fnExactCreateUptoCard

/-- THE SECOND FORM's CARD OF 'laws.FnExactAppend'. -/
def fnExactAppendUptoCard : Claim7 := { stood := { row := fnExactAppendUptoRow, standIns := [], harness := (true, "55da2302afdcd02e88cfdb02cbb81a48cfbae97991c26994b3ee25ecd5947bc8"), looks := true }, kinds := [], alts := [], laidByText := true, laidKinds := [.sentinel, .sentinel, .sentinel, .sentinel, .sentinel], laidTests := true, laidLooks := .later }
def FnExactAppendUptoCardSaid : Prop := Claim7.holds Tryd.pinned (.plain (OpenSpec.upto fnExactAppendSpec)) fnExactAppendUptoCard

/-- THE SECOND FORM's CARD OF 'laws.FnExactSync'. -/
def fnExactSyncUptoCard : Claim7 := { stood := { row := fnExactSyncUptoRow, standIns := [], harness := (true, "55da2302afdcd02e88cfdb02cbb81a48cfbae97991c26994b3ee25ecd5947bc8"), looks := true }, kinds := [], alts := [], laidByText := true, laidKinds := [.sentinel, .sentinel, .sentinel, .sentinel, .sentinel], laidTests := true, laidLooks := .later }
def FnExactSyncUptoCardSaid : Prop := Claim7.holds Tryd.pinned (.plain (OpenSpec.upto fnExactSyncSpec)) fnExactSyncUptoCard

/-- THE SECOND FORM's CARD OF 'laws.FnExactRename'. -/
def fnExactRenameUptoCard : Claim7 := { stood := { row := fnExactRenameUptoRow, standIns := [], harness := (true, "55da2302afdcd02e88cfdb02cbb81a48cfbae97991c26994b3ee25ecd5947bc8"), looks := true }, kinds := [], alts := [], laidByText := true, laidKinds := [.sentinel, .sentinel, .sentinel, .sentinel, .sentinel], laidTests := true, laidLooks := .later }
def FnExactRenameUptoCardSaid : Prop := Claim7.holds Tryd.pinned (.plain (OpenSpec.upto fnExactRenameSpec)) fnExactRenameUptoCard

/-- THE SECOND FORM's CARD OF 'laws.FnExactRemove'. -/
def fnExactRemoveUptoCard : Claim7 := { stood := { row := fnExactRemoveUptoRow, standIns := [], harness := (true, "55da2302afdcd02e88cfdb02cbb81a48cfbae97991c26994b3ee25ecd5947bc8"), looks := true }, kinds := [], alts := [], laidByText := true, laidKinds := [.sentinel, .sentinel, .sentinel, .sentinel, .sentinel], laidTests := true, laidLooks := .later }
def FnExactRemoveUptoCardSaid : Prop := Claim7.holds Tryd.pinned (.plain (OpenSpec.upto fnExactRemoveSpec)) fnExactRemoveUptoCard

/-- THE SECOND FORM's CARD OF 'laws.FnExactTruncate'. -/
def fnExactTruncateUptoCard : Claim7 := { stood := { row := fnExactTruncateUptoRow, standIns := [], harness := (true, "55da2302afdcd02e88cfdb02cbb81a48cfbae97991c26994b3ee25ecd5947bc8"), looks := true }, kinds := [], alts := [], laidByText := true, laidKinds := [.sentinel, .sentinel, .sentinel, .sentinel, .sentinel], laidTests := true, laidLooks := .later }
def FnExactTruncateUptoCardSaid : Prop := Claim7.holds Tryd.pinned (.plain (OpenSpec.upto fnExactTruncateSpec)) fnExactTruncateUptoCard
end Rows
end Go.Proofs.YthhjomaccbpnbabDoor
