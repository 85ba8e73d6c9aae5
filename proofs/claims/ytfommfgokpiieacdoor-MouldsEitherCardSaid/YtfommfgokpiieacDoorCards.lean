/-
  DERIVED. GIVEN WITH THE SEED: THE CARDS: each row of YtfommfgokpiieacDoorRows.lean that lists a variable, with what it lists TIED to the program's text (the seventh form; the later family's looks); each row that meets fmt, with fmt's text TOLD by the authors' own Lean function (tested against real Go, not proved from fmt's source: count such statements apart). THE CARD IS WHAT COUNTS. Prove the row's statement (the work); the ties are given (YtfommfgokpiieacDoorTie.lean); close each card by the builder's one call (the guide's Derived/Test/ToyasCard.lean, 'card_holds'). Laid BY PROGRAM, IN A SANDBOX (cutbox-door.mjs). By AI agents, Wed Nov 11 2026. No macro, syntax, notation, axiom, sorry.
-/
import Derived.Test.YtfommfgokpiieacDoorRows
import GoSem.ClaimSeven
namespace Go.Proofs.YtfommfgokpiieacDoor
namespace Rows

/-- THE TIED CARD OF 'comfitlaw07.MouldsLong'. -/
def mouldsLongCard : Claim7 := { stood := { row := mouldsLongRow, standIns := [], harness := (true, "24ae9cbd8650824c274a35ad8fed6e55a2bdb16ce48ae672735d045ecbee4112"), looks := false }, kinds := [], alts := [], laidByText := true, laidKinds := [.data, .data, .pinned], laidTests := true, laidLooks := .later }
def MouldsLongCardSaid : Prop := Claim7.holds Tryd.pinned (.plain (OpenSpec.ofChange mouldsLongSpec)) mouldsLongCard

/-- THE TIED CARD OF 'comfitlaw07.MouldsLaid'. -/
def mouldsLaidCard : Claim7 := { stood := { row := mouldsLaidRow, standIns := [], harness := (true, "24ae9cbd8650824c274a35ad8fed6e55a2bdb16ce48ae672735d045ecbee4112"), looks := false }, kinds := [], alts := [], laidByText := true, laidKinds := [.data, .data, .pinned], laidTests := true, laidLooks := .later }
def MouldsLaidCardSaid : Prop := Claim7.holds Tryd.pinned (.plain (OpenSpec.ofChange mouldsLaidSpec)) mouldsLaidCard

/-- THE TIED CARD OF 'comfitlaw07.MouldsEither'. -/
def mouldsEitherCard : Claim7 := { stood := { row := mouldsEitherRow, standIns := [], harness := (true, "24ae9cbd8650824c274a35ad8fed6e55a2bdb16ce48ae672735d045ecbee4112"), looks := false }, kinds := [], alts := [], laidByText := true, laidKinds := [.data, .data, .pinned], laidTests := true, laidLooks := .later }
def MouldsEitherCardSaid : Prop := Claim7.holds Tryd.pinned (.plain (OpenSpec.ofChange mouldsEitherSpec)) mouldsEitherCard

/-- THE TIED CARD OF 'comfitlaw07.MouldsRoom'. -/
def mouldsRoomCard : Claim7 := { stood := { row := mouldsRoomRow, standIns := [], harness := (true, "24ae9cbd8650824c274a35ad8fed6e55a2bdb16ce48ae672735d045ecbee4112"), looks := false }, kinds := [], alts := [], laidByText := true, laidKinds := [.data, .data, .pinned], laidTests := true, laidLooks := .later }
def MouldsRoomCardSaid : Prop := Claim7.holds Tryd.pinned (.plain (OpenSpec.ofChange mouldsRoomSpec)) mouldsRoomCard

/-- THE SECOND FORM's CARD OF 'comfitlaw07.MouldsLong'. -/
def mouldsLongUptoCard : Claim7 := { stood := { row := mouldsLongUptoRow, standIns := [], harness := (true, "24ae9cbd8650824c274a35ad8fed6e55a2bdb16ce48ae672735d045ecbee4112"), looks := false }, kinds := [], alts := [], laidByText := true, laidKinds := [.data, .data, .pinned], laidTests := true, laidLooks := .later }
def MouldsLongUptoCardSaid : Prop := Claim7.holds Tryd.pinned (.plain (OpenSpec.upto mouldsLongSpec)) mouldsLongUptoCard

/-- THE SECOND FORM's CARD OF 'comfitlaw07.MouldsLaid'. -/
def mouldsLaidUptoCard : Claim7 := { stood := { row := mouldsLaidUptoRow, standIns := [], harness := (true, "24ae9cbd8650824c274a35ad8fed6e55a2bdb16ce48ae672735d045ecbee4112"), looks := false }, kinds := [], alts := [], laidByText := true, laidKinds := [.data, .data, .pinned], laidTests := true, laidLooks := .later }
def MouldsLaidUptoCardSaid : Prop := Claim7.holds Tryd.pinned (.plain (OpenSpec.upto mouldsLaidSpec)) mouldsLaidUptoCard

/-- THE SECOND FORM's CARD OF 'comfitlaw07.MouldsEither'. -/
def mouldsEitherUptoCard : Claim7 := { stood := { row := mouldsEitherUptoRow, standIns := [], harness := (true, "24ae9cbd8650824c274a35ad8fed6e55a2bdb16ce48ae672735d045ecbee4112"), looks := false }, kinds := [], alts := [], laidByText := true, laidKinds := [.data, .data, .pinned], laidTests := true, laidLooks := .later }
def MouldsEitherUptoCardSaid : Prop := Claim7.holds Tryd.pinned (.plain (OpenSpec.upto mouldsEitherSpec)) mouldsEitherUptoCard

/-- THE SECOND FORM's CARD OF 'comfitlaw07.MouldsRoom'. -/
def mouldsRoomUptoCard : Claim7 := { stood := { row := mouldsRoomUptoRow, standIns := [], harness := (true, "24ae9cbd8650824c274a35ad8fed6e55a2bdb16ce48ae672735d045ecbee4112"), looks := false }, kinds := [], alts := [], laidByText := true, laidKinds := [.data, .data, .pinned], laidTests := true, laidLooks := .later }
def MouldsRoomUptoCardSaid : Prop := Claim7.holds Tryd.pinned (.plain (OpenSpec.upto mouldsRoomSpec)) mouldsRoomUptoCard
end Rows
end Go.Proofs.YtfommfgokpiieacDoor
