/-
  DERIVED. GIVEN WITH THE SEED: THE CARDS: each row of YtfommfgokpiieadDoorRows.lean that lists a variable, with what it lists TIED to the program's text (the seventh form; the later family's looks); each row that meets fmt, with fmt's text TOLD by the authors' own Lean function (tested against real Go, not proved from fmt's source: count such statements apart). THE CARD IS WHAT COUNTS. Prove the row's statement (the work); the ties are given (YtfommfgokpiieadDoorTie.lean); close each card by the builder's one call (the guide's Derived/Test/ToyasCard.lean, 'card_holds'). Laid BY PROGRAM, IN A SANDBOX (cutbox-door.mjs). By AI agents, Wed Nov 11 2026. No macro, syntax, notation, axiom, sorry.
-/
import Derived.Test.YtfommfgokpiieadDoorRows
import GoSem.ClaimSeven
namespace Go.Proofs.YtfommfgokpiieadDoor
namespace Rows

/-- THE TIED CARD OF 'comfitlaw07.MouldsQuarters'. -/
def mouldsQuartersCard : Claim7 := { stood := { row := mouldsQuartersRow, standIns := [], harness := (true, "f78aff463dd9edbf25414c4c66d5b4445962754325438acd5aaa8c92102d7d55"), looks := false }, kinds := [], alts := [], laidByText := true, laidKinds := [.data, .data, .pinned], laidTests := true, laidLooks := .later }
def MouldsQuartersCardSaid : Prop := Claim7.holds Tryd.pinned (.plain (OpenSpec.ofChange mouldsQuartersSpec)) mouldsQuartersCard

/-- THE TIED CARD OF 'comfitlaw07.MouldsBacks'. -/
def mouldsBacksCard : Claim7 := { stood := { row := mouldsBacksRow, standIns := [], harness := (true, "f78aff463dd9edbf25414c4c66d5b4445962754325438acd5aaa8c92102d7d55"), looks := false }, kinds := [], alts := [], laidByText := true, laidKinds := [.data, .data, .pinned], laidTests := true, laidLooks := .later }
def MouldsBacksCardSaid : Prop := Claim7.holds Tryd.pinned (.plain (OpenSpec.ofChange mouldsBacksSpec)) mouldsBacksCard

/-- THE SECOND FORM's CARD OF 'comfitlaw07.MouldsQuarters'. -/
def mouldsQuartersUptoCard : Claim7 := { stood := { row := mouldsQuartersUptoRow, standIns := [], harness := (true, "f78aff463dd9edbf25414c4c66d5b4445962754325438acd5aaa8c92102d7d55"), looks := false }, kinds := [], alts := [], laidByText := true, laidKinds := [.data, .data, .pinned], laidTests := true, laidLooks := .later }
def MouldsQuartersUptoCardSaid : Prop := Claim7.holds Tryd.pinned (.plain (OpenSpec.upto mouldsQuartersSpec)) mouldsQuartersUptoCard

/-- THE SECOND FORM's CARD OF 'comfitlaw07.MouldsBacks'. -/
def mouldsBacksUptoCard : Claim7 := { stood := { row := mouldsBacksUptoRow, standIns := [], harness := (true, "f78aff463dd9edbf25414c4c66d5b4445962754325438acd5aaa8c92102d7d55"), looks := false }, kinds := [], alts := [], laidByText := true, laidKinds := [.data, .data, .pinned], laidTests := true, laidLooks := .later }
def MouldsBacksUptoCardSaid : Prop := Claim7.holds Tryd.pinned (.plain (OpenSpec.upto mouldsBacksSpec)) mouldsBacksUptoCard
end Rows
end Go.Proofs.YtfommfgokpiieadDoor
