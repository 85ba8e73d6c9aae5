/-
  DERIVED. GIVEN WITH THE SEED: THE CARDS: each row of YtfommfgokpiieabDoorRows.lean that lists a variable, with what it lists TIED to the program's text (the seventh form; the later family's looks); each row that meets fmt, with fmt's text TOLD by the authors' own Lean function (tested against real Go, not proved from fmt's source: count such statements apart). THE CARD IS WHAT COUNTS. Prove the row's statement (the work); the ties are given (YtfommfgokpiieabDoorTie.lean); close each card by the builder's one call (the guide's Derived/Test/ToyasCard.lean, 'card_holds'). Laid BY PROGRAM, IN A SANDBOX (cutbox-door.mjs). By AI agents, Wed Nov 11 2026. No macro, syntax, notation, axiom, sorry.
-/
import Derived.Test.YtfommfgokpiieabDoorRows
import GoSem.ClaimSeven
namespace Go.Proofs.YtfommfgokpiieabDoor
namespace Rows

/-- THE TIED CARD OF 'comfitlaw07.MouldsFills'. -/
def mouldsFillsCard : Claim7 := { stood := { row := mouldsFillsRow, standIns := [], harness := (true, "7a75b6fcc3a1ed3df132efdf340ebe9429569540f48077a080cf8f2676967a2e"), looks := false }, kinds := [], alts := [], laidByText := true, laidKinds := [.data, .data, .pinned], laidTests := true, laidLooks := .later }
def MouldsFillsCardSaid : Prop := Claim7.holds Tryd.pinned (.plain (OpenSpec.ofChange mouldsFillsSpec)) mouldsFillsCard

/-- THE TIED CARD OF 'comfitlaw07.MouldsTiles'. -/
def mouldsTilesCard : Claim7 := { stood := { row := mouldsTilesRow, standIns := [], harness := (true, "7a75b6fcc3a1ed3df132efdf340ebe9429569540f48077a080cf8f2676967a2e"), looks := false }, kinds := [], alts := [], laidByText := true, laidKinds := [.data, .data, .pinned], laidTests := true, laidLooks := .later }
def MouldsTilesCardSaid : Prop := Claim7.holds Tryd.pinned (.plain (OpenSpec.ofChange mouldsTilesSpec)) mouldsTilesCard

/-- THE TIED CARD OF 'comfitlaw07.MouldsMirrors'. -/
def mouldsMirrorsCard : Claim7 := { stood := { row := mouldsMirrorsRow, standIns := [], harness := (true, "7a75b6fcc3a1ed3df132efdf340ebe9429569540f48077a080cf8f2676967a2e"), looks := false }, kinds := [], alts := [], laidByText := true, laidKinds := [.data, .data, .pinned], laidTests := true, laidLooks := .later }
def MouldsMirrorsCardSaid : Prop := Claim7.holds Tryd.pinned (.plain (OpenSpec.ofChange mouldsMirrorsSpec)) mouldsMirrorsCard

/-- THE TIED CARD OF 'comfitlaw07.MouldsRound'. -/
def mouldsRoundCard : Claim7 := { stood := { row := mouldsRoundRow, standIns := [], harness := (true, "7a75b6fcc3a1ed3df132efdf340ebe9429569540f48077a080cf8f2676967a2e"), looks := false }, kinds := [], alts := [], laidByText := true, laidKinds := [.data, .data, .pinned], laidTests := true, laidLooks := .later }
def MouldsRoundCardSaid : Prop := Claim7.holds Tryd.pinned (.plain (OpenSpec.ofChange mouldsRoundSpec)) mouldsRoundCard

/-- THE SECOND FORM's CARD OF 'comfitlaw07.MouldsFills'. -/
def mouldsFillsUptoCard : Claim7 := { stood := { row := mouldsFillsUptoRow, standIns := [], harness := (true, "7a75b6fcc3a1ed3df132efdf340ebe9429569540f48077a080cf8f2676967a2e"), looks := false }, kinds := [], alts := [], laidByText := true, laidKinds := [.data, .data, .pinned], laidTests := true, laidLooks := .later }
def MouldsFillsUptoCardSaid : Prop := Claim7.holds Tryd.pinned (.plain (OpenSpec.upto mouldsFillsSpec)) mouldsFillsUptoCard

/-- THE SECOND FORM's CARD OF 'comfitlaw07.MouldsTiles'. -/
def mouldsTilesUptoCard : Claim7 := { stood := { row := mouldsTilesUptoRow, standIns := [], harness := (true, "7a75b6fcc3a1ed3df132efdf340ebe9429569540f48077a080cf8f2676967a2e"), looks := false }, kinds := [], alts := [], laidByText := true, laidKinds := [.data, .data, .pinned], laidTests := true, laidLooks := .later }
def MouldsTilesUptoCardSaid : Prop := Claim7.holds Tryd.pinned (.plain (OpenSpec.upto mouldsTilesSpec)) mouldsTilesUptoCard

/-- THE SECOND FORM's CARD OF 'comfitlaw07.MouldsMirrors'. -/
def mouldsMirrorsUptoCard : Claim7 := { stood := { row := mouldsMirrorsUptoRow, standIns := [], harness := (true, "7a75b6fcc3a1ed3df132efdf340ebe9429569540f48077a080cf8f2676967a2e"), looks := false }, kinds := [], alts := [], laidByText := true, laidKinds := [.data, .data, .pinned], laidTests := true, laidLooks := .later }
def MouldsMirrorsUptoCardSaid : Prop := Claim7.holds Tryd.pinned (.plain (OpenSpec.upto mouldsMirrorsSpec)) mouldsMirrorsUptoCard

/-- THE SECOND FORM's CARD OF 'comfitlaw07.MouldsRound'. -/
def mouldsRoundUptoCard : Claim7 := { stood := { row := mouldsRoundUptoRow, standIns := [], harness := (true, "7a75b6fcc3a1ed3df132efdf340ebe9429569540f48077a080cf8f2676967a2e"), looks := false }, kinds := [], alts := [], laidByText := true, laidKinds := [.data, .data, .pinned], laidTests := true, laidLooks := .later }
def MouldsRoundUptoCardSaid : Prop := Claim7.holds Tryd.pinned (.plain (OpenSpec.upto mouldsRoundSpec)) mouldsRoundUptoCard
end Rows
end Go.Proofs.YtfommfgokpiieabDoor
