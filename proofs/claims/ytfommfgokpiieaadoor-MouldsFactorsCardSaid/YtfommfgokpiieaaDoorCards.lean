/-
  DERIVED. GIVEN WITH THE SEED: THE CARDS: each row of YtfommfgokpiieaaDoorRows.lean that lists a variable, with what it lists TIED to the program's text (the seventh form; the later family's looks); each row that meets fmt, with fmt's text TOLD by the authors' own Lean function (tested against real Go, not proved from fmt's source: count such statements apart). THE CARD IS WHAT COUNTS. Prove the row's statement (the work); the ties are given (YtfommfgokpiieaaDoorTie.lean); close each card by the builder's one call (the guide's Derived/Test/ToyasCard.lean, 'card_holds'). Laid BY PROGRAM, IN A SANDBOX (cutbox-door.mjs). By AI agents, Wed Nov 11 2026. No macro, syntax, notation, axiom, sorry.
-/
import Derived.Test.YtfommfgokpiieaaDoorRows
import GoSem.ClaimSeven
namespace Go.Proofs.YtfommfgokpiieaaDoor
namespace Rows

/-- THE TIED CARD OF 'comfitlaw07.MouldsIs'. -/
def mouldsIsCard : Claim7 := { stood := { row := mouldsIsRow, standIns := [], harness := (true, "9a7f19d8509cb8917e34331a8fbd7b617195715219be8e77c3b10180905d029a"), looks := false }, kinds := [], alts := [], laidByText := true, laidKinds := [.data, .data, .pinned], laidTests := true, laidLooks := .later }
def MouldsIsCardSaid : Prop := Claim7.holds Tryd.pinned (.plain (OpenSpec.ofChange mouldsIsSpec)) mouldsIsCard

/-- THE TIED CARD OF 'comfitlaw07.MouldsOutlines'. -/
def mouldsOutlinesCard : Claim7 := { stood := { row := mouldsOutlinesRow, standIns := [], harness := (true, "9a7f19d8509cb8917e34331a8fbd7b617195715219be8e77c3b10180905d029a"), looks := false }, kinds := [], alts := [], laidByText := true, laidKinds := [.data, .data, .pinned], laidTests := true, laidLooks := .later }
def MouldsOutlinesCardSaid : Prop := Claim7.holds Tryd.pinned (.plain (OpenSpec.ofChange mouldsOutlinesSpec)) mouldsOutlinesCard

/-- THE TIED CARD OF 'comfitlaw07.MouldsTurns'. -/
def mouldsTurnsCard : Claim7 := { stood := { row := mouldsTurnsRow, standIns := [], harness := (true, "9a7f19d8509cb8917e34331a8fbd7b617195715219be8e77c3b10180905d029a"), looks := false }, kinds := [], alts := [], laidByText := true, laidKinds := [.data, .data, .pinned], laidTests := true, laidLooks := .later }
def MouldsTurnsCardSaid : Prop := Claim7.holds Tryd.pinned (.plain (OpenSpec.ofChange mouldsTurnsSpec)) mouldsTurnsCard

/-- THE TIED CARD OF 'comfitlaw07.MouldsFactors'. -/
def mouldsFactorsCard : Claim7 := { stood := { row := mouldsFactorsRow, standIns := [], harness := (true, "9a7f19d8509cb8917e34331a8fbd7b617195715219be8e77c3b10180905d029a"), looks := false }, kinds := [], alts := [], laidByText := true, laidKinds := [.data, .data, .pinned], laidTests := true, laidLooks := .later }
def MouldsFactorsCardSaid : Prop := Claim7.holds Tryd.pinned (.plain (OpenSpec.ofChange mouldsFactorsSpec)) mouldsFactorsCard

/-- THE SECOND FORM's CARD OF 'comfitlaw07.MouldsIs'. -/
def mouldsIsUptoCard : Claim7 := { stood := { row := mouldsIsUptoRow, standIns := [], harness := (true, "9a7f19d8509cb8917e34331a8fbd7b617195715219be8e77c3b10180905d029a"), looks := false }, kinds := [], alts := [], laidByText := true, laidKinds := [.data, .data, .pinned], laidTests := true, laidLooks := .later }
def MouldsIsUptoCardSaid : Prop := Claim7.holds Tryd.pinned (.plain (OpenSpec.upto mouldsIsSpec)) mouldsIsUptoCard

/-- THE SECOND FORM's CARD OF 'comfitlaw07.MouldsOutlines'. -/
def mouldsOutlinesUptoCard : Claim7 := { stood := { row := mouldsOutlinesUptoRow, standIns := [], harness := (true, "9a7f19d8509cb8917e34331a8fbd7b617195715219be8e77c3b10180905d029a"), looks := false }, kinds := [], alts := [], laidByText := true, laidKinds := [.data, .data, .pinned], laidTests := true, laidLooks := .later }
def MouldsOutlinesUptoCardSaid : Prop := Claim7.holds Tryd.pinned (.plain (OpenSpec.upto mouldsOutlinesSpec)) mouldsOutlinesUptoCard

/-- THE SECOND FORM's CARD OF 'comfitlaw07.MouldsTurns'. -/
def mouldsTurnsUptoCard : Claim7 := { stood := { row := mouldsTurnsUptoRow, standIns := [], harness := (true, "9a7f19d8509cb8917e34331a8fbd7b617195715219be8e77c3b10180905d029a"), looks := false }, kinds := [], alts := [], laidByText := true, laidKinds := [.data, .data, .pinned], laidTests := true, laidLooks := .later }
def MouldsTurnsUptoCardSaid : Prop := Claim7.holds Tryd.pinned (.plain (OpenSpec.upto mouldsTurnsSpec)) mouldsTurnsUptoCard

/-- THE SECOND FORM's CARD OF 'comfitlaw07.MouldsFactors'. -/
def mouldsFactorsUptoCard : Claim7 := { stood := { row := mouldsFactorsUptoRow, standIns := [], harness := (true, "9a7f19d8509cb8917e34331a8fbd7b617195715219be8e77c3b10180905d029a"), looks := false }, kinds := [], alts := [], laidByText := true, laidKinds := [.data, .data, .pinned], laidTests := true, laidLooks := .later }
def MouldsFactorsUptoCardSaid : Prop := Claim7.holds Tryd.pinned (.plain (OpenSpec.upto mouldsFactorsSpec)) mouldsFactorsUptoCard
end Rows
end Go.Proofs.YtfommfgokpiieaaDoor
