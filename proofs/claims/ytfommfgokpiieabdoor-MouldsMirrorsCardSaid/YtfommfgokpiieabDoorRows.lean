/-
  NARROWER THAN 'FOR EVERY INPUT', by the rows' own cells (each row's printed sentence says how): MouldsFills: laid · MouldsTiles: laid · MouldsMirrors: laid · MouldsRound: laid.
  DERIVED. THE GIVEN ROWS OF THIS SEAT. 4 by the template 'for every input the law returns true; each argument reads behind the call as it read before'; 0 by the template 'total and deterministic' (their statements: YtfommfgokpiieabDoorTotals.lean).
  GIVEN WITH THE SEED: the statements are not yours to turn. If you find one false, say at which input.
  Laid BY PROGRAM, IN A SANDBOX (cutbox-rows.mjs): the forced cells as the released guide's own fill.sh prints them over the translation 060414539ab92258… (all of the seat's roots in one cut). By AI agents, Wed Nov 11 2026. No macro, syntax, notation, axiom, sorry.
-/
import Derived.Test.YtfommfgokpiieabDoorChecked
import GoSem.PinnedTables
import GoSem.Claim
import GoSem.ClaimJoined
import GoSem.ClaimMapViews
import Derived.JoinedTies
import Derived.KernelRfl
namespace Go.Proofs.YtfommfgokpiieabDoor
/- THE CELL 'sum', in the pinned program and in every row, IS THE sha256 OF THE DUMP (.gsa) THAT YtfommfgokpiieabDoorProg.lean LOADS. Nothing in Lean hashes anything: it is a label: what it is worth is what the hold of that sum in a sandbox is worth. -/
noncomputable def Tryd.pinned : Pinned := { name := "ytfommfgokpiieabdoor", sum := "060414539ab922587616119f648136706dde9eed98c39e40d4a5aa9fcbabee14", checked := Tryd.checked }
namespace Rows
def none {H : Type} : Left H := { results := [], args := [] }

/- WHAT THE LISTED PACKAGE-LEVEL VARIABLES READ AS WHEN THE CALL BEGINS. Each datum BY PROGRAM (the guide's laid-datum.mjs) off the statement by which the dump's own 'gosem.cut.vars' lays the variable. In a bare row this is a premise. The card (YtfommfgokpiieabDoorCards.lean) ties it to the program's text. -/
def laid_unicode_utf8_acceptRanges {H : Type} : DataW H := .agg [.agg [.lit (.int .u8 128), .lit (.int .u8 191)], .agg [.lit (.int .u8 160), .lit (.int .u8 191)], .agg [.lit (.int .u8 128), .lit (.int .u8 159)], .agg [.lit (.int .u8 144), .lit (.int .u8 191)], .agg [.lit (.int .u8 128), .lit (.int .u8 143)], .agg [.lit (.int .u8 0), .lit (.int .u8 0)], .agg [.lit (.int .u8 0), .lit (.int .u8 0)], .agg [.lit (.int .u8 0), .lit (.int .u8 0)], .agg [.lit (.int .u8 0), .lit (.int .u8 0)], .agg [.lit (.int .u8 0), .lit (.int .u8 0)], .agg [.lit (.int .u8 0), .lit (.int .u8 0)], .agg [.lit (.int .u8 0), .lit (.int .u8 0)], .agg [.lit (.int .u8 0), .lit (.int .u8 0)], .agg [.lit (.int .u8 0), .lit (.int .u8 0)], .agg [.lit (.int .u8 0), .lit (.int .u8 0)], .agg [.lit (.int .u8 0), .lit (.int .u8 0)]]
def laid_comfit_moulds_steps {H : Type} : DataW H := .agg [.agg [.lit (.int .i64 1), .lit (.int .i64 0)], .agg [.lit (.int .i64 0), .lit (.int .i64 1)], .agg [.lit (.int .i64 (-1)), .lit (.int .i64 0)], .agg [.lit (.int .i64 0), .lit (.int .i64 (-1))]]
/-- One of Go's own tables, pinned by name: the form's constant. -/
def laid_unicode_utf8_first : DataW Unit := Go.Pinned.utf8First

/-- 'comfitlaw07.MouldsFills': WHATEVER THE INPUT: true; the input reads as it did. -/
def mouldsFillsSpec : ChangeSpec := { name := "mouldsFills", fn := fun _ => fun
  | [d1, d2, d3] => { results := [.lit (.bool true)], args := [d1, d2, d3] }
  | _ => none }
def mouldsFillsRow : OpenClaim := { program := "ytfommfgokpiieabdoor", sum := "060414539ab922587616119f648136706dde9eed98c39e40d4a5aa9fcbabee14", func := "comfit/comfitlaw07.MouldsFills", spec := "mouldsFills", inPlace := ["internal/bytealg.IndexByteString", "internal/bytealg.IndexString"], named := ["unicode/utf8.first", "unicode/utf8.acceptRanges", "comfit/moulds.steps", "internal/bytealg.MaxLen"], plainKeys := false, apart := false, laid := [("unicode/utf8.acceptRanges", laid_unicode_utf8_acceptRanges), ("comfit/moulds.steps", laid_comfit_moulds_steps), ("unicode/utf8.first", laid_unicode_utf8_first)] }
def MouldsFillsSaid : Prop := mouldsFillsRow.holds Tryd.pinned (OpenSpec.ofChange mouldsFillsSpec)

/-- ITS FALSE NEIGHBOUR: 'it returns false'. Refute it at one input. -/
def mouldsFillsWrong : ChangeSpec := { name := "mouldsFills", fn := fun _ => fun
  | [d1, d2, d3] => { results := [.lit (.bool false)], args := [d1, d2, d3] }
  | _ => none }
def MouldsFillsWrongFalsely : Prop := mouldsFillsRow.holds Tryd.pinned (OpenSpec.ofChange mouldsFillsWrong)

/-- 'comfitlaw07.MouldsTiles': WHATEVER THE INPUT: true; the input reads as it did. -/
def mouldsTilesSpec : ChangeSpec := { name := "mouldsTiles", fn := fun _ => fun
  | [d] => { results := [.lit (.bool true)], args := [d] }
  | _ => none }
def mouldsTilesRow : OpenClaim := { program := "ytfommfgokpiieabdoor", sum := "060414539ab922587616119f648136706dde9eed98c39e40d4a5aa9fcbabee14", func := "comfit/comfitlaw07.MouldsTiles", spec := "mouldsTiles", inPlace := ["internal/bytealg.IndexByteString", "internal/bytealg.IndexString"], unfollowed := true, recurses := true, named := ["unicode/utf8.first", "unicode/utf8.acceptRanges", "comfit/moulds.steps", "internal/bytealg.MaxLen"], plainKeys := false, apart := false, laid := [("unicode/utf8.acceptRanges", laid_unicode_utf8_acceptRanges), ("comfit/moulds.steps", laid_comfit_moulds_steps), ("unicode/utf8.first", laid_unicode_utf8_first)] }
def MouldsTilesSaid : Prop := mouldsTilesRow.holds Tryd.pinned (OpenSpec.ofChange mouldsTilesSpec)

/-- ITS FALSE NEIGHBOUR: 'it returns false'. Refute it at one input. -/
def mouldsTilesWrong : ChangeSpec := { name := "mouldsTiles", fn := fun _ => fun
  | [d] => { results := [.lit (.bool false)], args := [d] }
  | _ => none }
def MouldsTilesWrongFalsely : Prop := mouldsTilesRow.holds Tryd.pinned (OpenSpec.ofChange mouldsTilesWrong)

/-- 'comfitlaw07.MouldsMirrors': WHATEVER THE INPUT: true; the input reads as it did. -/
def mouldsMirrorsSpec : ChangeSpec := { name := "mouldsMirrors", fn := fun _ => fun
  | [d] => { results := [.lit (.bool true)], args := [d] }
  | _ => none }
def mouldsMirrorsRow : OpenClaim := { program := "ytfommfgokpiieabdoor", sum := "060414539ab922587616119f648136706dde9eed98c39e40d4a5aa9fcbabee14", func := "comfit/comfitlaw07.MouldsMirrors", spec := "mouldsMirrors", inPlace := ["internal/bytealg.IndexByteString", "internal/bytealg.IndexString"], named := ["unicode/utf8.first", "unicode/utf8.acceptRanges", "comfit/moulds.steps", "internal/bytealg.MaxLen"], plainKeys := false, apart := false, laid := [("unicode/utf8.acceptRanges", laid_unicode_utf8_acceptRanges), ("comfit/moulds.steps", laid_comfit_moulds_steps), ("unicode/utf8.first", laid_unicode_utf8_first)] }
def MouldsMirrorsSaid : Prop := mouldsMirrorsRow.holds Tryd.pinned (OpenSpec.ofChange mouldsMirrorsSpec)

/-- ITS FALSE NEIGHBOUR: 'it returns false'. Refute it at one input. -/
def mouldsMirrorsWrong : ChangeSpec := { name := "mouldsMirrors", fn := fun _ => fun
  | [d] => { results := [.lit (.bool false)], args := [d] }
  | _ => none }
def MouldsMirrorsWrongFalsely : Prop := mouldsMirrorsRow.holds Tryd.pinned (OpenSpec.ofChange mouldsMirrorsWrong)

/-- 'comfitlaw07.MouldsRound': WHATEVER THE INPUT: true; the input reads as it did. -/
def mouldsRoundSpec : ChangeSpec := { name := "mouldsRound", fn := fun _ => fun
  | [d1, d2] => { results := [.lit (.bool true)], args := [d1, d2] }
  | _ => none }
def mouldsRoundRow : OpenClaim := { program := "ytfommfgokpiieabdoor", sum := "060414539ab922587616119f648136706dde9eed98c39e40d4a5aa9fcbabee14", func := "comfit/comfitlaw07.MouldsRound", spec := "mouldsRound", inPlace := ["internal/bytealg.IndexByteString", "internal/bytealg.IndexString"], unfollowed := true, recurses := true, named := ["unicode/utf8.first", "unicode/utf8.acceptRanges", "comfit/moulds.steps", "internal/bytealg.MaxLen"], plainKeys := false, apart := false, laid := [("unicode/utf8.acceptRanges", laid_unicode_utf8_acceptRanges), ("comfit/moulds.steps", laid_comfit_moulds_steps), ("unicode/utf8.first", laid_unicode_utf8_first)] }
def MouldsRoundSaid : Prop := mouldsRoundRow.holds Tryd.pinned (OpenSpec.ofChange mouldsRoundSpec)

/-- ITS FALSE NEIGHBOUR: 'it returns false'. Refute it at one input. -/
def mouldsRoundWrong : ChangeSpec := { name := "mouldsRound", fn := fun _ => fun
  | [d1, d2] => { results := [.lit (.bool false)], args := [d1, d2] }
  | _ => none }
def MouldsRoundWrongFalsely : Prop := mouldsRoundRow.holds Tryd.pinned (OpenSpec.ofChange mouldsRoundWrong)

/- THE SECOND FORM. 'bulk': how many values and letters a reading holds, each counted each time it is reached (what is shared counts as often as it is met; a slice's spare places count too). A statement '..UptoSaid' is the law's where the arguments, and the package variables that the reading takes, are together of bulk at most 1048576: NARROWER than '..Said'. Prove '..Said' where nothing that the law and all that it calls make is longer than what came in: it says more and counts as full. Else prove '..UptoSaid'. A law counts once. -/
mutual
def uptoBulk {H : Type} : DataW H → Nat
  | .lit (.string bytes) => bytes.length + 1
  | .lit _ => 1
  | .nil => 1
  | .ptr d => uptoBulk d + 1
  | .slice elems spare => uptoBulkAll elems + uptoBulkAll spare + 1
  | .agg parts => uptoBulkAll parts + 1
  | .iface _ d => uptoBulk d + 1
  | .map entries => uptoBulkEntries entries + 1
  | .held _ => 1
def uptoBulkAll {H : Type} : List (DataW H) → Nat
  | [] => 0
  | d :: r => uptoBulk d + uptoBulkAll r
def uptoBulkEntries {H : Type} : List (Lit × DataW H) → Nat
  | [] => 0
  | x :: r => uptoBulkEntry x + uptoBulkEntries r
def uptoBulkEntry {H : Type} : Lit × DataW H → Nat
  | (.string bytes, d) => bytes.length + uptoBulk d + 1
  | (_, d) => uptoBulk d + 1
 end
def uptoSmall : (H : Type) → List (DataW H) → Bool := fun _ ds => decide (uptoBulkAll ds ≤ 1048576)
def OpenSpec.upto (s : _root_.Go.ChangeSpec) : _root_.Go.OpenSpec := { _root_.Go.OpenSpec.ofChange s with cond := some uptoSmall }

/-- 'comfitlaw07.MouldsFills', WHERE WHAT IT READS IS OF BULK AT MOST 1048576: true; the input reads as it did. -/
def mouldsFillsUptoRow : OpenClaim := { program := "ytfommfgokpiieabdoor", sum := "060414539ab922587616119f648136706dde9eed98c39e40d4a5aa9fcbabee14", func := "comfit/comfitlaw07.MouldsFills", spec := "mouldsFills", inPlace := ["internal/bytealg.IndexByteString", "internal/bytealg.IndexString"], named := ["unicode/utf8.first", "unicode/utf8.acceptRanges", "comfit/moulds.steps", "internal/bytealg.MaxLen"], plainKeys := false, apart := false, laid := [("unicode/utf8.acceptRanges", laid_unicode_utf8_acceptRanges), ("comfit/moulds.steps", laid_comfit_moulds_steps), ("unicode/utf8.first", laid_unicode_utf8_first)], narrowed := true }
def MouldsFillsUptoSaid : Prop := mouldsFillsUptoRow.holds Tryd.pinned (OpenSpec.upto mouldsFillsSpec)

/-- 'comfitlaw07.MouldsTiles', WHERE WHAT IT READS IS OF BULK AT MOST 1048576: true; the input reads as it did. -/
def mouldsTilesUptoRow : OpenClaim := { program := "ytfommfgokpiieabdoor", sum := "060414539ab922587616119f648136706dde9eed98c39e40d4a5aa9fcbabee14", func := "comfit/comfitlaw07.MouldsTiles", spec := "mouldsTiles", inPlace := ["internal/bytealg.IndexByteString", "internal/bytealg.IndexString"], unfollowed := true, recurses := true, named := ["unicode/utf8.first", "unicode/utf8.acceptRanges", "comfit/moulds.steps", "internal/bytealg.MaxLen"], plainKeys := false, apart := false, laid := [("unicode/utf8.acceptRanges", laid_unicode_utf8_acceptRanges), ("comfit/moulds.steps", laid_comfit_moulds_steps), ("unicode/utf8.first", laid_unicode_utf8_first)], narrowed := true }
def MouldsTilesUptoSaid : Prop := mouldsTilesUptoRow.holds Tryd.pinned (OpenSpec.upto mouldsTilesSpec)

/-- 'comfitlaw07.MouldsMirrors', WHERE WHAT IT READS IS OF BULK AT MOST 1048576: true; the input reads as it did. -/
def mouldsMirrorsUptoRow : OpenClaim := { program := "ytfommfgokpiieabdoor", sum := "060414539ab922587616119f648136706dde9eed98c39e40d4a5aa9fcbabee14", func := "comfit/comfitlaw07.MouldsMirrors", spec := "mouldsMirrors", inPlace := ["internal/bytealg.IndexByteString", "internal/bytealg.IndexString"], named := ["unicode/utf8.first", "unicode/utf8.acceptRanges", "comfit/moulds.steps", "internal/bytealg.MaxLen"], plainKeys := false, apart := false, laid := [("unicode/utf8.acceptRanges", laid_unicode_utf8_acceptRanges), ("comfit/moulds.steps", laid_comfit_moulds_steps), ("unicode/utf8.first", laid_unicode_utf8_first)], narrowed := true }
def MouldsMirrorsUptoSaid : Prop := mouldsMirrorsUptoRow.holds Tryd.pinned (OpenSpec.upto mouldsMirrorsSpec)

/-- 'comfitlaw07.MouldsRound', WHERE WHAT IT READS IS OF BULK AT MOST 1048576: true; the input reads as it did. -/
def mouldsRoundUptoRow : OpenClaim := { program := "ytfommfgokpiieabdoor", sum := "060414539ab922587616119f648136706dde9eed98c39e40d4a5aa9fcbabee14", func := "comfit/comfitlaw07.MouldsRound", spec := "mouldsRound", inPlace := ["internal/bytealg.IndexByteString", "internal/bytealg.IndexString"], unfollowed := true, recurses := true, named := ["unicode/utf8.first", "unicode/utf8.acceptRanges", "comfit/moulds.steps", "internal/bytealg.MaxLen"], plainKeys := false, apart := false, laid := [("unicode/utf8.acceptRanges", laid_unicode_utf8_acceptRanges), ("comfit/moulds.steps", laid_comfit_moulds_steps), ("unicode/utf8.first", laid_unicode_utf8_first)], narrowed := true }
def MouldsRoundUptoSaid : Prop := mouldsRoundUptoRow.holds Tryd.pinned (OpenSpec.upto mouldsRoundSpec)

end Rows
end Go.Proofs.YtfommfgokpiieabDoor
