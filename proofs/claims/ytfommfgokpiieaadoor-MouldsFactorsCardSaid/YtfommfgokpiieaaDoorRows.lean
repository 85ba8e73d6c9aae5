/-
  NARROWER THAN 'FOR EVERY INPUT', by the rows' own cells (each row's printed sentence says how): MouldsIs: laid · MouldsOutlines: laid · MouldsTurns: laid · MouldsFactors: laid.
  DERIVED. THE GIVEN ROWS OF THIS SEAT. 4 by the template 'for every input the law returns true; each argument reads behind the call as it read before'; 0 by the template 'total and deterministic' (their statements: YtfommfgokpiieaaDoorTotals.lean).
  GIVEN WITH THE SEED: the statements are not yours to turn. If you find one false, say at which input.
  Laid BY PROGRAM, IN A SANDBOX (cutbox-rows.mjs): the forced cells as the released guide's own fill.sh prints them over the translation 914ce92c5c0bcbc6… (all of the seat's roots in one cut). By AI agents, Wed Nov 11 2026. No macro, syntax, notation, axiom, sorry.
-/
import Derived.Test.YtfommfgokpiieaaDoorChecked
import GoSem.PinnedTables
import GoSem.Claim
import GoSem.ClaimJoined
import GoSem.ClaimMapViews
import Derived.JoinedTies
import Derived.KernelRfl
namespace Go.Proofs.YtfommfgokpiieaaDoor
/- THE CELL 'sum', in the pinned program and in every row, IS THE sha256 OF THE DUMP (.gsa) THAT YtfommfgokpiieaaDoorProg.lean LOADS. Nothing in Lean hashes anything: it is a label: what it is worth is what the hold of that sum in a sandbox is worth. -/
noncomputable def Tryd.pinned : Pinned := { name := "ytfommfgokpiieaadoor", sum := "914ce92c5c0bcbc635e8d6839d1bd4f35b755e98467ebc430a1636d999114348", checked := Tryd.checked }
namespace Rows
def none {H : Type} : Left H := { results := [], args := [] }

/- WHAT THE LISTED PACKAGE-LEVEL VARIABLES READ AS WHEN THE CALL BEGINS. Each datum BY PROGRAM (the guide's laid-datum.mjs) off the statement by which the dump's own 'gosem.cut.vars' lays the variable. In a bare row this is a premise. The card (YtfommfgokpiieaaDoorCards.lean) ties it to the program's text. -/
def laid_unicode_utf8_acceptRanges {H : Type} : DataW H := .agg [.agg [.lit (.int .u8 128), .lit (.int .u8 191)], .agg [.lit (.int .u8 160), .lit (.int .u8 191)], .agg [.lit (.int .u8 128), .lit (.int .u8 159)], .agg [.lit (.int .u8 144), .lit (.int .u8 191)], .agg [.lit (.int .u8 128), .lit (.int .u8 143)], .agg [.lit (.int .u8 0), .lit (.int .u8 0)], .agg [.lit (.int .u8 0), .lit (.int .u8 0)], .agg [.lit (.int .u8 0), .lit (.int .u8 0)], .agg [.lit (.int .u8 0), .lit (.int .u8 0)], .agg [.lit (.int .u8 0), .lit (.int .u8 0)], .agg [.lit (.int .u8 0), .lit (.int .u8 0)], .agg [.lit (.int .u8 0), .lit (.int .u8 0)], .agg [.lit (.int .u8 0), .lit (.int .u8 0)], .agg [.lit (.int .u8 0), .lit (.int .u8 0)], .agg [.lit (.int .u8 0), .lit (.int .u8 0)], .agg [.lit (.int .u8 0), .lit (.int .u8 0)]]
def laid_comfit_moulds_steps {H : Type} : DataW H := .agg [.agg [.lit (.int .i64 1), .lit (.int .i64 0)], .agg [.lit (.int .i64 0), .lit (.int .i64 1)], .agg [.lit (.int .i64 (-1)), .lit (.int .i64 0)], .agg [.lit (.int .i64 0), .lit (.int .i64 (-1))]]
/-- One of Go's own tables, pinned by name: the form's constant. -/
def laid_unicode_utf8_first : DataW Unit := Go.Pinned.utf8First

/-- 'comfitlaw07.MouldsIs': WHATEVER THE INPUT: true; the input reads as it did. -/
def mouldsIsSpec : ChangeSpec := { name := "mouldsIs", fn := fun _ => fun
  | [d] => { results := [.lit (.bool true)], args := [d] }
  | _ => none }
def mouldsIsRow : OpenClaim := { program := "ytfommfgokpiieaadoor", sum := "914ce92c5c0bcbc635e8d6839d1bd4f35b755e98467ebc430a1636d999114348", func := "comfit/comfitlaw07.MouldsIs", spec := "mouldsIs", inPlace := ["internal/bytealg.IndexByteString", "internal/bytealg.IndexString"], unfollowed := true, recurses := true, named := ["unicode/utf8.first", "unicode/utf8.acceptRanges", "comfit/moulds.steps", "internal/bytealg.MaxLen"], plainKeys := false, apart := false, laid := [("unicode/utf8.acceptRanges", laid_unicode_utf8_acceptRanges), ("comfit/moulds.steps", laid_comfit_moulds_steps), ("unicode/utf8.first", laid_unicode_utf8_first)] }
def MouldsIsSaid : Prop := mouldsIsRow.holds Tryd.pinned (OpenSpec.ofChange mouldsIsSpec)

/-- ITS FALSE NEIGHBOUR: 'it returns false'. Refute it at one input. -/
def mouldsIsWrong : ChangeSpec := { name := "mouldsIs", fn := fun _ => fun
  | [d] => { results := [.lit (.bool false)], args := [d] }
  | _ => none }
def MouldsIsWrongFalsely : Prop := mouldsIsRow.holds Tryd.pinned (OpenSpec.ofChange mouldsIsWrong)

/-- 'comfitlaw07.MouldsOutlines': WHATEVER THE INPUT: true; the input reads as it did. -/
def mouldsOutlinesSpec : ChangeSpec := { name := "mouldsOutlines", fn := fun _ => fun
  | [d] => { results := [.lit (.bool true)], args := [d] }
  | _ => none }
def mouldsOutlinesRow : OpenClaim := { program := "ytfommfgokpiieaadoor", sum := "914ce92c5c0bcbc635e8d6839d1bd4f35b755e98467ebc430a1636d999114348", func := "comfit/comfitlaw07.MouldsOutlines", spec := "mouldsOutlines", inPlace := ["internal/bytealg.IndexByteString", "internal/bytealg.IndexString"], named := ["comfit/moulds.steps", "unicode/utf8.first", "unicode/utf8.acceptRanges", "internal/bytealg.MaxLen"], plainKeys := false, apart := false, laid := [("unicode/utf8.acceptRanges", laid_unicode_utf8_acceptRanges), ("comfit/moulds.steps", laid_comfit_moulds_steps), ("unicode/utf8.first", laid_unicode_utf8_first)] }
def MouldsOutlinesSaid : Prop := mouldsOutlinesRow.holds Tryd.pinned (OpenSpec.ofChange mouldsOutlinesSpec)

/-- ITS FALSE NEIGHBOUR: 'it returns false'. Refute it at one input. -/
def mouldsOutlinesWrong : ChangeSpec := { name := "mouldsOutlines", fn := fun _ => fun
  | [d] => { results := [.lit (.bool false)], args := [d] }
  | _ => none }
def MouldsOutlinesWrongFalsely : Prop := mouldsOutlinesRow.holds Tryd.pinned (OpenSpec.ofChange mouldsOutlinesWrong)

/-- 'comfitlaw07.MouldsTurns': WHATEVER THE INPUT: true; the input reads as it did. -/
def mouldsTurnsSpec : ChangeSpec := { name := "mouldsTurns", fn := fun _ => fun
  | [d] => { results := [.lit (.bool true)], args := [d] }
  | _ => none }
def mouldsTurnsRow : OpenClaim := { program := "ytfommfgokpiieaadoor", sum := "914ce92c5c0bcbc635e8d6839d1bd4f35b755e98467ebc430a1636d999114348", func := "comfit/comfitlaw07.MouldsTurns", spec := "mouldsTurns", inPlace := ["internal/bytealg.IndexByteString", "internal/bytealg.IndexString"], named := ["unicode/utf8.first", "unicode/utf8.acceptRanges", "comfit/moulds.steps", "internal/bytealg.MaxLen"], plainKeys := false, apart := false, laid := [("unicode/utf8.acceptRanges", laid_unicode_utf8_acceptRanges), ("comfit/moulds.steps", laid_comfit_moulds_steps), ("unicode/utf8.first", laid_unicode_utf8_first)] }
def MouldsTurnsSaid : Prop := mouldsTurnsRow.holds Tryd.pinned (OpenSpec.ofChange mouldsTurnsSpec)

/-- ITS FALSE NEIGHBOUR: 'it returns false'. Refute it at one input. -/
def mouldsTurnsWrong : ChangeSpec := { name := "mouldsTurns", fn := fun _ => fun
  | [d] => { results := [.lit (.bool false)], args := [d] }
  | _ => none }
def MouldsTurnsWrongFalsely : Prop := mouldsTurnsRow.holds Tryd.pinned (OpenSpec.ofChange mouldsTurnsWrong)

/-- 'comfitlaw07.MouldsFactors': WHATEVER THE INPUT: true; the input reads as it did. -/
def mouldsFactorsSpec : ChangeSpec := { name := "mouldsFactors", fn := fun _ => fun
  | [d] => { results := [.lit (.bool true)], args := [d] }
  | _ => none }
def mouldsFactorsRow : OpenClaim := { program := "ytfommfgokpiieaadoor", sum := "914ce92c5c0bcbc635e8d6839d1bd4f35b755e98467ebc430a1636d999114348", func := "comfit/comfitlaw07.MouldsFactors", spec := "mouldsFactors", inPlace := ["internal/bytealg.IndexByteString", "internal/bytealg.IndexString"], unfollowed := true, recurses := true, named := ["unicode/utf8.first", "unicode/utf8.acceptRanges", "comfit/moulds.steps", "internal/bytealg.MaxLen"], plainKeys := false, apart := false, laid := [("unicode/utf8.acceptRanges", laid_unicode_utf8_acceptRanges), ("comfit/moulds.steps", laid_comfit_moulds_steps), ("unicode/utf8.first", laid_unicode_utf8_first)] }
def MouldsFactorsSaid : Prop := mouldsFactorsRow.holds Tryd.pinned (OpenSpec.ofChange mouldsFactorsSpec)

/-- ITS FALSE NEIGHBOUR: 'it returns false'. Refute it at one input. -/
def mouldsFactorsWrong : ChangeSpec := { name := "mouldsFactors", fn := fun _ => fun
  | [d] => { results := [.lit (.bool false)], args := [d] }
  | _ => none }
def MouldsFactorsWrongFalsely : Prop := mouldsFactorsRow.holds Tryd.pinned (OpenSpec.ofChange mouldsFactorsWrong)

/- THE SECOND FORM. 'bulk': how many values and letters a reading holds, each counted each time it is reached (what is shared counts as often as it is met; a slice's spare places count too). A statement '..UptoSaid' is the law's where the arguments, and the package variables that the reading takes, are together of bulk at most 1048576: NARROWER than '..Said'. Prove '..Said' where nothing that the law and all that it calls make is longer than what came in: it says more and counts as full. Else prove '..UptoSaid'. A law counts once. -/
mutual
def uptoBulk {H : Type} : DataW H → Nat
  | .lit (.string bytes) => bytes.length + 1
  | .lit _ => 1
  | .nil => 1
  | .ptr d => uptoBulk d + 1
  | .slice elems spare => uptoBulkAll elems + uptoBulkAll spare + 1
  | .agg parts => uptoBulkAll parts + 1
  | .iface _ d => uptoBulk d + 1
  | .map entries => uptoBulkEntries entries + 1
  | .held _ => 1
def uptoBulkAll {H : Type} : List (DataW H) → Nat
  | [] => 0
  | d :: r => uptoBulk d + uptoBulkAll r
def uptoBulkEntries {H : Type} : List (Lit × DataW H) → Nat
  | [] => 0
  | x :: r => uptoBulkEntry x + uptoBulkEntries r
def uptoBulkEntry {H : Type} : Lit × DataW H → Nat
  | (.string bytes, d) => bytes.length + uptoBulk d + 1
  | (_, d) => uptoBulk d + 1
 end
def uptoSmall : (H : Type) → List (DataW H) → Bool := fun _ ds => decide (uptoBulkAll ds ≤ 1048576)
def OpenSpec.upto (s : _root_.Go.ChangeSpec) : _root_.Go.OpenSpec := { _root_.Go.OpenSpec.ofChange s with cond := some uptoSmall }

/-- 'comfitlaw07.MouldsIs', WHERE WHAT IT READS IS OF BULK AT MOST 1048576: true; the input reads as it did. -/
def mouldsIsUptoRow : OpenClaim := { program := "ytfommfgokpiieaadoor", sum := "914ce92c5c0bcbc635e8d6839d1bd4f35b755e98467ebc430a1636d999114348", func := "comfit/comfitlaw07.MouldsIs", spec := "mouldsIs", inPlace := ["internal/bytealg.IndexByteString", "internal/bytealg.IndexString"], unfollowed := true, recurses := true, named := ["unicode/utf8.first", "unicode/utf8.acceptRanges", "comfit/moulds.steps", "internal/bytealg.MaxLen"], plainKeys := false, apart := false, laid := [("unicode/utf8.acceptRanges", laid_unicode_utf8_acceptRanges), ("comfit/moulds.steps", laid_comfit_moulds_steps), ("unicode/utf8.first", laid_unicode_utf8_first)], narrowed := true }
def MouldsIsUptoSaid : Prop := mouldsIsUptoRow.holds Tryd.pinned (OpenSpec.upto mouldsIsSpec)

/-- 'comfitlaw07.MouldsOutlines', WHERE WHAT IT READS IS OF BULK AT MOST 1048576: true; the input reads as it did. -/
def mouldsOutlinesUptoRow : OpenClaim := { program := "ytfommfgokpiieaadoor", sum := "914ce92c5c0bcbc635e8d6839d1bd4f35b755e98467ebc430a1636d999114348", func := "comfit/comfitlaw07.MouldsOutlines", spec := "mouldsOutlines", inPlace := ["internal/bytealg.IndexByteString", "internal/bytealg.IndexString"], named := ["comfit/moulds.steps", "unicode/utf8.first", "unicode/utf8.acceptRanges", "internal/bytealg.MaxLen"], plainKeys := false, apart := false, laid := [("unicode/utf8.acceptRanges", laid_unicode_utf8_acceptRanges), ("comfit/moulds.steps", laid_comfit_moulds_steps), ("unicode/utf8.first", laid_unicode_utf8_first)], narrowed := true }
def MouldsOutlinesUptoSaid : Prop := mouldsOutlinesUptoRow.holds Tryd.pinned (OpenSpec.upto mouldsOutlinesSpec)

/-- 'comfitlaw07.MouldsTurns', WHERE WHAT IT READS IS OF BULK AT MOST 1048576: true; the input reads as it did. -/
def mouldsTurnsUptoRow : OpenClaim := { program := "ytfommfgokpiieaadoor", sum := "914ce92c5c0bcbc635e8d6839d1bd4f35b755e98467ebc430a1636d999114348", func := "comfit/comfitlaw07.MouldsTurns", spec := "mouldsTurns", inPlace := ["internal/bytealg.IndexByteString", "internal/bytealg.IndexString"], named := ["unicode/utf8.first", "unicode/utf8.acceptRanges", "comfit/moulds.steps", "internal/bytealg.MaxLen"], plainKeys := false, apart := false, laid := [("unicode/utf8.acceptRanges", laid_unicode_utf8_acceptRanges), ("comfit/moulds.steps", laid_comfit_moulds_steps), ("unicode/utf8.first", laid_unicode_utf8_first)], narrowed := true }
def MouldsTurnsUptoSaid : Prop := mouldsTurnsUptoRow.holds Tryd.pinned (OpenSpec.upto mouldsTurnsSpec)

/-- 'comfitlaw07.MouldsFactors', WHERE WHAT IT READS IS OF BULK AT MOST 1048576: true; the input reads as it did. -/
def mouldsFactorsUptoRow : OpenClaim := { program := "ytfommfgokpiieaadoor", sum := "914ce92c5c0bcbc635e8d6839d1bd4f35b755e98467ebc430a1636d999114348", func := "comfit/comfitlaw07.MouldsFactors", spec := "mouldsFactors", inPlace := ["internal/bytealg.IndexByteString", "internal/bytealg.IndexString"], unfollowed := true, recurses := true, named := ["unicode/utf8.first", "unicode/utf8.acceptRanges", "comfit/moulds.steps", "internal/bytealg.MaxLen"], plainKeys := false, apart := false, laid := [("unicode/utf8.acceptRanges", laid_unicode_utf8_acceptRanges), ("comfit/moulds.steps", laid_comfit_moulds_steps), ("unicode/utf8.first", laid_unicode_utf8_first)], narrowed := true }
def MouldsFactorsUptoSaid : Prop := mouldsFactorsUptoRow.holds Tryd.pinned (OpenSpec.upto mouldsFactorsSpec)

end Rows
end Go.Proofs.YtfommfgokpiieaaDoor
