/-
  NARROWER THAN 'FOR EVERY INPUT', by the rows' own cells (each row's printed sentence says how): MouldsLong: laid · MouldsLaid: laid · MouldsEither: laid · MouldsRoom: laid.
  DERIVED. THE GIVEN ROWS OF THIS SEAT. 4 by the template 'for every input the law returns true; each argument reads behind the call as it read before'; 0 by the template 'total and deterministic' (their statements: YtfommfgokpiieacDoorTotals.lean).
  GIVEN WITH THE SEED: the statements are not yours to turn. If you find one false, say at which input.
  Laid BY PROGRAM, IN A SANDBOX (cutbox-rows.mjs): the forced cells as the released guide's own fill.sh prints them over the translation 59f61931bc691bd3… (all of the seat's roots in one cut). By AI agents, Wed Nov 11 2026. No macro, syntax, notation, axiom, sorry.
-/
import Derived.Test.YtfommfgokpiieacDoorChecked
import GoSem.PinnedTables
import GoSem.Claim
import GoSem.ClaimJoined
import GoSem.ClaimMapViews
import Derived.JoinedTies
import Derived.KernelRfl
namespace Go.Proofs.YtfommfgokpiieacDoor
/- THE CELL 'sum', in the pinned program and in every row, IS THE sha256 OF THE DUMP (.gsa) THAT YtfommfgokpiieacDoorProg.lean LOADS. Nothing in Lean hashes anything: it is a label: what it is worth is what the hold of that sum in a sandbox is worth. -/
noncomputable def Tryd.pinned : Pinned := { name := "ytfommfgokpiieacdoor", sum := "59f61931bc691bd3735aaaf28404ad20dd602f4f0b9e323da987c84308b1ba27", checked := Tryd.checked }
namespace Rows
def none {H : Type} : Left H := { results := [], args := [] }

/- WHAT THE LISTED PACKAGE-LEVEL VARIABLES READ AS WHEN THE CALL BEGINS. Each datum BY PROGRAM (the guide's laid-datum.mjs) off the statement by which the dump's own 'gosem.cut.vars' lays the variable. In a bare row this is a premise. The card (YtfommfgokpiieacDoorCards.lean) ties it to the program's text. -/
def laid_unicode_utf8_acceptRanges {H : Type} : DataW H := .agg [.agg [.lit (.int .u8 128), .lit (.int .u8 191)], .agg [.lit (.int .u8 160), .lit (.int .u8 191)], .agg [.lit (.int .u8 128), .lit (.int .u8 159)], .agg [.lit (.int .u8 144), .lit (.int .u8 191)], .agg [.lit (.int .u8 128), .lit (.int .u8 143)], .agg [.lit (.int .u8 0), .lit (.int .u8 0)], .agg [.lit (.int .u8 0), .lit (.int .u8 0)], .agg [.lit (.int .u8 0), .lit (.int .u8 0)], .agg [.lit (.int .u8 0), .lit (.int .u8 0)], .agg [.lit (.int .u8 0), .lit (.int .u8 0)], .agg [.lit (.int .u8 0), .lit (.int .u8 0)], .agg [.lit (.int .u8 0), .lit (.int .u8 0)], .agg [.lit (.int .u8 0), .lit (.int .u8 0)], .agg [.lit (.int .u8 0), .lit (.int .u8 0)], .agg [.lit (.int .u8 0), .lit (.int .u8 0)], .agg [.lit (.int .u8 0), .lit (.int .u8 0)]]
def laid_comfit_moulds_steps {H : Type} : DataW H := .agg [.agg [.lit (.int .i64 1), .lit (.int .i64 0)], .agg [.lit (.int .i64 0), .lit (.int .i64 1)], .agg [.lit (.int .i64 (-1)), .lit (.int .i64 0)], .agg [.lit (.int .i64 0), .lit (.int .i64 (-1))]]
/-- One of Go's own tables, pinned by name: the form's constant. -/
def laid_unicode_utf8_first : DataW Unit := Go.Pinned.utf8First

/-- 'comfitlaw07.MouldsLong': WHATEVER THE INPUT: true; the input reads as it did. -/
def mouldsLongSpec : ChangeSpec := { name := "mouldsLong", fn := fun _ => fun
  | [d] => { results := [.lit (.bool true)], args := [d] }
  | _ => none }
def mouldsLongRow : OpenClaim := { program := "ytfommfgokpiieacdoor", sum := "59f61931bc691bd3735aaaf28404ad20dd602f4f0b9e323da987c84308b1ba27", func := "comfit/comfitlaw07.MouldsLong", spec := "mouldsLong", inPlace := ["internal/bytealg.IndexByteString", "internal/bytealg.IndexString"], unfollowed := true, recurses := true, named := ["unicode/utf8.first", "unicode/utf8.acceptRanges", "comfit/moulds.steps", "internal/bytealg.MaxLen"], plainKeys := false, apart := false, laid := [("unicode/utf8.acceptRanges", laid_unicode_utf8_acceptRanges), ("comfit/moulds.steps", laid_comfit_moulds_steps), ("unicode/utf8.first", laid_unicode_utf8_first)] }
def MouldsLongSaid : Prop := mouldsLongRow.holds Tryd.pinned (OpenSpec.ofChange mouldsLongSpec)

/-- ITS FALSE NEIGHBOUR: 'it returns false'. Refute it at one input. -/
def mouldsLongWrong : ChangeSpec := { name := "mouldsLong", fn := fun _ => fun
  | [d] => { results := [.lit (.bool false)], args := [d] }
  | _ => none }
def MouldsLongWrongFalsely : Prop := mouldsLongRow.holds Tryd.pinned (OpenSpec.ofChange mouldsLongWrong)

/-- 'comfitlaw07.MouldsLaid': WHATEVER THE INPUT: true; the input reads as it did. -/
def mouldsLaidSpec : ChangeSpec := { name := "mouldsLaid", fn := fun _ => fun
  | [d] => { results := [.lit (.bool true)], args := [d] }
  | _ => none }
def mouldsLaidRow : OpenClaim := { program := "ytfommfgokpiieacdoor", sum := "59f61931bc691bd3735aaaf28404ad20dd602f4f0b9e323da987c84308b1ba27", func := "comfit/comfitlaw07.MouldsLaid", spec := "mouldsLaid", inPlace := ["internal/bytealg.IndexByteString", "internal/bytealg.IndexString"], unfollowed := true, recurses := true, named := ["unicode/utf8.first", "unicode/utf8.acceptRanges", "comfit/moulds.steps", "internal/bytealg.MaxLen"], plainKeys := false, apart := false, laid := [("unicode/utf8.acceptRanges", laid_unicode_utf8_acceptRanges), ("comfit/moulds.steps", laid_comfit_moulds_steps), ("unicode/utf8.first", laid_unicode_utf8_first)] }
def MouldsLaidSaid : Prop := mouldsLaidRow.holds Tryd.pinned (OpenSpec.ofChange mouldsLaidSpec)

/-- ITS FALSE NEIGHBOUR: 'it returns false'. Refute it at one input. -/
def mouldsLaidWrong : ChangeSpec := { name := "mouldsLaid", fn := fun _ => fun
  | [d] => { results := [.lit (.bool false)], args := [d] }
  | _ => none }
def MouldsLaidWrongFalsely : Prop := mouldsLaidRow.holds Tryd.pinned (OpenSpec.ofChange mouldsLaidWrong)

/-- 'comfitlaw07.MouldsEither': WHATEVER THE INPUT: true; the input reads as it did. -/
def mouldsEitherSpec : ChangeSpec := { name := "mouldsEither", fn := fun _ => fun
  | [d] => { results := [.lit (.bool true)], args := [d] }
  | _ => none }
def mouldsEitherRow : OpenClaim := { program := "ytfommfgokpiieacdoor", sum := "59f61931bc691bd3735aaaf28404ad20dd602f4f0b9e323da987c84308b1ba27", func := "comfit/comfitlaw07.MouldsEither", spec := "mouldsEither", inPlace := ["internal/bytealg.IndexByteString", "internal/bytealg.IndexString"], unfollowed := true, recurses := true, named := ["unicode/utf8.first", "unicode/utf8.acceptRanges", "comfit/moulds.steps", "internal/bytealg.MaxLen"], plainKeys := false, apart := false, laid := [("unicode/utf8.acceptRanges", laid_unicode_utf8_acceptRanges), ("comfit/moulds.steps", laid_comfit_moulds_steps), ("unicode/utf8.first", laid_unicode_utf8_first)] }
def MouldsEitherSaid : Prop := mouldsEitherRow.holds Tryd.pinned (OpenSpec.ofChange mouldsEitherSpec)

/-- ITS FALSE NEIGHBOUR: 'it returns false'. Refute it at one input. -/
def mouldsEitherWrong : ChangeSpec := { name := "mouldsEither", fn := fun _ => fun
  | [d] => { results := [.lit (.bool false)], args := [d] }
  | _ => none }
def MouldsEitherWrongFalsely : Prop := mouldsEitherRow.holds Tryd.pinned (OpenSpec.ofChange mouldsEitherWrong)

/-- 'comfitlaw07.MouldsRoom': WHATEVER THE INPUT: true; the input reads as it did. -/
def mouldsRoomSpec : ChangeSpec := { name := "mouldsRoom", fn := fun _ => fun
  | [d1, d2, d3, d4, d5] => { results := [.lit (.bool true)], args := [d1, d2, d3, d4, d5] }
  | _ => none }
def mouldsRoomRow : OpenClaim := { program := "ytfommfgokpiieacdoor", sum := "59f61931bc691bd3735aaaf28404ad20dd602f4f0b9e323da987c84308b1ba27", func := "comfit/comfitlaw07.MouldsRoom", spec := "mouldsRoom", inPlace := ["internal/bytealg.IndexByteString", "internal/bytealg.IndexString"], named := ["unicode/utf8.first", "unicode/utf8.acceptRanges", "comfit/moulds.steps", "internal/bytealg.MaxLen"], plainKeys := false, apart := false, laid := [("unicode/utf8.acceptRanges", laid_unicode_utf8_acceptRanges), ("comfit/moulds.steps", laid_comfit_moulds_steps), ("unicode/utf8.first", laid_unicode_utf8_first)] }
def MouldsRoomSaid : Prop := mouldsRoomRow.holds Tryd.pinned (OpenSpec.ofChange mouldsRoomSpec)

/-- ITS FALSE NEIGHBOUR: 'it returns false'. Refute it at one input. -/
def mouldsRoomWrong : ChangeSpec := { name := "mouldsRoom", fn := fun _ => fun
  | [d1, d2, d3, d4, d5] => { results := [.lit (.bool false)], args := [d1, d2, d3, d4, d5] }
  | _ => none }
def MouldsRoomWrongFalsely : Prop := mouldsRoomRow.holds Tryd.pinned (OpenSpec.ofChange mouldsRoomWrong)

/- THE SECOND FORM. 'bulk': how many values and letters a reading holds, each counted each time it is reached (what is shared counts as often as it is met; a slice's spare places count too). A statement '..UptoSaid' is the law's where the arguments, and the package variables that the reading takes, are together of bulk at most 1048576: NARROWER than '..Said'. Prove '..Said' where nothing that the law and all that it calls make is longer than what came in: it says more and counts as full. Else prove '..UptoSaid'. A law counts once. -/
mutual
def uptoBulk {H : Type} : DataW H → Nat
  | .lit (.string bytes) => bytes.length + 1
  | .lit _ => 1
  | .nil => 1
  | .ptr d => uptoBulk d + 1
  | .slice elems spare => uptoBulkAll elems + uptoBulkAll spare + 1
  | .agg parts => uptoBulkAll parts + 1
  | .iface _ d => uptoBulk d + 1
  | .map entries => uptoBulkEntries entries + 1
  | .held _ => 1
def uptoBulkAll {H : Type} : List (DataW H) → Nat
  | [] => 0
  | d :: r => uptoBulk d + uptoBulkAll r
def uptoBulkEntries {H : Type} : List (Lit × DataW H) → Nat
  | [] => 0
  | x :: r => uptoBulkEntry x + uptoBulkEntries r
def uptoBulkEntry {H : Type} : Lit × DataW H → Nat
  | (.string bytes, d) => bytes.length + uptoBulk d + 1
  | (_, d) => uptoBulk d + 1
 end
def uptoSmall : (H : Type) → List (DataW H) → Bool := fun _ ds => decide (uptoBulkAll ds ≤ 1048576)
def OpenSpec.upto (s : _root_.Go.ChangeSpec) : _root_.Go.OpenSpec := { _root_.Go.OpenSpec.ofChange s with cond := some uptoSmall }

/-- 'comfitlaw07.MouldsLong', WHERE WHAT IT READS IS OF BULK AT MOST 1048576: true; the input reads as it did. -/
def mouldsLongUptoRow : OpenClaim := { program := "ytfommfgokpiieacdoor", sum := "59f61931bc691bd3735aaaf28404ad20dd602f4f0b9e323da987c84308b1ba27", func := "comfit/comfitlaw07.MouldsLong", spec := "mouldsLong", inPlace := ["internal/bytealg.IndexByteString", "internal/bytealg.IndexString"], unfollowed := true, recurses := true, named := ["unicode/utf8.first", "unicode/utf8.acceptRanges", "comfit/moulds.steps", "internal/bytealg.MaxLen"], plainKeys := false, apart := false, laid := [("unicode/utf8.acceptRanges", laid_unicode_utf8_acceptRanges), ("comfit/moulds.steps", laid_comfit_moulds_steps), ("unicode/utf8.first", laid_unicode_utf8_first)], narrowed := true }
def MouldsLongUptoSaid : Prop := mouldsLongUptoRow.holds Tryd.pinned (OpenSpec.upto mouldsLongSpec)

/-- 'comfitlaw07.MouldsLaid', WHERE WHAT IT READS IS OF BULK AT MOST 1048576: true; the input reads as it did. -/
def mouldsLaidUptoRow : OpenClaim := { program := "ytfommfgokpiieacdoor", sum := "59f61931bc691bd3735aaaf28404ad20dd602f4f0b9e323da987c84308b1ba27", func := "comfit/comfitlaw07.MouldsLaid", spec := "mouldsLaid", inPlace := ["internal/bytealg.IndexByteString", "internal/bytealg.IndexString"], unfollowed := true, recurses := true, named := ["unicode/utf8.first", "unicode/utf8.acceptRanges", "comfit/moulds.steps", "internal/bytealg.MaxLen"], plainKeys := false, apart := false, laid := [("unicode/utf8.acceptRanges", laid_unicode_utf8_acceptRanges), ("comfit/moulds.steps", laid_comfit_moulds_steps), ("unicode/utf8.first", laid_unicode_utf8_first)], narrowed := true }
def MouldsLaidUptoSaid : Prop := mouldsLaidUptoRow.holds Tryd.pinned (OpenSpec.upto mouldsLaidSpec)

/-- 'comfitlaw07.MouldsEither', WHERE WHAT IT READS IS OF BULK AT MOST 1048576: true; the input reads as it did. -/
def mouldsEitherUptoRow : OpenClaim := { program := "ytfommfgokpiieacdoor", sum := "59f61931bc691bd3735aaaf28404ad20dd602f4f0b9e323da987c84308b1ba27", func := "comfit/comfitlaw07.MouldsEither", spec := "mouldsEither", inPlace := ["internal/bytealg.IndexByteString", "internal/bytealg.IndexString"], unfollowed := true, recurses := true, named := ["unicode/utf8.first", "unicode/utf8.acceptRanges", "comfit/moulds.steps", "internal/bytealg.MaxLen"], plainKeys := false, apart := false, laid := [("unicode/utf8.acceptRanges", laid_unicode_utf8_acceptRanges), ("comfit/moulds.steps", laid_comfit_moulds_steps), ("unicode/utf8.first", laid_unicode_utf8_first)], narrowed := true }
def MouldsEitherUptoSaid : Prop := mouldsEitherUptoRow.holds Tryd.pinned (OpenSpec.upto mouldsEitherSpec)

/-- 'comfitlaw07.MouldsRoom', WHERE WHAT IT READS IS OF BULK AT MOST 1048576: true; the input reads as it did. -/
def mouldsRoomUptoRow : OpenClaim := { program := "ytfommfgokpiieacdoor", sum := "59f61931bc691bd3735aaaf28404ad20dd602f4f0b9e323da987c84308b1ba27", func := "comfit/comfitlaw07.MouldsRoom", spec := "mouldsRoom", inPlace := ["internal/bytealg.IndexByteString", "internal/bytealg.IndexString"], named := ["unicode/utf8.first", "unicode/utf8.acceptRanges", "comfit/moulds.steps", "internal/bytealg.MaxLen"], plainKeys := false, apart := false, laid := [("unicode/utf8.acceptRanges", laid_unicode_utf8_acceptRanges), ("comfit/moulds.steps", laid_comfit_moulds_steps), ("unicode/utf8.first", laid_unicode_utf8_first)], narrowed := true }
def MouldsRoomUptoSaid : Prop := mouldsRoomUptoRow.holds Tryd.pinned (OpenSpec.upto mouldsRoomSpec)

end Rows
end Go.Proofs.YtfommfgokpiieacDoor
