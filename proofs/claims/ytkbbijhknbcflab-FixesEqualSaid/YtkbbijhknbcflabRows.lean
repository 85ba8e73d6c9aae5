/-
  No cell of these rows narrows 'for every input' (looked for: loops, veiled, ifaces, maps, wideKeys, modest, calm, conditions, laid).
  DERIVED. THE GIVEN ROWS OF THIS SEAT. 3 by the template 'for every input the law returns true; each argument reads behind the call as it read before'; 0 by the template 'total and deterministic' (their statements: YtkbbijhknbcflabTotals.lean).
  GIVEN WITH THE SEED: the statements are not yours to turn. If you find one false, say at which input.
  Laid BY PROGRAM, IN A SANDBOX (cutbox-rows.mjs): the forced cells as the released guide's own fill.sh prints them over the translation f8e744b5fb1425fb… (all of the seat's roots in one cut). By AI agents, Wed Nov 11 2026. No macro, syntax, notation, axiom, sorry.
-/
import Derived.Test.YtkbbijhknbcflabChecked
import GoSem.Claim
import GoSem.ClaimJoined
import GoSem.ClaimMapViews
import Derived.JoinedTies
import Derived.KernelRfl
namespace Go.Proofs.Ytkbbijhknbcflab
/- THE CELL 'sum', in the pinned program and in every row, IS THE sha256 OF THE DUMP (.gsa) THAT YtkbbijhknbcflabProg.lean LOADS. Nothing in Lean hashes anything: it is a label: what it is worth is what the hold of that sum in a sandbox is worth. -/
noncomputable def Try.pinned : Pinned := { name := "ytkbbijhknbcflab", sum := "f8e744b5fb1425fb6e64386600b4ebb149973a686d277321ef459d3dcb1a0d78", checked := Try.checked }
namespace Rows
def none {H : Type} : Left H := { results := [], args := [] }

/-- 'comfitlaw08.FixesOthers': WHATEVER THE INPUT: true; the input reads as it did. -/
def fixesOthersSpec : ChangeSpec := { name := "fixesOthers", fn := fun _ => fun
  | [d1, d2] => { results := [.lit (.bool true)], args := [d1, d2] }
  | _ => none }
def fixesOthersRow : OpenClaim := { program := "ytkbbijhknbcflab", sum := "f8e744b5fb1425fb6e64386600b4ebb149973a686d277321ef459d3dcb1a0d78", func := "comfit/comfitlaw08.FixesOthers", spec := "fixesOthers", inPlace := ["internal/bytealg.IndexByteString"], unfollowed := true, recurses := true, apart := false }
def FixesOthersSaid : Prop := fixesOthersRow.holds Try.pinned (OpenSpec.ofChange fixesOthersSpec)

/-- ITS FALSE NEIGHBOUR: 'it returns false'. Refute it at one input. -/
def fixesOthersWrong : ChangeSpec := { name := "fixesOthers", fn := fun _ => fun
  | [d1, d2] => { results := [.lit (.bool false)], args := [d1, d2] }
  | _ => none }
def FixesOthersWrongFalsely : Prop := fixesOthersRow.holds Try.pinned (OpenSpec.ofChange fixesOthersWrong)

/-- 'comfitlaw08.FixesBound': WHATEVER THE INPUT: true; the input reads as it did. -/
def fixesBoundSpec : ChangeSpec := { name := "fixesBound", fn := fun _ => fun
  | [d1, d2] => { results := [.lit (.bool true)], args := [d1, d2] }
  | _ => none }
def fixesBoundRow : OpenClaim := { program := "ytkbbijhknbcflab", sum := "f8e744b5fb1425fb6e64386600b4ebb149973a686d277321ef459d3dcb1a0d78", func := "comfit/comfitlaw08.FixesBound", spec := "fixesBound", inPlace := ["internal/bytealg.IndexByteString"], unfollowed := true, recurses := true, apart := false }
def FixesBoundSaid : Prop := fixesBoundRow.holds Try.pinned (OpenSpec.ofChange fixesBoundSpec)

/-- ITS FALSE NEIGHBOUR: 'it returns false'. Refute it at one input. -/
def fixesBoundWrong : ChangeSpec := { name := "fixesBound", fn := fun _ => fun
  | [d1, d2] => { results := [.lit (.bool false)], args := [d1, d2] }
  | _ => none }
def FixesBoundWrongFalsely : Prop := fixesBoundRow.holds Try.pinned (OpenSpec.ofChange fixesBoundWrong)

/-- 'comfitlaw08.FixesEqual': WHATEVER THE INPUT: true; the input reads as it did. -/
def fixesEqualSpec : ChangeSpec := { name := "fixesEqual", fn := fun _ => fun
  | [d1, d2] => { results := [.lit (.bool true)], args := [d1, d2] }
  | _ => none }
def fixesEqualRow : OpenClaim := { program := "ytkbbijhknbcflab", sum := "f8e744b5fb1425fb6e64386600b4ebb149973a686d277321ef459d3dcb1a0d78", func := "comfit/comfitlaw08.FixesEqual", spec := "fixesEqual", inPlace := ["internal/bytealg.IndexByteString"], unfollowed := true, recurses := true, apart := false }
def FixesEqualSaid : Prop := fixesEqualRow.holds Try.pinned (OpenSpec.ofChange fixesEqualSpec)

/-- ITS FALSE NEIGHBOUR: 'it returns false'. Refute it at one input. -/
def fixesEqualWrong : ChangeSpec := { name := "fixesEqual", fn := fun _ => fun
  | [d1, d2] => { results := [.lit (.bool false)], args := [d1, d2] }
  | _ => none }
def FixesEqualWrongFalsely : Prop := fixesEqualRow.holds Try.pinned (OpenSpec.ofChange fixesEqualWrong)

/- THE SECOND FORM. 'bulk': how many values and letters a reading holds, each counted each time it is reached (what is shared counts as often as it is met; a slice's spare places count too). A statement '..UptoSaid' is the law's where the arguments, and the package variables that the reading takes, are together of bulk at most 1048576: NARROWER than '..Said'. Prove '..Said' where nothing that the law and all that it calls make is longer than what came in: it says more and counts as full. Else prove '..UptoSaid'. A law counts once. -/
mutual
def uptoBulk {H : Type} : DataW H → Nat
  | .lit (.string bytes) => bytes.length + 1
  | .lit _ => 1
  | .nil => 1
  | .ptr d => uptoBulk d + 1
  | .slice elems spare => uptoBulkAll elems + uptoBulkAll spare + 1
  | .agg parts => uptoBulkAll parts + 1
  | .iface _ d => uptoBulk d + 1
  | .map entries => uptoBulkEntries entries + 1
  | .held _ => 1
def uptoBulkAll {H : Type} : List (DataW H) → Nat
  | [] => 0
  | d :: r => uptoBulk d + uptoBulkAll r
def uptoBulkEntries {H : Type} : List (Lit × DataW H) → Nat
  | [] => 0
  | x :: r => uptoBulkEntry x + uptoBulkEntries r
def uptoBulkEntry {H : Type} : Lit × DataW H → Nat
  | (.string bytes, d) => bytes.length + uptoBulk d + 1
  | (_, d) => uptoBulk d + 1
 end
def uptoSmall : (H : Type) → List (DataW H) → Bool := fun _ ds => decide (uptoBulkAll ds ≤ 1048576)
def OpenSpec.upto (s : _root_.Go.ChangeSpec) : _root_.Go.OpenSpec := { _root_.Go.OpenSpec.ofChange s with cond := some uptoSmall }

/-- 'comfitlaw08.FixesOthers', WHERE WHAT IT READS IS OF BULK AT MOST 1048576: true; the input reads as it did. -/
def fixesOthersUptoRow : OpenClaim := { program := "ytkbbijhknbcflab", sum := "f8e744b5fb1425fb6e64386600b4ebb149973a686d277321ef459d3dcb1a0d78", func := "comfit/comfitlaw08.FixesOthers", spec := "fixesOthers", inPlace := ["internal/bytealg.IndexByteString"], unfollowed := true, recurses := true, apart := false, narrowed := true }
def FixesOthersUptoSaid : Prop := fixesOthersUptoRow.holds Try.pinned (OpenSpec.upto fixesOthersSpec)

/-- 'comfitlaw08.FixesBound', WHERE WHAT IT READS IS OF BULK AT MOST 1048576: true; the input reads as it did. -/
def fixesBoundUptoRow : OpenClaim := { program := "ytkbbijhknbcflab", sum := "f8e744b5fb1425fb6e64386600b4ebb149973a686d277321ef459d3dcb1a0d78", func := "comfit/comfitlaw08.FixesBound", spec := "fixesBound", inPlace := ["internal/bytealg.IndexByteString"], unfollowed := true, recurses := true, apart := false, narrowed := true }
def FixesBoundUptoSaid : Prop := fixesBoundUptoRow.holds Try.pinned (OpenSpec.upto fixesBoundSpec)

/-- 'comfitlaw08.FixesEqual', WHERE WHAT IT READS IS OF BULK AT MOST 1048576: true; the input reads as it did. -/
def fixesEqualUptoRow : OpenClaim := { program := "ytkbbijhknbcflab", sum := "f8e744b5fb1425fb6e64386600b4ebb149973a686d277321ef459d3dcb1a0d78", func := "comfit/comfitlaw08.FixesEqual", spec := "fixesEqual", inPlace := ["internal/bytealg.IndexByteString"], unfollowed := true, recurses := true, apart := false, narrowed := true }
def FixesEqualUptoSaid : Prop := fixesEqualUptoRow.holds Try.pinned (OpenSpec.upto fixesEqualSpec)

end Rows
end Go.Proofs.Ytkbbijhknbcflab
