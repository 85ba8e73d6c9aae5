/-
  No cell of these rows narrows 'for every input' (looked for: loops, veiled, ifaces, maps, wideKeys, modest, calm, conditions, laid).
  DERIVED. THE GIVEN ROWS OF THIS SEAT. 5 by the template 'for every input the law returns true; each argument reads behind the call as it read before'; 0 by the template 'total and deterministic' (their statements: YtkbbijhknbcflaaTotals.lean).
  GIVEN WITH THE SEED: the statements are not yours to turn. If you find one false, say at which input.
  Laid BY PROGRAM, IN A SANDBOX (cutbox-rows.mjs): the forced cells as the released guide's own fill.sh prints them over the translation d179c75973fedf7a… (all of the seat's roots in one cut). By AI agents, Wed Nov 11 2026. No macro, syntax, notation, axiom, sorry.
-/
import Derived.Test.YtkbbijhknbcflaaChecked
import GoSem.Claim
import GoSem.ClaimJoined
import GoSem.ClaimMapViews
import Derived.JoinedTies
import Derived.KernelRfl
namespace Go.Proofs.Ytkbbijhknbcflaa
/- THE CELL 'sum', in the pinned program and in every row, IS THE sha256 OF THE DUMP (.gsa) THAT YtkbbijhknbcflaaProg.lean LOADS. Nothing in Lean hashes anything: it is a label: what it is worth is what the hold of that sum in a sandbox is worth. -/
noncomputable def Try.pinned : Pinned := { name := "ytkbbijhknbcflaa", sum := "d179c75973fedf7a2b54c6d878a8ae32836aad0e0f502c44d30d61302d3ba7a6", checked := Try.checked }
namespace Rows
def none {H : Type} : Left H := { results := [], args := [] }

/-- 'comfitlaw08.FixesReaches': WHATEVER THE INPUT: true; the input reads as it did. -/
def fixesReachesSpec : ChangeSpec := { name := "fixesReaches", fn := fun _ => fun
  | [d1, d2] => { results := [.lit (.bool true)], args := [d1, d2] }
  | _ => none }
def fixesReachesRow : OpenClaim := { program := "ytkbbijhknbcflaa", sum := "d179c75973fedf7a2b54c6d878a8ae32836aad0e0f502c44d30d61302d3ba7a6", func := "comfit/comfitlaw08.FixesReaches", spec := "fixesReaches", inPlace := ["internal/bytealg.IndexByteString"], unfollowed := true, recurses := true, apart := false }
def FixesReachesSaid : Prop := fixesReachesRow.holds Try.pinned (OpenSpec.ofChange fixesReachesSpec)

/-- ITS FALSE NEIGHBOUR: 'it returns false'. Refute it at one input. -/
def fixesReachesWrong : ChangeSpec := { name := "fixesReaches", fn := fun _ => fun
  | [d1, d2] => { results := [.lit (.bool false)], args := [d1, d2] }
  | _ => none }
def FixesReachesWrongFalsely : Prop := fixesReachesRow.holds Try.pinned (OpenSpec.ofChange fixesReachesWrong)

/-- 'comfitlaw08.FixesNots': WHATEVER THE INPUT: true; the input reads as it did. -/
def fixesNotsSpec : ChangeSpec := { name := "fixesNots", fn := fun _ => fun
  | [d] => { results := [.lit (.bool true)], args := [d] }
  | _ => none }
def fixesNotsRow : OpenClaim := { program := "ytkbbijhknbcflaa", sum := "d179c75973fedf7a2b54c6d878a8ae32836aad0e0f502c44d30d61302d3ba7a6", func := "comfit/comfitlaw08.FixesNots", spec := "fixesNots", inPlace := ["internal/bytealg.IndexByteString"], unfollowed := true, recurses := true, apart := false }
def FixesNotsSaid : Prop := fixesNotsRow.holds Try.pinned (OpenSpec.ofChange fixesNotsSpec)

/-- ITS FALSE NEIGHBOUR: 'it returns false'. Refute it at one input. -/
def fixesNotsWrong : ChangeSpec := { name := "fixesNots", fn := fun _ => fun
  | [d] => { results := [.lit (.bool false)], args := [d] }
  | _ => none }
def FixesNotsWrongFalsely : Prop := fixesNotsRow.holds Try.pinned (OpenSpec.ofChange fixesNotsWrong)

/-- 'comfitlaw08.FixesWays': WHATEVER THE INPUT: true; the input reads as it did. -/
def fixesWaysSpec : ChangeSpec := { name := "fixesWays", fn := fun _ => fun
  | [d1, d2] => { results := [.lit (.bool true)], args := [d1, d2] }
  | _ => none }
def fixesWaysRow : OpenClaim := { program := "ytkbbijhknbcflaa", sum := "d179c75973fedf7a2b54c6d878a8ae32836aad0e0f502c44d30d61302d3ba7a6", func := "comfit/comfitlaw08.FixesWays", spec := "fixesWays", inPlace := ["internal/bytealg.IndexByteString"], unfollowed := true, recurses := true, apart := false }
def FixesWaysSaid : Prop := fixesWaysRow.holds Try.pinned (OpenSpec.ofChange fixesWaysSpec)

/-- ITS FALSE NEIGHBOUR: 'it returns false'. Refute it at one input. -/
def fixesWaysWrong : ChangeSpec := { name := "fixesWays", fn := fun _ => fun
  | [d1, d2] => { results := [.lit (.bool false)], args := [d1, d2] }
  | _ => none }
def FixesWaysWrongFalsely : Prop := fixesWaysRow.holds Try.pinned (OpenSpec.ofChange fixesWaysWrong)

/-- 'comfitlaw08.FixesHolds': WHATEVER THE INPUT: true; the input reads as it did. -/
def fixesHoldsSpec : ChangeSpec := { name := "fixesHolds", fn := fun _ => fun
  | [d1, d2] => { results := [.lit (.bool true)], args := [d1, d2] }
  | _ => none }
def fixesHoldsRow : OpenClaim := { program := "ytkbbijhknbcflaa", sum := "d179c75973fedf7a2b54c6d878a8ae32836aad0e0f502c44d30d61302d3ba7a6", func := "comfit/comfitlaw08.FixesHolds", spec := "fixesHolds", inPlace := ["internal/bytealg.IndexByteString"], unfollowed := true, recurses := true, apart := false }
def FixesHoldsSaid : Prop := fixesHoldsRow.holds Try.pinned (OpenSpec.ofChange fixesHoldsSpec)

/-- ITS FALSE NEIGHBOUR: 'it returns false'. Refute it at one input. -/
def fixesHoldsWrong : ChangeSpec := { name := "fixesHolds", fn := fun _ => fun
  | [d1, d2] => { results := [.lit (.bool false)], args := [d1, d2] }
  | _ => none }
def FixesHoldsWrongFalsely : Prop := fixesHoldsRow.holds Try.pinned (OpenSpec.ofChange fixesHoldsWrong)

/-- 'comfitlaw08.FixesSteps': WHATEVER THE INPUT: true; the input reads as it did. -/
def fixesStepsSpec : ChangeSpec := { name := "fixesSteps", fn := fun _ => fun
  | [d1, d2] => { results := [.lit (.bool true)], args := [d1, d2] }
  | _ => none }
def fixesStepsRow : OpenClaim := { program := "ytkbbijhknbcflaa", sum := "d179c75973fedf7a2b54c6d878a8ae32836aad0e0f502c44d30d61302d3ba7a6", func := "comfit/comfitlaw08.FixesSteps", spec := "fixesSteps", inPlace := ["internal/bytealg.IndexByteString"], unfollowed := true, recurses := true, apart := false }
def FixesStepsSaid : Prop := fixesStepsRow.holds Try.pinned (OpenSpec.ofChange fixesStepsSpec)

/-- ITS FALSE NEIGHBOUR: 'it returns false'. Refute it at one input. -/
def fixesStepsWrong : ChangeSpec := { name := "fixesSteps", fn := fun _ => fun
  | [d1, d2] => { results := [.lit (.bool false)], args := [d1, d2] }
  | _ => none }
def FixesStepsWrongFalsely : Prop := fixesStepsRow.holds Try.pinned (OpenSpec.ofChange fixesStepsWrong)

/- THE SECOND FORM. 'bulk': how many values and letters a reading holds, each counted each time it is reached (what is shared counts as often as it is met; a slice's spare places count too). A statement '..UptoSaid' is the law's where the arguments, and the package variables that the reading takes, are together of bulk at most 1048576: NARROWER than '..Said'. Prove '..Said' where nothing that the law and all that it calls make is longer than what came in: it says more and counts as full. Else prove '..UptoSaid'. A law counts once. -/
mutual
def uptoBulk {H : Type} : DataW H → Nat
  | .lit (.string bytes) => bytes.length + 1
  | .lit _ => 1
  | .nil => 1
  | .ptr d => uptoBulk d + 1
  | .slice elems spare => uptoBulkAll elems + uptoBulkAll spare + 1
  | .agg parts => uptoBulkAll parts + 1
  | .iface _ d => uptoBulk d + 1
  | .map entries => uptoBulkEntries entries + 1
  | .held _ => 1
def uptoBulkAll {H : Type} : List (DataW H) → Nat
  | [] => 0
  | d :: r => uptoBulk d + uptoBulkAll r
def uptoBulkEntries {H : Type} : List (Lit × DataW H) → Nat
  | [] => 0
  | x :: r => uptoBulkEntry x + uptoBulkEntries r
def uptoBulkEntry {H : Type} : Lit × DataW H → Nat
  | (.string bytes, d) => bytes.length + uptoBulk d + 1
  | (_, d) => uptoBulk d + 1
 end
def uptoSmall : (H : Type) → List (DataW H) → Bool := fun _ ds => decide (uptoBulkAll ds ≤ 1048576)
def OpenSpec.upto (s : _root_.Go.ChangeSpec) : _root_.Go.OpenSpec := { _root_.Go.OpenSpec.ofChange s with cond := some uptoSmall }

/-- 'comfitlaw08.FixesReaches', WHERE WHAT IT READS IS OF BULK AT MOST 1048576: true; the input reads as it did. -/
def fixesReachesUptoRow : OpenClaim := { program := "ytkbbijhknbcflaa", sum := "d179c75973fedf7a2b54c6d878a8ae32836aad0e0f502c44d30d61302d3ba7a6", func := "comfit/comfitlaw08.FixesReaches", spec := "fixesReaches", inPlace := ["internal/bytealg.IndexByteString"], unfollowed := true, recurses := true, apart := false, narrowed := true }
def FixesReachesUptoSaid : Prop := fixesReachesUptoRow.holds Try.pinned (OpenSpec.upto fixesReachesSpec)

/-- 'comfitlaw08.FixesNots', WHERE WHAT IT READS IS OF BULK AT MOST 1048576: true; the input reads as it did. -/
def fixesNotsUptoRow : OpenClaim := { program := "ytkbbijhknbcflaa", sum := "d179c75973fedf7a2b54c6d878a8ae32836aad0e0f502c44d30d61302d3ba7a6", func := "comfit/comfitlaw08.FixesNots", spec := "fixesNots", inPlace := ["internal/bytealg.IndexByteString"], unfollowed := true, recurses := true, apart := false, narrowed := true }
def FixesNotsUptoSaid : Prop := fixesNotsUptoRow.holds Try.pinned (OpenSpec.upto fixesNotsSpec)

/-- 'comfitlaw08.FixesWays', WHERE WHAT IT READS IS OF BULK AT MOST 1048576: true; the input reads as it did. -/
def fixesWaysUptoRow : OpenClaim := { program := "ytkbbijhknbcflaa", sum := "d179c75973fedf7a2b54c6d878a8ae32836aad0e0f502c44d30d61302d3ba7a6", func := "comfit/comfitlaw08.FixesWays", spec := "fixesWays", inPlace := ["internal/bytealg.IndexByteString"], unfollowed := true, recurses := true, apart := false, narrowed := true }
def FixesWaysUptoSaid : Prop := fixesWaysUptoRow.holds Try.pinned (OpenSpec.upto fixesWaysSpec)

/-- 'comfitlaw08.FixesHolds', WHERE WHAT IT READS IS OF BULK AT MOST 1048576: true; the input reads as it did. -/
def fixesHoldsUptoRow : OpenClaim := { program := "ytkbbijhknbcflaa", sum := "d179c75973fedf7a2b54c6d878a8ae32836aad0e0f502c44d30d61302d3ba7a6", func := "comfit/comfitlaw08.FixesHolds", spec := "fixesHolds", inPlace := ["internal/bytealg.IndexByteString"], unfollowed := true, recurses := true, apart := false, narrowed := true }
def FixesHoldsUptoSaid : Prop := fixesHoldsUptoRow.holds Try.pinned (OpenSpec.upto fixesHoldsSpec)

/-- 'comfitlaw08.FixesSteps', WHERE WHAT IT READS IS OF BULK AT MOST 1048576: true; the input reads as it did. -/
def fixesStepsUptoRow : OpenClaim := { program := "ytkbbijhknbcflaa", sum := "d179c75973fedf7a2b54c6d878a8ae32836aad0e0f502c44d30d61302d3ba7a6", func := "comfit/comfitlaw08.FixesSteps", spec := "fixesSteps", inPlace := ["internal/bytealg.IndexByteString"], unfollowed := true, recurses := true, apart := false, narrowed := true }
def FixesStepsUptoSaid : Prop := fixesStepsUptoRow.holds Try.pinned (OpenSpec.upto fixesStepsSpec)

end Rows
end Go.Proofs.Ytkbbijhknbcflaa
