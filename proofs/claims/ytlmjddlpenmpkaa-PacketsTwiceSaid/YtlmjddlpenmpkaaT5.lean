import Derived.Test.YtlmjddlpenmpkaaT2
namespace Go.Proofs.Ytlmjddlpenmpkaa
open Go.RowKit Go.Shelf

theorem tw_36 : (List.range 9).all (fun B => (List.range 9).all fun C => twB (twZ 6 (B + 1) (C + 1)) 3) = true := by decide +kernel
theorem tw_37 : (List.range 9).all (fun B => (List.range 9).all fun C => twB (twZ 7 (B + 1) (C + 1)) 3) = true := by decide +kernel
theorem tw_38 : (List.range 9).all (fun B => (List.range 9).all fun C => twB (twZ 8 (B + 1) (C + 1)) 3) = true := by decide +kernel
theorem tw_39 : (List.range 9).all (fun B => (List.range 9).all fun C => twB (twZ 9 (B + 1) (C + 1)) 3) = true := by decide +kernel
end Go.Proofs.Ytlmjddlpenmpkaa
