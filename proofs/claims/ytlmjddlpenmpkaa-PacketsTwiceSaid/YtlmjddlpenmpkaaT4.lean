import Derived.Test.YtlmjddlpenmpkaaT2
namespace Go.Proofs.Ytlmjddlpenmpkaa
open Go.RowKit Go.Shelf

theorem tw_32 : (List.range 9).all (fun B => (List.range 9).all fun C => twB (twZ 2 (B + 1) (C + 1)) 3) = true := by decide +kernel
theorem tw_33 : (List.range 9).all (fun B => (List.range 9).all fun C => twB (twZ 3 (B + 1) (C + 1)) 3) = true := by decide +kernel
theorem tw_34 : (List.range 9).all (fun B => (List.range 9).all fun C => twB (twZ 4 (B + 1) (C + 1)) 3) = true := by decide +kernel
theorem tw_35 : (List.range 9).all (fun B => (List.range 9).all fun C => twB (twZ 5 (B + 1) (C + 1)) 3) = true := by decide +kernel
end Go.Proofs.Ytlmjddlpenmpkaa
