import Derived.Test.YtgednacoeifclaaU1
/-
  The kernel's look at all weights of at most six kinds.
-/
namespace Go.Proofs.Ytgednacoeifclaa
theorem kernel_1 : chk test1 6 9 [] [] 0 = true := by decide +kernel
end Go.Proofs.Ytgednacoeifclaa
