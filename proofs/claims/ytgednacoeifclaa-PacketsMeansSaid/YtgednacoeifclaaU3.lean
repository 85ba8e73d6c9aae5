import Derived.Test.YtgednacoeifclaaU1
/-
  The kernel's look at a kind and at most five others.
-/
namespace Go.Proofs.Ytgednacoeifclaa
theorem kernel_2 : chk test2 5 9 [] [] 0 = true := by decide +kernel
end Go.Proofs.Ytgednacoeifclaa
