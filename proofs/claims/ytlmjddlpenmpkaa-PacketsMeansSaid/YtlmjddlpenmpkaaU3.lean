import Derived.Test.YtlmjddlpenmpkaaU1
/-
  The kernel's look at a kind and at most five others.
-/
namespace Go.Proofs.Ytlmjddlpenmpkaa
theorem kernel_2 : chk test2 5 9 [] [] 0 = true := by decide +kernel
end Go.Proofs.Ytlmjddlpenmpkaa
