/-
  Plain facts: how many piles there are.
-/
import Derived.Test.YtmbccdjoliegiaaM6
namespace Go.Proofs.Ytmbccdjoliegiaa

/-- Piles with leaf 0 at the top. -/
def topB (p : List Nat) : Bool := p.headD 1 == 0
theorem count1 : (piles 1).length = 1 := by decide +kernel
theorem count2 : (piles 2).length = 2 := by decide +kernel
theorem count3 : (piles 3).length = 6 := by decide +kernel
theorem count4 : (piles 4).length = 16 := by decide +kernel
theorem count5 : (piles 5).length = 50 := by decide +kernel
theorem count6 : (piles 6).length = 144 := by decide +kernel
theorem top1 : ((piles 1).filter topB).length = 1 := by decide +kernel
theorem top2 : ((piles 2).filter topB).length = 1 := by decide +kernel
theorem top3 : ((piles 3).filter topB).length = 2 := by decide +kernel
theorem top4 : ((piles 4).filter topB).length = 4 := by decide +kernel
theorem top5 : ((piles 5).filter topB).length = 10 := by decide +kernel
theorem top6 : ((piles 6).filter topB).length = 24 := by decide +kernel
theorem maps1 : (mpiles 1).length = 2 := by decide +kernel
theorem maps2 : (mpiles 2).length = 8 := by decide +kernel
theorem maps3 : (mpiles 3).length = 60 := by decide +kernel
end Go.Proofs.Ytmbccdjoliegiaa
