/-
  Plain facts: the piles of seven leaves, by the leaf at the top.
-/
import Derived.Test.YtmbccdjoliegiaaMath7
namespace Go.Proofs.Ytmbccdjoliegiaa
theorem seven0 : ((perms 7 6 [0]).filter (okP (rowN 0 6))).length = 66 := by decide +kernel
theorem seven1 : ((perms 7 6 [1]).filter (okP (rowN 0 6))).length = 66 := by decide +kernel
theorem seven2 : ((perms 7 6 [2]).filter (okP (rowN 0 6))).length = 66 := by decide +kernel
theorem seven3 : ((perms 7 6 [3]).filter (okP (rowN 0 6))).length = 66 := by decide +kernel
theorem seven4 : ((perms 7 6 [4]).filter (okP (rowN 0 6))).length = 66 := by decide +kernel
theorem seven5 : ((perms 7 6 [5]).filter (okP (rowN 0 6))).length = 66 := by decide +kernel
theorem seven6 : ((perms 7 6 [6]).filter (okP (rowN 0 6))).length = 66 := by decide +kernel
end Go.Proofs.Ytmbccdjoliegiaa
