import Derived.Test.YtcedhcpjnoppmaaRunsA
import Derived.Test.YtcedhcpjnoppmaaRunsB
namespace Go.Proofs.Ytcedhcpjnoppmaa
open Go.RowKit

theorem runs_core (w : World) (aT : Option Addr) (n cT : Nat) (aL : Option Addr) (m cL : Nat) (T L : Nat → Int) (hn : n ≤ cT) (hn8 : n * 8 ≤ 140737488355328) (hm : m ≤ cL) (hm8 : m * 8 ≤ 140737488355328) (hT : Ints w aT n T) (hL : Ints w aL m L)
    (aX : Option Addr) (nX cX : Nat) (x : Nat → Bool) (hcX : nX ≤ cX) (hX8 : nX ≤ 140737488355328) (hX : Bools w aX nX x) :
    Calls Try.prog 4 #[plV aT n cT aL m cL, .slice aX nX cX] w fun e w' => SomeB true w e w' := by
  by_cases h : nX ≤ 15
  · exact runs_a aT n cT aL m cL T L aX nX cX x w h hn hn8 hm hm8 hT hL hX hcX hX8
  · exact runs_b aT n cT aL m cL T L aX nX cX x w (by omega) hn hn8 hm hm8 hT hL hX hcX hX8

end Go.Proofs.Ytcedhcpjnoppmaa
