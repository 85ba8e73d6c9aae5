import Derived.Test.YtcedhcpjnoppmaaTk1
namespace Go.Proofs.Ytcedhcpjnoppmaa
open Go.RowKit

theorem ltaken_core (w : World) (aT : Option Addr) (n cT : Nat) (aL : Option Addr) (m cL : Nat) (T L : Nat → Int) (hn : n ≤ cT) (hn8 : n * 8 ≤ 140737488355328) (hm : m ≤ cL) (hm8 : m * 8 ≤ 140737488355328) (hT : Ints w aT n T) (hL : Ints w aL m L) (Y O : Int) :
    Calls Try.prog 3 #[plV aT n cT aL m cL, chV Y O] w fun e w' => SomeB true w e w' := ltaken_any aT n cT aL m cL T L Y O w hn hn8 hm hm8 hT hL

end Go.Proofs.Ytcedhcpjnoppmaa
