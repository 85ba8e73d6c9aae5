import Derived.Test.YtcedhcpjnoppmaaEnW1
import Derived.Test.YtcedhcpjnoppmaaEnW2
import Derived.Test.YtcedhcpjnoppmaaEnW3
import Derived.Test.YtcedhcpjnoppmaaEnW4
import Derived.Test.YtcedhcpjnoppmaaEnW5
import Derived.Test.YtcedhcpjnoppmaaEnW6
import Derived.Test.YtcedhcpjnoppmaaEnW7
namespace Go.Proofs.Ytcedhcpjnoppmaa
open Go.RowKit

set_option maxHeartbeats 4000000 in
set_option maxRecDepth 100000 in
theorem ends_no (n b m c : Int) (w : World) (h : isLot n b m c = false) :
    Calls Try.prog 14 #[.int .i64 n, .int .i64 b, .int .i64 m, .int .i64 c] w fun e w' => SomeB true w e w' := by
  have H := Lib.hid h
  clear h
  go_enter Try.func14, Try.ntmps14
  go_wp2_with fail
  refine (finite_no n b m c _ H.out).mono ?_
  rintro e w1 ⟨rfl, hb1⟩
  have HB1 := Lib.hid hb1
  clear hb1
  go_wp2_with fail
  refine (awake_any _).mono ?_
  rintro e w3 ⟨rfl, hb3⟩
  have HB3 := Lib.hid (band (band HB1.out (below_one _ _)) hb3)
  clear hb3
  go_wp2
  go_ret
  exact ⟨rfl, HB3.out⟩

theorem ends_core (w : World) (n : Int) (_ : -9223372036854775808 ≤ n ∧ n ≤ 9223372036854775807) (b : Int) (_ : -9223372036854775808 ≤ b ∧ b ≤ 9223372036854775807) (m : Int) (_ : -9223372036854775808 ≤ m ∧ m ≤ 9223372036854775807) (c : Int) (_ : -9223372036854775808 ≤ c ∧ c ≤ 9223372036854775807) :
    Calls Try.prog 14 #[.int .i64 n, .int .i64 b, .int .i64 m, .int .i64 c] w fun e w' => SomeB true w e w' := by
  cases h : isLot n b m c
  · exact ends_no n b m c w h
  · have hh := isLot_iff.1 h
    obtain ⟨n', rfl⟩ : ∃ k : Nat, n = k := ⟨n.toNat, by omega⟩
    obtain ⟨b', rfl⟩ : ∃ k : Nat, b = k := ⟨b.toNat, by omega⟩
    obtain ⟨m', rfl⟩ : ∃ k : Nat, m = k := ⟨m.toNat, by omega⟩
    obtain ⟨c', rfl⟩ : ∃ k : Nat, c = k := ⟨c.toNat, by omega⟩
    have h1 : 1 ≤ n' := by omega
    have h2 : n' ≤ 40 := by omega
    have h3 : b' ≤ n' := by omega
    have h4 : m' ≤ n' := by omega
    have h5 : c' ≤ m' := by omega
    clear h hh
    by_cases x2 : c' < m'
    · rcases Nat.lt_trichotomy c' b' with x | x | x
      · by_cases x3 : b' ≤ m'
        · exact ends_1 n' b' m' c' w h1 h2 h3 h4 h5 x x2 x3
        · exact ends_2 n' b' m' c' w h1 h2 h3 h4 h5 x x2 (by omega)
      · exact ends_4 n' b' m' c' w h1 h2 h3 h4 h5 (by omega) (by omega) x2
      · exact ends_6 n' b' m' c' w h1 h2 h3 h4 h5 x x2
    · rcases Nat.lt_trichotomy c' b' with x | x | x
      · exact ends_3 n' b' m' c' w h1 h2 h3 h4 h5 x (by omega) (by omega)
      · exact ends_5 n' b' m' c' w h1 h2 h3 h4 h5 (by omega) (by omega) (by omega)
      · exact ends_7 n' b' m' c' w h1 h2 h3 h4 h5 x (by omega)

end Go.Proofs.Ytcedhcpjnoppmaa
