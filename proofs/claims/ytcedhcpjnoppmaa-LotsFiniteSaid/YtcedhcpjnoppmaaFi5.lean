import Derived.Test.YtcedhcpjnoppmaaFi4
import Derived.Test.YtcedhcpjnoppmaaT3
import Derived.Deep.DeepCutAuto
import Derived.Deep.RegionWith
import Derived.Deep.RegionHeld3
namespace Go.Proofs.Ytcedhcpjnoppmaa
open Go.RowKit

set_option maxHeartbeats 4000000 in
set_option maxRecDepth 100000 in
theorem fin_no (n b m c : Int) (w : World) (h : isLot n b m c = false) :
    Calls Try.prog 7 #[.int .i64 n, .int .i64 b, .int .i64 m, .int .i64 c] w fun e w' => SomeB true w e w' := by
  have H := Lib.hid h
  clear h
  go_enter Try.func7, Try.ntmps7
  go_wp2_with fail
  refine (finite_no n b m c _ H.out).mono ?_
  rintro e w1 ⟨rfl, hb1⟩
  have HB1 := Lib.hid hb1
  clear hb1
  go_wp2_with fail
  refine (rlot_no n b m c _ H.out).mono ?_
  rintro e w' ⟨rfl, rfl⟩
  go_wp2_with fail
  refine (none_zero _).mono ?_
  rintro e w2 ⟨rfl, hb2⟩
  have HB2 := Lib.hid (band (band HB1.out (below_one _ _)) hb2)
  clear hb2
  go_wp2_with fail
  refine (awake_any _).mono ?_
  rintro e w3 ⟨rfl, hb3⟩
  have HB3 := Lib.hid (band HB2.out hb3)
  clear hb3
  go_wp2
  go_ret
  exact ⟨rfl, HB3.out⟩

set_option maxHeartbeats 4000000 in
set_option maxRecDepth 100000 in
theorem fin_yes (n b m c : Nat) (w : World) (h1 : 1 ≤ n) (h40 : n ≤ 40) (hb : b ≤ n) (hm : m ≤ n) (hc : c ≤ m) :
    Calls Try.prog 7 #[.int .i64 n, .int .i64 b, .int .i64 m, .int .i64 c] w fun e w' => SomeB true w e w' := by
  go_enter Try.func7, Try.ntmps7
  go_wp2_with fail
  refine (finite_yes n b m c _ h1 h40 hb hm hc).mono ?_
  rintro e w1 ⟨rfl, hb1⟩
  have HB1 := Lib.hid hb1
  obtain ⟨A, hA⟩ : ∃ A : Int, A = ((draws n b m (c + 1) / Nat.gcd (draws n b m (c + 1)) (ch n m) : Nat) : Int) := ⟨_, rfl⟩
  obtain ⟨B, hB⟩ : ∃ B : Int, B = ((ch n m / Nat.gcd (draws n b m (c + 1)) (ch n m) : Nat) : Int) := ⟨_, rfl⟩
  have HF : Hid (frV (draws n b m (c + 1)) (ch n m) = .agg #[.int .i64 A, .int .i64 B]) := by unfold Hid; rw [hA, hB]
  rw [HF.out]
  clear hb1 hA hB
  go_wp2_with fail
  refine (rlot_yes n b m c _ (by omega) (by omega) (by omega) (by omega) (by omega) (by omega) (by omega) (by omega)).mono ?_
  rintro e w' ⟨rfl, rfl⟩
  go_wp2
  go_region_with (first
    | (go_at_call 43; refine (rfinite_yes n b m c _ h1 h40 hb hm hc).mono ?_; rintro e w2 ⟨rfl, hb2⟩; rw [HF.out]; have HB2 : Hid (Below w.heap.size w w2) := band (band HB1.out ((below_one w1 (.cells #[.int .i64 A, .int .i64 B] 28)).drew)) hb2; have hblk : w2.heap[w1.heap.size]? = some (.cells #[.int .i64 A, .int .i64 B] 28) := (hb2.block w1.heap.size (by simp)).trans (heap_alloc_new w1 _); have q1 : w2.cell? ⟨w1.heap.size, 0, none⟩ = some (.int .i64 A) := block_cell hblk 0; have q2 : w2.cell? ⟨w1.heap.size, 1, none⟩ = some (.int .i64 B) := block_cell hblk 1; clear hb2 hblk)
    | (go_at_call 26; refine (awake_any _).mono ?_; rintro e w3 ⟨rfl, hb3⟩; have HB3 := Lib.hid (band HB2.out hb3); clear hb3))
  all_goals
    go_wp2
    go_ret
    exact ⟨rfl, HB3.out⟩

/-- Whatever the numbers are. -/
theorem fin_core (w : World) (n : Int) (_ : -9223372036854775808 ≤ n ∧ n ≤ 9223372036854775807) (b : Int) (_ : -9223372036854775808 ≤ b ∧ b ≤ 9223372036854775807) (m : Int) (_ : -9223372036854775808 ≤ m ∧ m ≤ 9223372036854775807) (c : Int) (_ : -9223372036854775808 ≤ c ∧ c ≤ 9223372036854775807) :
    Calls Try.prog 7 #[.int .i64 n, .int .i64 b, .int .i64 m, .int .i64 c] w fun e w' => SomeB true w e w' := by
  cases h : isLot n b m c
  · exact fin_no n b m c w h
  · have hh := isLot_iff.1 h
    obtain ⟨n', rfl⟩ : ∃ k : Nat, n = k := ⟨n.toNat, by omega⟩
    obtain ⟨b', rfl⟩ : ∃ k : Nat, b = k := ⟨b.toNat, by omega⟩
    obtain ⟨m', rfl⟩ : ∃ k : Nat, m = k := ⟨m.toNat, by omega⟩
    obtain ⟨c', rfl⟩ : ∃ k : Nat, c = k := ⟨c.toNat, by omega⟩
    exact fin_yes n' b' m' c' w (by omega) (by omega) (by omega) (by omega) (by omega)

end Go.Proofs.Ytcedhcpjnoppmaa
