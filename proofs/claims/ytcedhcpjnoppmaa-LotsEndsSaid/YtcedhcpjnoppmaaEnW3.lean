import Derived.Test.YtcedhcpjnoppmaaEn2
import Derived.IntWalk
namespace Go.Proofs.Ytcedhcpjnoppmaa
open Go.RowKit

set_option maxHeartbeats 8000000 in
set_option maxRecDepth 100000 in
theorem ends_3 (n b m c : Nat) (w : World) (h1 : 1 ≤ n) (h40 : n ≤ 40) (hb : b ≤ n) (hm : m ≤ n) (hc : c ≤ m) (x1 : c < b) (x2 : m ≤ c) (x3 : m < b) :
    Calls Try.prog 14 #[.int .i64 n, .int .i64 b, .int .i64 m, .int .i64 c] w fun e w' => SomeB true w e w' := by
  have hC := Nat.le_trans (ch_le n m) (pow40 h40)
  have hC0 := ch_pos hm
  have HF : Hid (FinIs (draws n b m (c + 1)) (ch n m) 1 1 (ch n m)) := by
    rw [draws_sure hb hc (by omega)]
    refine ⟨by rw [show frV (ch n m) (ch n m) = .agg #[.int .i64 ((ch n m / Nat.gcd (ch n m) (ch n m) : Nat) : Int), .int .i64 ((ch n m / Nat.gcd (ch n m) (ch n m) : Nat) : Int)] from rfl, low_one hC0]; rfl, by omega, by omega, by omega, by omega, Int.tmod_one _, Int.tdiv_one _, by omega, by omega, by omega⟩
  have HS : Hid (frV (draws n m b (c + 1)) (ch n b) = frV (draws n b m (c + 1)) (ch n m)) := by
    have h := low_unique (ch_pos hb) (ch_pos hm) (draws_swap hm hb (c + 1) (by omega) (by omega))
    unfold Hid
    show Value.agg #[.int .i64 ((draws n m b (c + 1) / Nat.gcd (draws n m b (c + 1)) (ch n b) : Nat) : Int), .int .i64 ((ch n b / Nat.gcd (draws n m b (c + 1)) (ch n b) : Nat) : Int)] = .agg #[.int .i64 ((draws n b m (c + 1) / Nat.gcd (draws n b m (c + 1)) (ch n m) : Nat) : Int), .int .i64 ((ch n m / Nat.gcd (draws n b m (c + 1)) (ch n m) : Nat) : Int)]
    rw [h.1, h.2]
  have t1 : (c : Int) ≤ (b : Int) := by omega
  have t2 : ((c : Int) == (m : Int)) = true := by simp; omega
  have t3 : (m : Int) ≤ (b : Int) := by omega
  have t4 : min (b : Int) (m : Int) = (m : Int) := by omega
  have t5 : decide ((m : Int) ≤ (c : Int)) = true := by simp; omega
  go_enter Try.func14, Try.ntmps14
  go_wp2_with fail
  refine (finite_yes n b m c _ h1 h40 hb hm hc).mono ?_
  rintro e w1 ⟨rfl, hb1⟩
  have HB1 := Lib.hid (FrAt.made (A := 1) (B := 1) hb1)
  rw [HF.out.frv]
  clear hb1
  obtain ⟨q1, q2, q3⟩ := HB1.out.cells
  go_wp2_with fail
  refine (rlot_yes n b m c _ (by omega) (by omega) (by omega) (by omega) (by omega) (by omega) (by omega) (by omega)).mono ?_
  rintro e w' ⟨rfl, rfl⟩
  go_wp2_with fail
  refine (unit_yes 1 1 _ (by omega) (by omega) (by omega) (by omega)).mono ?_
  rintro e w2 ⟨rfl, hb2⟩
  have HB2 := Lib.hid (HB1.out.keep hb2)
  clear hb2 q1 q2 q3
  obtain ⟨q1, q2, q3⟩ := HB2.out.cells
  go_wp2_with fail
  refine (finite_yes n m b c _ h1 h40 hm hb (by omega)).mono ?_
  rintro e w3 ⟨rfl, hb3⟩
  have HB3 := Lib.hid (HB2.out.keep (band hb3 (below_one w3 (.cells #[.int .i64 1, .int .i64 1] 28))))
  have hne3 : w1.heap.size < w3.heap.size := by have := hb3.size; omega
  rw [HS.out, HF.out.frv]
  clear hb3 q1 q2 q3
  obtain ⟨q1, q2, q3⟩ := HB3.out.cells
  go_wp2_with fail
  refine (awake_any _).mono ?_
  rintro e w6 ⟨rfl, hb6⟩
  have HB6 := Lib.hid (HB3.out.keep hb6)
  clear hb6
  go_wp2
  go_ret
  exact ⟨rfl, HB6.out.bel⟩

end Go.Proofs.Ytcedhcpjnoppmaa
