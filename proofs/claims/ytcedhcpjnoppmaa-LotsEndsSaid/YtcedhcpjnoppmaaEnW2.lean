import Derived.Test.YtcedhcpjnoppmaaEn2
import Derived.IntWalk
import Derived.StillTailTactics
namespace Go.Proofs.Ytcedhcpjnoppmaa
open Go.RowKit

set_option maxHeartbeats 8000000 in
set_option maxRecDepth 100000 in
theorem ends_2 (n b m c : Nat) (w : World) (h1 : 1 ≤ n) (h40 : n ≤ 40) (hb : b ≤ n) (hm : m ≤ n) (hc : c ≤ m) (x1 : c < b) (x2 : c < m) (x3 : m < b) :
    Calls Try.prog 14 #[.int .i64 n, .int .i64 b, .int .i64 m, .int .i64 c] w fun e w' => SomeB true w e w' := by
  have hC := Nat.le_trans (ch_le n m) (pow40 h40)
  have hC0 := ch_pos hm
  obtain ⟨A, B, G, hF⟩ := fin_is hC0 hC (draws_le_all hb hc)
  have HF := Lib.hid hF
  have k1 := hF.b1
  have k2 := hF.b2
  have k3 := hF.a0
  have k4 := hF.ab
  clear hF
  have HS : Hid (frV (draws n m b (c + 1)) (ch n b) = frV (draws n b m (c + 1)) (ch n m)) := by
    have h := low_unique (ch_pos hb) (ch_pos hm) (draws_swap hm hb (c + 1) (by omega) (by omega))
    unfold Hid
    show Value.agg #[.int .i64 ((draws n m b (c + 1) / Nat.gcd (draws n m b (c + 1)) (ch n b) : Nat) : Int), .int .i64 ((ch n b / Nat.gcd (draws n m b (c + 1)) (ch n b) : Nat) : Int)] = .agg #[.int .i64 ((draws n b m (c + 1) / Nat.gcd (draws n b m (c + 1)) (ch n m) : Nat) : Int), .int .i64 ((ch n m / Nat.gcd (draws n b m (c + 1)) (ch n m) : Nat) : Int)]
    rw [h.1, h.2]
  have t1 : (c : Int) ≤ (b : Int) := by omega
  have t2 : ((c : Int) == (m : Int)) = false := by simp; omega
  have t3 : (m : Int) ≤ (b : Int) := by omega
  have t4 : min (b : Int) (m : Int) = (m : Int) := by omega
  have t5 : decide ((m : Int) ≤ (c : Int)) = false := by simp; omega
  go_enter Try.func14, Try.ntmps14
  go_wp2_with fail
  refine (finite_yes n b m c _ h1 h40 hb hm hc).mono ?_
  rintro e w1 ⟨rfl, hb1⟩
  have HB1 := Lib.hid (FrAt.made (A := A) (B := B) hb1)
  rw [HF.out.frv]
  clear hb1
  obtain ⟨q1, q2, q3⟩ := HB1.out.cells
  go_wp2_with fail
  refine (rlot_yes n b m c _ (by omega) (by omega) (by omega) (by omega) (by omega) (by omega) (by omega) (by omega)).mono ?_
  rintro e w' ⟨rfl, rfl⟩
  go_wp2_with fail
  refine (unit_yes A B _ (by omega) (by omega) (by omega) (by omega)).mono ?_
  rintro e w2 ⟨rfl, hb2⟩
  have HB2 := Lib.hid (HB1.out.keep hb2)
  clear hb2 q1 q2 q3
  obtain ⟨q1, q2, q3⟩ := HB2.out.cells
  go_wp2_with fail
  refine (finite_yes n m b c _ h1 h40 hm hb (by omega)).mono ?_
  rintro e w3 ⟨rfl, hb3⟩
  have HB3 := Lib.hid (HB2.out.keep (band hb3 (below_one w3 (.cells #[.int .i64 A, .int .i64 B] 28))))
  have hne3 : w1.heap.size < w3.heap.size := by have := hb3.size; omega
  rw [HS.out, HF.out.frv]
  clear hb3 q1 q2 q3
  obtain ⟨q1, q2, q3⟩ := HB3.out.cells
  have E : Hid ((c : Int) + 1 = ((c + 1 : Nat) : Int)) := rfl
  obtain ⟨A2, B2, G2, hF2⟩ := fin_is hC0 hC (draws_le_all (c := c + 1) hb (by omega))
  have HF2 := Lib.hid hF2
  have k5 := hF2.b1
  have k6 := hF2.b2
  have k7 := hF2.a0
  have k8 := hF2.ab
  clear hF2
  go_wp2_with fail
  rw [E.out]
  refine (finite_yes n b m (c + 1) _ h1 h40 hb hm (by omega)).mono ?_
  rintro e w4 ⟨rfl, hb4⟩
  have HB4 := Lib.hid (HB3.out.keep (band hb4 (below_one w4 (.cells #[.int .i64 A2, .int .i64 B2] 28))))
  have HC4 := Lib.hid (FrAt.made (A := A2) (B := B2) (band HB3.out.bel hb4))
  rw [HF2.out.frv]
  clear hb4 q1 q2 q3
  obtain ⟨q1, q2, q3⟩ := HB4.out.cells
  obtain ⟨q4, q5, q6⟩ := HC4.out.cells
  go_wp2_with fail
  refine (unit_yes A2 B2 _ (by omega) (by omega) (by omega) (by omega)).mono ?_
  rintro e w5 ⟨rfl, hb5⟩
  have HB5 := Lib.hid (HB4.out.keep hb5)
  have HC5 := Lib.hid (HC4.out.keep hb5)
  clear hb5 q1 q2 q3 q4 q5 q6
  obtain ⟨q1, q2, q3⟩ := HB5.out.cells
  obtain ⟨q4, q5, q6⟩ := HC5.out.cells
  go_wp2
  go_loop [14, 93] (fun s i => ∃ j : Nat, j ≤ m ∧ i = .int .i64 j ∧ s = .int .i64 (ch n j : Nat)) (fun _ i => m - (intOf i).toNat)
  case atStart => exact ⟨0, Nat.zero_le _, rfl, by rw [ch_zero]; rfl⟩
  case round =>
    obtain ⟨j, hj, rfl, rfl⟩ := hrel
    by_cases hlt : j < m
    · obtain ⟨b1, b2, b3, b4⟩ := ch_prod h40 (show j ≤ 41 by omega)
      have hd := Lib.hid (ch_div n j)
      have hj40 : (j : Int) ≤ 40 := by omega
      have hn40 : (n : Int) ≤ 40 := by omega
      go_wp2
      go_round
      case rel => exact ⟨j + 1, by omega, by go_num, by first | rw [← hd.out] | (rw [← hd.out]; go_num)⟩
      case measure => simp [intOf]; omega
    · obtain rfl : m = j := by omega
      obtain ⟨Cv, hCv⟩ : ∃ x : Int, x = ((ch n m : Nat) : Int) := ⟨_, rfl⟩
      have m1 := HF.out.rem
      have m2 := HF.out.quo
      have m3 := HF.out.prod
      have m4 := HF2.out.rem
      have m5 := HF2.out.quo
      have m6 := HF2.out.prod
      have hmono : ((draws n b m (c + 1) : Nat) : Int) ≤ ((draws n b m (c + 1 + 1) : Nat) : Int) := Int.ofNat_le.2 (draws_mono n b m (by omega))
      have hS1 : draws n b m (c + 1) ≤ 1099511627776 := Nat.le_trans (draws_le_all hb hc) hC
      have hS2 : draws n b m (c + 1 + 1) ≤ 1099511627776 := Nat.le_trans (draws_le_all hb (by omega)) hC
      rw [← hCv] at m1 m2 m4 m5 ⊢
      clear hCv
      have g1 := HF.out.g0
      have g2 := HF.out.g1
      have g3 := HF2.out.g0
      have g4 := HF2.out.g1
      obtain ⟨G1, hG1⟩ : ∃ x : Int, x = G := ⟨_, rfl⟩
      rw [← hG1] at m2 m3 g1 g2
      obtain ⟨S1, hSv1⟩ : ∃ x : Int, x = ((draws n b m (c + 1) : Nat) : Int) := ⟨_, rfl⟩
      obtain ⟨S2, hSv2⟩ : ∃ x : Int, x = ((draws n b m (c + 1 + 1) : Nat) : Int) := ⟨_, rfl⟩
      rw [← hSv1] at m3
      rw [← hSv2] at m6
      rw [← hSv1, ← hSv2] at hmono
      have z1 : 0 ≤ S1 ∧ S1 ≤ 1099511627776 := by omega
      have z2 : 0 ≤ S2 ∧ S2 ≤ 1099511627776 := by omega
      have w1' : wrap64 (A * G1) = S1 := by rw [m3]; exact IntWalk.wrap64_in _ ⟨by omega, by omega⟩
      have w2' : wrap64 (A2 * G2) = S2 := by rw [m6]; exact IntWalk.wrap64_in _ ⟨by omega, by omega⟩
      have n1 : ¬ B = 0 := by omega
      have n2 : ¬ B2 = 0 := by omega
      have y1 : wrap64 G1 = G1 := IntWalk.wrap64_in _ ⟨by omega, by omega⟩
      have y2 : wrap64 G2 = G2 := IntWalk.wrap64_in _ ⟨by omega, by omega⟩
      have y3 : IntKind.i64.wrap G1 = G1 := (IntWalk.i64_left _).trans y1
      have y4 : IntKind.i64.wrap G2 = G2 := (IntWalk.i64_left _).trans y2
      have y5 := (IntWalk.i64_left _).trans w1'
      have y6 := (IntWalk.i64_left _).trans w2'
      have cmp : decide (S1 ≤ S2) = true := by simpa using hmono
      clear m3 m6 hSv1 hSv2 hG1
      go_wp2
      go_still_tail 30, (by kernel_rfl)
      change wpList _ _ _ _ _ w5.drew
      have hbd := HB5.out.bel.drew
      generalize w5.drew = wz at hbd ⊢
      have HBd := Lib.hid hbd
      clear hbd
      go_wp2_with (go_at_call 26; refine (awake_any _).mono ?_; rintro e w7 ⟨rfl, hb7⟩; have HB7 := Lib.hid (band HBd.out hb7); clear hb7)
      go_ret
      exact ⟨rfl, HB7.out⟩

end Go.Proofs.Ytcedhcpjnoppmaa
