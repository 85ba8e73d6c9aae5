import Derived.Test.YtcedhcpjnoppmaaB2
import Derived.Test.YtcedhcpjnoppmaaFi1
namespace Go.Proofs.Ytcedhcpjnoppmaa
open Go.RowKit

theorem ch_div (n i : Nat) : ((ch n i : Int) * ((n : Int) - (i : Int))) / ((i : Int) + 1) = (ch n (i + 1) : Int) := by
  rw [ch_int]; exact Int.mul_ediv_cancel _ (by omega)

theorem ch_prod {n i : Nat} (hn : n ≤ 40) (hi : i ≤ 41) : 0 ≤ (ch n i : Int) * ((n : Int) - (i : Int)) ∧ (ch n i : Int) * ((n : Int) - (i : Int)) ≤ 46179488366592 ∧ 0 ≤ (ch n i : Int) ∧ (ch n i : Int) ≤ 1099511627776 := by
  have h1 := Nat.le_trans (ch_le n i) (pow40 hn)
  have h2 := Nat.le_trans (ch_le n (i + 1)) (pow40 hn)
  have h3 : ch n (i + 1) * (i + 1) ≤ 1099511627776 * 42 := Nat.mul_le_mul h2 (by omega)
  rw [ch_int]
  have e : (ch n (i + 1) : Int) * ((i : Int) + 1) = ((ch n (i + 1) * (i + 1) : Nat) : Int) := by simp
  rw [e]
  omega

set_option maxHeartbeats 1000000 in
theorem choose_any (n k : Nat) (w : World) (hn : n ≤ 40) (hk : k ≤ 40) :
    Calls Try.prog 69 #[.int .i64 n, .int .i64 k] w fun e w' => e = .returned (.int .i64 (ch n k : Nat)) ∧ w = w' := by
  go_enter Try.func69, Try.ntmps69
  go_wp2
  go_loop [5, 8] (fun s i => ∃ j : Nat, j ≤ k ∧ i = .int .i64 j ∧ s = .int .i64 (ch n j : Nat)) (fun _ i => k - (intOf i).toNat)
  case atStart => exact ⟨0, Nat.zero_le _, rfl, by rw [ch_zero]; rfl⟩
  case round =>
    obtain ⟨j, hj, rfl, rfl⟩ := hrel
    by_cases hlt : j < k
    · obtain ⟨b1, b2, b3, b4⟩ := ch_prod hn (show j ≤ 41 by omega)
      have hd := Lib.hid (ch_div n j)
      have hj40 : (j : Int) ≤ 40 := by omega
      have hn40 : (n : Int) ≤ 40 := by omega
      go_wp2
      go_round
      case rel => exact ⟨j + 1, by omega, by go_num, by first | rw [← hd.out] | (rw [← hd.out]; go_num)⟩
      case measure => simp [intOf]; omega
    · obtain rfl : k = j := by omega
      go_wp2
      go_ret
      exact ⟨rfl, rfl⟩

set_option maxHeartbeats 1000000 in
theorem rchoose_any (n k : Nat) (w : World) (hn : n ≤ 40) (hk : k ≤ 40) :
    Calls Try.prog 70 #[.int .i64 n, .int .i64 k] w fun e w' => e = .returned (.int .i64 (ch n k : Nat)) ∧ w = w' := by
  by_cases hnk : n < k
  · have hz := Lib.hid (ch_high hnk)
    go_enter Try.func70, Try.ntmps70
    go_wp2
    go_ret
    exact ⟨by rw [hz.out]; rfl, rfl⟩
  · have hkn : k ≤ n := by omega
    clear hnk
    go_enter Try.func70, Try.ntmps70
    go_wp2
    go_loop [5, 15] (fun s i => ∃ j : Nat, j ≤ k ∧ i = .int .i64 j ∧ s = .int .i64 (ch n j : Nat)) (fun _ i => k - (intOf i).toNat)
    case atStart => exact ⟨0, Nat.zero_le _, rfl, by rw [ch_zero]; rfl⟩
    case round =>
      obtain ⟨j, hj, rfl, rfl⟩ := hrel
      by_cases hlt : j < k
      · obtain ⟨b1, b2, b3, b4⟩ := ch_prod hn (show j ≤ 41 by omega)
        have hd := Lib.hid (ch_div n j)
        have hj40 : (j : Int) ≤ 40 := by omega
        have hn40 : (n : Int) ≤ 40 := by omega
        go_wp2
        go_round
        case rel => exact ⟨j + 1, by omega, by go_num, by first | rw [← hd.out] | (rw [← hd.out]; go_num)⟩
        case measure => simp [intOf]; omega
      · obtain rfl : k = j := by omega
        go_wp2
        go_ret
        exact ⟨rfl, rfl⟩

set_option maxHeartbeats 1000000 in
theorem rfrac_any (a b : Nat) (w : World) (ha : a ≤ 4611686018427387904) (hb : b ≤ 4611686018427387904) (h1 : 1 ≤ b) :
    Calls Try.prog 59 #[.int .i64 a, .int .i64 b] w fun e w' => e = .returned (frV a b) ∧ Below w.heap.size w w' := by
  go_enter Try.func59, Try.ntmps59
  go_wp2
  go_loopw [5, 6] (fun x y wr => ∃ p q : Nat, p ≤ 4611686018427387904 ∧ q ≤ 4611686018427387904 ∧ x = .int .i64 p ∧ y = .int .i64 q ∧ Hid (Nat.gcd p q = Nat.gcd a b) ∧ ∃ n, wr = (w.alloc (.cells #[.int .i64 0, .int .i64 0] 28)).drewN n) (fun _ y _ => (intOf y).toNat)
  case atStart => exact ⟨a, b, ha, hb, rfl, rfl, rfl, 0, rfl⟩
  case round =>
    obtain ⟨p, q, hp, hq, rfl, rfl, hg, n, rfl⟩ := hrel
    by_cases h0 : q = 0
    · subst h0
      have hg0 : Hid (p = Nat.gcd a b) := by have := hg.out; rw [Nat.gcd_zero_right] at this; exact this
      have hgp : 0 < p := by rw [hg0.out]; exact Nat.gcd_pos_of_pos_right a (by omega)
      have hle : p ≤ b := by rw [hg0.out]; exact Nat.gcd_le_right a (by omega)
      have G : (((0 : Nat) : Int) != 0) = false := rfl
      have G0 : ¬ p = 0 := by omega
      have e1 : (a : Int).tdiv (p : Int) = ((a / p : Nat) : Int) := by rw [Int.tdiv_eq_ediv_of_nonneg (by omega)]; omega
      have e2 : (b : Int).tdiv (p : Int) = ((b / p : Nat) : Int) := by rw [Int.tdiv_eq_ediv_of_nonneg (by omega)]; omega
      have R1 := Lib.hid (wrap_div a p ha)
      have R2 := Lib.hid (wrap_div b p hb)
      go_wp2
      go_region
      all_goals
        go_wp2
        have r1 := R1.out
        have r2 := R2.out
        exact bodyPost_ret (v := .agg #[.int .i64 ((a / p : Nat) : Int), .int .i64 ((b / p : Nat) : Int)]) (by simp [results, Try.results59, go_sem, r1, r2]) rfl ⟨by rw [hg0.out], ((below_drewN ((Below.refl _ _).alloc (Nat.le_refl _) _) _).setCell (Nat.le_refl _) _).setCell (Nat.le_refl _) _⟩
    · have G : ((q : Int) != 0) = true := by simp; omega
      have G2 : ((q : Int) == 0) = false := by simp; omega
      have hlt := Nat.mod_lt p (Nat.pos_of_ne_zero h0)
      have ht : ((p : Int).tmod (q : Int)) = ((p % q : Nat) : Int) := by rw [Int.tmod_eq_emod_of_nonneg (by omega)]; omega
      have hs : Hid (Nat.gcd q (p % q) = Nat.gcd a b) := (gcd_step p q).trans hg.out
      have HT := Lib.hid ht
      have HL := Lib.hid hlt
      clear ht hlt
      go_wp2
      go_quiet (fail)
      go_wp2
      go_roundw
      case rel => exact ⟨q, p % q, hq, by have := HL.out; omega, rfl, by first | rfl | (rw [HT.out]) | go_num, hs, _, World.drewN_drewN _ _ _⟩
      case measure => simp [intOf]; have := HL.out; omega

end Go.Proofs.Ytcedhcpjnoppmaa
