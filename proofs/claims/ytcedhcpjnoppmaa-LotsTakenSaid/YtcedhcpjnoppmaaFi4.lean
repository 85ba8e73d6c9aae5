import Derived.Test.YtcedhcpjnoppmaaFi3
namespace Go.Proofs.Ytcedhcpjnoppmaa
open Go.RowKit

set_option maxHeartbeats 4000000 in
set_option maxRecDepth 100000 in
theorem finite_no (n b m c : Int) (w : World) (h : isLot n b m c = false) :
    Calls Try.prog 41 #[.int .i64 n, .int .i64 b, .int .i64 m, .int .i64 c] w fun e w' => FracNo w e w' := by
  by_cases h1 : 1 ≤ n ∧ n ≤ 40
  · by_cases h2 : (0 ≤ b ∧ b ≤ n) ∧ 0 ≤ m ∧ m ≤ n
    · have h3 : decide (0 ≤ c ∧ c ≤ m) = false := decide_eq_false fun h3 => by
        rw [isLot_iff.2 ⟨h1.1, h1.2, h2.1.1, h2.1.2, h2.2.1, h2.2.2, h3.1, h3.2⟩] at h; cases h
      have H1 := Lib.hid h1
      have H2 := Lib.hid h2
      have H3 := Lib.hid h3
      clear h h1 h2 h3
      go_enter Try.func41, Try.ntmps41
      go_wp2_with fail
      refine (between_one true _ _ _ n 1 40 _ (heap_two2 _ _ _) rfl (decide_eq_true H1.out)).mono ?_
      rintro e w' ⟨rfl, rfl⟩
      go_wp2_with fail
      refine (between_two true _ _ b m 0 n _ (heap_three3 _ _ _ _) (decide_eq_true H2.out)).mono ?_
      rintro e w' ⟨rfl, rfl⟩
      go_wp2_with fail
      refine (between_one false _ _ _ c 0 m _ (heap_four4 _ _ _ _ _) rfl H3.out).mono ?_
      rintro e w' ⟨rfl, rfl⟩
      have HB0 := Lib.hid ((ResAt.start w).keep (below_three _ (.cells #[.int .i64 n] 3) (.cells #[.int .i64 b, .int .i64 m] 3) (.cells #[.int .i64 c] 3)))
      obtain ⟨q1, q2, q3, q4, q5⟩ := HB0.out.cells
      have HBel := Lib.hid HB0.out.bel
      go_wp2
      exact bodyPost_ret (v := .tuple #[.agg #[.int .i64 0, .int .i64 0], .int .i64 2]) (by simp [results, Try.results41, go_sem, q1, q2]) rfl ⟨rfl, HBel.out⟩
    · have H1 := Lib.hid h1
      have H2 := Lib.hid h2
      clear h h1 h2
      go_enter Try.func41, Try.ntmps41
      go_wp2_with fail
      refine (between_one true _ _ _ n 1 40 _ (heap_two2 _ _ _) rfl (decide_eq_true H1.out)).mono ?_
      rintro e w' ⟨rfl, rfl⟩
      go_wp2_with fail
      refine (between_two false _ _ b m 0 n _ (heap_three3 _ _ _ _) (decide_eq_false H2.out)).mono ?_
      rintro e w' ⟨rfl, rfl⟩
      have HB0 := Lib.hid ((ResAt.start w).keep (below_two _ (.cells #[.int .i64 n] 3) (.cells #[.int .i64 b, .int .i64 m] 3)))
      obtain ⟨q1, q2, q3, q4, q5⟩ := HB0.out.cells
      have HBel := Lib.hid HB0.out.bel
      go_wp2
      exact bodyPost_ret (v := .tuple #[.agg #[.int .i64 0, .int .i64 0], .int .i64 2]) (by simp [results, Try.results41, go_sem, q1, q2]) rfl ⟨rfl, HBel.out⟩
  · have H1 := Lib.hid h1
    clear h h1
    go_enter Try.func41, Try.ntmps41
    go_wp2_with fail
    refine (between_one false _ _ _ n 1 40 _ (heap_two2 _ _ _) rfl (decide_eq_false H1.out)).mono ?_
    rintro e w' ⟨rfl, rfl⟩
    have HB0 := Lib.hid ((ResAt.start w).keep (below_one _ (.cells #[.int .i64 n] 3)))
    obtain ⟨q1, q2, q3, q4, q5⟩ := HB0.out.cells
    have HBel := Lib.hid HB0.out.bel
    go_wp2
    exact bodyPost_ret (v := .tuple #[.agg #[.int .i64 0, .int .i64 0], .int .i64 2]) (by simp [results, Try.results41, go_sem, q1, q2]) rfl ⟨rfl, HBel.out⟩

set_option maxHeartbeats 4000000 in
set_option maxRecDepth 100000 in
theorem rlot_no (n b m c : Int) (w : World) (h : isLot n b m c = false) :
    Calls Try.prog 42 #[.int .i64 n, .int .i64 b, .int .i64 m, .int .i64 c] w fun e w' => e = .returned (.bool false) ∧ w = w' := by
  have hh : ¬ (1 ≤ n ∧ n ≤ 40 ∧ 0 ≤ b ∧ b ≤ n ∧ 0 ≤ m ∧ m ≤ n ∧ 0 ≤ c ∧ c ≤ m) := fun hh => by rw [isLot_iff.2 hh] at h; cases h
  have hc : n < 1 ∨ (1 ≤ n ∧ 40 < n) ∨ (1 ≤ n ∧ n ≤ 40 ∧ b < 0) ∨ (1 ≤ n ∧ n ≤ 40 ∧ 0 ≤ b ∧ n < b) ∨ (1 ≤ n ∧ n ≤ 40 ∧ 0 ≤ b ∧ b ≤ n ∧ m < 0) ∨ (1 ≤ n ∧ n ≤ 40 ∧ 0 ≤ b ∧ b ≤ n ∧ 0 ≤ m ∧ n < m) ∨
      (1 ≤ n ∧ n ≤ 40 ∧ 0 ≤ b ∧ b ≤ n ∧ 0 ≤ m ∧ m ≤ n ∧ c < 0) ∨ (1 ≤ n ∧ n ≤ 40 ∧ 0 ≤ b ∧ b ≤ n ∧ 0 ≤ m ∧ m ≤ n ∧ 0 ≤ c ∧ m < c) := by omega
  clear hh h
  rcases hc with g | ⟨g1, g⟩ | ⟨g1, g2, g⟩ | ⟨g1, g2, g3, g⟩ | ⟨g1, g2, g3, g4, g⟩ | ⟨g1, g2, g3, g4, g5, g⟩ | ⟨g1, g2, g3, g4, g5, g6, g⟩ | ⟨g1, g2, g3, g4, g5, g6, g7, g⟩
  · have G : decide (1 ≤ n) = false := by simp; omega
    go_enter Try.func42, Try.ntmps42
    go_wp2
    go_ret
    exact ⟨rfl, rfl⟩
  · have G : decide (n ≤ 40) = false := by simp; omega
    go_enter Try.func42, Try.ntmps42
    go_wp2
    go_ret
    exact ⟨rfl, rfl⟩
  · have G : decide (0 ≤ b) = false := by simp; omega
    go_enter Try.func42, Try.ntmps42
    go_wp2
    go_ret
    exact ⟨rfl, rfl⟩
  · have G : decide (b ≤ n) = false := by simp; omega
    go_enter Try.func42, Try.ntmps42
    go_wp2
    go_ret
    exact ⟨rfl, rfl⟩
  · have G : decide (0 ≤ m) = false := by simp; omega
    go_enter Try.func42, Try.ntmps42
    go_wp2
    go_ret
    exact ⟨rfl, rfl⟩
  · have G : decide (m ≤ n) = false := by simp; omega
    go_enter Try.func42, Try.ntmps42
    go_wp2
    go_ret
    exact ⟨rfl, rfl⟩
  · have G : decide (0 ≤ c) = false := by simp; omega
    go_enter Try.func42, Try.ntmps42
    go_wp2
    go_ret
    exact ⟨rfl, rfl⟩
  · have G : decide (c ≤ m) = false := by simp; omega
    go_enter Try.func42, Try.ntmps42
    go_wp2
    go_ret
    exact ⟨rfl, rfl⟩

set_option maxHeartbeats 4000000 in
set_option maxRecDepth 100000 in
theorem rlot_yes (n b m c : Int) (w : World) (g1 : 1 ≤ n) (g2 : n ≤ 40) (g3 : 0 ≤ b) (g4 : b ≤ n) (g5 : 0 ≤ m) (g6 : m ≤ n) (g7 : 0 ≤ c) (g8 : c ≤ m) :
    Calls Try.prog 42 #[.int .i64 n, .int .i64 b, .int .i64 m, .int .i64 c] w fun e w' => e = .returned (.bool true) ∧ w = w' := by
  go_enter Try.func42, Try.ntmps42
  go_wp2
  go_ret
  have G : decide (c ≤ m) = true := by simpa using g8
  first
    | exact ⟨rfl, rfl⟩
    | exact ⟨by simp [g8], rfl⟩

set_option maxHeartbeats 4000000 in
set_option maxRecDepth 100000 in
theorem rfinite_yes (n b m c : Nat) (w : World) (h1 : 1 ≤ n) (h40 : n ≤ 40) (hb : b ≤ n) (hm : m ≤ n) (hc : c ≤ m) :
    Calls Try.prog 43 #[.int .i64 n, .int .i64 b, .int .i64 m, .int .i64 c] w fun e w' => e = .returned (frV (draws n b m (c + 1)) (ch n m)) ∧ Below w.heap.size w w' := by
  have hn40 : (n : Int) ≤ 40 := by omega
  have hb40 : (b : Int) ≤ n := by omega
  have hm40 : (m : Int) ≤ n := by omega
  have hc40 : (c : Int) ≤ m := by omega
  have HB0 := Lib.hid (ResAt.start w)
  go_enter Try.func43, Try.ntmps43
  go_wp2
  go_loop [9, 13] (fun s i => ∃ j : Nat, j ≤ c + 1 ∧ i = .int .i64 j ∧ s = .int .i64 (draws n b m j : Nat)) (fun _ i => c + 1 - (intOf i).toNat)
  case atStart => exact ⟨0, Nat.zero_le _, rfl, rfl⟩
  case round =>
    obtain ⟨j, hj, rfl, rfl⟩ := hrel
    by_cases hlt : j ≤ c
    · have t1 := term_le (m := m) (c := j) hb h40
      have t2 := draws_le (m := m) hb h40 j
      have t3 : ((ch b j : Nat) : Int) * ((ch (n - b) (m - j) : Nat) : Int) = ((ch b j * ch (n - b) (m - j) : Nat) : Int) := by simp
      have t4 : 0 ≤ ((ch b j : Nat) : Int) * ((ch (n - b) (m - j) : Nat) : Int) := by rw [t3]; omega
      have t5 : ((ch b j : Nat) : Int) * ((ch (n - b) (m - j) : Nat) : Int) ≤ 1099511627776 := by rw [t3]; omega
      have t6 : ((draws n b m j : Nat) : Int) ≤ 45079976738816 := by omega
      have e1 : (n : Int) - (b : Int) = ((n - b : Nat) : Int) := by omega
      have e2 : (m : Int) - (j : Int) = ((m - j : Nat) : Int) := by omega
      have T3 := Lib.hid t3
      have E1 := Lib.hid e1
      have E2 := Lib.hid e2
      have hd : Hid (draws n b m (j + 1) = draws n b m j + ch b j * ch (n - b) (m - j)) := rfl
      have hlt' : (j : Int) < (c : Int) + 1 := by omega
      clear t1 t2 t3 e1 e2
      go_wp2_with fail
      refine (rchoose_any b j _ (by omega) (by omega)).mono ?_
      rintro e w' ⟨rfl, rfl⟩
      go_wp2_with fail
      rw [E1.out, E2.out]
      refine (rchoose_any (n - b) (m - j) _ (by omega) (by omega)).mono ?_
      rintro e w' ⟨rfl, rfl⟩
      go_wp2
      go_round
      case rel => exact ⟨j + 1, by omega, by go_num, by rw [hd.out]; first | rfl | go_num⟩
      case measure => simp [intOf]; omega
    · obtain rfl : j = c + 1 := by omega
      have t2 := draws_le (m := m) hb h40 (c + 1)
      have t7 : draws n b m (c + 1) ≤ 45079976738816 := by omega
      have t8 := Nat.le_trans (ch_le n m) (pow40 h40)
      have t9 := ch_pos hm
      clear t2
      go_wp2_with fail
      refine (rchoose_any n m _ (by omega) (by omega)).mono ?_
      rintro e w' ⟨rfl, rfl⟩
      go_wp2_with fail
      refine (rfrac_any (draws n b m (c + 1)) (ch n m) _ (by omega) (by omega) t9).mono ?_
      rintro e w4 ⟨rfl, hb4⟩
      have HB4 := Lib.hid (HB0.out.keep hb4)
      obtain ⟨q1, q2, q3, q4, q5⟩ := HB4.out.cells
      have HBel := Lib.hid HB4.out.bel
      clear hb4 HB0
      go_wp2
      exact bodyPost_ret (v := frV (draws n b m (c + 1)) (ch n m)) (by simp [results, Try.results43, go_sem, q1, q2]) rfl ⟨rfl, (HBel.out.setCell (by simp) _).setCell (by simp) _⟩

end Go.Proofs.Ytcedhcpjnoppmaa
