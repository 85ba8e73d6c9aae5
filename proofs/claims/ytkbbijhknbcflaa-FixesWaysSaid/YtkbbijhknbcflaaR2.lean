import Derived.Test.YtkbbijhknbcflaaR1
import Derived.Test.YtkbbijhknbcflaaB2
/-
  The document's own words: sets, Reach and Always.
-/
namespace Go.Proofs.Ytkbbijhknbcflaa
open Go.RowKit

set_option maxHeartbeats 1000000 in
theorem rset_any (r : Bool) (aN : Option Addr) (n cN : Nat) (aM : Option Addr) (m cM : Nat) (x : Int) (w : World) (hn : n ≤ 6) (hr : decide (0 ≤ x ∧ x ≤ ((2 ^ n - 1 : Nat) : Int)) = r) :
    Calls Try.prog 12 #[wkV aN n cN aM m cM, .int .i64 x] w fun e w' => e = .returned (.bool r) ∧ Below w.heap.size w w' := by
  have HB := Lib.hid (below_one w (.cells #[.slice aN n cN, .slice aM m cM] 24))
  obtain ⟨Z, hZ⟩ : ∃ Z : Int, Z = ((2 ^ n - 1 : Nat) : Int) + 1 := ⟨_, rfl⟩
  have hz : wrap64 ((2 : Int) ^ n) = Z := by
    have h1 : 1 ≤ 2 ^ n := Nat.one_le_two_pow
    rw [wrap_two (by omega), hZ]; omega
  by_cases h0 : 0 ≤ x
  · by_cases h1 : x < Z
    · obtain rfl : true = r := by rw [← hr]; exact (decide_eq_true ⟨h0, by omega⟩).symm
      clear hr hZ
      go_enter Try.func12, Try.ntmps12
      go_wp2
      go_ret
      exact ⟨rfl, HB.out⟩
    · obtain rfl : false = r := by rw [← hr]; exact (decide_eq_false fun h => by omega).symm
      clear hr hZ
      go_enter Try.func12, Try.ntmps12
      go_wp2
      go_ret
      exact ⟨rfl, HB.out⟩
  · obtain rfl : false = r := by rw [← hr]; exact (decide_eq_false fun h => h0 h.1).symm
    clear hr hZ
    go_enter Try.func12, Try.ntmps12
    go_wp2
    go_ret
    exact ⟨rfl, HB.out⟩

theorem rea_no {nx : Nat → Nat} {X k : Nat} (h : nx k &&& rea nx X k = 0) : rea nx X (k + 1) = rea nx X k := by simp [rea, h]
theorem rea_yes {nx : Nat → Nat} {X k : Nat} (h : ¬ nx k &&& rea nx X k = 0) : rea nx X (k + 1) = rea nx X k ||| 2 ^ k := by simp [rea, h]
theorem sta_no {nx : Nat → Nat} {X k : Nat} (h : nx k &&& sta nx X k = 0) : sta nx X (k + 1) = sdf (sta nx X k) (2 ^ k) := by simp [sta, h]
theorem sta_yes {nx : Nat → Nat} {X k : Nat} (h : ¬ nx k &&& sta nx X k = 0) : sta nx X (k + 1) = sta nx X k := by simp [sta, h]
theorem an_wrap {S k : Nat} (hS : S < 64) (hk : k < 6) : bits .andNot .i64 (S : Int) (wrap64 ((2 : Int) ^ k)) = ((sdf S (2 ^ k) : Nat) : Int) := by
  have : 2 ^ k < 2 ^ 6 := Nat.pow_lt_pow_right (by decide) hk
  rw [wrap_two (by omega)]
  exact andNot_nat hS (by omega)

set_option maxHeartbeats 4000000 in
set_option maxRecDepth 100000 in
theorem rreach_any (aN : Option Addr) (n cN : Nat) (aM : Option Addr) (cM : Nat) (nx mk : Nat → Nat) (s : Nat) (w : World) (h : Wk w aN n aM nx mk) (hs : s < 2 ^ n) :
    Calls Try.prog 14 #[wkV aN n cN aM n cM, .int .i64 (s : Int)] w fun e w' => e = .returned (.int .i64 (iter (fun X => rea nx X n) s n : Nat)) ∧ Below w.heap.size w w' := by
  have hn := h.n6
  have HN := Lib.hid (h.keep (Nat.le_refl _) (below_one w (.cells #[.slice aN n cN, .slice aM n cM] 24))).N
  have HX := Lib.hid h.nx_lt
  have HB := Lib.hid (below_one w (.cells #[.slice aN n cN, .slice aM n cM] 24))
  have HIt : Hid (∀ k, iter (fun X => rea nx X n) s k < 2 ^ n) := iter_lt (fun X hX => rea_lt hX n (Nat.le_refl _)) hs
  clear h
  go_enter Try.func14, Try.ntmps14
  go_wp2
  go_loop [1, 10] (fun st i => ∃ a : Nat, a ≤ n ∧ i = .int .i64 a ∧ st = .int .i64 ((iter (fun X => rea nx X n) s a : Nat) : Int)) (fun _ i => n - (intOf i).toNat)
  case atStart => exact ⟨0, Nat.zero_le _, rfl, rfl⟩
  case round =>
    obtain ⟨a, ha, rfl, rfl⟩ := hrel
    by_cases hla : a < n
    · have hI := HIt.out a
      have HIs : Hid (rea nx (iter (fun X => rea nx X n) s a) n = iter (fun X => rea nx X n) s (a + 1)) := rfl
      generalize iter (fun X => rea nx X n) s a = S at *
      go_wp2
      go_loop [1, 15] (fun st i => ∃ k : Nat, k ≤ n ∧ i = .int .i64 k ∧ st = .int .i64 ((rea nx S k : Nat) : Int)) (fun _ i => n - (intOf i).toNat)
      case atStart => exact ⟨0, Nat.zero_le _, rfl, rfl⟩
      case round =>
        obtain ⟨k, hk, rfl, rfl⟩ := hrel
        by_cases hlt : k < n
        · obtain ⟨b, o, rfl, hck⟩ := HN.out k hlt
          have hck' := hck
          simp only at hck'
          have hrl := rea_lt (nx := nx) hI k hk
          have hb := band_nat (nx k) (rea nx S k) (Nat.lt_of_lt_of_le (lt64 (HX.out k hlt) hn) (by decide)) (Nat.lt_of_lt_of_le (lt64 hrl hn) (by decide))
          have HO := Lib.hid (or_wrap (lt64 hrl hn) (show k ≤ 6 by omega))
          by_cases h0 : nx k &&& rea nx S k = 0
          · have HK := Lib.hid (rea_no h0)
            have hb' : bits .and .i64 (nx k : Int) (rea nx S k : Nat) = 0 := by rw [hb, h0]; rfl
            clear hb h0 hck hrl
            go_wp2
            go_round
            case rel => exact ⟨k + 1, by omega, by go_num, by rw [HK.out]⟩
            case measure => simp [intOf]; omega
          · have HK := Lib.hid (rea_yes h0)
            obtain ⟨Z, hZ⟩ : ∃ Z : Int, bits .and .i64 (nx k : Int) (rea nx S k : Nat) = Z ∧ ¬ Z = 0 := ⟨_, hb, by omega⟩
            obtain ⟨hZ, hZ0⟩ := hZ
            clear hb h0 hck hrl
            go_wp2
            go_round
            case rel => exact ⟨k + 1, by omega, by go_num, by rw [HK.out, HO.out]⟩
            case measure => simp [intOf]; omega
        · obtain rfl : k = n := by omega
          go_wp2
          go_round
          case rel => exact ⟨a + 1, by omega, by go_num, by rw [HIs.out]⟩
          case measure => simp [intOf]; omega
    · obtain rfl : a = n := by omega
      go_wp2
      go_ret
      exact ⟨rfl, HB.out⟩

set_option maxHeartbeats 4000000 in
set_option maxRecDepth 100000 in
theorem ralways_any (aN : Option Addr) (n cN : Nat) (aM : Option Addr) (cM : Nat) (nx mk : Nat → Nat) (s : Nat) (w : World) (h : Wk w aN n aM nx mk) (hs : s < 2 ^ n) :
    Calls Try.prog 15 #[wkV aN n cN aM n cM, .int .i64 (s : Int)] w fun e w' => e = .returned (.int .i64 (iter (fun X => sta nx X n) s n : Nat)) ∧ Below w.heap.size w w' := by
  have hn := h.n6
  have HN := Lib.hid (h.keep (Nat.le_refl _) (below_one w (.cells #[.slice aN n cN, .slice aM n cM] 24))).N
  have HX := Lib.hid h.nx_lt
  have HB := Lib.hid (below_one w (.cells #[.slice aN n cN, .slice aM n cM] 24))
  have HIt : Hid (∀ k, iter (fun X => sta nx X n) s k < 2 ^ n) := iter_lt (fun X hX => sta_lt hX n) hs
  clear h
  go_enter Try.func15, Try.ntmps15
  go_wp2
  go_loop [1, 10] (fun st i => ∃ a : Nat, a ≤ n ∧ i = .int .i64 a ∧ st = .int .i64 ((iter (fun X => sta nx X n) s a : Nat) : Int)) (fun _ i => n - (intOf i).toNat)
  case atStart => exact ⟨0, Nat.zero_le _, rfl, rfl⟩
  case round =>
    obtain ⟨a, ha, rfl, rfl⟩ := hrel
    by_cases hla : a < n
    · have hI := HIt.out a
      have HIs : Hid (sta nx (iter (fun X => sta nx X n) s a) n = iter (fun X => sta nx X n) s (a + 1)) := rfl
      generalize iter (fun X => sta nx X n) s a = S at *
      go_wp2
      go_loop [1, 15] (fun st i => ∃ k : Nat, k ≤ n ∧ i = .int .i64 k ∧ st = .int .i64 ((sta nx S k : Nat) : Int)) (fun _ i => n - (intOf i).toNat)
      case atStart => exact ⟨0, Nat.zero_le _, rfl, rfl⟩
      case round =>
        obtain ⟨k, hk, rfl, rfl⟩ := hrel
        by_cases hlt : k < n
        · obtain ⟨b, o, rfl, hck⟩ := HN.out k hlt
          have hck' := hck
          simp only at hck'
          have hrl := sta_lt (nx := nx) hI k
          have hb := band_nat (nx k) (sta nx S k) (Nat.lt_of_lt_of_le (lt64 (HX.out k hlt) hn) (by decide)) (Nat.lt_of_lt_of_le (lt64 hrl hn) (by decide))
          have HO := Lib.hid (an_wrap (lt64 hrl hn) (show k < 6 by omega))
          by_cases h0 : nx k &&& sta nx S k = 0
          · have HK := Lib.hid (sta_no h0)
            have hb' : bits .and .i64 (nx k : Int) (sta nx S k : Nat) = 0 := by rw [hb, h0]; rfl
            clear hb h0 hck hrl
            go_wp2
            go_round
            case rel => exact ⟨k + 1, by omega, by go_num, by rw [HK.out, HO.out]⟩
            case measure => simp [intOf]; omega
          · have HK := Lib.hid (sta_yes h0)
            obtain ⟨Z, hZ⟩ : ∃ Z : Int, bits .and .i64 (nx k : Int) (sta nx S k : Nat) = Z ∧ ¬ Z = 0 := ⟨_, hb, by omega⟩
            obtain ⟨hZ, hZ0⟩ := hZ
            clear hb h0 hck hrl
            go_wp2
            go_round
            case rel => exact ⟨k + 1, by omega, by go_num, by rw [HK.out]⟩
            case measure => simp [intOf]; omega
        · obtain rfl : k = n := by omega
          go_wp2
          go_round
          case rel => exact ⟨a + 1, by omega, by go_num, by rw [HIs.out]⟩
          case measure => simp [intOf]; omega
    · obtain rfl : a = n := by omega
      go_wp2
      go_ret
      exact ⟨rfl, HB.out⟩
end Go.Proofs.Ytkbbijhknbcflaa
