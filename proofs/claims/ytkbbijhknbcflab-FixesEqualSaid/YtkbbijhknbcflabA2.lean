import Derived.Test.YtkbbijhknbcflabA1
/-
  Works in the program: before, marked.
-/
namespace Go.Proofs.Ytkbbijhknbcflab
open Go.RowKit

theorem bef_no {nx : Nat → Nat} {X k : Nat} (h : nx k &&& X = 0) : bef nx X (k + 1) = bef nx X k := by simp [bef, h]
theorem bef_yes {nx : Nat → Nat} {X k : Nat} (h : ¬ nx k &&& X = 0) : bef nx X (k + 1) = bef nx X k ||| 2 ^ k := by simp [bef, h]
theorem mkd_no {mk : Nat → Nat} {j k : Nat} (h : (mk k).testBit j = false) : mkd mk j (k + 1) = mkd mk j k := by simp [mkd, h]
theorem mkd_yes {mk : Nat → Nat} {j k : Nat} (h : (mk k).testBit j = true) : mkd mk j (k + 1) = mkd mk j k ||| 2 ^ k := by simp [mkd, h]
theorem or_wrap {S k : Nat} (hS : S < 64) (hk : k ≤ 6) : bits .or .i64 (S : Int) (wrap64 ((2 : Int) ^ k)) = ((S ||| 2 ^ k : Nat) : Int) := by
  have := two_le6 hk
  rw [wrap_two (by omega)]
  exact bor_nat _ _ (by omega) (by omega)

set_option maxHeartbeats 2000000 in
set_option maxRecDepth 100000 in
theorem before_any (aN : Option Addr) (n cN : Nat) (aM : Option Addr) (m cM : Nat) (nx : Nat → Nat) (X : Nat) (w : World) (hn : n ≤ 6) (hN : Ints w aN n (fun i => (nx i : Int))) (hx : ∀ i, i < n → nx i < 64) (hX : X < 64) :
    Calls Try.prog 55 #[wkV aN n cN aM m cM, .int .i64 (X : Int)] w fun e w' => e = .returned (.int .i64 ((bef nx X n : Nat) : Int)) ∧ Below w.heap.size w w' := by
  have HN := Lib.hid (fun o => (hN.keep (Nat.le_refl _) (below_one w o) : Ints _ _ _ _))
  clear hN
  go_enter Try.func55, Try.ntmps55
  go_wp2
  go_loop [5, 11] (fun st i => ∃ k : Nat, k ≤ n ∧ i = .int .i64 k ∧ st = .int .i64 ((bef nx X k : Nat) : Int)) (fun _ i => n - (intOf i).toNat)
  case atStart => exact ⟨0, Nat.zero_le _, rfl, rfl⟩
  case round =>
    obtain ⟨k, hk, rfl, rfl⟩ := hrel
    by_cases hlt : k < n
    · obtain ⟨b, o, rfl, hck⟩ := HN.out (.cells #[.slice aN n cN, .slice aM m cM] 33) k hlt
      have hck' := hck
      simp only at hck'
      have hb := band_nat (nx k) X (Nat.lt_of_lt_of_le (hx k hlt) (by decide)) (Nat.lt_of_lt_of_le hX (by decide))
      have HO := Lib.hid (or_wrap (lt64 (bef_lt nx X k) (by omega)) (show k ≤ 6 by omega))
      by_cases h0 : nx k &&& X = 0
      · have HK := Lib.hid (bef_no h0)
        have hb' : bits .and .i64 (nx k : Int) (X : Int) = 0 := by rw [hb, h0]; rfl
        clear hb h0 hck hx
        go_wp2
        go_round
        case rel => exact ⟨k + 1, by omega, by go_num, by rw [HK.out]⟩
        case measure => simp [intOf]; omega
      · have HK := Lib.hid (bef_yes h0)
        obtain ⟨Z, hZ⟩ : ∃ Z : Int, bits .and .i64 (nx k : Int) (X : Int) = Z ∧ ¬ Z = 0 := ⟨_, hb, by omega⟩
        obtain ⟨hZ, hZ0⟩ := hZ
        clear hb h0 hck hx
        go_wp2
        go_round
        case rel => exact ⟨k + 1, by omega, by go_num, by rw [HK.out, HO.out]⟩
        case measure => simp [intOf]; omega
    · obtain rfl : k = n := by omega
      go_wp2
      go_ret
      exact ⟨rfl, below_one _ _⟩

set_option maxHeartbeats 2000000 in
set_option maxRecDepth 100000 in
theorem marked_any (aN : Option Addr) (n cN : Nat) (aM : Option Addr) (m cM : Nat) (mk : Nat → Nat) (j : Nat) (w : World) (hn : n ≤ 6) (hM : Ints w aM n (fun i => (mk i : Int))) (hx : ∀ i, i < n → mk i < 64) (hj : j ≤ 3) :
    Calls Try.prog 40 #[wkV aN m cN aM n cM, .int .i64 (j : Int)] w fun e w' => e = .returned (.int .i64 ((mkd mk j n : Nat) : Int)) ∧ Below w.heap.size w w' := by
  have HN := Lib.hid (fun o => (hM.keep (Nat.le_refl _) (below_one w o) : Ints _ _ _ _))
  clear hM
  go_enter Try.func40, Try.ntmps40
  go_wp2
  go_loop [5, 11] (fun st i => ∃ k : Nat, k ≤ n ∧ i = .int .i64 k ∧ st = .int .i64 ((mkd mk j k : Nat) : Int)) (fun _ i => n - (intOf i).toNat)
  case atStart => exact ⟨0, Nat.zero_le _, rfl, rfl⟩
  case round =>
    obtain ⟨k, hk, rfl, rfl⟩ := hrel
    by_cases hlt : k < n
    · obtain ⟨b, o, rfl, hck⟩ := HN.out (.cells #[.slice aN m cN, .slice aM n cM] 33) k hlt
      have hck' := hck
      simp only at hck'
      have HO := Lib.hid (or_wrap (lt64 (mkd_lt mk j k) (by omega)) (show k ≤ 6 by omega))
      have H62 : mk k < 2 ^ 62 := Nat.lt_of_lt_of_le (hx k hlt) (by decide)
      cases hbit : (mk k).testBit j
      · have HK := Lib.hid (mkd_no hbit)
        have HE := Lib.hid hbit
        clear hbit hck hx
        go_wp2_with fail
        refine (has_r false (mk k) j _ H62 (by omega) HE.out).mono ?_
        rintro e w' ⟨rfl, rfl⟩
        go_wp2
        go_round
        case rel => exact ⟨k + 1, by omega, by go_num, by rw [HK.out]⟩
        case measure => simp [intOf]; omega
      · have HK := Lib.hid (mkd_yes hbit)
        have HE := Lib.hid hbit
        clear hbit hck hx
        go_wp2_with fail
        refine (has_r true (mk k) j _ H62 (by omega) HE.out).mono ?_
        rintro e w' ⟨rfl, rfl⟩
        go_wp2
        go_round
        case rel => exact ⟨k + 1, by omega, by go_num, by rw [HK.out, HO.out]⟩
        case measure => simp [intOf]; omega
    · obtain rfl : k = n := by omega
      go_wp2
      go_ret
      exact ⟨rfl, below_one _ _⟩
end Go.Proofs.Ytkbbijhknbcflab
