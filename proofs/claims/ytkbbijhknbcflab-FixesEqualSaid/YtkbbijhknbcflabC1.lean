import Derived.Test.YtkbbijhknbcflabA3
import Derived.Test.YtkbbijhknbcflabMath7
import Derived.BigQuiet
import Derived.Deep.QuietTactic
/-
  union.
-/
namespace Go.Proofs.Ytkbbijhknbcflab
open Go.RowKit

theorem unc_yes {c : Nat → Nat} {X k : Nat} (h : X.testBit k = true) : unc c X (k + 1) = unc c X k ||| c k := by simp [unc, h]
theorem unc_no {c : Nat → Nat} {X k : Nat} (h : X.testBit k = false) : unc c X (k + 1) = unc c X k := by simp [unc, h]
theorem unc_lt {c : Nat → Nat} {n : Nat} (h : ∀ s, s < n → c s < 2 ^ n) (X : Nat) : ∀ k, k ≤ n → unc c X k < 2 ^ n := fun k hk =>
  lt_of_bits fun i hi => by
    obtain ⟨s, h1, _, h3⟩ := (bit_unc c X k i).1 hi
    exact bit_in (h s (by omega)) h3

set_option maxHeartbeats 1000000 in
theorem union_any (a : Option Addr) (cap n : Nat) (c : Nat → Nat) (X : Nat) (w : World) (hn : n ≤ 6) (hX : X < 2 ^ n) (hc : ∀ s, s < n → c s < 2 ^ n) (hI : Ints w a n (fun i => (c i : Int))) :
    Calls Try.prog 62 #[.slice a n cap, .int .i64 X] w fun e w' => e = .returned (.int .i64 (unc c X n : Nat)) ∧ w = w' := by
  have HU := Lib.hid (fun k (hk : k ≤ n) => unc_lt hc X k hk)
  have HC := Lib.hid hc
  have HX : Hid (X < 2 ^ 62) := Nat.lt_of_lt_of_le (lt64 hX hn) (by decide)
  clear hX hc
  go_enter Try.func62, Try.ntmps62
  go_wp2
  go_loop [5, 10] (fun st i => ∃ k : Nat, k ≤ n ∧ i = .int .i64 k ∧ st = .int .i64 ((unc c X k : Nat) : Int)) (fun _ i => n - (intOf i).toNat)
  case atStart => exact ⟨0, Nat.zero_le _, rfl, rfl⟩
  case round =>
    obtain ⟨k, hk, rfl, rfl⟩ := hrel
    by_cases hlt : k < n
    · obtain ⟨b, o, rfl, hck⟩ := hI k hlt
      have hck' := hck
      simp only at hck'
      have HO : Hid (bits .or .i64 ((unc c X k : Nat) : Int) (c k : Nat) = ((unc c X k ||| c k : Nat) : Int)) := bor_nat _ _ (Nat.lt_of_lt_of_le (lt64 (HU.out k hk) hn) (by decide)) (Nat.lt_of_lt_of_le (lt64 (HC.out k hlt) hn) (by decide))
      cases hbit : X.testBit k
      · have HK := Lib.hid (unc_no (c := c) hbit)
        have HE := Lib.hid hbit
        clear hbit hck hI
        go_wp2_with fail
        refine (has_r false X k _ HX.out (by omega) HE.out).mono ?_
        rintro e w' ⟨rfl, rfl⟩
        go_wp2
        go_round
        case rel => exact ⟨k + 1, by omega, by go_num, by rw [HK.out]⟩
        case measure => simp [intOf]; omega
      · have HK := Lib.hid (unc_yes (c := c) hbit)
        have HE := Lib.hid hbit
        clear hbit hck hI
        go_wp2_with fail
        refine (has_r true X k _ HX.out (by omega) HE.out).mono ?_
        rintro e w' ⟨rfl, rfl⟩
        go_wp2
        go_round
        case rel => exact ⟨k + 1, by omega, by go_num, by rw [HK.out, HO.out]⟩
        case measure => simp [intOf]; omega
    · obtain rfl : k = n := by omega
      go_wp2
      go_ret
      exact ⟨rfl, rfl⟩
end Go.Proofs.Ytkbbijhknbcflab
