import Derived.Test.YtkbbijhknbcflabR1
import Derived.Test.YtkbbijhknbcflabB2
import Derived.Test.YtkbbijhknbcflabF1
import Derived.Test.YtkbbijhknbcflabMath5
/-
  The document's own words: digits, letters.
-/
namespace Go.Proofs.Ytkbbijhknbcflab
open Go.RowKit Go.Shelf

def dgV (x : UInt8) : Int := if 48 ≤ x.toNat ∧ x.toNat ≤ 51 then (x.toNat : Int) - 48 else -1
def ltV (x : UInt8) : Int := if 120 ≤ x.toNat ∧ x.toNat ≤ 122 then (x.toNat : Int) - 120 else -1

set_option maxRecDepth 100000 in
theorem rdigit_any (x : UInt8) (w : World) : Calls Try.prog 27 #[.int .u8 (x.toNat : Int)] w fun e w' => e = .returned (.int .i64 (dgV x)) ∧ w' = w := by
  have hx := UInt8.toNat_lt x
  by_cases h : 48 ≤ x.toNat ∧ x.toNat ≤ 51
  · have hv : dgV x = (x.toNat : Int) - 48 := by unfold dgV; rw [if_pos h]
    obtain ⟨h1, h2⟩ := h
    have g1 : (48 : Int) ≤ (x.toNat : Int) := by omega
    have g2 : (x.toNat : Int) ≤ 51 := by omega
    have HW : IntKind.u8.wrap ((x.toNat : Int) - 48) = (x.toNat : Int) - 48 := by
      rcases (show x.toNat = 48 ∨ x.toNat = 49 ∨ x.toNat = 50 ∨ x.toNat = 51 by omega) with e | e | e | e <;> rw [e] <;> rfl
    rw [hv]
    have g3 : 0 ≤ (x.toNat : Int) - 48 := by omega
    have g4 : (x.toNat : Int) - 48 ≤ 3 := by omega
    clear h1 h2 hx hv
    go_enter Try.func27, Try.ntmps27
    go_wp2
    go_ret
    exact ⟨rfl, rfl⟩
  · have hv : dgV x = -1 := by unfold dgV; rw [if_neg h]
    rw [hv]
    by_cases h1 : 48 ≤ x.toNat
    · have g1 : (48 : Int) ≤ (x.toNat : Int) := by omega
      have g2 : (51 : Int) < (x.toNat : Int) := by omega
      clear h hx hv
      go_enter Try.func27, Try.ntmps27
      go_wp2
      go_ret
      exact ⟨rfl, rfl⟩
    · have g1 : (x.toNat : Int) < 48 := by omega
      clear h hx hv
      go_enter Try.func27, Try.ntmps27
      go_wp2
      go_ret
      exact ⟨rfl, rfl⟩
set_option maxRecDepth 100000 in
theorem rletter_any (x : UInt8) (w : World) : Calls Try.prog 28 #[.int .u8 (x.toNat : Int)] w fun e w' => e = .returned (.int .i64 (ltV x)) ∧ w' = w := by
  have hx := UInt8.toNat_lt x
  by_cases h : 120 ≤ x.toNat ∧ x.toNat ≤ 122
  · have hv : ltV x = (x.toNat : Int) - 120 := by unfold ltV; rw [if_pos h]
    obtain ⟨h1, h2⟩ := h
    have g1 : (120 : Int) ≤ (x.toNat : Int) := by omega
    have g2 : (x.toNat : Int) ≤ 122 := by omega
    have HW : IntKind.u8.wrap ((x.toNat : Int) - 120) = (x.toNat : Int) - 120 := by
      rcases (show x.toNat = 120 ∨ x.toNat = 121 ∨ x.toNat = 122 by omega) with e | e | e <;> rw [e] <;> rfl
    rw [hv]
    have g3 : 0 ≤ (x.toNat : Int) - 120 := by omega
    have g4 : (x.toNat : Int) - 120 ≤ 2 := by omega
    clear h1 h2 hx hv
    go_enter Try.func28, Try.ntmps28
    go_wp2
    go_ret
    exact ⟨rfl, rfl⟩
  · have hv : ltV x = -1 := by unfold ltV; rw [if_neg h]
    rw [hv]
    by_cases h1 : 120 ≤ x.toNat
    · have g1 : (120 : Int) ≤ (x.toNat : Int) := by omega
      have g2 : (122 : Int) < (x.toNat : Int) := by omega
      clear h hx hv
      go_enter Try.func28, Try.ntmps28
      go_wp2
      go_ret
      exact ⟨rfl, rfl⟩
    · have g1 : (x.toNat : Int) < 120 := by omega
      clear h hx hv
      go_enter Try.func28, Try.ntmps28
      go_wp2
      go_ret
      exact ⟨rfl, rfl⟩
theorem dgV_dig {k : Nat} (h : k < 4) : dgV (dig k) = k := by rcases cases4 h with rfl | rfl | rfl | rfl <;> rfl
theorem ltV_lett {k : Nat} (h : k < 3) : ltV (lett k) = k := by rcases cases3 h with rfl | rfl | rfl <;> rfl
theorem dgV_yes {x : UInt8} (h : 0 ≤ dgV x) : ∃ k, k < 4 ∧ x = dig k := by
  unfold dgV at h
  split at h
  · rename_i h2
    exact ⟨x.toNat - 48, by omega, by unfold dig; rw [show 48 + (x.toNat - 48) = x.toNat by omega]; simp⟩
  · omega
theorem ltV_yes {x : UInt8} (h : 0 ≤ ltV x) : ∃ k, k < 3 ∧ x = lett k := by
  unfold ltV at h
  split at h
  · rename_i h2
    exact ⟨x.toNat - 120, by omega, by unfold lett; rw [show 120 + (x.toNat - 120) = x.toNat by omega]; simp⟩
  · omega
theorem dgV_cases (x : UInt8) : dgV x = -1 ∨ 0 ≤ dgV x := by unfold dgV; split <;> omega
theorem ltV_cases (x : UInt8) : ltV x = -1 ∨ 0 ≤ ltV x := by unfold ltV; split <;> omega
end Go.Proofs.Ytkbbijhknbcflab
