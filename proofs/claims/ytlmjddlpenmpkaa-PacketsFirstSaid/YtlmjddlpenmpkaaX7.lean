import Derived.Test.YtlmjddlpenmpkaaP5
/-
  The chance to be the last kind, kind by kind, as the document's own recursion has it.
-/
namespace Go.Proofs.Ytlmjddlpenmpkaa
open Go.RowKit

theorem lX_le {z : Nat → Int} {n k D : Nat} (hk : k < n) (hn : n ≤ 6) (h9 : ∀ j, j < n → 1 ≤ z j ∧ z j ≤ 9) : ∀ r : Nat, r < 2 ^ n → LOk z D k r → lX z D k r ≤ D := by
  intro r
  induction r using Nat.strongRecOn with
  | _ r ih =>
    intro hr hD
    have hzk := h9 k hk
    by_cases h0 : r = 0
    · subst h0; rw [lX_zero (by omega)]; exact Int.le_refl _
    · have hr64 := lt64 hr hn
      have hstep := lX_step hr64 hD
      rw [if_neg h0] at hstep
      have hle : ((kindsL r).map fun i => z i * lX z D k (sdiff r (2 ^ i))).sum ≤ ((kindsL r).map fun i => (D : Int) * z i).sum := sum_le fun i hi => by
        have hi6 := kindsL_lt hi
        rw [Int.mul_comm (D : Int)]
        exact Int.mul_le_mul_of_nonneg_left (ih _ (sdiff_less hr64 hi6 (kinds_bit hi)) (sdiff_lt hr) (hD.sub (sub_sdiff hr64 hi6))) (by have := h9 i (kindsL_in hr hi); omega)
      rw [sum_mul] at hle
      have ho := (of_pos hr hn h0 h9).1
      have e : ((kindsL r).map z).sum = ofS z r := rfl
      rw [e] at hle
      have h2 : (z k + ofS z r) * lX z D k r ≤ (z k + ofS z r) * (D : Int) := by
        rw [Int.add_mul (z k) (ofS z r) (D : Int), Int.mul_comm (ofS z r)]
        have : 0 ≤ z k * (D : Int) := Int.mul_nonneg (by omega) (by omega)
        omega
      exact Int.le_of_mul_le_mul_left h2 (by omega)
theorem lX_scale {z : Nat → Int} {D K k r : Nat} (hD : LOk z D k r) (hz : ∀ t ∈ partsL r, z k + ofS z t ≠ 0) : lX z D k r * K = lX z (D * K) k r := by
  unfold lX
  rw [Int.mul_comm, ← sumC_mul]
  refine sumC_congr fun t ht => ?_
  rw [Int.mul_comm, alC_mulr _ (fun _ => (K : Int))]
  refine alC_congr ?_
  unfold lC
  obtain ⟨q, hq⟩ := hD t ht
  rw [Int.natCast_mul, ← Int.mul_assoc, hq, Int.mul_ediv_cancel_left _ (hz t ht), Int.mul_assoc, Int.mul_ediv_cancel_left _ (hz t ht)]
/-- The sum over the kinds of a rest, those below j. -/
def laT (z : Nat → Int) (P k r j : Nat) : Int := sumC (fun i => z i * lX z P k (sdiff r (2 ^ i))) (kindsTo r j)
/-- What is known of the recursion at a set of at least two kinds. -/
structure RecF (n : Nat) (z : Nat → Int) (k r P : Nat) : Prop where
  P1 : 1 ≤ P
  PM : (z k + ofS z r) * P ≤ 1152921504606846976
  ok : ∀ i ∈ kindsL r, LOk z P k (sdiff r (2 ^ i))
  rg : ∀ i ∈ kindsL r, 0 ≤ lX z P k (sdiff r (2 ^ i)) ∧ lX z P k (sdiff r (2 ^ i)) ≤ P
  bd : ∀ j, j ≤ n → 0 ≤ laT z P k r j ∧ laT z P k r j ≤ (z k + ofS z r) * P
  en : ∀ L : Nat, 1 ≤ L → LOk z L k r → laT z P k r n * (L : Int) = lX z L k r * ((z k + ofS z r) * P)
theorem recF_any {z : Nat → Int} {n k r : Nat} (hr : r < 2 ^ n) (hk : k < n) (hkr : r.testBit k = false) (h0 : r ≠ 0) (hn : n ≤ 6) (h9 : ∀ j, j < n → 1 ≤ z j ∧ z j ≤ 9) (h5 : (kindsL r).length ≤ 5) : ∃ P, RecF n z k r P := by
  have hr64 := lt64 hr hn
  obtain ⟨L0, P, hH⟩ := head_any (z := z) hr hk hn h5 h9
  have hzk := h9 k hk
  have hok : ∀ i ∈ kindsL r, LOk z P k (sdiff r (2 ^ i)) := fun i hi t ht => by
    have hi6 := kindsL_lt hi
    have hts := parts_sub (sub_sdiff hr64 hi6) ht
    have ht2 := partsL_lt2 hr hts
    have e1 := on_eq (z := z) ht2 h9
    have e2 := on_eq (z := z) hr h9
    have e3 := zn_eq (z := z) hzk.1
    have hne : on z t ≠ on z r := by
      have hd := ofS_diff z hr64 (partsL_lt hts) (partsL_sub hts)
      have hs0 : sdiff r t ≠ 0 := by
        intro h
        have hb : (sdiff r t).testBit i = true := by
          rw [sdiff_bit hr64 (partsL_lt hts) hi6, kinds_bit hi]
          have : t.testBit i = false := by
            have h3 := partsL_sub ht
            have h4 : t.testBit i = (t.testBit i && (sdiff r (2 ^ i)).testBit i) := by rw [← Nat.testBit_and, h3]
            rw [h4, sdiff_bit hr64 (show 2 ^ i < 64 by have : 2 ^ i < 2 ^ 6 := Nat.pow_lt_pow_right (by decide) hi6; omega) hi6, Nat.testBit_two_pow_self]
            simp
          rw [this]; rfl
        rw [h, Nat.zero_testBit] at hb; cases hb
      have := (of_pos (sdiff_lt hr) hn hs0 h9).1
      omega
    have h := hH.pv t hts hne
    have h2 : ((zn z k + on z t : Nat) : Int) ∣ ((P * zn z k : Nat) : Int) := Int.natCast_dvd_natCast.2 h
    rw [Int.natCast_add, e1, e3, Int.natCast_mul, e3, Int.mul_comm] at h2
    exact h2
  have hrg : ∀ i ∈ kindsL r, 0 ≤ lX z P k (sdiff r (2 ^ i)) ∧ lX z P k (sdiff r (2 ^ i)) ≤ P := fun i hi =>
    ⟨lX_pos hk hn h9 _ (sdiff_lt hr) (hok i hi), lX_le hk hn h9 _ (sdiff_lt hr) (hok i hi)⟩
  have e2 := on_eq (z := z) hr h9
  have e3 := zn_eq (z := z) hzk.1
  have hPM : (z k + ofS z r) * P ≤ 1152921504606846976 := by
    have h := hH.PM
    have h' : (((zn z k + on z r) * P : Nat) : Int) ≤ 1152921504606846976 := by omega
    rw [Int.natCast_mul, Int.natCast_add, e2, e3] at h'
    exact h'
  refine ⟨P, hH.P1, hPM, hok, hrg, fun j hj => ?_, fun L hL hD => ?_⟩
  · have hsub : (kindsTo r j).Sublist (kindsL r) := (kindsTo_le (by omega : j ≤ 6)).sublist
    have hp : ∀ i ∈ kindsL r, 0 ≤ z i * lX z P k (sdiff r (2 ^ i)) := fun i hi => Int.mul_nonneg (by have := h9 i (kindsL_in hr hi); omega) (hrg i hi).1
    have h1 := sumA_pos (fun i hi => hp i (hsub.subset hi))
    have h2 := sumA_sub (fun i => z i * lX z P k (sdiff r (2 ^ i))) hsub
    have h3 := sumA_pos hp
    have h4 : sumC (fun i => z i * lX z P k (sdiff r (2 ^ i))) (kindsL r) ≤ ((kindsL r).map fun i => (P : Int) * z i).sum := sum_le fun i hi => by
      rw [Int.mul_comm (P : Int)]
      exact Int.mul_le_mul_of_nonneg_left (hrg i hi).2 (by have := h9 i (kindsL_in hr hi); omega)
    rw [sum_mul, show ((kindsL r).map z).sum = ofS z r from rfl] at h4
    unfold laT
    have h6 : (z k + ofS z r) * (P : Int) = z k * P + P * ofS z r := by rw [Int.add_mul, Int.mul_comm (ofS z r)]
    have h7 : 0 ≤ z k * (P : Int) := Int.mul_nonneg (by omega) (by omega)
    rw [h6]
    omega
  · unfold laT
    rw [kindsTo_end hr hn]
    have hne : ∀ t ∈ partsL r, z k + ofS z t ≠ 0 := fun t ht => by
      have e := on_eq (z := z) (partsL_lt2 hr ht) h9
      omega
    have hst := lX_step hr64 hD
    rw [if_neg h0] at hst
    rw [Int.mul_comm, ← sumC_mul]
    have e : sumC (fun i => (L : Int) * (z i * lX z P k (sdiff r (2 ^ i)))) (kindsL r) = sumC (fun i => (P : Int) * (z i * lX z L k (sdiff r (2 ^ i)))) (kindsL r) := sumC_congr fun i hi => by
      have hi6 := kindsL_lt hi
      have hss := sub_sdiff hr64 hi6
      have a1 := lX_scale (K := L) (hok i hi) (fun t ht => hne t (parts_sub hss ht))
      have a2 := lX_scale (K := P) (hD.sub hss) (fun t ht => hne t (parts_sub hss ht))
      rw [Nat.mul_comm L P, ← a1] at a2
      have : (L : Int) * (z i * lX z P k (sdiff r (2 ^ i))) = z i * (lX z P k (sdiff r (2 ^ i)) * L) := by grind
      rw [this, ← a2]; grind
    rw [e, sumC_mul]
    have e2 : sumC (fun i => z i * lX z L k (sdiff r (2 ^ i))) (kindsL r) = (z k + ofS z r) * lX z L k r := by
      unfold sumC; rw [hst]; omega
    rw [e2]; grind
end Go.Proofs.Ytlmjddlpenmpkaa
