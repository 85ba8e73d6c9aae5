import Derived.Test.YtgednacoeifclaaP3
/-
  One denominator serves the chances of all kinds of a set to be its last.
-/
namespace Go.Proofs.Ytgednacoeifclaa
open Go.RowKit

theorem len5_all : (List.range 64).all (fun s => (List.range 6).all fun k => !s.testBit k || decide ((kindsL (sdiff s (2 ^ k))).length ≤ 5)) = true := by decide +kernel
theorem len5 {s k : Nat} (hs : s < 64) (hk : k < 6) (h : s.testBit k = true) : (kindsL (sdiff s (2 ^ k))).length ≤ 5 := by
  have := List.all_eq_true.1 (List.all_eq_true.1 len5_all s (List.mem_range.2 hs)) k (List.mem_range.2 hk)
  simpa [h] using this
theorem wit_at {s k : Nat} (hs : s < 64) (hk : k ∈ kindsL s) : (partsL (sdiff s (2 ^ k))).map (fun t => t + 2 ^ k) = (partsL s).filter (fun u => u.testBit k) ∧
    ∀ t ∈ partsL (sdiff s (2 ^ k)), pop (t + 2 ^ k) = pop t + 1 ∧ sdiff (t + 2 ^ k) (2 ^ k) = t ∧ t + 2 ^ k < 64 ∧ 2 ^ k &&& (t + 2 ^ k) = 2 ^ k ∧ t + 2 ^ k ∈ partsL s ∧ t + 2 ^ k ≠ 0 := by
  have h := List.all_eq_true.1 (List.all_eq_true.1 wit_all s (List.mem_range.2 hs)) k (List.mem_range.2 (kindsL_lt hk))
  simp only [witB, kinds_bit hk, Bool.not_true, Bool.false_or, Bool.and_eq_true, beq_iff_eq, List.all_eq_true, decide_eq_true_eq] at h
  refine ⟨h.1, fun t ht => ?_⟩
  obtain ⟨⟨⟨p1, p2⟩, p3⟩, p4⟩ := h.2 t ht
  have hin : t + 2 ^ k ∈ (partsL s).filter (fun u => u.testBit k) := by rw [← h.1]; exact List.mem_map_of_mem ht
  exact ⟨p1, p2, p3, p4, (List.mem_filter.1 hin).1, by have : 0 < 2 ^ k := Nat.pow_pos (by decide); omega⟩
theorem of_with {z : Nat → Int} {s k t : Nat} (hs : s < 64) (hk : k ∈ kindsL s) (ht : t ∈ partsL (sdiff s (2 ^ k))) : ofS z (t + 2 ^ k) = z k + ofS z t := by
  obtain ⟨_, p2, p3, p4, _, _⟩ := (wit_at hs hk).2 t ht
  have hk6 := kindsL_lt hk
  have hof := ofS_diff z p3 (show 2 ^ k < 64 by have : 2 ^ k < 2 ^ 6 := Nat.pow_lt_pow_right (by decide) hk6; omega) p4
  rw [p2, of_two hk6] at hof
  omega
theorem zn_eq {z : Nat → Int} {k : Nat} (h : 1 ≤ z k) : ((zn z k : Nat) : Int) = z k := by unfold zn; omega
theorem on_with {z : Nat → Int} {n s k t : Nat} (hs : s < 2 ^ n) (hn : n ≤ 6) (h9 : ∀ j, j < n → 1 ≤ z j ∧ z j ≤ 9) (hk : k ∈ kindsL s) (ht : t ∈ partsL (sdiff s (2 ^ k))) : on z (t + 2 ^ k) = zn z k + on z t := by
  have hs64 := lt64 hs hn
  have h1 := of_with (z := z) hs64 hk ht
  have h2 := on_eq (z := z) (partsL_lt2 hs ((wit_at hs64 hk).2 t ht).2.2.2.2.1) h9
  have h3 := on_eq (z := z) (partsL_lt2 (sdiff_lt hs) ht) h9
  have h4 := zn_eq (z := z) (h9 k (kindsL_in hs hk)).1
  omega
/-- A part of a set has a kind or it has not. -/
theorem part_case {s k t : Nat} (hs : s < 64) (hk : k ∈ kindsL s) (ht : t ∈ partsL s) : t ∈ partsL (sdiff s (2 ^ k)) ∨ ∃ u ∈ partsL (sdiff s (2 ^ k)), t = u + 2 ^ k := by
  cases hb : t.testBit k
  · left
    rw [← wot hs (kindsL_lt hk)]
    exact List.mem_filter.2 ⟨ht, by simp [hb]⟩
  · right
    have : t ∈ (partsL s).filter (fun u => u.testBit k) := List.mem_filter.2 ⟨ht, hb⟩
    rw [← (wit_at hs hk).1] at this
    obtain ⟨u, hu, e⟩ := List.mem_map.1 this
    exact ⟨u, hu, e.symm⟩

/-- One denominator for a set. -/
structure SetL (z : Nat → Int) (s L : Nat) : Prop where
  L1 : 1 ≤ L
  LM : L ≤ 1152921504606846976
  ok : ∀ k ∈ kindsL s, LastOk z k (sdiff s (2 ^ k)) L
  al : sumC (laX z L s) (kindsL s) = L
  pos : ∀ k ∈ kindsL s, 0 ≤ laX z L s k
theorem setL_any {z : Nat → Int} {n s : Nat} (hs : s < 2 ^ n) (h0 : s ≠ 0) (hn : n ≤ 6) (h9 : ∀ j, j < n → 1 ≤ z j ∧ z j ≤ 9) : ∃ L, SetL z s L := by
  have hs64 := lt64 hs hn
  obtain ⟨L, L2, hB⟩ := big_any hs hn h9
  have hD : DOk z L s := fun t ht ht0 => by
    rw [← on_eq (partsL_lt2 hs ht) h9]
    exact Int.natCast_dvd_natCast.2 (hB.dv t ht ht0)
  have hok : ∀ k ∈ kindsL s, LastOk z k (sdiff s (2 ^ k)) L := by
    intro k hk
    have hk6 := kindsL_lt hk
    have hkn := kindsL_in hs hk
    obtain ⟨L', P, hH⟩ := head_any (z := z) (sdiff_lt (t := 2 ^ k) hs) hkn hn (len5 hs64 hk6 (kinds_bit hk)) h9
    have e : L = L' := by
      refine Nat.dvd_antisymm (hB.mi L' fun t ht ht0 => ?_) (hH.mi L (fun t ht => ?_) (fun t ht ht0 => ?_))
      · rcases part_case hs64 hk ht with h | ⟨u, hu, rfl⟩
        · exact hH.fv t h ht0
        · rw [on_with hs hn h9 hk hu]; exact hH.dv u hu
      · rw [← on_with hs hn h9 hk ht]
        obtain ⟨_, _, _, _, p5, p6⟩ := (wit_at hs64 hk).2 t ht
        exact hB.dv _ p5 p6
      · exact hB.dv t (parts_sub (sub_sdiff hs64 hk6) ht) ht0
    subst e
    have hzk := (h9 k hkn).1
    have hdv : ∀ t ∈ partsL (sdiff s (2 ^ k)), z k + ofS z t ∣ (L : Int) ∧ ((zn z k + on z t : Nat) : Int) = z k + ofS z t ∧ 0 ≤ ofS z t := fun t ht => by
      have h3 := on_eq (z := z) (partsL_lt2 (sdiff_lt hs) ht) h9
      have h4 := zn_eq (z := z) hzk
      have e2 : ((zn z k + on z t : Nat) : Int) = z k + ofS z t := by omega
      refine ⟨?_, e2, by omega⟩
      rw [← e2]
      exact Int.natCast_dvd_natCast.2 (hH.dv t ht)
    have hlc : ∀ t ∈ partsL (sdiff s (2 ^ k)), lC z L k t = (zn z k : Int) * ((L : Int) / (zn z k + on z t : Nat)) := fun t ht => by
      unfold lC
      rw [(hdv t ht).2.1, zn_eq hzk, Int.mul_ediv_assoc _ (hdv t ht).1]
    refine ⟨hB.L1, hB.LM, fun t ht => Int.dvd_mul_of_dvd_right (hdv t ht).1, ?_⟩
    have hp : ∀ t ∈ partsL (sdiff s (2 ^ k)), 0 ≤ lC z L k t := fun t ht => by
      unfold lC
      exact Int.ediv_nonneg (Int.mul_nonneg (by omega) (by omega)) (by have := (hdv t ht).2.2; omega)
    have h5 := sumA_pos hp
    rw [sumC_congr hlc] at h5
    have h6 := hH.su
    omega
  refine ⟨L, hB.L1, hB.LM, hok, lX_all hs64 h0 hD, fun k hk => ?_⟩
  exact lX_pos (kindsL_in hs hk) hn h9 _ (sdiff_lt hs) (hok k hk).dv
theorem sumA_sub (c : Nat → Int) {xs ys : List Nat} (h : xs.Sublist ys) : sumA c xs ≤ sumA c ys := by
  unfold sumA
  induction h with
  | slnil => exact Nat.le_refl _
  | cons a _ ih => simp only [List.map_cons, List.sum_cons]; omega
  | cons_cons a _ ih => simp only [List.map_cons, List.sum_cons]; omega
theorem SetL.some {z : Nat → Int} {s L : Nat} (h : SetL z s L) {xs : List Nat} (hx : xs.Sublist (kindsL s)) : sumA (laX z L s) xs ≤ 1152921504606846976 := by
  have h1 := sumA_sub (laX z L s) hx
  have h2 := sumA_pos h.pos
  rw [h.al] at h2
  have := h.LM
  omega
theorem SetL.le {z : Nat → Int} {s L k : Nat} (h : SetL z s L) (hk : k ∈ kindsL s) : laX z L s k ≤ L := by
  have h1 := sumA_mem (c := laX z L s) hk
  have h2 := sumA_pos h.pos
  rw [h.al] at h2
  have := h.pos k hk
  omega
end Go.Proofs.Ytgednacoeifclaa
