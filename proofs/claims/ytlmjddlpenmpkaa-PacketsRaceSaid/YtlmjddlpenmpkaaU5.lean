import Derived.Test.YtlmjddlpenmpkaaU2
import Derived.Test.YtlmjddlpenmpkaaU3
import Derived.Test.YtlmjddlpenmpkaaU4
namespace Go.Proofs.Ytlmjddlpenmpkaa
/-- What is known of the weights of a set. -/
structure BigZ (z : Nat → Int) (s L L2 : Nat) : Prop where
  L1 : 1 ≤ L
  LM : L ≤ 1152921504606846976
  K1 : 1 ≤ L2
  KM : L2 * on z s ≤ 1152921504606846976
  dv : ∀ t ∈ partsL s, t ≠ 0 → on z t ∣ L
  kv : ∀ t ∈ partsL s, t ≠ 0 → on z t ∣ L2 * on z s
  mi : ∀ M, (∀ t ∈ partsL s, t ≠ 0 → on z t ∣ M) → L ∣ M
  su : sumC (fun t => (L : Int) / (on z t : Nat)) (evens s) + sumC (fun t => (L : Int) / (on z t : Nat)) (odds s) ≤ 4611686018427387903
  me : (on z s : Nat) * (sumC (fun t => ((L2 * on z s : Nat) : Int) / (on z t : Nat)) (odds s) - sumC (fun t => ((L2 * on z s : Nat) : Int) / (on z t : Nat)) (evens s)) ≤ 9223372036854775807
  m4 : sumC (fun t => ((L2 * on z s : Nat) : Int) / (on z t : Nat)) (odds s) - sumC (fun t => ((L2 * on z s : Nat) : Int) / (on z t : Nat)) (evens s) ≤ 400 * (L2 : Int)
  sk : sumC (fun t => ((L2 * on z s : Nat) : Int) / (on z t : Nat)) (odds s) + sumC (fun t => ((L2 * on z s : Nat) : Int) / (on z t : Nat)) (evens s) ≤ 4611686018427387903

theorem big_any {z : Nat → Int} {n s : Nat} (hs : s < 2 ^ n) (hn : n ≤ 6) (h9 : ∀ j, j < n → 1 ≤ z j ∧ z j ≤ 9) : ∃ L L2, BigZ z s L L2 := by
  have hs64 := lt64 hs hn
  obtain ⟨m, hm, ht⟩ := any_order kernel_1 (l := wl z s) (by unfold wl; rw [List.length_map]; exact kindsL_len s) (fun x hx => by
    obtain ⟨i, hi, rfl⟩ := List.mem_map.1 hx
    have := h9 i (kindsL_in hs hi)
    unfold zn; omega)
  obtain ⟨L, L2, hB⟩ := test1_spec ht
  have hp := eo_perm hm
  have hw := wl_eo z hs64
  have hB2 := hB.perm (hp.1.trans hw.1.symm) (hp.2.trans hw.2.symm)
  have hsum : m.sum = on z s := sum_perm hm
  rw [hsum] at hB2
  obtain ⟨b1, b2, b3, b4, b5, b6, b7, b8, b9, b10, b11, b12, b13⟩ := hB2
  have q := fun D xs => quo_sum D (on z) xs
  refine ⟨L, L2, b1, b2, b3, b4, ?_, ?_, ?_, ?_, ?_, ?_, ?_⟩
  · intro t ht h0
    rcases parts_two ht h0 with h | h
    · exact b6 _ (List.mem_map_of_mem h)
    · exact b5 _ (List.mem_map_of_mem h)
  · intro t ht h0
    rcases parts_two ht h0 with h | h
    · exact b8 _ (List.mem_map_of_mem h)
    · exact b7 _ (List.mem_map_of_mem h)
  · intro M hM
    refine b13 M (fun x hx => ?_) (fun x hx => ?_)
    · obtain ⟨t, ht, rfl⟩ := List.mem_map.1 hx
      exact hM t (evens_in ht).1 (evens_in ht).2.1
    · obtain ⟨t, ht, rfl⟩ := List.mem_map.1 hx
      exact hM t (odds_in ht).1 (odds_ne ht)
  · rw [← q, ← q]; omega
  · rw [← q, ← q, Int.mul_sub, ← Int.natCast_mul, ← Int.natCast_mul]; omega
  · rw [← q, ← q]; omega
  · rw [← q, ← q]; omega

/-- What is known of a kind of a set, and the rest of it. -/
structure HeadZ (z : Nat → Int) (k r L P : Nat) : Prop where
  L1 : 1 ≤ L
  LM : L ≤ 1152921504606846976
  P1 : 1 ≤ P
  PM : (zn z k + on z r) * P ≤ 1152921504606846976
  dv : ∀ t ∈ partsL r, (zn z k + on z t) ∣ L
  fv : ∀ t ∈ partsL r, t ≠ 0 → on z t ∣ L
  pv : ∀ t ∈ partsL r, on z t ≠ on z r → (zn z k + on z t) ∣ P * zn z k
  su : sumC (fun t => (zn z k : Int) * ((L : Int) / (zn z k + on z t : Nat))) (partsL r) ≤ 4611686018427387903
  mi : ∀ M, (∀ t ∈ partsL r, (zn z k + on z t) ∣ M) → (∀ t ∈ partsL r, t ≠ 0 → on z t ∣ M) → L ∣ M
theorem on_zero (z : Nat → Int) : on z 0 = 0 := by unfold on; rw [show kindsL 0 = [] by decide +kernel]; rfl
theorem parts_zero {s : Nat} : 0 ∈ partsL s := List.mem_filter.2 ⟨by simp, by simp⟩
theorem parts_all (s : Nat) : partsL s = 0 :: (partsL s).filter (fun t => t != 0) := by
  unfold partsL
  rw [List.filter_filter, show List.range 64 = 0 :: (List.range 63).map (· + 1) by decide +kernel]
  rw [List.filter_cons_of_pos (by simp), List.filter_cons_of_neg (by simp)]
  refine congrArg _ (List.filter_congr fun x hx => ?_)
  obtain ⟨y, _, rfl⟩ := List.mem_map.1 hx
  simp
theorem sumC_parts (c : Nat → Int) (s : Nat) : sumC c (partsL s) = c 0 + (sumC c (evens s) + sumC c (odds s)) := by
  have h := sum_two (c := fun t => if t = 0 then 0 else c t) (by simp) (partsL s)
  have e : ∀ xs : List Nat, (∀ x ∈ xs, x ≠ 0) → sumC (fun t => if t = 0 then 0 else c t) xs = sumC c xs := fun xs hx =>
    congrArg List.sum (List.map_congr_left fun x hxx => by simp [hx x hxx])
  rw [show (partsL s).filter isEvn = evens s from rfl, show (partsL s).filter isOdd = odds s from rfl, e _ (fun x hx => (evens_in hx).2.1), e _ (fun x hx => odds_ne hx)] at h
  rw [← h, parts_all s]
  simp only [sumC, List.map_cons, List.sum_cons]
  have := e ((partsL s).filter (fun t => t != 0)) (fun x hx => by simpa using (List.mem_filter.1 hx).2)
  simp only [sumC] at this
  rw [this, if_pos trivial]; omega
theorem sumC_mul (m : Int) (c : Nat → Int) : ∀ xs : List Nat, sumC (fun t => m * c t) xs = m * sumC c xs
  | [] => by simp [sumC]
  | x :: xs => by
    have := sumC_mul m c xs
    simp only [sumC, List.map_cons, List.sum_cons, Int.mul_add] at this ⊢
    rw [this]
theorem head_any {z : Nat → Int} {n k r : Nat} (hr : r < 2 ^ n) (hk : k < n) (hn : n ≤ 6) (h5 : (kindsL r).length ≤ 5) (h9 : ∀ j, j < n → 1 ≤ z j ∧ z j ≤ 9) : ∃ L P, HeadZ z k r L P := by
  have hs64 := lt64 hr hn
  obtain ⟨m, hm, ht⟩ := any_order kernel_2 (l := wl z r) (by unfold wl; rw [List.length_map]; exact h5) (fun x hx => by
    obtain ⟨i, hi, rfl⟩ := List.mem_map.1 hx
    have := h9 i (kindsL_in hr hi)
    unfold zn; omega)
  have hzk := h9 k hk
  obtain ⟨L, P, hB⟩ := test2_spec (a := zn z k) ht (by unfold zn; omega) (by unfold zn; omega)
  have hp := eo_perm hm
  have hw := wl_eo z hs64
  have hB2 := hB.perm (hp.1.trans hw.1.symm) (hp.2.trans hw.2.symm)
  have hsum : m.sum = on z r := sum_perm hm
  rw [hsum] at hB2
  obtain ⟨b1, b2, b3, b4, b5, b6, b7, b8, b9, b10, b11, b12, b13⟩ := hB2
  refine ⟨L, P, b1, b2, b3, b4, ?_, ?_, ?_, ?_, ?_⟩
  · intro t ht
    by_cases h0 : t = 0
    · subst h0; rw [on_zero]; exact b5
    · rcases parts_two ht h0 with h | h
      · exact b7 _ (List.mem_map_of_mem h)
      · exact b6 _ (List.mem_map_of_mem h)
  · intro t ht h0
    rcases parts_two ht h0 with h | h
    · exact b9 _ (List.mem_map_of_mem h)
    · exact b8 _ (List.mem_map_of_mem h)
  · intro t ht hne
    by_cases h0 : t = 0
    · subst h0; rw [on_zero]; exact Nat.dvd_mul_left _ _
    · rcases parts_two ht h0 with h | h
      · exact b11 _ (List.mem_map_of_mem h) hne
      · exact b10 _ (List.mem_map_of_mem h) hne
  · rw [sumC_mul, sumC_parts, on_zero, Nat.add_zero]
    have e : ∀ xs : List Nat, (((xs.map (on z)).map (fun x => L / (zn z k + x))).sum : Int) = sumC (fun t => (L : Int) / (zn z k + on z t : Nat)) xs := fun xs => by
      have h := quo_sum L (fun t => zn z k + on z t) xs
      rw [List.map_map] at h ⊢
      exact h
    rw [← e, ← e, ← Int.natCast_ediv, ← Int.natCast_add, ← Int.natCast_add, ← Int.natCast_mul]
    exact Int.ofNat_le.2 b12
  · intro M h1 h2
    refine b13 M ?_ (fun x hx => ?_) (fun x hx => ?_) (fun x hx => ?_) (fun x hx => ?_)
    · have := h1 0 parts_zero; rwa [on_zero] at this
    · obtain ⟨t, ht, rfl⟩ := List.mem_map.1 hx; exact h1 t (evens_in ht).1
    · obtain ⟨t, ht, rfl⟩ := List.mem_map.1 hx; exact h1 t (odds_in ht).1
    · obtain ⟨t, ht, rfl⟩ := List.mem_map.1 hx; exact h2 t (evens_in ht).1 (evens_in ht).2.1
    · obtain ⟨t, ht, rfl⟩ := List.mem_map.1 hx; exact h2 t (odds_in ht).1 (odds_ne ht)
end Go.Proofs.Ytlmjddlpenmpkaa
