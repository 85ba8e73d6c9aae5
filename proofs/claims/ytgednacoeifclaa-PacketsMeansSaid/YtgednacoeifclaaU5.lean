import Derived.Test.YtgednacoeifclaaN1
import Derived.Test.YtgednacoeifclaaU1
import Derived.Test.YtgednacoeifclaaU2
import Derived.Test.YtgednacoeifclaaU3
namespace Go.Proofs.Ytgednacoeifclaa
/-- The lists of kinds of the parts: with an even number of kinds (but none), with an odd one. -/
def eoK : List Nat → List (List Nat) × List (List Nat)
  | [] => ([], [])
  | i :: K => ((eoK K).2.map (i :: ·) ++ (eoK K).1, [i] :: ((eoK K).1.map (i :: ·) ++ (eoK K).2))
theorem eo_map (f : Nat → Nat) : ∀ K : List Nat, eo (K.map f) = ((eoK K).1.map (fun T => (T.map f).sum), (eoK K).2.map (fun T => (T.map f).sum))
  | [] => rfl
  | i :: K => by
    have ih := eo_map f K
    simp only [List.map_cons, eo, ih, am_eq, eoK, List.map_append, List.map_map]
    refine Prod.ext ?_ ?_
    · simp [Function.comp_def]
    · simp [Function.comp_def]
def isOdd (t : Nat) : Bool := pop t % 2 == 1
def isEvn (t : Nat) : Bool := t != 0 && pop t % 2 == 0
def odds (s : Nat) : List Nat := (partsL s).filter isOdd
def evens (s : Nat) : List Nat := (partsL s).filter isEvn
def listsB (s : Nat) : Bool := ((odds s).map kindsL).isPerm (eoK (kindsL s)).2 && ((evens s).map kindsL).isPerm (eoK (kindsL s)).1
theorem lists_all : (List.range 64).all listsB = true := by decide +kernel
def zn (z : Nat → Int) (i : Nat) : Nat := (z i).toNat
def wl (z : Nat → Int) (s : Nat) : List Nat := (kindsL s).map (zn z)
def on (z : Nat → Int) (t : Nat) : Nat := ((kindsL t).map (zn z)).sum
theorem wl_eo (z : Nat → Int) {s : Nat} (hs : s < 64) : ((evens s).map (on z)).Perm (eo (wl z s)).1 ∧ ((odds s).map (on z)).Perm (eo (wl z s)).2 := by
  have h := List.all_eq_true.1 lists_all s (List.mem_range.2 hs)
  simp only [listsB, Bool.and_eq_true, List.isPerm_iff] at h
  unfold wl
  rw [eo_map]
  have h1 := h.1.map (fun T => (T.map (zn z)).sum)
  have h2 := h.2.map (fun T => (T.map (zn z)).sum)
  rw [List.map_map] at h1 h2
  exact ⟨h2, h1⟩
theorem sum_nat (z : Nat → Int) : ∀ K : List Nat, (∀ i ∈ K, 0 ≤ z i) → (((K.map (zn z)).sum : Nat) : Int) = (K.map z).sum
  | [], _ => rfl
  | i :: K, h => by
    have ih := sum_nat z K (fun j hj => h j (List.mem_cons_of_mem _ hj))
    have h0 := h i (List.mem_cons_self ..)
    simp only [List.map_cons, List.sum_cons, Int.natCast_add, ih, zn]
    omega
theorem on_eq {z : Nat → Int} {n t : Nat} (ht : t < 2 ^ n) (h9 : ∀ j, j < n → 1 ≤ z j ∧ z j ≤ 9) : ((on z t : Nat) : Int) = ofS z t :=
  sum_nat z _ (fun i hi => by have := h9 i (kindsL_in ht hi); omega)

/-- A part with an odd number of kinds, or with an even one. -/
theorem parts_two {s t : Nat} (h : t ∈ partsL s) (h0 : t ≠ 0) : t ∈ odds s ∨ t ∈ evens s := by
  unfold odds evens
  simp only [List.mem_filter, isOdd, isEvn]
  have : pop t % 2 = 1 ∨ pop t % 2 = 0 := by omega
  rcases this with e | e
  · left; exact ⟨h, by simp [e]⟩
  · right; exact ⟨h, by simp [e, h0]⟩
theorem odds_in {s t : Nat} (h : t ∈ odds s) : t ∈ partsL s ∧ pop t % 2 = 1 := by
  have := List.mem_filter.1 h
  exact ⟨this.1, by simpa [isOdd] using this.2⟩
theorem evens_in {s t : Nat} (h : t ∈ evens s) : t ∈ partsL s ∧ t ≠ 0 ∧ pop t % 2 = 0 := by
  have := List.mem_filter.1 h
  have h2 : t ≠ 0 ∧ pop t % 2 = 0 := by simpa [isEvn] using this.2
  exact ⟨this.1, h2⟩
theorem pop_zero : pop 0 = 0 := by decide +kernel
theorem odds_ne {s t : Nat} (h : t ∈ odds s) : t ≠ 0 := by
  intro e; have := (odds_in h).2; rw [e, pop_zero] at this; omega
/-- The turned sum is the even parts' less the odd parts'. -/
theorem al_two {c : Nat → Int} (h0 : c 0 = 0) : ∀ xs : List Nat, sumC (alC c) xs = sumC c (xs.filter isEvn) - sumC c (xs.filter isOdd)
  | [] => rfl
  | x :: xs => by
    have ih := al_two h0 xs
    simp only [sumC, List.map_cons, List.sum_cons] at ih ⊢
    rw [ih]
    by_cases hx : x = 0
    · subst hx
      have e1 : isEvn 0 = false := by decide +kernel
      have e2 : isOdd 0 = false := by decide +kernel
      have e3 : alC c 0 = 0 := by unfold alC; rw [pop_zero]; simp [h0]
      rw [List.filter_cons_of_neg (by simp [e1]), List.filter_cons_of_neg (by simp [e2]), e3]; omega
    · have : pop x % 2 = 1 ∨ pop x % 2 = 0 := by omega
      rcases this with e | e
      · have e1 : isEvn x = false := by simp [isEvn, e]
        have e2 : isOdd x = true := by simp [isOdd, e]
        have e3 : alC c x = -(c x) := by simp [alC, e]
        rw [List.filter_cons_of_neg (by simp [e1]), List.filter_cons_of_pos e2, e3, List.map_cons, List.sum_cons]; omega
      · have e1 : isEvn x = true := by simp [isEvn, e, hx]
        have e2 : isOdd x = false := by simp [isOdd, e]
        have e3 : alC c x = c x := by simp [alC, e]
        rw [List.filter_cons_of_pos e1, List.filter_cons_of_neg (by simp [e2]), e3, List.map_cons, List.sum_cons]; omega
theorem sum_two {c : Nat → Int} (h0 : c 0 = 0) : ∀ xs : List Nat, sumC c xs = sumC c (xs.filter isEvn) + sumC c (xs.filter isOdd)
  | [] => rfl
  | x :: xs => by
    have ih := sum_two h0 xs
    simp only [sumC, List.map_cons, List.sum_cons] at ih ⊢
    rw [ih]
    by_cases hx : x = 0
    · subst hx
      have e1 : isEvn 0 = false := by decide +kernel
      have e2 : isOdd 0 = false := by decide +kernel
      rw [List.filter_cons_of_neg (by simp [e1]), List.filter_cons_of_neg (by simp [e2]), h0]; omega
    · have : pop x % 2 = 1 ∨ pop x % 2 = 0 := by omega
      rcases this with e | e
      · have e1 : isEvn x = false := by simp [isEvn, e]
        have e2 : isOdd x = true := by simp [isOdd, e]
        rw [List.filter_cons_of_neg (by simp [e1]), List.filter_cons_of_pos e2, List.map_cons, List.sum_cons]; omega
      · have e1 : isEvn x = true := by simp [isEvn, e, hx]
        have e2 : isOdd x = false := by simp [isOdd, e]
        rw [List.filter_cons_of_pos e1, List.filter_cons_of_neg (by simp [e2]), List.map_cons, List.sum_cons]; omega
/-- A sum of quotients, as a number. -/
theorem quo_sum (D : Nat) (g : Nat → Nat) : ∀ xs : List Nat, (((xs.map g).map (D / ·)).sum : Int) = sumC (fun t => (D : Int) / (g t : Nat)) xs
  | [] => rfl
  | x :: xs => by
    have ih := quo_sum D g xs
    simp only [List.map_cons, List.sum_cons, Int.natCast_add, sumC] at ih ⊢
    rw [ih, Int.natCast_ediv]

/-- What is known of the weights of a set. -/
structure BigZ (z : Nat → Int) (s L L2 : Nat) : Prop where
  L1 : 1 ≤ L
  LM : L ≤ 1152921504606846976
  K1 : 1 ≤ L2
  KM : L2 * on z s ≤ 1152921504606846976
  dv : ∀ t ∈ partsL s, t ≠ 0 → on z t ∣ L
  kv : ∀ t ∈ partsL s, t ≠ 0 → on z t ∣ L2 * on z s
  mi : ∀ M, (∀ t ∈ partsL s, t ≠ 0 → on z t ∣ M) → L ∣ M
  su : sumC (fun t => (L : Int) / (on z t : Nat)) (evens s) + sumC (fun t => (L : Int) / (on z t : Nat)) (odds s) ≤ 4611686018427387903
  me : (on z s : Nat) * (sumC (fun t => ((L2 * on z s : Nat) : Int) / (on z t : Nat)) (odds s) - sumC (fun t => ((L2 * on z s : Nat) : Int) / (on z t : Nat)) (evens s)) ≤ 9223372036854775807
  m4 : sumC (fun t => ((L2 * on z s : Nat) : Int) / (on z t : Nat)) (odds s) - sumC (fun t => ((L2 * on z s : Nat) : Int) / (on z t : Nat)) (evens s) ≤ 400 * (L2 : Int)
  sk : sumC (fun t => ((L2 * on z s : Nat) : Int) / (on z t : Nat)) (odds s) + sumC (fun t => ((L2 * on z s : Nat) : Int) / (on z t : Nat)) (evens s) ≤ 4611686018427387903

theorem big_any {z : Nat → Int} {n s : Nat} (hs : s < 2 ^ n) (hn : n ≤ 6) (h9 : ∀ j, j < n → 1 ≤ z j ∧ z j ≤ 9) : ∃ L L2, BigZ z s L L2 := by
  have hs64 := lt64 hs hn
  obtain ⟨m, hm, ht⟩ := any_order kernel_1 (l := wl z s) (by unfold wl; rw [List.length_map]; exact kindsL_len s) (fun x hx => by
    obtain ⟨i, hi, rfl⟩ := List.mem_map.1 hx
    have := h9 i (kindsL_in hs hi)
    unfold zn; omega)
  obtain ⟨L, L2, hB⟩ := test1_spec ht
  have hp := eo_perm hm
  have hw := wl_eo z hs64
  have hB2 := hB.perm (hp.1.trans hw.1.symm) (hp.2.trans hw.2.symm)
  have hsum : m.sum = on z s := sum_perm hm
  rw [hsum] at hB2
  obtain ⟨b1, b2, b3, b4, b5, b6, b7, b8, b9, b10, b11, b12, b13⟩ := hB2
  have q := fun D xs => quo_sum D (on z) xs
  refine ⟨L, L2, b1, b2, b3, b4, ?_, ?_, ?_, ?_, ?_, ?_, ?_⟩
  · intro t ht h0
    rcases parts_two ht h0 with h | h
    · exact b6 _ (List.mem_map_of_mem h)
    · exact b5 _ (List.mem_map_of_mem h)
  · intro t ht h0
    rcases parts_two ht h0 with h | h
    · exact b8 _ (List.mem_map_of_mem h)
    · exact b7 _ (List.mem_map_of_mem h)
  · intro M hM
    refine b13 M (fun x hx => ?_) (fun x hx => ?_)
    · obtain ⟨t, ht, rfl⟩ := List.mem_map.1 hx
      exact hM t (evens_in ht).1 (evens_in ht).2.1
    · obtain ⟨t, ht, rfl⟩ := List.mem_map.1 hx
      exact hM t (odds_in ht).1 (odds_ne ht)
  · rw [← q, ← q]; omega
  · rw [← q, ← q, Int.mul_sub, ← Int.natCast_mul, ← Int.natCast_mul]; omega
  · rw [← q, ← q]; omega
  · rw [← q, ← q]; omega

/-- What is known of a kind of a set, and the rest of it. -/
structure HeadZ (z : Nat → Int) (k r L P : Nat) : Prop where
  L1 : 1 ≤ L
  LM : L ≤ 1152921504606846976
  P1 : 1 ≤ P
  PM : (zn z k + on z r) * P ≤ 1152921504606846976
  dv : ∀ t ∈ partsL r, (zn z k + on z t) ∣ L
  fv : ∀ t ∈ partsL r, t ≠ 0 → on z t ∣ L
  pv : ∀ t ∈ partsL r, on z t ≠ on z r → (zn z k + on z t) ∣ P * zn z k
  su : sumC (fun t => (zn z k : Int) * ((L : Int) / (zn z k + on z t : Nat))) (partsL r) ≤ 4611686018427387903
  mi : ∀ M, (∀ t ∈ partsL r, (zn z k + on z t) ∣ M) → (∀ t ∈ partsL r, t ≠ 0 → on z t ∣ M) → L ∣ M
theorem on_zero (z : Nat → Int) : on z 0 = 0 := by unfold on; rw [show kindsL 0 = [] by decide +kernel]; rfl
theorem parts_zero {s : Nat} : 0 ∈ partsL s := List.mem_filter.2 ⟨by simp, by simp⟩
theorem parts_all (s : Nat) : partsL s = 0 :: (partsL s).filter (fun t => t != 0) := by
  unfold partsL
  rw [List.filter_filter, show List.range 64 = 0 :: (List.range 63).map (· + 1) by decide +kernel]
  rw [List.filter_cons_of_pos (by simp), List.filter_cons_of_neg (by simp)]
  refine congrArg _ (List.filter_congr fun x hx => ?_)
  obtain ⟨y, _, rfl⟩ := List.mem_map.1 hx
  simp
theorem sumC_parts (c : Nat → Int) (s : Nat) : sumC c (partsL s) = c 0 + (sumC c (evens s) + sumC c (odds s)) := by
  have h := sum_two (c := fun t => if t = 0 then 0 else c t) (by simp) (partsL s)
  have e : ∀ xs : List Nat, (∀ x ∈ xs, x ≠ 0) → sumC (fun t => if t = 0 then 0 else c t) xs = sumC c xs := fun xs hx =>
    congrArg List.sum (List.map_congr_left fun x hxx => by simp [hx x hxx])
  rw [show (partsL s).filter isEvn = evens s from rfl, show (partsL s).filter isOdd = odds s from rfl, e _ (fun x hx => (evens_in hx).2.1), e _ (fun x hx => odds_ne hx)] at h
  rw [← h, parts_all s]
  simp only [sumC, List.map_cons, List.sum_cons]
  have := e ((partsL s).filter (fun t => t != 0)) (fun x hx => by simpa using (List.mem_filter.1 hx).2)
  simp only [sumC] at this
  rw [this, if_pos trivial]; omega
theorem sumC_mul (m : Int) (c : Nat → Int) : ∀ xs : List Nat, sumC (fun t => m * c t) xs = m * sumC c xs
  | [] => by simp [sumC]
  | x :: xs => by
    have := sumC_mul m c xs
    simp only [sumC, List.map_cons, List.sum_cons, Int.mul_add] at this ⊢
    rw [this]
theorem head_any {z : Nat → Int} {n k r : Nat} (hr : r < 2 ^ n) (hk : k < n) (hn : n ≤ 6) (h5 : (kindsL r).length ≤ 5) (h9 : ∀ j, j < n → 1 ≤ z j ∧ z j ≤ 9) : ∃ L P, HeadZ z k r L P := by
  have hs64 := lt64 hr hn
  obtain ⟨m, hm, ht⟩ := any_order kernel_2 (l := wl z r) (by unfold wl; rw [List.length_map]; exact h5) (fun x hx => by
    obtain ⟨i, hi, rfl⟩ := List.mem_map.1 hx
    have := h9 i (kindsL_in hr hi)
    unfold zn; omega)
  have hzk := h9 k hk
  obtain ⟨L, P, hB⟩ := test2_spec (a := zn z k) ht (by unfold zn; omega) (by unfold zn; omega)
  have hp := eo_perm hm
  have hw := wl_eo z hs64
  have hB2 := hB.perm (hp.1.trans hw.1.symm) (hp.2.trans hw.2.symm)
  have hsum : m.sum = on z r := sum_perm hm
  rw [hsum] at hB2
  obtain ⟨b1, b2, b3, b4, b5, b6, b7, b8, b9, b10, b11, b12, b13⟩ := hB2
  refine ⟨L, P, b1, b2, b3, b4, ?_, ?_, ?_, ?_, ?_⟩
  · intro t ht
    by_cases h0 : t = 0
    · subst h0; rw [on_zero]; exact b5
    · rcases parts_two ht h0 with h | h
      · exact b7 _ (List.mem_map_of_mem h)
      · exact b6 _ (List.mem_map_of_mem h)
  · intro t ht h0
    rcases parts_two ht h0 with h | h
    · exact b9 _ (List.mem_map_of_mem h)
    · exact b8 _ (List.mem_map_of_mem h)
  · intro t ht hne
    by_cases h0 : t = 0
    · subst h0; rw [on_zero]; exact Nat.dvd_mul_left _ _
    · rcases parts_two ht h0 with h | h
      · exact b11 _ (List.mem_map_of_mem h) hne
      · exact b10 _ (List.mem_map_of_mem h) hne
  · rw [sumC_mul, sumC_parts, on_zero, Nat.add_zero]
    have e : ∀ xs : List Nat, (((xs.map (on z)).map (fun x => L / (zn z k + x))).sum : Int) = sumC (fun t => (L : Int) / (zn z k + on z t : Nat)) xs := fun xs => by
      have h := quo_sum L (fun t => zn z k + on z t) xs
      rw [List.map_map] at h ⊢
      exact h
    rw [← e, ← e, ← Int.natCast_ediv, ← Int.natCast_add, ← Int.natCast_add, ← Int.natCast_mul]
    exact Int.ofNat_le.2 b12
  · intro M h1 h2
    refine b13 M ?_ (fun x hx => ?_) (fun x hx => ?_) (fun x hx => ?_) (fun x hx => ?_)
    · have := h1 0 parts_zero; rwa [on_zero] at this
    · obtain ⟨t, ht, rfl⟩ := List.mem_map.1 hx; exact h1 t (evens_in ht).1
    · obtain ⟨t, ht, rfl⟩ := List.mem_map.1 hx; exact h1 t (odds_in ht).1
    · obtain ⟨t, ht, rfl⟩ := List.mem_map.1 hx; exact h2 t (evens_in ht).1 (evens_in ht).2.1
    · obtain ⟨t, ht, rfl⟩ := List.mem_map.1 hx; exact h2 t (odds_in ht).1 (odds_ne ht)
end Go.Proofs.Ytgednacoeifclaa
