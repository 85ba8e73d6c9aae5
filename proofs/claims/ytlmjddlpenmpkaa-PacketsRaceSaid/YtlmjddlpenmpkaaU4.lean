import Derived.Test.YtlmjddlpenmpkaaN1
import Derived.Test.YtlmjddlpenmpkaaU1
namespace Go.Proofs.Ytlmjddlpenmpkaa
/-- The lists of kinds of the parts: with an even number of kinds (but none), with an odd one. -/
def eoK : List Nat → List (List Nat) × List (List Nat)
  | [] => ([], [])
  | i :: K => ((eoK K).2.map (i :: ·) ++ (eoK K).1, [i] :: ((eoK K).1.map (i :: ·) ++ (eoK K).2))
theorem eo_map (f : Nat → Nat) : ∀ K : List Nat, eo (K.map f) = ((eoK K).1.map (fun T => (T.map f).sum), (eoK K).2.map (fun T => (T.map f).sum))
  | [] => rfl
  | i :: K => by
    have ih := eo_map f K
    simp only [List.map_cons, eo, ih, am_eq, eoK, List.map_append, List.map_map]
    refine Prod.ext ?_ ?_
    · simp [Function.comp_def]
    · simp [Function.comp_def]
def isOdd (t : Nat) : Bool := pop t % 2 == 1
def isEvn (t : Nat) : Bool := t != 0 && pop t % 2 == 0
def odds (s : Nat) : List Nat := (partsL s).filter isOdd
def evens (s : Nat) : List Nat := (partsL s).filter isEvn
def listsB (s : Nat) : Bool := ((odds s).map kindsL).isPerm (eoK (kindsL s)).2 && ((evens s).map kindsL).isPerm (eoK (kindsL s)).1
theorem lists_all : (List.range 64).all listsB = true := by decide +kernel
def zn (z : Nat → Int) (i : Nat) : Nat := (z i).toNat
def wl (z : Nat → Int) (s : Nat) : List Nat := (kindsL s).map (zn z)
def on (z : Nat → Int) (t : Nat) : Nat := ((kindsL t).map (zn z)).sum
theorem wl_eo (z : Nat → Int) {s : Nat} (hs : s < 64) : ((evens s).map (on z)).Perm (eo (wl z s)).1 ∧ ((odds s).map (on z)).Perm (eo (wl z s)).2 := by
  have h := List.all_eq_true.1 lists_all s (List.mem_range.2 hs)
  simp only [listsB, Bool.and_eq_true, List.isPerm_iff] at h
  unfold wl
  rw [eo_map]
  have h1 := h.1.map (fun T => (T.map (zn z)).sum)
  have h2 := h.2.map (fun T => (T.map (zn z)).sum)
  rw [List.map_map] at h1 h2
  exact ⟨h2, h1⟩
theorem sum_nat (z : Nat → Int) : ∀ K : List Nat, (∀ i ∈ K, 0 ≤ z i) → (((K.map (zn z)).sum : Nat) : Int) = (K.map z).sum
  | [], _ => rfl
  | i :: K, h => by
    have ih := sum_nat z K (fun j hj => h j (List.mem_cons_of_mem _ hj))
    have h0 := h i (List.mem_cons_self ..)
    simp only [List.map_cons, List.sum_cons, Int.natCast_add, ih, zn]
    omega
theorem on_eq {z : Nat → Int} {n t : Nat} (ht : t < 2 ^ n) (h9 : ∀ j, j < n → 1 ≤ z j ∧ z j ≤ 9) : ((on z t : Nat) : Int) = ofS z t :=
  sum_nat z _ (fun i hi => by have := h9 i (kindsL_in ht hi); omega)

/-- A part with an odd number of kinds, or with an even one. -/
theorem parts_two {s t : Nat} (h : t ∈ partsL s) (h0 : t ≠ 0) : t ∈ odds s ∨ t ∈ evens s := by
  unfold odds evens
  simp only [List.mem_filter, isOdd, isEvn]
  have : pop t % 2 = 1 ∨ pop t % 2 = 0 := by omega
  rcases this with e | e
  · left; exact ⟨h, by simp [e]⟩
  · right; exact ⟨h, by simp [e, h0]⟩
theorem odds_in {s t : Nat} (h : t ∈ odds s) : t ∈ partsL s ∧ pop t % 2 = 1 := by
  have := List.mem_filter.1 h
  exact ⟨this.1, by simpa [isOdd] using this.2⟩
theorem evens_in {s t : Nat} (h : t ∈ evens s) : t ∈ partsL s ∧ t ≠ 0 ∧ pop t % 2 = 0 := by
  have := List.mem_filter.1 h
  have h2 : t ≠ 0 ∧ pop t % 2 = 0 := by simpa [isEvn] using this.2
  exact ⟨this.1, h2⟩
theorem pop_zero : pop 0 = 0 := by decide +kernel
theorem odds_ne {s t : Nat} (h : t ∈ odds s) : t ≠ 0 := by
  intro e; have := (odds_in h).2; rw [e, pop_zero] at this; omega
/-- The turned sum is the even parts' less the odd parts'. -/
theorem al_two {c : Nat → Int} (h0 : c 0 = 0) : ∀ xs : List Nat, sumC (alC c) xs = sumC c (xs.filter isEvn) - sumC c (xs.filter isOdd)
  | [] => rfl
  | x :: xs => by
    have ih := al_two h0 xs
    simp only [sumC, List.map_cons, List.sum_cons] at ih ⊢
    rw [ih]
    by_cases hx : x = 0
    · subst hx
      have e1 : isEvn 0 = false := by decide +kernel
      have e2 : isOdd 0 = false := by decide +kernel
      have e3 : alC c 0 = 0 := by unfold alC; rw [pop_zero]; simp [h0]
      rw [List.filter_cons_of_neg (by simp [e1]), List.filter_cons_of_neg (by simp [e2]), e3]; omega
    · have : pop x % 2 = 1 ∨ pop x % 2 = 0 := by omega
      rcases this with e | e
      · have e1 : isEvn x = false := by simp [isEvn, e]
        have e2 : isOdd x = true := by simp [isOdd, e]
        have e3 : alC c x = -(c x) := by simp [alC, e]
        rw [List.filter_cons_of_neg (by simp [e1]), List.filter_cons_of_pos e2, e3, List.map_cons, List.sum_cons]; omega
      · have e1 : isEvn x = true := by simp [isEvn, e, hx]
        have e2 : isOdd x = false := by simp [isOdd, e]
        have e3 : alC c x = c x := by simp [alC, e]
        rw [List.filter_cons_of_pos e1, List.filter_cons_of_neg (by simp [e2]), e3, List.map_cons, List.sum_cons]; omega
theorem sum_two {c : Nat → Int} (h0 : c 0 = 0) : ∀ xs : List Nat, sumC c xs = sumC c (xs.filter isEvn) + sumC c (xs.filter isOdd)
  | [] => rfl
  | x :: xs => by
    have ih := sum_two h0 xs
    simp only [sumC, List.map_cons, List.sum_cons] at ih ⊢
    rw [ih]
    by_cases hx : x = 0
    · subst hx
      have e1 : isEvn 0 = false := by decide +kernel
      have e2 : isOdd 0 = false := by decide +kernel
      rw [List.filter_cons_of_neg (by simp [e1]), List.filter_cons_of_neg (by simp [e2]), h0]; omega
    · have : pop x % 2 = 1 ∨ pop x % 2 = 0 := by omega
      rcases this with e | e
      · have e1 : isEvn x = false := by simp [isEvn, e]
        have e2 : isOdd x = true := by simp [isOdd, e]
        rw [List.filter_cons_of_neg (by simp [e1]), List.filter_cons_of_pos e2, List.map_cons, List.sum_cons]; omega
      · have e1 : isEvn x = true := by simp [isEvn, e, hx]
        have e2 : isOdd x = false := by simp [isOdd, e]
        rw [List.filter_cons_of_pos e1, List.filter_cons_of_neg (by simp [e2]), List.map_cons, List.sum_cons]; omega
/-- A sum of quotients, as a number. -/
theorem quo_sum (D : Nat) (g : Nat → Nat) : ∀ xs : List Nat, (((xs.map g).map (D / ·)).sum : Int) = sumC (fun t => (D : Int) / (g t : Nat)) xs
  | [] => rfl
  | x :: xs => by
    have ih := quo_sum D g xs
    simp only [List.map_cons, List.sum_cons, Int.natCast_add, sumC] at ih ⊢
    rw [ih, Int.natCast_ediv]
end Go.Proofs.Ytlmjddlpenmpkaa
