import Derived.Test.YtgednacoeifclaaN2
namespace Go.Proofs.Ytgednacoeifclaa

theorem single_less : ∀ i j : Nat, i < 6 → j < 6 → sdiff (2 ^ i) (2 ^ j) = if j = i then 0 else 2 ^ i := by
  intro i j hi hj
  have all : (List.range 6).all (fun i => (List.range 6).all fun j => sdiff (2 ^ i) (2 ^ j) == if j = i then 0 else 2 ^ i) = true := by decide +kernel
  simpa using List.all_eq_true.1 (List.all_eq_true.1 all i (List.mem_range.2 hi)) j (List.mem_range.2 hj)
theorem sum_pick (i : Nat) (c : Int) : ∀ n, i < n → ((List.range n).map fun j => if j = i then c else 0).sum = c := by
  intro n
  induction n with
  | zero => intro h; omega
  | succ n ih =>
    intro h
    rw [List.range_succ, List.map_append, List.sum_append]
    by_cases e : i = n
    · subst e
      have h0 : ((List.range i).map fun j => if j = i then c else 0).sum = 0 := by
        exact (sum_congr (f := fun j => if j = i then c else 0) (g := fun _ => 0) (xs := List.range i) fun j hj => by have := List.mem_range.1 hj; exact if_neg (by omega)).trans (sum_zero (List.range i))
      rw [h0]; simp
    · rw [ih (by omega)]
      have : ¬ n = i := fun h => e h.symm
      simp [this]

/-- A kind comes no more often than in each packet by itself. -/
theorem kiC_few {z : Nat → Int} {n i : Nat} (hi : i < n) (hn : n ≤ 6) (h1n : 1 ≤ n) (h9 : ∀ j, j < n → 1 ≤ z j ∧ z j ≤ 9) : ∀ k, ofS z (2 ^ n - 1) * kiC z n k i ≤ (k : Int) * z i * (LK z n k : Nat)
  | 0 => by
    unfold kiC
    rw [doC_zero _ _ (lt64 (two_lt hi) hn)]
    have : 2 ^ i ≠ 0 := by have := Nat.pow_pos (n := i) (show 0 < 2 by decide); omega
    simp
  | k + 1 => by
    have ih := kiC_few hi hn h1n h9 k
    have h0 := (kiC_one (z := z) (k := k) hi hn h1n h9).1
    have hz := h9 i hi
    have e : kiC z n (k + 1) i ≤ z i * (LK z n k : Nat) + ofS z (2 ^ n - 1) * kiC z n k i := by
      unfold kiC
      rw [doC_succ (two_lt hi) hn h9]
      have h1 : ((List.range n).map fun j => z j * doC z (2 ^ n - 1) (sdiff (2 ^ i) (2 ^ j)) k).sum ≤ ((List.range n).map fun j => (if j = i then z i * (LK z n k : Nat) else 0) + doC z (2 ^ n - 1) (2 ^ i) k * z j).sum := by
        refine sum_le fun j hj => ?_
        have hj := List.mem_range.1 hj
        have hzj := h9 j hj
        rw [single_less i j (by omega) (by omega)]
        have hp : 0 ≤ doC z (2 ^ n - 1) (2 ^ i) k * z j := Int.mul_nonneg h0 (by omega)
        by_cases e : j = i
        · subst e
          simp only [if_true]
          rw [doC_none hn h1n h9]
          omega
        · simp only [e, if_false]
          rw [Int.mul_comm]; omega
      rw [sum_add, sum_pick i _ n hi, sum_mul, ← ofS_full z hn, Int.mul_comm (doC z (2 ^ n - 1) (2 ^ i) k)] at h1
      exact h1
    rw [LK_succ hn h1n h9]
    have hall0 : 2 ^ n - 1 ≠ 0 := by
      have : 2 ^ 1 ≤ 2 ^ n := Nat.pow_le_pow_right (by decide) h1n
      omega
    have hof := of_pos (full_lt hn) hn hall0 h9
    have h2 : ofS z (2 ^ n - 1) * kiC z n (k + 1) i ≤ ofS z (2 ^ n - 1) * (z i * (LK z n k : Nat) + (k : Int) * z i * (LK z n k : Nat)) := Int.mul_le_mul_of_nonneg_left (by omega) (by omega)
    have e2 : ((k + 1 : Nat) : Int) * z i * (ofS z (2 ^ n - 1) * (LK z n k : Nat)) = ofS z (2 ^ n - 1) * (z i * (LK z n k : Nat) + (k : Int) * z i * (LK z n k : Nat)) := by
      rw [Int.natCast_add]; grind
    rw [e2]; exact h2

/-- No more kinds come than packets. -/
theorem knC_few {z : Nat → Int} {n k : Nat} (hn : n ≤ 6) (h1n : 1 ≤ n) (h9 : ∀ j, j < n → 1 ≤ z j ∧ z j ≤ 9) : knC z n k ≤ (k : Int) * (LK z n k : Nat) := by
  have hall0 : 2 ^ n - 1 ≠ 0 := by
    have : 2 ^ 1 ≤ 2 ^ n := Nat.pow_le_pow_right (by decide) h1n
    omega
  have hof := of_pos (full_lt hn) hn hall0 h9
  have h : ofS z (2 ^ n - 1) * knC z n k ≤ ofS z (2 ^ n - 1) * ((k : Int) * (LK z n k : Nat)) := by
    have h1 : ofS z (2 ^ n - 1) * knC z n k ≤ ((List.range n).map fun i => (k : Int) * (LK z n k : Nat) * z i).sum := by
      unfold knC sumC
      rw [← sum_mul]
      refine sum_le fun i hi => ?_
      have := kiC_few (List.mem_range.1 hi) hn h1n h9 k
      have e : (k : Int) * (LK z n k : Nat) * z i = (k : Int) * z i * (LK z n k : Nat) := by grind
      rw [e]; exact this
    rw [sum_mul, ← ofS_full z hn, Int.mul_comm ((k : Int) * (LK z n k : Nat))] at h1
    exact h1
  exact Int.le_of_mul_le_mul_left h (by omega)
end Go.Proofs.Ytgednacoeifclaa
