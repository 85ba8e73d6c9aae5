/-
  Plain facts: how many ways there are to choose; finite lots.
-/
namespace Go.Proofs.Ytcedhcpjnoppmaa

/-- How many ways there are to choose k of n. -/
def ch : Nat → Nat → Nat
  | _, 0 => 1
  | 0, _ + 1 => 0
  | n + 1, k + 1 => ch n k + ch n (k + 1)

theorem ch_zero (n : Nat) : ch n 0 = 1 := by cases n <;> rfl
theorem ch_succ (n k : Nat) : ch (n + 1) (k + 1) = ch n k + ch n (k + 1) := rfl
theorem ch_high : ∀ {n k : Nat}, n < k → ch n k = 0
  | 0, k + 1, _ => rfl
  | n + 1, k + 1, h => by rw [ch_succ, ch_high (show n < k by omega), ch_high (show n < k + 1 by omega)]
theorem ch_pos : ∀ {n k : Nat}, k ≤ n → 1 ≤ ch n k
  | n, 0, _ => by rw [ch_zero]; exact Nat.le_refl _
  | n + 1, k + 1, h => by rw [ch_succ]; have := ch_pos (n := n) (k := k) (by omega); omega
theorem ch_le : ∀ (n k : Nat), ch n k ≤ 2 ^ n
  | n, 0 => by rw [ch_zero]; exact Nat.one_le_two_pow
  | 0, k + 1 => by show 0 ≤ _; omega
  | n + 1, k + 1 => by
    rw [ch_succ, Nat.pow_succ]
    have := ch_le n k
    have := ch_le n (k + 1)
    omega

/-- The next one, out of this one. -/
theorem ch_step : ∀ (n k : Nat), ch n (k + 1) * (k + 1) + k * ch n k = n * ch n k
  | 0, 0 => rfl
  | 0, k + 1 => by show 0 * _ + (k + 1) * 0 = 0 * 0; simp
  | n + 1, 0 => by
    have := ch_step n 0
    rw [ch_succ, ch_zero, ch_zero]
    rw [ch_zero] at this
    simp only [Nat.zero_add, Nat.mul_one, Nat.add_zero] at this ⊢
    omega
  | n + 1, k + 1 => by
    have h1 := ch_step n k
    have h2 := ch_step n (k + 1)
    rw [ch_succ, ch_succ]
    have e1 : (ch n (k + 1) + ch n (k + 1 + 1)) * (k + 1 + 1) = ch n (k + 1) * (k + 1) + ch n (k + 1) + ch n (k + 1 + 1) * (k + 1 + 1) := by
      rw [Nat.add_mul]; congr 1
    have e2 : (k + 1) * (ch n k + ch n (k + 1)) = k * ch n k + ch n k + (k + 1) * ch n (k + 1) := by
      rw [Nat.mul_add, Nat.add_mul, Nat.one_mul]
    have e3 : (n + 1) * (ch n k + ch n (k + 1)) = n * ch n k + ch n k + (n * ch n (k + 1) + ch n (k + 1)) := by
      rw [Nat.mul_add, Nat.add_mul, Nat.add_mul, Nat.one_mul, Nat.one_mul]
    rw [e1, e2, e3]
    omega

theorem pow40 {n : Nat} (h : n ≤ 40) : 2 ^ n ≤ 1099511627776 := Nat.pow_le_pow_right (n := 2) (by omega) h

/-- As Go reckons it. -/
theorem ch_int (n k : Nat) : (ch n k : Int) * ((n : Int) - (k : Int)) = (ch n (k + 1) : Int) * ((k : Int) + 1) := by
  have h := congrArg (fun z : Nat => (z : Int)) (ch_step n k)
  simp only [Int.natCast_add, Int.natCast_mul, Int.natCast_one] at h
  rw [Int.mul_sub, Int.mul_comm (ch n k : Int) (n : Int), Int.mul_comm (ch n k : Int) (k : Int)]
  omega

/-- Of a finite lot: the draws with fewer than c bad ones. -/
def draws (n b m : Nat) : Nat → Nat
  | 0 => 0
  | c + 1 => draws n b m c + ch b c * ch (n - b) (m - c)

theorem term_le {n b m c : Nat} (hb : b ≤ n) (hn : n ≤ 40) : ch b c * ch (n - b) (m - c) ≤ 1099511627776 := by
  have h1 := Nat.mul_le_mul (ch_le b c) (ch_le (n - b) (m - c))
  rw [← Nat.pow_add, show b + (n - b) = n by omega] at h1
  exact Nat.le_trans h1 (pow40 hn)
theorem draws_le {n b m : Nat} (hb : b ≤ n) (hn : n ≤ 40) : ∀ (c : Nat), draws n b m c ≤ c * 1099511627776
  | 0 => by simp [draws]
  | c + 1 => by
    have := draws_le (m := m) hb hn c
    have := term_le (m := m) (c := c) hb hn
    simp only [draws]
    omega

/-- Is it a finite lot? -/
def isLot (n b m c : Int) : Bool := decide (1 ≤ n ∧ n ≤ 40 ∧ 0 ≤ b ∧ b ≤ n ∧ 0 ≤ m ∧ m ≤ n ∧ 0 ≤ c ∧ c ≤ m)
theorem isLot_iff {n b m c : Int} : isLot n b m c = true ↔ (1 ≤ n ∧ n ≤ 40 ∧ 0 ≤ b ∧ b ≤ n ∧ 0 ≤ m ∧ m ≤ n ∧ 0 ≤ c ∧ c ≤ m) := by simp [isLot]
theorem isLot_no {n b m c : Int} (h : ¬ (1 ≤ n ∧ n ≤ 40 ∧ 0 ≤ b ∧ b ≤ n ∧ 0 ≤ m ∧ m ≤ n ∧ 0 ≤ c ∧ c ≤ m)) : isLot n b m c = false := by
  simp only [isLot, decide_eq_false_iff_not]; exact h

end Go.Proofs.Ytcedhcpjnoppmaa
