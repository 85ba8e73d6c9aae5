import Derived.Test.YtcedhcpjnoppmaaFi1
/-
  Plain facts of finite lots: all draws together, exchanging, lowest terms.
-/
namespace Go.Proofs.Ytcedhcpjnoppmaa

def fact : Nat → Nat
  | 0 => 1
  | n + 1 => (n + 1) * fact n
theorem fact_pos : ∀ n, 1 ≤ fact n
  | 0 => Nat.le_refl _
  | n + 1 => Nat.mul_le_mul (show 1 ≤ n + 1 by omega) (fact_pos n)

theorem ch_self : ∀ n, ch n n = 1
  | 0 => rfl
  | n + 1 => by rw [ch_succ, ch_self n, ch_high (show n < n + 1 by omega)]

theorem ch_fact : ∀ (n k : Nat), k ≤ n → ch n k * (fact k * fact (n - k)) = fact n
  | n, 0, _ => by rw [ch_zero]; simp [fact]
  | n + 1, k + 1, h => by
    rw [ch_succ, Nat.add_mul]
    have e1 : ch n k * (fact (k + 1) * fact (n + 1 - (k + 1))) = (k + 1) * fact n := by
      have := ch_fact n k (by omega)
      rw [show n + 1 - (k + 1) = n - k by omega, show fact (k + 1) = (k + 1) * fact k from rfl, ← this]
      simp only [Nat.mul_assoc, Nat.mul_left_comm]
    have e2 : ch n (k + 1) * (fact (k + 1) * fact (n + 1 - (k + 1))) = (n - k) * fact n := by
      by_cases hk : k = n
      · subst hk; rw [ch_high (by omega)]; simp
      · have := ch_fact n (k + 1) (by omega)
        rw [show n + 1 - (k + 1) = (n - (k + 1)) + 1 by omega, show fact ((n - (k + 1)) + 1) = ((n - (k + 1)) + 1) * fact (n - (k + 1)) from rfl, ← this]
        rw [show n - (k + 1) + 1 = n - k by omega]
        simp only [Nat.mul_left_comm]
    rw [e1, e2, ← Nat.add_mul, show k + 1 + (n - k) = n + 1 by omega]; rfl

/-- The draws of two parts. -/
def two (b N m : Nat) : Nat → Nat
  | 0 => 0
  | c + 1 => two b N m c + ch b c * ch N (m - c)
theorem draws_two (n b m : Nat) : ∀ c, draws n b m c = two b (n - b) m c
  | 0 => rfl
  | c + 1 => by simp only [draws, two]; rw [draws_two n b m c]

theorem two_zero (N m : Nat) : ∀ c, two 0 N m (c + 1) = ch N m
  | 0 => by simp [two, ch_zero]
  | c + 1 => by rw [two, two_zero N m c, ch_high (show 0 < c + 1 by omega)]; simp

theorem two_part (b N m : Nat) : ∀ c, c ≤ m + 1 → two (b + 1) N (m + 1) (c + 1) = two b N (m + 1) (c + 1) + two b N m c
  | 0, _ => by simp [two, ch_zero]
  | c + 1, h => by
    rw [two, two_part b N m c (by omega)]
    show _ = two b N (m + 1) (c + 1) + ch b (c + 1) * ch N (m + 1 - (c + 1)) + (two b N m c + ch b c * ch N (m - c))
    rw [ch_succ, show m + 1 - (c + 1) = m - c by omega, Nat.add_mul]
    omega

theorem two_all : ∀ (b N m : Nat), two b N m (m + 1) = ch (b + N) m
  | 0, N, m => by rw [two_zero, Nat.zero_add]
  | b + 1, N, 0 => by simp [two, ch_zero]
  | b + 1, N, m + 1 => by
    rw [two_part b N m (m + 1) (by omega), two_all b N (m + 1), two_all b N m, show b + 1 + N = (b + N) + 1 by omega, ch_succ]
    omega

theorem draws_all {n b m : Nat} (h : b ≤ n) : draws n b m (m + 1) = ch n m := by rw [draws_two, two_all, show b + (n - b) = n by omega]
theorem draws_mono (n b m : Nat) {c d : Nat} (h : c ≤ d) : draws n b m c ≤ draws n b m d := by
  induction d with
  | zero => have : c = 0 := by omega
            subst this; exact Nat.le_refl _
  | succ d ih =>
    by_cases e : c = d + 1
    · subst e; exact Nat.le_refl _
    · have := ih (by omega); simp only [draws]; omega
theorem draws_more {n b m c : Nat} (h : b ≤ c) : ∀ d, draws n b m (c + 1 + d) = draws n b m (c + 1)
  | 0 => rfl
  | d + 1 => by
    have := draws_more (n := n) (m := m) h d
    show draws n b m (c + 1 + d) + ch b (c + 1 + d) * _ = _
    rw [this, ch_high (show b < c + 1 + d by omega)]; simp
theorem draws_sure {n b m c : Nat} (hb : b ≤ n) (hc : c ≤ m) (h : b ≤ c ∨ m ≤ c) : draws n b m (c + 1) = ch n m := by
  rcases h with h | h
  · have := draws_more (n := n) (m := m) h (m - c)
    rw [show c + 1 + (m - c) = m + 1 by omega, draws_all hb] at this
    exact this.symm
  · have : c = m := by omega
    subst this; exact draws_all hb
theorem draws_le_all {n b m c : Nat} (hb : b ≤ n) (hc : c ≤ m) : draws n b m (c + 1) ≤ ch n m := by
  rw [← draws_all hb]; exact draws_mono n b m (by omega)

/-- Exchanging the bad ones and those that are looked at. -/
theorem term_swap {n b m i : Nat} (hb : b ≤ n) (hm : m ≤ n) (h1 : i ≤ b) (h2 : i ≤ m) : ch b i * ch (n - b) (m - i) * ch n b = ch m i * ch (n - m) (b - i) * ch n m := by
  by_cases hz : n - b < m - i
  · rw [ch_high hz, ch_high (show n - m < b - i by omega)]; simp
  · have f1 := ch_fact b i h1
    have f2 := ch_fact (n - b) (m - i) (by omega)
    have f3 := ch_fact n b hb
    have g1 := ch_fact m i h2
    have g2 := ch_fact (n - m) (b - i) (by omega)
    have g3 := ch_fact n m hm
    have e : n - m - (b - i) = n - b - (m - i) := by omega
    rw [e] at g2
    have hK : 0 < fact i * fact (b - i) * (fact (m - i) * fact (n - b - (m - i))) := Nat.mul_pos (Nat.mul_pos (fact_pos _) (fact_pos _)) (Nat.mul_pos (fact_pos _) (fact_pos _))
    refine Nat.eq_of_mul_eq_mul_right hK ?_
    have l : ch b i * ch (n - b) (m - i) * ch n b * (fact i * fact (b - i) * (fact (m - i) * fact (n - b - (m - i)))) = fact n := by
      rw [← f3, ← f1, ← f2]; simp only [Nat.mul_assoc, Nat.mul_left_comm, Nat.mul_comm]
    have r : ch m i * ch (n - m) (b - i) * ch n m * (fact i * fact (b - i) * (fact (m - i) * fact (n - b - (m - i)))) = fact n := by
      rw [← g3, ← g1, ← g2]; simp only [Nat.mul_assoc, Nat.mul_left_comm, Nat.mul_comm]
    rw [l, r]
theorem draws_swap {n b m : Nat} (hb : b ≤ n) (hm : m ≤ n) : ∀ c, c ≤ b + 1 → c ≤ m + 1 → draws n b m c * ch n b = draws n m b c * ch n m
  | 0, _, _ => by simp [draws]
  | c + 1, h1, h2 => by
    simp only [draws]
    rw [Nat.add_mul, Nat.add_mul, draws_swap hb hm c (by omega) (by omega), term_swap hb hm (by omega) (by omega)]

/-- Fractions that are equal have the same lowest terms. -/
theorem low_unique {a b c d : Nat} (hb : 0 < b) (hd : 0 < d) (h : a * d = c * b) : a / Nat.gcd a b = c / Nat.gcd c d ∧ b / Nat.gcd a b = d / Nat.gcd c d := by
  have hg : 0 < Nat.gcd a b := Nat.gcd_pos_of_pos_right a hb
  have hh : 0 < Nat.gcd c d := Nat.gcd_pos_of_pos_right c hd
  have e : Nat.gcd a b * d = b * Nat.gcd c d := by
    rw [← Nat.gcd_mul_right, h, ← Nat.gcd_mul_left, Nat.mul_comm c b]
  have e2 : Nat.gcd a b * c = a * Nat.gcd c d := by
    have h1 : Nat.gcd a b * c * b = a * Nat.gcd c d * b := by
      rw [Nat.mul_assoc, ← h, Nat.mul_assoc, Nat.mul_comm (Nat.gcd c d) b, ← e]
      exact Nat.mul_left_comm _ _ _
    exact Nat.eq_of_mul_eq_mul_right hb h1
  constructor
  · refine Nat.div_eq_of_eq_mul_left hg ?_
    have h3 : c / Nat.gcd c d * Nat.gcd c d = c := Nat.div_mul_cancel (Nat.gcd_dvd_left c d)
    refine Nat.eq_of_mul_eq_mul_right hh ?_
    rw [← e2, Nat.mul_assoc, Nat.mul_comm (Nat.gcd a b) (Nat.gcd c d), ← Nat.mul_assoc, h3, Nat.mul_comm]
  · refine Nat.div_eq_of_eq_mul_left hg ?_
    have h3 : d / Nat.gcd c d * Nat.gcd c d = d := Nat.div_mul_cancel (Nat.gcd_dvd_right c d)
    refine Nat.eq_of_mul_eq_mul_right hh ?_
    rw [← e, Nat.mul_assoc, Nat.mul_comm (Nat.gcd a b) (Nat.gcd c d), ← Nat.mul_assoc, h3, Nat.mul_comm]

/-- A fraction's parts against its whole. -/
theorem low_parts {a b : Nat} (hb : 0 < b) : 1 ≤ b / Nat.gcd a b ∧ b / Nat.gcd a b ≤ b ∧ a / Nat.gcd a b ≤ a ∧ b % (b / Nat.gcd a b) = 0 ∧ a / Nat.gcd a b * (b / (b / Nat.gcd a b)) = a := by
  have hg : 0 < Nat.gcd a b := Nat.gcd_pos_of_pos_right a hb
  have hle : Nat.gcd a b ≤ b := Nat.gcd_le_right a hb
  have h1 : 0 < b / Nat.gcd a b := Nat.div_pos hle hg
  have h3 : b / Nat.gcd a b * Nat.gcd a b = b := Nat.div_mul_cancel (Nat.gcd_dvd_right a b)
  have h4 : a / Nat.gcd a b * Nat.gcd a b = a := Nat.div_mul_cancel (Nat.gcd_dvd_left a b)
  have h5 : b / (b / Nat.gcd a b) = Nat.gcd a b := by
    refine Nat.div_eq_of_eq_mul_left h1 ?_
    rw [Nat.mul_comm]; exact h3.symm
  refine ⟨h1, Nat.div_le_self _ _, Nat.div_le_self _ _, ?_, by rw [h5]; exact h4⟩
  refine Nat.mod_eq_zero_of_dvd ⟨Nat.gcd a b, h3.symm⟩
theorem low_le {a b : Nat} (h : a ≤ b) : a / Nat.gcd a b ≤ b / Nat.gcd a b := Nat.div_le_div_right h
theorem low_one {a : Nat} (h : 0 < a) : a / Nat.gcd a a = 1 := by rw [Nat.gcd_self]; exact Nat.div_self h

end Go.Proofs.Ytcedhcpjnoppmaa
