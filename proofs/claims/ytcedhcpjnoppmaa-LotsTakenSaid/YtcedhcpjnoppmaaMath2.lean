import Derived.Test.YtcedhcpjnoppmaaMath
/-
  Plain facts: the sums of the reference, the greatest common divisor.
-/
namespace Go.Proofs.Ytcedhcpjnoppmaa

theorem sumN_cut {f : Int → Int} {k : Nat} : ∀ (m : Nat), k ≤ m → (∀ j : Nat, k ≤ j → j < m → f j = 0) → sumN f m = sumN f k
  | 0, h, _ => by have : k = 0 := by omega
                  subst this; rfl
  | m + 1, h, hz => by
    by_cases e : k = m + 1
    · subst e; rfl
    · simp only [sumN]
      rw [sumN_cut m (by omega) (fun j h1 h2 => hz j h1 (by omega)), hz m (by omega) (by omega)]; simp

theorem sumN_one {f : Int → Int} (h : ∀ b, 0 ≤ f b) (k : Nat) : ∀ (n : Nat), k < n → f k ≤ sumN f n
  | 0, h0 => absurd h0 (Nat.not_lt_zero _)
  | n + 1, h0 => by
    simp only [sumN]
    have h2 := sumN_nonneg (f := f) n (fun j _ => h j)
    by_cases e : k = n
    · subst e; omega
    · have := sumN_one h k n (by omega); have := h n; omega

theorem sumN_upto {f : Int → Int} (h : ∀ b, 0 ≤ f b) (k : Nat) : ∀ (n : Nat), k ≤ n → sumN f k ≤ sumN f n
  | 0, h0 => by have : k = 0 := by omega
                subst this; omega
  | n + 1, h0 => by
    by_cases e : k = n + 1
    · subst e; omega
    · have := sumN_upto h k n (by omega); have := h n; simp only [sumN]; omega

theorem op_bd {Y O : Int} {T L : Nat → Int} (hY : 0 ≤ Y) (hO : Y ≤ O) (i : Nat) (b : Int) : 0 ≤ op Y O T L i b ∧ op Y O T L i b ≤ O ^ i := by
  refine ⟨op_nonneg hY hO i b, ?_⟩
  have h0 := tk_le (T := T) (L := L) hY hO i
  have hp : 0 ≤ O ^ i := Int.pow_nonneg (by omega)
  by_cases h1 : b < 0
  · rw [op_low i b h1]; exact hp
  · by_cases h2 : (i : Int) < b
    · rw [op_high i b h2]; exact hp
    · have := sumN_one (f := op Y O T L i) (op_nonneg hY hO i) b.toNat (i + 1) (by omega)
      rw [show ((b.toNat : Nat) : Int) = b by omega] at this
      omega

theorem fu_high {Y O : Int} {T L : Nat → Int} (i : Nat) (b : Int) (h : (i : Int) + 1 < b) : fu Y O (op Y O T L i) b = 0 := by
  simp only [fu]; rw [op_high i b (by omega), op_high i (b - 1) (by omega)]; simp
theorem fu_low {Y O : Int} {T L : Nat → Int} (i : Nat) (b : Int) (h : b < 0) : fu Y O (op Y O T L i) b = 0 := by
  simp only [fu]; rw [op_low i b (by omega), op_low i (b - 1) (by omega)]; simp

theorem fu_bd {Y O : Int} {T L : Nat → Int} (hY : 0 ≤ Y) (hO : Y ≤ O) (i : Nat) (b : Int) : 0 ≤ fu Y O (op Y O T L i) b ∧ fu Y O (op Y O T L i) b ≤ O ^ (i + 1) := by
  have h1 := op_bd (T := T) (L := L) hY hO i b
  have h2 := op_bd (T := T) (L := L) hY hO i (b - 1)
  refine ⟨fu_nonneg hY hO (op_nonneg hY hO i) b, ?_⟩
  have a1 : op Y O T L i b * (O - Y) ≤ O ^ i * (O - Y) := Int.mul_le_mul_of_nonneg_right h1.2 (by omega)
  have a2 : op Y O T L i (b - 1) * Y ≤ O ^ i * Y := Int.mul_le_mul_of_nonneg_right h2.2 hY
  have e : O ^ i * (O - Y) + O ^ i * Y = O ^ (i + 1) := by rw [← Int.mul_add, Int.pow_succ]; congr 1; omega
  simp only [fu]; omega

/-- All of a chance's parts are small. -/
theorem part_bd {Y O x M : Int} (hY : 0 ≤ Y) (hO : Y ≤ O) (h12 : O ≤ 12) (h0 : 0 ≤ x) (h1 : x ≤ M) : 0 ≤ x * (O - Y) ∧ x * (O - Y) ≤ 12 * M ∧ 0 ≤ x * Y ∧ x * Y ≤ 12 * M ∧ 0 ≤ x * O ∧ x * O ≤ 12 * M := by
  have hM : 0 ≤ M := Int.le_trans h0 h1
  have a1 := Int.mul_nonneg h0 (show 0 ≤ O - Y by omega)
  have a2 := Int.mul_nonneg h0 hY
  have a3 := Int.mul_nonneg h0 (show 0 ≤ O by omega)
  have b3 : x * O ≤ M * 12 := Int.mul_le_mul h1 h12 (by omega) hM
  have b1 : x * (O - Y) ≤ M * 12 := Int.mul_le_mul h1 (by omega) (by omega) hM
  have b2 : x * Y ≤ M * 12 := Int.mul_le_mul h1 (by omega) (by omega) hM
  omega

/-- The quotient in lowest terms. -/
def low (a b : Int) : Int × Int := (a / (Nat.gcd a.toNat b.toNat : Int), b / (Nat.gcd a.toNat b.toNat : Int))

end Go.Proofs.Ytcedhcpjnoppmaa
