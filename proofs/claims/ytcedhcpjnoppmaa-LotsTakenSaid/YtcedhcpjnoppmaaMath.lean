/-
  Plain facts of tests of lots: what a plan does, the ways to get there, and their sums.
-/
namespace Go.Proofs.Ytcedhcpjnoppmaa

/-- What a plan does after its item of index i with b bad ones: 1 takes, 2 leaves, 0 goes on. -/
def av (T L : Nat → Int) (i : Nat) (b : Int) : Int := if b ≤ T i then 1 else if L i ≤ b then 2 else 0

/-- The ways with one more item. -/
def fu (Y O : Int) (f : Int → Int) (b : Int) : Int := f b * (O - Y) + f (b - 1) * Y

/-- The ways that are still open after i items. -/
def op (Y O : Int) (T L : Nat → Int) : Nat → Int → Int
  | 0, b => if b = 0 then 1 else 0
  | i + 1, b => if av T L i b = 0 then fu Y O (op Y O T L i) b else 0

/-- A sum of the first n numbers. -/
def sumN (f : Int → Int) : Nat → Int
  | 0 => 0
  | n + 1 => sumN f n + f n

/-- Of those that are taken. -/
def tf (Y O : Int) (T L : Nat → Int) (i : Nat) (b : Int) : Int := if av T L i b = 1 then fu Y O (op Y O T L i) b else 0

/-- Lots that are taken, items that are looked at, all lots: after i items. -/
def tk (Y O : Int) (T L : Nat → Int) : Nat → Int
  | 0 => 0
  | i + 1 => tk Y O T L i * O + sumN (tf Y O T L i) (i + 2)
def lk (Y O : Int) (T L : Nat → Int) : Nat → Int
  | 0 => 0
  | i + 1 => lk Y O T L i * O + sumN (fu Y O (op Y O T L i)) (i + 2)

theorem sumN_congr {f g : Int → Int} : ∀ (n : Nat), (∀ j : Nat, j < n → f j = g j) → sumN f n = sumN g n
  | 0, _ => rfl
  | n + 1, h => by simp only [sumN]; rw [sumN_congr n (fun j hj => h j (by omega)), h n (by omega)]

theorem sumN_zero {f : Int → Int} : ∀ (n : Nat), (∀ j : Nat, j < n → f j = 0) → sumN f n = 0
  | 0, _ => rfl
  | n + 1, h => by simp only [sumN]; rw [sumN_zero n (fun j hj => h j (by omega)), h n (by omega)]; rfl

theorem sumN_add {f g : Int → Int} : ∀ (n : Nat), sumN (fun b => f b + g b) n = sumN f n + sumN g n
  | 0 => rfl
  | n + 1 => by simp only [sumN]; rw [sumN_add n]; omega

theorem sumN_mul {f : Int → Int} (c : Int) : ∀ (n : Nat), sumN (fun b => f b * c) n = sumN f n * c
  | 0 => by simp [sumN]
  | n + 1 => by simp only [sumN]; rw [sumN_mul c n, Int.add_mul]

theorem sumN_le {f g : Int → Int} : ∀ (n : Nat), (∀ j : Nat, j < n → f j ≤ g j) → sumN f n ≤ sumN g n
  | 0, _ => Int.le_refl _
  | n + 1, h => by simp only [sumN]; have := sumN_le n (fun j hj => h j (by omega)); have := h n (by omega); omega

theorem sumN_nonneg {f : Int → Int} : ∀ (n : Nat), (∀ j : Nat, j < n → 0 ≤ f j) → 0 ≤ sumN f n
  | 0, _ => Int.le_refl _
  | n + 1, h => by simp only [sumN]; have := sumN_nonneg n (fun j hj => h j (by omega)); have := h n (by omega); omega

/-- One more of the numbers comes in. -/
theorem sumN_set {f g : Int → Int} (k : Nat) : ∀ (n : Nat), k < n → (∀ j : Nat, j ≠ k → g j = f j) → sumN g n = sumN f n + (g k - f k)
  | 0, h, _ => absurd h (Nat.not_lt_zero _)
  | n + 1, h, he => by
    simp only [sumN]
    by_cases e : k = n
    · subst e
      rw [sumN_congr (f := g) (g := f) k (fun j hj => he j (by omega))]; omega
    · rw [sumN_set k n (by omega) he, he n (by omega)]; omega

/-- Moved by one. -/
theorem sumN_shift {f : Int → Int} (h0 : f (-1) = 0) : ∀ (n : Nat), sumN (fun b => f (b - 1)) (n + 1) = sumN f n
  | 0 => by simp [sumN, h0]
  | n + 1 => by
    rw [sumN, sumN_shift h0 n, sumN]
    have : ((n + 1 : Nat) : Int) - 1 = n := by omega
    rw [this]

theorem op_low {Y O : Int} {T L : Nat → Int} : ∀ (i : Nat) (b : Int), b < 0 → op Y O T L i b = 0
  | 0, b, h => by have : ¬ b = 0 := by omega
                  simp [op, this]
  | i + 1, b, h => by
    simp only [op, fu]
    rw [op_low i b h, op_low i (b - 1) (by omega)]; simp

theorem op_high {Y O : Int} {T L : Nat → Int} : ∀ (i : Nat) (b : Int), (i : Int) < b → op Y O T L i b = 0
  | 0, b, h => by have : ¬ b = 0 := by omega
                  simp [op, this]
  | i + 1, b, h => by
    simp only [op, fu]
    rw [op_high i b (by omega), op_high i (b - 1) (by omega)]; simp

/-- Each look parts what is open. -/
theorem fu_sum {Y O : Int} {T L : Nat → Int} (i : Nat) : sumN (fu Y O (op Y O T L i)) (i + 2) = sumN (op Y O T L i) (i + 1) * O := by
  have e : sumN (fu Y O (op Y O T L i)) (i + 2) = sumN (fun b => op Y O T L i b * (O - Y)) (i + 2) + sumN (fun b => op Y O T L i (b - 1) * Y) (i + 2) := by
    rw [← sumN_add]; rfl
  rw [e, sumN_mul, sumN_mul (f := fun b => op Y O T L i (b - 1)), sumN_shift (op_low i (-1) (by omega))]
  rw [sumN, op_high i ((i + 1 : Nat) : Int) (by omega), Int.add_zero, ← Int.mul_add]
  congr 1; omega

theorem fu_nonneg {Y O : Int} (hY : 0 ≤ Y) (hO : Y ≤ O) {f : Int → Int} (h : ∀ b, 0 ≤ f b) (b : Int) : 0 ≤ fu Y O f b :=
  Int.add_nonneg (Int.mul_nonneg (h b) (by omega)) (Int.mul_nonneg (h (b - 1)) hY)

theorem op_nonneg {Y O : Int} {T L : Nat → Int} (hY : 0 ≤ Y) (hO : Y ≤ O) : ∀ (i : Nat) (b : Int), 0 ≤ op Y O T L i b
  | 0, b => by simp only [op]; split <;> omega
  | i + 1, b => by
    simp only [op]; split
    · exact fu_nonneg hY hO (op_nonneg hY hO i) b
    · omega

theorem tf_nonneg {Y O : Int} {T L : Nat → Int} (hY : 0 ≤ Y) (hO : Y ≤ O) (i : Nat) (b : Int) : 0 ≤ tf Y O T L i b := by
  simp only [tf]; split
  · exact fu_nonneg hY hO (op_nonneg hY hO i) b
  · omega

theorem op_le {Y O : Int} {T L : Nat → Int} (hY : 0 ≤ Y) (hO : Y ≤ O) (i : Nat) (b : Int) : op Y O T L (i + 1) b + tf Y O T L i b ≤ fu Y O (op Y O T L i) b := by
  have h := fu_nonneg hY hO (op_nonneg (T := T) (L := L) hY hO i) b
  simp only [op, tf]
  by_cases h0 : av T L i b = 0
  · rw [if_pos h0, if_neg (by omega)]; omega
  · rw [if_neg h0]; split <;> omega

/-- All that is taken or open is no more than all. -/
theorem tk_le {Y O : Int} {T L : Nat → Int} (hY : 0 ≤ Y) (hO : Y ≤ O) : ∀ (i : Nat), 0 ≤ tk Y O T L i ∧ tk Y O T L i + sumN (op Y O T L i) (i + 1) ≤ O ^ i
  | 0 => by simp [tk, sumN, op]
  | i + 1 => by
    have ih := tk_le (T := T) (L := L) hY hO i
    have hs := fu_sum (Y := Y) (O := O) (T := T) (L := L) i
    have h1 : sumN (fun b => op Y O T L (i + 1) b + tf Y O T L i b) (i + 2) ≤ sumN (fu Y O (op Y O T L i)) (i + 2) := sumN_le _ fun j _ => op_le hY hO i j
    rw [sumN_add] at h1
    have h2 := sumN_nonneg (f := tf Y O T L i) (i + 2) (fun j _ => tf_nonneg hY hO i j)
    have h3 : (tk Y O T L i + sumN (op Y O T L i) (i + 1)) * O ≤ O ^ i * O := Int.mul_le_mul_of_nonneg_right ih.2 (by omega)
    rw [Int.add_mul] at h3
    have h4 := Int.mul_nonneg ih.1 (show 0 ≤ O by omega)
    rw [Int.pow_succ]
    show 0 ≤ tk Y O T L i * O + sumN (tf Y O T L i) (i + 2) ∧ tk Y O T L i * O + sumN (tf Y O T L i) (i + 2) + sumN (op Y O T L (i + 1)) (i + 2) ≤ O ^ i * O
    omega

theorem lk_le {Y O : Int} {T L : Nat → Int} (hY : 0 ≤ Y) (hO : Y ≤ O) : ∀ (i : Nat), 0 ≤ lk Y O T L i ∧ lk Y O T L i ≤ i * O ^ i
  | 0 => by simp [lk]
  | i + 1 => by
    have ih := lk_le (T := T) (L := L) hY hO i
    have hs := fu_sum (Y := Y) (O := O) (T := T) (L := L) i
    have h0 := tk_le (T := T) (L := L) hY hO i
    have h2 : sumN (op Y O T L i) (i + 1) * O ≤ O ^ i * O := Int.mul_le_mul_of_nonneg_right (by omega) (by omega)
    have h3 : 0 ≤ sumN (op Y O T L i) (i + 1) := sumN_nonneg _ (fun j _ => op_nonneg hY hO i j)
    have h4 := Int.mul_nonneg h3 (show 0 ≤ O by omega)
    have h5 : lk Y O T L i * O ≤ i * O ^ i * O := Int.mul_le_mul_of_nonneg_right ih.2 (by omega)
    have h6 := Int.mul_nonneg ih.1 (show 0 ≤ O by omega)
    have e : ((i + 1 : Nat) : Int) * O ^ (i + 1) = i * O ^ i * O + O ^ i * O := by
      rw [Int.pow_succ, Int.natCast_add, Int.add_mul]; simp [Int.mul_assoc]
    rw [e]
    simp only [lk]
    omega

/-- The greatest power. -/
theorem pow_mono {O : Int} (h1 : 1 ≤ O) : ∀ {i j : Nat}, i ≤ j → O ^ i ≤ O ^ j := by
  intro i j h
  induction j with
  | zero => have : i = 0 := by omega
            subst this; omega
  | succ j ih =>
    by_cases e : i = j + 1
    · subst e; omega
    · have := ih (by omega)
      have h2 : 0 ≤ O ^ j := Int.pow_nonneg (by omega)
      have h3 : O ^ j * 1 ≤ O ^ j * O := Int.mul_le_mul_of_nonneg_left h1 h2
      rw [Int.pow_succ]; omega

theorem pow_base {O : Int} (h0 : 0 ≤ O) (h12 : O ≤ 12) : ∀ (i : Nat), 0 ≤ O ^ i ∧ O ^ i ≤ 12 ^ i
  | 0 => by simp
  | i + 1 => by
    have ih := pow_base h0 h12 i
    rw [Int.pow_succ, Int.pow_succ]
    have h1 := Int.mul_nonneg ih.1 h0
    have h2 : O ^ i * O ≤ 12 ^ i * 12 := Int.mul_le_mul ih.2 h12 h0 (Int.pow_nonneg (by omega))
    exact ⟨h1, h2⟩

theorem pow_max {O : Int} (h0 : 1 ≤ O) (h12 : O ≤ 12) {i : Nat} (hi : i ≤ 12) : 1 ≤ O ^ i ∧ O ^ i ≤ 8916100448256 := by
  have h1 := pow_mono h0 (Nat.zero_le i)
  have h2 := (pow_base (by omega) h12 i).2
  have h3 : (12 : Int) ^ i ≤ 12 ^ 12 := pow_mono (by omega) hi
  have h4 : (12 : Int) ^ 12 = 8916100448256 := by decide
  simp only [Int.pow_zero] at h1
  omega

end Go.Proofs.Ytcedhcpjnoppmaa
