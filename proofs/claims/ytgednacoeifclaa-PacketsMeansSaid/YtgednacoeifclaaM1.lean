import Derived.Test.YtgednacoeifclaaV1
namespace Go.Proofs.Ytgednacoeifclaa
open Go.RowKit Go.Shelf

attribute [local go_sem] Oper.semAt_some

/-- The numerator of a stay: the kinds' weights and the count of them, multiplied. -/
def stN (z : Nat → Int) : List Nat → Int
  | [] => 1
  | x :: xs => z x * (xs.length + 1 : Nat) * stN z xs
theorem stN_nil (z : Nat → Int) : stN z [] = 1 := rfl

theorem stN_snoc (z : Nat → Int) (x : Nat) : ∀ xs : List Nat, stN z (xs ++ [x]) = stN z xs * (((xs.length + 1 : Nat) : Int) * z x)
  | [] => by simp [stN]
  | y :: xs => by
    have ih := stN_snoc z x xs
    simp only [List.cons_append, stN, ih, List.length_append, List.length_cons, List.length_nil]
    generalize stN z xs = S
    have e1 : ((xs.length + (0 + 1) + 1 : Nat) : Int) = (xs.length : Int) + 2 := by omega
    have e2 : ((xs.length + 1 : Nat) : Int) = (xs.length : Int) + 1 := by omega
    rw [e1, e2]
    grind
theorem stN_bd {z : Nat → Int} : ∀ {xs : List Nat}, xs.length ≤ 6 → (∀ x ∈ xs, 1 ≤ z x ∧ z x ≤ 9) → 1 ≤ stN z xs ∧ stN z xs ≤ ((54 ^ xs.length : Nat) : Int)
  | [], _, _ => by simp [stN]
  | x :: xs, hl, h => by
    have ih := stN_bd (z := z) (xs := xs) (by simp at hl; omega) (fun y hy => h y (List.mem_cons_of_mem _ hy))
    have h1 := h x (List.mem_cons_self ..)
    simp only [List.length_cons] at hl
    simp only [stN, List.length_cons]
    have e : ((54 ^ (xs.length + 1) : Nat) : Int) = 54 * ((54 ^ xs.length : Nat) : Int) := by rw [Nat.pow_succ, Int.natCast_mul]; grind
    rw [e]
    have hk : 1 ≤ ((xs.length + 1 : Nat) : Int) ∧ ((xs.length + 1 : Nat) : Int) ≤ 6 := by omega
    generalize ((xs.length + 1 : Nat) : Int) = k at hk ⊢
    generalize z x = a at h1 ⊢
    generalize stN z xs = S at ih ⊢
    generalize ((54 ^ xs.length : Nat) : Int) = P at ih ⊢
    have h2 : 1 ≤ a * k ∧ a * k ≤ 54 := by
      have : a = 1 ∨ a = 2 ∨ a = 3 ∨ a = 4 ∨ a = 5 ∨ a = 6 ∨ a = 7 ∨ a = 8 ∨ a = 9 := by omega
      rcases this with rfl | rfl | rfl | rfl | rfl | rfl | rfl | rfl | rfl <;> omega
    generalize a * k = b at h2 ⊢
    constructor
    · calc (1 : Int) = 1 * 1 := rfl
        _ ≤ b * S := Int.mul_le_mul h2.1 ih.1 (by omega) (by omega)
    · calc b * S ≤ 54 * S := Int.mul_le_mul_of_nonneg_right h2.2 (by omega)
        _ ≤ 54 * P := Int.mul_le_mul_of_nonneg_left ih.2 (by omega)

theorem of_bd {z : Nat → Int} {s n : Nat} (hs : s < 2 ^ n) (h9 : ∀ j, j < n → 1 ≤ z j ∧ z j ≤ 9) : ((kindsL s).length : Int) ≤ ofS z s ∧ ofS z s ≤ 54 := by
  have h := ofL_bd (z := z) (xs := kindsL s) (fun x hx => h9 x (kindsL_in hs hx))
  have h2 := kindsL_len s
  unfold ofS
  omega
theorem kinds_some : ∀ s : Nat, s < 64 → s ≠ 0 → 1 ≤ (kindsL s).length := by decide +kernel
theorem of_pos {z : Nat → Int} {s n : Nat} (hs : s < 2 ^ n) (hn : n ≤ 6) (h0 : s ≠ 0) (h9 : ∀ j, j < n → 1 ≤ z j ∧ z j ≤ 9) : 1 ≤ ofS z s ∧ ofS z s ≤ 54 := by
  have h := of_bd hs h9
  have := kinds_some s (lt64 hs hn) h0
  omega
end Go.Proofs.Ytgednacoeifclaa
