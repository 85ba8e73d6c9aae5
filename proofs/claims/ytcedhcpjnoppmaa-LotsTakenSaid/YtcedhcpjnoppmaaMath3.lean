import Derived.Test.YtcedhcpjnoppmaaMath
/-
  Plain facts: where a plan ends; plans turned; plans of n and c.
-/
namespace Go.Proofs.Ytcedhcpjnoppmaa

/-- How many of the first k are bad. -/
def bc (x : Nat → Bool) : Nat → Nat
  | 0 => 0
  | k + 1 => bc x k + (if x k then 1 else 0)

theorem bc_le (x : Nat → Bool) : ∀ k, bc x k ≤ k
  | 0 => Nat.le_refl _
  | k + 1 => by have := bc_le x k; simp only [bc]; split <;> omega

theorem bc_mono (x : Nat → Bool) {j : Nat} : ∀ {k : Nat}, j ≤ k → bc x j ≤ bc x k ∧ bc x k ≤ bc x j + (k - j)
  | 0, h => by have : j = 0 := by omega
               subst this; simp
  | k + 1, h => by
    by_cases e : j = k + 1
    · subst e; simp
    · have := bc_mono x (k := k) (j := j) (by omega); simp only [bc]; split <;> omega

theorem bc_congr {x y : Nat → Bool} : ∀ (k : Nat), (∀ j, j < k → x j = y j) → bc x k = bc y k
  | 0, _ => rfl
  | k + 1, h => by simp only [bc]; rw [bc_congr k (fun j hj => h j (by omega)), h k (by omega)]

theorem bc_not {x y : Nat → Bool} : ∀ (k : Nat), (∀ j, j < k → y j = !x j) → bc y k + bc x k = k
  | 0, _ => rfl
  | k + 1, h => by
    have := bc_not k (fun j hj => h j (by omega))
    simp only [bc]; rw [h k (by omega)]
    cases x k <;> simp <;> omega

/-- The plan ends after k items. -/
structure Ends (T L : Nat → Int) (x : Nat → Bool) (k : Nat) : Prop where
  pos : 1 ≤ k
  before : ∀ j, j + 1 < k → av T L j (bc x (j + 1)) = 0
  now : av T L (k - 1) (bc x k) ≠ 0

theorem Ends.unique {T L : Nat → Int} {x : Nat → Bool} {k k' : Nat} (h : Ends T L x k) (h' : Ends T L x k') : k = k' := by
  rcases Nat.lt_trichotomy k k' with hl | he | hg
  · have := h'.before (k - 1) (by have := h.pos; omega)
    have hp := h.pos
    rw [show k - 1 + 1 = k by omega] at this
    exact absurd this h.now
  · exact he
  · have := h.before (k' - 1) (by have := h'.pos; omega)
    have hp := h'.pos
    rw [show k' - 1 + 1 = k' by omega] at this
    exact absurd this h'.now

/-- Is it a plan? -/
def isPlan (n m : Nat) (T L : Nat → Int) : Bool :=
  decide (1 ≤ n ∧ n ≤ 12 ∧ m = n ∧ (∀ j, j < n → -1 ≤ T j ∧ T j ≤ n ∧ 0 ≤ L j ∧ L j ≤ n + 1 ∧ T j < L j) ∧ L (n - 1) = T (n - 1) + 1)
theorem isPlan_iff {n m : Nat} {T L : Nat → Int} : isPlan n m T L = true ↔ (1 ≤ n ∧ n ≤ 12 ∧ m = n ∧ (∀ j, j < n → -1 ≤ T j ∧ T j ≤ n ∧ 0 ≤ L j ∧ L j ≤ n + 1 ∧ T j < L j) ∧ L (n - 1) = T (n - 1) + 1) := by simp [isPlan]
theorem isPlan_no {n m : Nat} {T L : Nat → Int} (h : ¬ (1 ≤ n ∧ n ≤ 12 ∧ m = n ∧ (∀ j, j < n → -1 ≤ T j ∧ T j ≤ n ∧ 0 ≤ L j ∧ L j ≤ n + 1 ∧ T j < L j) ∧ L (n - 1) = T (n - 1) + 1)) : isPlan n m T L = false := by
  simp only [isPlan, decide_eq_false_iff_not]; exact h

/-- Is it a Chance? -/
def isCh (Y O : Int) : Bool := decide (1 ≤ O ∧ O ≤ 12 ∧ 0 ≤ Y ∧ Y ≤ O)
theorem isCh_iff {Y O : Int} : isCh Y O = true ↔ (1 ≤ O ∧ O ≤ 12 ∧ 0 ≤ Y ∧ Y ≤ O) := by simp [isCh]
theorem isCh_no {Y O : Int} (h : ¬ (1 ≤ O ∧ O ≤ 12 ∧ 0 ≤ Y ∧ Y ≤ O)) : isCh Y O = false := by
  simp only [isCh, decide_eq_false_iff_not]; exact h

theorem av_last {T L : Nat → Int} {i : Nat} (h : L i = T i + 1) (b : Int) : av T L i b ≠ 0 := by
  unfold av; split
  · decide
  · rw [if_pos (by omega)]; decide

theorem av_cases (T L : Nat → Int) (i : Nat) (b : Int) : av T L i b = 0 ∨ av T L i b = 1 ∨ av T L i b = 2 := by
  unfold av; split
  · exact Or.inr (Or.inl rfl)
  · split
    · exact Or.inr (Or.inr rfl)
    · exact Or.inl rfl

/-- Turned. -/
def trT (L : Nat → Int) (i : Nat) : Int := max (((i + 1 : Nat) : Int) - L i) (-1)
def trL (T : Nat → Int) (i : Nat) : Int := max (((i + 1 : Nat) : Int) - T i) 0

theorem av_turn {T L : Nat → Int} {i : Nat} {b : Int} (h : T i < L i) (h1 : b ≤ ((i + 1 : Nat) : Int)) :
    av (trT L) (trL T) i (((i + 1 : Nat) : Int) - b) = if av T L i b = 0 then 0 else 3 - av T L i b := by
  unfold av trT trL
  by_cases c1 : b ≤ T i
  · rw [if_neg (by omega), if_pos (by omega)]; simp [c1]
  · by_cases c2 : L i ≤ b
    · rw [if_pos (by omega)]; simp [c1, c2]
    · rw [if_neg (by omega), if_neg (by omega)]; simp [c1, c2]

theorem av_twice {T L : Nat → Int} {i : Nat} {b : Int} (h : T i < L i) (h0 : 0 ≤ b) (h1 : b ≤ ((i + 1 : Nat) : Int)) :
    av (trT (trL T)) (trL (trT L)) i b = av T L i b := by
  have e1 : trT (trL T) i = max (((i + 1 : Nat) : Int) - trL T i) (-1) := rfl
  have e2 : trL T i = max (((i + 1 : Nat) : Int) - T i) 0 := rfl
  have e3 : trL (trT L) i = max (((i + 1 : Nat) : Int) - trT L i) 0 := rfl
  have e4 : trT L i = max (((i + 1 : Nat) : Int) - L i) (-1) := rfl
  unfold av
  by_cases c1 : b ≤ T i
  · rw [if_pos c1, if_pos (by omega)]
  · rw [if_neg c1, if_neg (by omega)]
    by_cases c2 : L i ≤ b
    · rw [if_pos c2, if_pos (by omega)]
    · rw [if_neg c2, if_neg (by omega)]

theorem isPlan_turn {n m : Nat} {T L : Nat → Int} (h : isPlan n m T L = true) : isPlan n n (trT L) (trL T) = true := by
  obtain ⟨h1, h2, h3, h4, h5⟩ := isPlan_iff.1 h
  refine isPlan_iff.2 ⟨h1, h2, rfl, fun j hj => ?_, ?_⟩
  · have := h4 j hj; unfold trT trL; omega
  · have := h4 (n - 1) (by omega); unfold trT trL; omega

/-- The plan of n and c. -/
def sgT (n : Nat) (c : Int) (i : Nat) : Int := if i + 1 = n then c else -1
def sgL (n : Nat) (c : Int) (i : Nat) : Int := if i + 1 = n then c + 1 else n + 1
/-- It cut short. -/
def shT (n : Nat) (c : Int) (i : Nat) : Int := max (c - (n - ((i + 1 : Nat) : Int))) (-1)
def shL (c : Int) (_ : Nat) : Int := c + 1

theorem isPlan_single {n : Nat} {c : Int} (h1 : 1 ≤ n) (h2 : n ≤ 12) (h3 : 0 ≤ c) (h4 : c < n) : isPlan n n (sgT n c) (sgL n c) = true := by
  refine isPlan_iff.2 ⟨h1, h2, rfl, fun j hj => ?_, ?_⟩
  · unfold sgT sgL; split <;> omega
  · unfold sgT sgL; rw [if_pos (by omega), if_pos (by omega)]
theorem isPlan_short {n : Nat} {c : Int} (h1 : 1 ≤ n) (h2 : n ≤ 12) (h3 : 0 ≤ c) (h4 : c < n) : isPlan n n (shT n c) (shL c) = true := by
  refine isPlan_iff.2 ⟨h1, h2, rfl, fun j hj => ?_, ?_⟩
  · unfold shT shL; omega
  · unfold shT shL; omega

theorem av_single {n : Nat} {c : Int} {i : Nat} {b : Int} (hi : i + 1 < n) (h0 : 0 ≤ b) (h1 : b ≤ ((i + 1 : Nat) : Int)) : av (sgT n c) (sgL n c) i b = 0 := by
  have e : ¬ i + 1 = n := by omega
  simp only [av, sgT, sgL, e, if_false]
  rw [if_neg (by omega), if_neg (by omega)]

end Go.Proofs.Ytcedhcpjnoppmaa
