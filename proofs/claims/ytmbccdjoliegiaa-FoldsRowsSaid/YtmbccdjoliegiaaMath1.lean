/-
  Plain facts: the first place of a number, piles.
-/
namespace Go.Proofs.Ytmbccdjoliegiaa

/-- The first place of a number among the first n; -1 if there is none. -/
def ix (n : Nat) (z : Nat → Int) (x : Int) : Int := match (List.range n).find? (fun j => z j == x) with | some j => (j : Int) | none => -1

theorem ix_at {n : Nat} {z : Nat → Int} {x : Int} (k : Nat) (hk : k < n) (hz : z k = x) (h : ∀ j, j < k → z j ≠ x) : ix n z x = k := by
  have : (List.range n).find? (fun j => z j == x) = some k := by
    rw [List.find?_range_eq_some]
    exact ⟨by simp [hz], by simp [hk], fun j hj => by simp [h j hj]⟩
  simp [ix, this]
theorem ix_no {n : Nat} {z : Nat → Int} {x : Int} (h : ∀ j, j < n → z j ≠ x) : ix n z x = -1 := by
  have : (List.range n).find? (fun j => z j == x) = none := by
    rw [List.find?_range_eq_none]
    exact fun j hj => by simp [h j hj]
  simp [ix, this]
theorem ix_cases (n : Nat) (z : Nat → Int) (x : Int) : (∃ k, k < n ∧ z k = x ∧ (∀ j, j < k → z j ≠ x) ∧ ix n z x = (k : Int)) ∨ ((∀ j, j < n → z j ≠ x) ∧ ix n z x = -1) := by
  by_cases h : ∃ k, k < n ∧ z k = x
  · left
    obtain ⟨k, hk, hz⟩ := h
    cases e : (List.range n).find? (fun j => z j == x) with
    | none => rw [List.find?_range_eq_none] at e; have := e k hk; simp [hz] at this
    | some i =>
      have e' := e
      rw [List.find?_range_eq_some] at e
      obtain ⟨e1, e2, e3⟩ := e
      simp at e1 e2
      exact ⟨i, e2, e1, fun j hj hh => by have := e3 j hj; simp [hh] at this, by simp [ix, e']⟩
  · right
    have h' : ∀ j, j < n → z j ≠ x := fun j hj hh => h ⟨j, hj, hh⟩
    exact ⟨h', ix_no h'⟩
theorem ix_bd (n : Nat) (z : Nat → Int) (x : Int) : -1 ≤ ix n z x ∧ ix n z x < n := by
  rcases ix_cases n z x with ⟨k, h1, _, _, h⟩ | ⟨_, h⟩ <;> omega

/-- Is a number among the first n? -/
def has (n : Nat) (z : Nat → Int) (x : Int) : Bool := decide (∃ j, j < n ∧ z j = x)
theorem has_iff {n : Nat} {z : Nat → Int} {x : Int} : has n z x = true ↔ ∃ j, j < n ∧ z j = x := by simp [has]
theorem has_ix (n : Nat) (z : Nat → Int) (x : Int) : decide (0 ≤ ix n z x) = has n z x := by
  rcases ix_cases n z x with ⟨k, h1, h2, _, h⟩ | ⟨h1, h⟩
  · rw [h]; have : has n z x = true := has_iff.2 ⟨k, h1, h2⟩; rw [this]; simp
  · rw [h]
    have : has n z x = false := by
      cases e : has n z x
      · rfl
      · obtain ⟨j, hj, hz⟩ := has_iff.1 e; exact absurd hz (h1 j hj)
    rw [this]; simp

/-- Does a slice have all of m leaves, each once? -/
def pileB (n : Nat) (z : Nat → Int) (m : Int) : Bool := decide ((n : Int) = m ∧ ∀ x : Nat, x < n → has n z x = true)
theorem pileB_iff {n : Nat} {z : Nat → Int} {m : Int} : pileB n z m = true ↔ ((n : Int) = m ∧ ∀ x : Nat, x < n → has n z x = true) := by simp [pileB]
theorem pileB_no {n : Nat} {z : Nat → Int} {m : Int} (h : ¬ ((n : Int) = m ∧ ∀ x : Nat, x < n → has n z x = true)) : pileB n z m = false := by
  simp only [pileB, decide_eq_false_iff_not]; exact h

/-- Is a number that of the leaves of a strip? -/
def stripB (n : Int) : Bool := decide (1 ≤ n ∧ n ≤ 7)
/-- Is a slice a pile of a strip? -/
def isP (n : Nat) (z : Nat → Int) : Bool := stripB n && pileB n z n
theorem isP_iff {n : Nat} {z : Nat → Int} : isP n z = true ↔ (1 ≤ n ∧ n ≤ 7 ∧ ∀ x : Nat, x < n → ∃ j, j < n ∧ z j = x) := by
  simp only [isP, stripB, Bool.and_eq_true, decide_eq_true_eq, pileB_iff, has_iff]
  exact ⟨fun ⟨⟨h1, h2⟩, _, h3⟩ => ⟨by omega, by omega, h3⟩, fun ⟨h1, h2, h3⟩ => ⟨⟨by omega, by omega⟩, trivial, h3⟩⟩

end Go.Proofs.Ytmbccdjoliegiaa
