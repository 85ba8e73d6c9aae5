/-
  Words of steps: their letters, the points on their way, whether they meet themselves, what they hold to their left.
-/
import Derived.Test.YtfommfgokpiieaaDoorMem
namespace Go.Proofs.YtfommfgokpiieaaDoor

def isL (b : UInt8) : Bool := b == 114 || b == 117 || b == 108 || b == 100
/-- The place of a letter among the four. -/
def li (b : UInt8) : Nat := if b = 114 then 0 else if b = 117 then 1 else if b = 108 then 2 else 3
def sx (b : UInt8) : Int := if b = 114 then 1 else if b = 108 then -1 else 0
def sy (b : UInt8) : Int := if b = 117 then 1 else if b = 100 then -1 else 0
theorem isL_or {b : UInt8} (h : isL b = true) : b = 114 ∨ b = 117 ∨ b = 108 ∨ b = 100 := by
  simp only [isL, Bool.or_eq_true, beq_iff_eq] at h
  rcases h with ((h | h) | h) | h <;> simp [h]
theorem isL_no {b : UInt8} (h : isL b = false) : b ≠ 114 ∧ b ≠ 117 ∧ b ≠ 108 ∧ b ≠ 100 := by
  simp only [isL, Bool.or_eq_false_iff, beq_eq_false_iff_ne] at h
  exact ⟨h.1.1.1, h.1.1.2, h.1.2, h.2⟩
theorem sx_bd (b : UInt8) : -1 ≤ sx b ∧ sx b ≤ 1 := by unfold sx; split <;> (try split) <;> omega
theorem sy_bd (b : UInt8) : -1 ≤ sy b ∧ sy b ≤ 1 := by unfold sy; split <;> (try split) <;> omega

/-- The letter at a place (0 beyond the end). -/
def lt (l : List UInt8) (k : Nat) : UInt8 := l.getD k 0
/-- The point after k steps. -/
def px (l : List UInt8) : Nat → Int
  | 0 => 0
  | k + 1 => px l k + sx (lt l k)
def py (l : List UInt8) : Nat → Int
  | 0 => 0
  | k + 1 => py l k + sy (lt l k)
theorem px_bd (l : List UInt8) : ∀ k : Nat, -(k : Int) ≤ px l k ∧ px l k ≤ k
  | 0 => by simp [px]
  | k + 1 => by have := px_bd l k; have := sx_bd (lt l k); simp only [px]; omega
theorem py_bd (l : List UInt8) : ∀ k : Nat, -(k : Int) ≤ py l k ∧ py l k ≤ k
  | 0 => by simp [py]
  | k + 1 => by have := py_bd l k; have := sy_bd (lt l k); simp only [py]; omega

/-- Is it a word? -/
def wordB (l : List UInt8) : Bool := decide (l.length ≤ 24) && l.all isL
theorem wordB_iff {l : List UInt8} : wordB l = true ↔ l.length ≤ 24 ∧ ∀ b ∈ l, isL b = true := by simp [wordB]
theorem wordB_at {l : List UInt8} (h : wordB l = true) {k : Nat} (hk : k < l.length) : isL (lt l k) = true := by
  unfold lt
  rw [List.getD_eq_getElem?_getD, List.getElem?_eq_getElem hk]
  exact (wordB_iff.1 h).2 _ (List.getElem_mem hk)

/-- Is it at no point twice, but at its end? -/
def freeB (l : List UInt8) (n : Nat) : Bool := decide (∀ j, j < n → ∀ i, i < j → px l i ≠ px l j ∨ py l i ≠ py l j)
theorem freeB_iff {l : List UInt8} {n : Nat} : freeB l n = true ↔ ∀ j, j < n → ∀ i, i < j → px l i ≠ px l j ∨ py l i ≠ py l j := by simp [freeB]
theorem freeB_no {l : List UInt8} {n i j : Nat} (hj : j < n) (hi : i < j) (hx : px l i = px l j) (hy : py l i = py l j) : freeB l n = false := by
  simp only [freeB, decide_eq_false_iff_not]
  intro h
  rcases h j hj i hi with h | h
  · exact h hx
  · exact h hy

/-- What it holds to its left, after k steps. -/
def ar (l : List UInt8) : Nat → Int
  | 0 => 0
  | k + 1 => ar l k + px l (k + 1) * (py l (k + 1) - py l k)
theorem mul_bd {a b M : Int} (h1 : -M ≤ a) (h2 : a ≤ M) (h3 : -1 ≤ b) (h4 : b ≤ 1) : -M ≤ a * b ∧ a * b ≤ M := by
  have : b = -1 ∨ b = 0 ∨ b = 1 := by omega
  rcases this with rfl | rfl | rfl <;> simp <;> omega
theorem ar_bd (l : List UInt8) : ∀ k : Nat, k ≤ 30 → -(30 * (k : Int)) ≤ ar l k ∧ ar l k ≤ 30 * k
  | 0, _ => by simp [ar]
  | k + 1, h => by
    have h1 := ar_bd l k (by omega)
    have h2 := px_bd l (k + 1)
    have h3 := sy_bd (lt l k)
    have h4 := mul_bd (M := 30) (a := px l (k + 1)) (b := py l (k + 1) - py l k) (by omega) (by omega) (by simp only [py]; omega) (by simp only [py]; omega)
    simp only [ar]
    omega

/-- Is it an outline? -/
def outB (l : List UInt8) : Bool := wordB l && (decide (4 ≤ l.length) && (decide (px l l.length = 0 ∧ py l l.length = 0) && (freeB l l.length && decide (0 < ar l l.length))))
theorem outB_iff {l : List UInt8} : outB l = true ↔ wordB l = true ∧ 4 ≤ l.length ∧ (px l l.length = 0 ∧ py l l.length = 0) ∧ freeB l l.length = true ∧ 0 < ar l l.length := by
  simp [outB]

/-- The square, and what it holds. -/
def sq : List UInt8 := [114, 117, 108, 100]
theorem sq_out : outB sq = true := by decide +kernel
theorem sq_ar : ar sq 4 = 1 := by decide +kernel

end Go.Proofs.YtfommfgokpiieaaDoor
