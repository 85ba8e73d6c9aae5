import Derived.Test.YtkbbijhknbcflabC1
import Derived.Test.YtkbbijhknbcflabA4
import Derived.BigRegion
/-
  Rows that were made; split.
-/
namespace Go.Proofs.Ytkbbijhknbcflab
open Go.RowKit

/-- A row of numbers that was made. -/
def SumAt (w : World) (B n : Nat) (s : Nat → Int) : Prop := ∃ cs, w.heap[B]? = some (.cells cs 3) ∧ cs.size = n ∧ ∀ j, j < n → cs[j]? = some (.int .i64 (s j))
theorem SumAt.keep {w w' : World} {B n : Nat} {s : Nat → Int} (h : SumAt w B n s) {b : Nat} (hB : B < b) (hb : Below b w w') : SumAt w' B n s := by
  obtain ⟨cs, h1, h2⟩ := h
  exact ⟨cs, (hb.block _ hB).trans h1, h2⟩
theorem SumAt.lt {w : World} {B n : Nat} {s : Nat → Int} (h : SumAt w B n s) : B < w.heap.size := by
  obtain ⟨cs, h1, _⟩ := h
  exact (Array.getElem?_eq_some_iff.1 h1).1
theorem SumAt.congr {w : World} {B n : Nat} {s t : Nat → Int} (h : SumAt w B n s) (e : ∀ j, j < n → s j = t j) : SumAt w B n t := by
  obtain ⟨cs, h1, h2, h3⟩ := h
  exact ⟨cs, h1, h2, fun j hj => by rw [h3 j hj, e j hj]⟩
theorem SumAt.cell {w : World} {B n j : Nat} {s : Nat → Int} (h : SumAt w B n s) (hj : j < n) : w.cell? ⟨B, j, none⟩ = some (.int .i64 (s j)) ∧ w.frozen? ⟨B, j, none⟩ = false := by
  obtain ⟨cs, h1, h2, h3⟩ := h
  exact ⟨by rw [block_cell h1]; exact h3 j hj, block_free h1 _⟩
theorem SumAt.set {w : World} {B n j : Nat} {s : Nat → Int} {v : Int} (h : SumAt w B n s) (hj : j < n) : SumAt (w.setCell ⟨B, j, none⟩ (.int .i64 v)) B n (fun i => if i = j then v else s i) := by
  obtain ⟨cs, h1, h2, h3⟩ := h
  refine ⟨cs.setIfInBounds j (.int .i64 v), heap_setCell_same _ _ j _ _ _ h1, by simpa using h2, fun i hi => ?_⟩
  by_cases e : i = j
  · subst e; simp [h2, hj]
  · simp only [e, if_false]
    rw [Array.getElem?_setIfInBounds, if_neg (fun h => e h.symm)]
    exact h3 i hi
theorem SumAt.setOther {w : World} {B n : Nat} {s : Nat → Int} (h : SumAt w B n s) {a : Addr} (ha : B ≠ a.block) (v : Value) : SumAt (w.setCell a v) B n s := by
  obtain ⟨cs, h1, h2⟩ := h
  exact ⟨cs, by rw [Below.heap_setCell _ _ _ _ ha]; exact h1, h2⟩
theorem SumAt.drew {w : World} {B n : Nat} {s : Nat → Int} (h : SumAt w B n s) : SumAt w.drew B n s := h
theorem SumAt.drewN {w : World} {B n : Nat} {s : Nat → Int} (h : SumAt w B n s) (q : Nat) : SumAt (w.drewN q) B n s := h
theorem made_sum (w : World) (n : Nat) : SumAt (w.alloc (.cells (madeCells #[.int .i64 0] n) 3)) w.heap.size n (fun _ => 0) := by
  refine ⟨_, heap_alloc_new w _, size_madeCells _ _, fun j hj => ?_⟩
  rw [Array.getElem?_eq_getElem (by rw [size_madeCells]; exact hj)]
  simp [madeCells, Nat.mod_one]

theorem make_int (n : Nat) (hn : n ≤ 20) (W : World) : (Instr.makeSlice 22 (.int .i64 (n : Int)) (.int .i64 (n : Int))).run Try.prog W = .ok (.slice (some ⟨W.heap.size, 0, none⟩) n n) (W.alloc (.cells (madeCells #[.int .i64 0] n) 3)) := by
  obtain ⟨i0, hi, hz0, hz1, hz2⟩ := info_parts Try.info3
  have := run_make (P := Try.prog) W 22 3 i0 (.int .i64 0) Try.underlying22 hi hz0 .i64 .i64 (n : Int) (n : Int) (by omega) (Int.le_refl _) (by rw [hz2]; omega) (by omega)
  rw [hz1] at this
  simp only [Int.toNat_natCast, Nat.mul_one] at this
  exact this
end Go.Proofs.Ytkbbijhknbcflab
