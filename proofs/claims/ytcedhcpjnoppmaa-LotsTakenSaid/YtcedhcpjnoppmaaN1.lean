import Derived.Test.YtcedhcpjnoppmaaR1
import Derived.Test.YtcedhcpjnoppmaaMath2
namespace Go.Proofs.Ytcedhcpjnoppmaa
open Go.RowKit

/-- Next's numbers behind m of the inner loop's rounds. -/
def nx (Y O : Int) (f : Int → Int) (m j : Nat) : Int := (if j < m then f j * (O - Y) else 0) + (if 1 ≤ j ∧ j ≤ m then f ((j : Int) - 1) * Y else 0)

theorem nx_start (Y O : Int) (f : Int → Int) (j : Nat) : nx Y O f 0 j = 0 := by
  unfold nx; rw [if_neg (by omega), if_neg (by omega)]; rfl
theorem nx_step {Y O : Int} {f : Int → Int} {m : Nat} (j : Nat) :
    nx Y O f (m + 1) j = if j = m + 1 then nx Y O f m (m + 1) + f m * Y else if j = m then nx Y O f m m + f m * (O - Y) else nx Y O f m j := by
  rcases Nat.lt_trichotomy j m with h | h | h
  · have e1 : ¬ j = m + 1 := by omega
    have e2 : ¬ j = m := by omega
    have e3 : j < m + 1 := by omega
    have e4 : j ≤ m := by omega
    have e5 : j ≤ m + 1 := by omega
    simp [nx, e1, e2, e3, e4, e5, h]
  · subst h
    have e1 : ¬ j = j + 1 := by omega
    have e3 : j < j + 1 := by omega
    have e5 : j ≤ j + 1 := by omega
    simp [nx, e3, e5]
    omega
  · by_cases e : j = m + 1
    · subst e
      have e3 : ¬ m + 1 < m + 1 := by omega
      have e4 : ¬ m + 1 < m := by omega
      have e5 : ¬ m + 1 ≤ m := by omega
      have e6 : ((m : Int) + 1 - 1) = m := by omega
      simp [nx, e4, e6]
      rw [if_neg e5]; simp
    · have e2 : ¬ j = m := by omega
      have e3 : ¬ j < m + 1 := by omega
      have e4 : ¬ j < m := by omega
      have e5 : ¬ j ≤ m + 1 := by omega
      have e6 : ¬ j ≤ m := by omega
      simp [nx, e, e2, e3, e4, e5, e6]
theorem nx_same {Y O : Int} {f : Int → Int} {m : Nat} (h : f m = 0) (j : Nat) : nx Y O f (m + 1) j = nx Y O f m j := by
  rw [nx_step, h]
  by_cases e1 : j = m + 1
  · subst e1; simp
  · by_cases e2 : j = m
    · subst e2; simp
    · simp [e1, e2]
theorem nx_end {Y O : Int} {f : Int → Int} {n : Nat} (h0 : f (-1) = 0) (j : Nat) (hj : j < n) : nx Y O f n j = fu Y O f j := by
  unfold nx fu
  rw [if_pos hj]
  by_cases e4 : 1 ≤ j
  · rw [if_pos ⟨e4, by omega⟩]
  · have : j = 0 := by omega
    subst this
    rw [if_neg (by omega)]
    simp only [Int.natCast_zero, Int.zero_sub]
    rw [show (-1 : Int) = -1 from rfl, h0]; simp
theorem nx_bd {Y O : Int} {f : Int → Int} (hY : 0 ≤ Y) (hO : Y ≤ O) (h12 : O ≤ 12) {M : Int} (h : ∀ z, 0 ≤ f z ∧ f z ≤ M) (m j : Nat) : 0 ≤ nx Y O f m j ∧ nx Y O f m j ≤ 24 * M := by
  have h1 := part_bd hY hO h12 (h j).1 (h j).2
  have h2 := part_bd hY hO h12 (h ((j : Int) - 1)).1 (h ((j : Int) - 1)).2
  unfold nx
  split <;> split <;> omega

/-- A row of numbers that was made. -/
def SumAt (w : World) (B n : Nat) (s : Nat → Int) : Prop := ∃ cs, w.heap[B]? = some (.cells cs 3) ∧ cs.size = n ∧ ∀ j, j < n → cs[j]? = some (.int .i64 (s j))
theorem SumAt.keep {w w' : World} {B n : Nat} {s : Nat → Int} (h : SumAt w B n s) {b : Nat} (hB : B < b) (hb : Below b w w') : SumAt w' B n s := by
  obtain ⟨cs, h1, h2⟩ := h
  exact ⟨cs, (hb.block _ hB).trans h1, h2⟩
theorem SumAt.lt {w : World} {B n : Nat} {s : Nat → Int} (h : SumAt w B n s) : B < w.heap.size := by
  obtain ⟨cs, h1, _⟩ := h
  exact (Array.getElem?_eq_some_iff.1 h1).1
theorem SumAt.congr {w : World} {B n : Nat} {s t : Nat → Int} (h : SumAt w B n s) (e : ∀ j, j < n → s j = t j) : SumAt w B n t := by
  obtain ⟨cs, h1, h2, h3⟩ := h
  exact ⟨cs, h1, h2, fun j hj => by rw [h3 j hj, e j hj]⟩
theorem SumAt.cell {w : World} {B n j : Nat} {s : Nat → Int} (h : SumAt w B n s) (hj : j < n) : w.cell? ⟨B, j, none⟩ = some (.int .i64 (s j)) ∧ w.frozen? ⟨B, j, none⟩ = false := by
  obtain ⟨cs, h1, h2, h3⟩ := h
  exact ⟨by rw [block_cell h1]; exact h3 j hj, block_free h1 _⟩
theorem SumAt.set {w : World} {B n j : Nat} {s : Nat → Int} {v : Int} (h : SumAt w B n s) (hj : j < n) : SumAt (w.setCell ⟨B, j, none⟩ (.int .i64 v)) B n (fun i => if i = j then v else s i) := by
  obtain ⟨cs, h1, h2, h3⟩ := h
  refine ⟨cs.setIfInBounds j (.int .i64 v), heap_setCell_same _ _ j _ _ _ h1, by simpa using h2, fun i hi => ?_⟩
  by_cases e : i = j
  · subst e; simp [h2, hj]
  · simp only [e, if_false]
    rw [Array.getElem?_setIfInBounds, if_neg (fun h => e h.symm)]
    exact h3 i hi
theorem SumAt.setOther {w : World} {B n : Nat} {s : Nat → Int} (h : SumAt w B n s) {a : Addr} (ha : B ≠ a.block) (v : Value) : SumAt (w.setCell a v) B n s := by
  obtain ⟨cs, h1, h2⟩ := h
  exact ⟨cs, by rw [Below.heap_setCell _ _ _ _ ha]; exact h1, h2⟩
theorem SumAt.drew {w : World} {B n : Nat} {s : Nat → Int} (h : SumAt w B n s) : SumAt w.drew B n s := h
theorem SumAt.drewN {w : World} {B n : Nat} {s : Nat → Int} (h : SumAt w B n s) (q : Nat) : SumAt (w.drewN q) B n s := h
theorem made_sum (w : World) (n : Nat) : SumAt (w.alloc (.cells (madeCells #[.int .i64 0] n) 3)) w.heap.size n (fun _ => 0) := by
  refine ⟨_, heap_alloc_new w _, size_madeCells _ _, fun j hj => ?_⟩
  rw [Array.getElem?_eq_getElem (by rw [size_madeCells]; exact hj)]
  simp [madeCells, hj, Nat.mod_one]

set_option maxHeartbeats 1000000 in
theorem power_any (x : Int) (k : Nat) (w : World) (h1 : 1 ≤ x) (h12 : x ≤ 12) (hk : k ≤ 12) :
    Calls Try.prog 60 #[.int .i64 x, .int .i64 k] w fun e w' => e = .returned (.int .i64 (x ^ k)) ∧ w = w' := by
  go_enter Try.func60, Try.ntmps60
  go_wp2
  go_loop [5, 7] (fun s i => ∃ j : Nat, j ≤ k ∧ i = .int .i64 j ∧ s = .int .i64 (x ^ j)) (fun _ i => k - (intOf i).toNat)
  case atStart => exact ⟨0, Nat.zero_le _, rfl, by rw [Int.pow_zero]⟩
  case round =>
    obtain ⟨j, hj, rfl, rfl⟩ := hrel
    by_cases hlt : j < k
    · have b1 := pow_max h1 h12 (i := j + 1) (by omega)
      have hp : Hid (x ^ (j + 1) = x ^ j * x) := Int.pow_succ x j
      rw [hp.out] at b1
      obtain ⟨b2, b3⟩ := b1
      have hj12 : (j : Int) ≤ 12 := by omega
      go_wp2
      go_round
      case rel => exact ⟨j + 1, by omega, by go_num, by rw [hp.out]⟩
      case measure => simp [intOf]; omega
    · obtain rfl : k = j := by omega
      go_wp2
      go_ret
      exact ⟨rfl, rfl⟩

end Go.Proofs.Ytcedhcpjnoppmaa
