/-
  Plain words for what lies in memory: a slice of ints, a slice of slices of ints; that they stay while the call makes memory of its own.
-/
import Derived.WalkKit
import Derived.Lib.Hide
namespace Go.Proofs.YtfommfgokpiieaaDoor
open Go.RowKit

theorem add_at (b o j : Nat) : (⟨b, o, none⟩ : Addr).add j = ⟨b, o + j, none⟩ := by
  unfold Addr.add; split <;> simp_all

/-- One value in a new block of one cell: what 'append' asks of it. -/
theorem one_new (w : World) (v : Value) (T : TypeId) : ∀ j u, [v][j]? = some u → (w.alloc (.cells #[v] T)).cell? ((⟨w.heap.size, 0, none⟩ : Addr).add j) = some u := by
  intro j u hj
  match j, hj with
  | 0, hj => simp at hj; subst hj; simp [Addr.add]
theorem one_ok (v : Value) (h : v.oneCell' = true) : ∀ u ∈ [v], u.oneCell' = true := by
  intro u hu
  simp at hu
  subst hu; exact h

theorem heap_two2 (w : World) (o1 o2 : Obj) : ((w.alloc o1).alloc o2).heap[w.heap.size + 1]? = some o2 := by
  have := heap_alloc_new (w.alloc o1) o2
  simpa using this
theorem heap_two1 (w : World) (o1 o2 : Obj) : ((w.alloc o1).alloc o2).heap[w.heap.size]? = some o1 := by
  rw [Below.heap_alloc _ _ _ (by simp)]
  exact heap_alloc_new w o1
/-- What a block of cells gives. -/
theorem block_cell {w : World} {b : Nat} {cs : Array Value} {T : TypeId} (h : w.heap[b]? = some (.cells cs T)) (j : Nat) : w.cell? ⟨b, j, none⟩ = cs[j]? := by simp [World.cell?, h]
theorem block_free {w : World} {b : Nat} {cs : Array Value} {T : TypeId} (h : w.heap[b]? = some (.cells cs T)) (j : Nat) : w.frozen? ⟨b, j, none⟩ = false := by simp [World.frozen?, h]

/-- The slice that begins at 'a' holds the numbers 'z 0', 'z 1', .. up to n. -/
def Ints (w : World) (a : Option Addr) (n : Nat) (z : Nat → Int) : Prop :=
  ∀ j, j < n → ∃ b o, a = some ⟨b, o, none⟩ ∧ w.cell? ⟨b, o + j, none⟩ = some (.int .i64 (z j))

theorem Ints.keep {w w' : World} {a : Option Addr} {n : Nat} {z : Nat → Int} (h : Ints w a n z) {B : Nat} (hB : w.heap.size ≤ B) (hb : Below B w w') : Ints w' a n z := by
  intro j hj
  obtain ⟨b, o, ha, hc⟩ := h j hj
  exact ⟨b, o, ha, by rw [hb.cell (p := ⟨b, o + j, none⟩) (Nat.lt_of_lt_of_le (World.block_lt_of_cell? _ _ hc) hB)]; exact hc⟩
/-- The first of a slice's numbers. -/
theorem Ints.take {w : World} {a : Option Addr} {n k : Nat} {z : Nat → Int} (h : Ints w a n z) (hk : k ≤ n) : Ints w a k z := fun j hj => h j (Nat.lt_of_lt_of_le hj hk)

theorem Ints.none {w : World} {a : Option Addr} {z : Nat → Int} : Ints w a 0 z := fun _ hj => absurd hj (Nat.not_lt_zero _)

theorem Ints.nil {w : World} {n : Nat} {z : Nat → Int} (h : Ints w Option.none n z) : n = 0 := by
  cases n with
  | zero => rfl
  | succ n => obtain ⟨b, o, he, _⟩ := h 0 (Nat.succ_pos _); cases he

/-- A row of the call's own stays while nothing that was there turns. -/
theorem ownsRow_below {w w' : World} {base n : Nat} {e : TypeId} {size : Nat} {v : Value} {xs : List Value} (h : w.ownsRow base e size v n xs) (hb : Below w.heap.size w w') : w'.ownsRow base e size v n xs := by
  refine ⟨h.1, ?_⟩
  rcases h.2 with hn | ⟨g, cap, cur, rfl, hbg, hg, r⟩
  · exact Or.inl hn
  · refine Or.inr ⟨g, cap, cur, rfl, hbg, ?_, r⟩
    rw [hb.block g (Array.getElem?_eq_some_iff.1 hg).1]
    exact hg

/-- The cells that 'append' asks of a slice of numbers. -/
theorem Ints.news {w : World} {ad : Addr} {n : Nat} {z : Nat → Int} (h : Ints w (some ad) n z) : ∀ j u, ((List.range n).map fun j => Value.int .i64 (z j))[j]? = some u → w.cell? (ad.add j) = some u := by
  intro j u hj
  have hjn : j < n := by
    have := (List.getElem?_eq_some_iff.1 hj).1
    simpa using this
  obtain ⟨b, o, he, hc⟩ := h j hjn
  cases he
  have e : ((List.range n).map fun j => Value.int .i64 (z j))[j]? = some (Value.int .i64 (z j)) := by simp [hjn]
  rw [e] at hj
  cases hj
  rw [add_at]; exact hc

end Go.Proofs.YtfommfgokpiieaaDoor
