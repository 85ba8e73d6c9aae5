/-
  Rows of cells that a call makes (a slice whose elements have s cells each), and points in them.
-/
import Derived.Test.YtfommfgokpiieaaDoorMath1
import Derived.WalkKit
namespace Go.Proofs.YtfommfgokpiieaaDoor
open Go.RowKit

theorem flat_len {α : Type} (c : Nat → List α) (s : Nat) (hc : ∀ k, (c k).length = s) : ∀ m, ((List.range m).flatMap c).length = m * s
  | 0 => by simp
  | m + 1 => by
    rw [List.range_succ, List.flatMap_append, List.length_append, flat_len c s hc m]
    simp [hc, Nat.add_mul]
theorem flat_at {α : Type} (c : Nat → List α) (s : Nat) (hc : ∀ k, (c k).length = s) : ∀ m k, k < m → ∀ i, i < s → ((List.range m).flatMap c)[k * s + i]? = (c k)[i]?
  | 0, k, h, _, _ => absurd h (Nat.not_lt_zero _)
  | m + 1, k, h, i, hi => by
    rw [List.range_succ, List.flatMap_append]
    have hl := flat_len c s hc m
    by_cases hk : k < m
    · have : k * s + i < m * s := by
        have : (k + 1) * s ≤ m * s := Nat.mul_le_mul_right s hk
        rw [Nat.add_mul] at this; omega
      rw [List.getElem?_append_left (by rw [hl]; exact this)]
      exact flat_at c s hc m k hk i hi
    · have e : k = m := by omega
      subst e
      rw [List.getElem?_append_right (by rw [hl]; omega), hl]
      simp [show k * s + i - k * s = i by omega]

/-- A slice of the call's own. -/
def OwnC (w : World) (base : Nat) (e : TypeId) (s : Nat) (v : Value) (m : Nat) (c : Nat → List Value) : Prop := w.ownsRow base e s v m ((List.range m).flatMap c)
theorem OwnC.nil (w : World) (base : Nat) (e : TypeId) (s : Nat) (c : Nat → List Value) : OwnC w base e s (.slice none 0 0) 0 c := World.ownsRow_nil _ _ _ _
theorem OwnC.snoc {w : World} {base : Nat} {e : TypeId} {s : Nat} {v : Value} {m : Nat} {c : Nat → List Value} {x : List Value} (hx : c m = x) (h : w.ownsRow base e s v (m + 1) ((List.range m).flatMap c ++ x)) : OwnC w base e s v (m + 1) c := by
  unfold OwnC
  rw [List.range_succ, List.flatMap_append]
  simpa [hx] using h
theorem OwnC.keep {w w' : World} {base : Nat} {e : TypeId} {s : Nat} {v : Value} {m : Nat} {c : Nat → List Value} (h : OwnC w base e s v m c) (hb : Below w.heap.size w w') : OwnC w' base e s v m c := ownsRow_below h hb
theorem OwnC.congr {w : World} {base : Nat} {e : TypeId} {s : Nat} {v : Value} {m : Nat} {c c' : Nat → List Value} (h : OwnC w base e s v m c) (hc : ∀ k, k < m → c k = c' k) : OwnC w base e s v m c' := by
  unfold OwnC at *
  rwa [show (List.range m).flatMap c' = (List.range m).flatMap c by
    simp only [List.flatMap_def]
    rw [List.map_congr_left fun k hk => (hc k (List.mem_range.1 hk)).symm]]

/-- The elements of a slice lie at its address, s cells each. -/
def CellsAt (w : World) (a : Option Addr) (s m : Nat) (c : Nat → List Value) : Prop :=
  ∀ k, k < m → ∃ b o, a = some ⟨b, o, none⟩ ∧ ∀ i u, (c k)[i]? = some u → w.cell? ⟨b, o + k * s + i, none⟩ = some u
theorem CellsAt.keep {w w' : World} {a : Option Addr} {s m : Nat} {c : Nat → List Value} (h : CellsAt w a s m c) {B : Nat} (hB : w.heap.size ≤ B) (hb : Below B w w') : CellsAt w' a s m c := by
  intro k hk
  obtain ⟨b, o, ha, hc⟩ := h k hk
  refine ⟨b, o, ha, fun i u hu => ?_⟩
  have := hc i u hu
  rw [hb.cell (p := ⟨b, o + k * s + i, none⟩) (Nat.lt_of_lt_of_le (World.block_lt_of_cell? _ _ this) hB)]
  exact this
theorem OwnC.read {w : World} {base : Nat} {e : TypeId} {s : Nat} {v : Value} {m : Nat} {c : Nat → List Value} (hs : ∀ k, (c k).length = s) (h : OwnC w base e s v m c) :
    ∃ a cap, v = .slice a m cap ∧ CellsAt w a s m c ∧ m ≤ cap ∧ cap ≤ maxLen := by
  rcases h.2 with ⟨rfl, rfl⟩ | ⟨g, cap, cur, rfl, hb, hg, h1, h2, h3, h4⟩
  · exact ⟨none, 0, rfl, fun k hk => absurd hk (Nat.not_lt_zero _), Nat.le_refl _, Nat.zero_le _⟩
  · refine ⟨_, _, rfl, fun k hk => ⟨g, 0, rfl, fun i u hu => ?_⟩, h1, h2⟩
    have hi : i < s := by rw [← hs k]; exact (List.getElem?_eq_some_iff.1 hu).1
    have := World.ownsRow.cells h (g := g) rfl (k * s + i) u (by rw [flat_at c s hs m k hk i hi]; exact hu)
    rw [add_at, Nat.zero_add] at this
    rw [Nat.zero_add]; exact this

/-- The cells of a new block, as 'append' asks them. -/
theorem new_cells (w : World) (l : List Value) (T : TypeId) : ∀ j u, l[j]? = some u → (w.alloc (.cells l.toArray T)).cell? ((⟨w.heap.size, 0, none⟩ : Addr).add j) = some u := by
  intro j u hj
  rw [add_at, Nat.zero_add, block_cell (heap_alloc_new w _)]
  simpa using hj

theorem one_le (w : World) (o1 : Obj) : Below w.heap.size w (w.alloc o1) := (Below.refl _ w).alloc (Nat.le_refl _) _
theorem two_le (w : World) (o1 o2 : Obj) : Below w.heap.size w ((w.alloc o1).alloc o2) := ((Below.refl _ w).alloc (Nat.le_refl _) _).alloc (by simp) _
theorem three_le (w : World) (o1 o2 o3 : Obj) : Below w.heap.size w (((w.alloc o1).alloc o2).alloc o3) := (two_le w o1 o2).alloc (by simp; omega) _
theorem band {a b c : World} (h : Below a.heap.size a b) (k : Below b.heap.size b c) : Below a.heap.size a c := h.trans (k.mono h.size)
theorem below_drew1 {w w' : World} (h : Below w.drew.heap.size w.drew w') : Below w.heap.size w w' := ⟨h.os, h.tape, h.output, h.size, h.block⟩
theorem below_set2 {B : Nat} {a w : World} (h : Below B a w) {b : Nat} (hb : B ≤ b) (u v : Value) : Below B a ((w.setCell ⟨b, 0, none⟩ u).setCell ⟨b, 1, none⟩ v) := (h.setCell hb u).setCell hb v
theorem set2_size (w : World) (b : Nat) (v0 v1 : Value) : ((w.setCell ⟨b, 0, none⟩ v0).setCell ⟨b, 1, none⟩ v1).heap.size = w.heap.size := by simp [World.setCell]
theorem OwnC.setCell {w : World} {base : Nat} {e : TypeId} {s : Nat} {v : Value} {m : Nat} {c : Nat → List Value} (h : OwnC w base e s v m c) {p : Addr} (hp : p.block < base) (u : Value) : OwnC (w.setCell p u) base e s v m c := by
  refine ⟨h.1, ?_⟩
  rcases h.2 with hn | ⟨g, cap, cur, rfl, hbg, hg, r⟩
  · exact Or.inl hn
  · exact Or.inr ⟨g, cap, cur, rfl, hbg, (Below.heap_setCell _ _ _ _ (by omega)).trans hg, r⟩
theorem OwnC.set2 {w : World} {base : Nat} {e : TypeId} {s : Nat} {v : Value} {m : Nat} {c : Nat → List Value} (h : OwnC w base e s v m c) {b : Nat} (hp : b < base) (v0 v1 : Value) : OwnC ((w.setCell ⟨b, 0, none⟩ v0).setCell ⟨b, 1, none⟩ v1) base e s v m c :=
  (h.setCell (p := ⟨b, 0, none⟩) hp v0).setCell (p := ⟨b, 1, none⟩) hp v1

/-- Two cells of a block, which may be written. -/
structure At2 (w : World) (b : Nat) (v0 v1 : Value) : Prop where
  c0 : w.cell? ⟨b, 0, none⟩ = some v0
  c1 : w.cell? ⟨b, 1, none⟩ = some v1
  f0 : w.frozen? ⟨b, 0, none⟩ = false
  f1 : w.frozen? ⟨b, 1, none⟩ = false
theorem At2.of {w : World} {b : Nat} {v0 v1 : Value} {T : TypeId} (h : w.heap[b]? = some (.cells #[v0, v1] T)) : At2 w b v0 v1 :=
  ⟨block_cell h 0, block_cell h 1, block_free h 0, block_free h 1⟩
theorem At2.lt {w : World} {b : Nat} {v0 v1 : Value} (h : At2 w b v0 v1) : b < w.heap.size := World.block_lt_of_cell? _ _ h.c0
theorem At2.keep {w w' : World} {b : Nat} {v0 v1 : Value} (h : At2 w b v0 v1) (hb : Below w.heap.size w w') : At2 w' b v0 v1 := by
  have e : w'.heap[b]? = w.heap[b]? := hb.block b h.lt
  have k : ∀ j, w'.cell? ⟨b, j, none⟩ = w.cell? ⟨b, j, none⟩ := fun j => World.cell?_of_block e
  have f : ∀ j, w'.frozen? ⟨b, j, none⟩ = w.frozen? ⟨b, j, none⟩ := fun j => by unfold World.frozen?; simp only [e]
  exact ⟨by rw [k]; exact h.c0, by rw [k]; exact h.c1, by rw [f]; exact h.f0, by rw [f]; exact h.f1⟩
theorem At2.under {w w' : World} {b B : Nat} {v0 v1 : Value} (h : At2 w b v0 v1) (hb : Below B w w') (hB : b < B) : At2 w' b v0 v1 := by
  have e : w'.heap[b]? = w.heap[b]? := hb.block b hB
  have k : ∀ j, w'.cell? ⟨b, j, none⟩ = w.cell? ⟨b, j, none⟩ := fun j => World.cell?_of_block e
  have f : ∀ j, w'.frozen? ⟨b, j, none⟩ = w.frozen? ⟨b, j, none⟩ := fun j => by unfold World.frozen?; simp only [e]
  exact ⟨by rw [k]; exact h.c0, by rw [k]; exact h.c1, by rw [f]; exact h.f0, by rw [f]; exact h.f1⟩
theorem At2.set {w : World} {b : Nat} {u0 u1 : Value} (h : At2 w b u0 u1) (v0 v1 : Value) : At2 ((w.setCell ⟨b, 0, none⟩ v0).setCell ⟨b, 1, none⟩ v1) b v0 v1 := by
  obtain ⟨c0, c1, f0, f1⟩ := h
  constructor <;> go_simp

end Go.Proofs.YtfommfgokpiieaaDoor
