/-
  Rows of cells that a call makes: a slice whose elements have s cells each.
-/
import Derived.Test.YtiegingpmcloeaaMath1
namespace Go.Proofs.Ytiegingpmcloeaa
open Go.RowKit

theorem flat_len {α : Type} (c : Nat → List α) (s : Nat) (hc : ∀ k, (c k).length = s) : ∀ m, ((List.range m).flatMap c).length = m * s
  | 0 => by simp
  | m + 1 => by
    rw [List.range_succ, List.flatMap_append, List.length_append, flat_len c s hc m]
    simp [hc, Nat.add_mul]
theorem flat_at {α : Type} (c : Nat → List α) (s : Nat) (hc : ∀ k, (c k).length = s) : ∀ m k, k < m → ∀ i, i < s → ((List.range m).flatMap c)[k * s + i]? = (c k)[i]?
  | 0, k, h, _, _ => absurd h (Nat.not_lt_zero _)
  | m + 1, k, h, i, hi => by
    rw [List.range_succ, List.flatMap_append]
    have hl := flat_len c s hc m
    by_cases hk : k < m
    · have : k * s + i < m * s := by
        have : (k + 1) * s ≤ m * s := Nat.mul_le_mul_right s hk
        rw [Nat.add_mul] at this; omega
      rw [List.getElem?_append_left (by rw [hl]; exact this)]
      exact flat_at c s hc m k hk i hi
    · have e : k = m := by omega
      subst e
      rw [List.getElem?_append_right (by rw [hl]; omega), hl]
      simp [show k * s + i - k * s = i by omega]

/-- A slice of the call's own. -/
def OwnC (w : World) (base : Nat) (e : TypeId) (s : Nat) (v : Value) (m : Nat) (c : Nat → List Value) : Prop := w.ownsRow base e s v m ((List.range m).flatMap c)
theorem OwnC.nil (w : World) (base : Nat) (e : TypeId) (s : Nat) (c : Nat → List Value) : OwnC w base e s (.slice none 0 0) 0 c := World.ownsRow_nil _ _ _ _
theorem OwnC.snoc {w : World} {base : Nat} {e : TypeId} {s : Nat} {v : Value} {m : Nat} {c : Nat → List Value} {x : List Value} (hx : c m = x) (h : w.ownsRow base e s v (m + 1) ((List.range m).flatMap c ++ x)) : OwnC w base e s v (m + 1) c := by
  unfold OwnC
  rw [List.range_succ, List.flatMap_append]
  simpa [hx] using h
theorem OwnC.keep {w w' : World} {base : Nat} {e : TypeId} {s : Nat} {v : Value} {m : Nat} {c : Nat → List Value} (h : OwnC w base e s v m c) (hb : Below w.heap.size w w') : OwnC w' base e s v m c := ownsRow_below h hb
theorem OwnC.congr {w : World} {base : Nat} {e : TypeId} {s : Nat} {v : Value} {m : Nat} {c c' : Nat → List Value} (h : OwnC w base e s v m c) (hc : ∀ k, k < m → c k = c' k) : OwnC w base e s v m c' := by
  unfold OwnC at *
  rwa [show (List.range m).flatMap c' = (List.range m).flatMap c by
    simp only [List.flatMap_def]
    rw [List.map_congr_left fun k hk => (hc k (List.mem_range.1 hk)).symm]]

/-- The elements of a slice lie at its address, s cells each. -/
def CellsAt (w : World) (a : Option Addr) (s m : Nat) (c : Nat → List Value) : Prop :=
  ∀ k, k < m → ∃ b o, a = some ⟨b, o, none⟩ ∧ ∀ i u, (c k)[i]? = some u → w.cell? ⟨b, o + k * s + i, none⟩ = some u
theorem CellsAt.keep {w w' : World} {a : Option Addr} {s m : Nat} {c : Nat → List Value} (h : CellsAt w a s m c) {B : Nat} (hB : w.heap.size ≤ B) (hb : Below B w w') : CellsAt w' a s m c := by
  intro k hk
  obtain ⟨b, o, ha, hc⟩ := h k hk
  refine ⟨b, o, ha, fun i u hu => ?_⟩
  have := hc i u hu
  rw [hb.cell (p := ⟨b, o + k * s + i, none⟩) (Nat.lt_of_lt_of_le (World.block_lt_of_cell? _ _ this) hB)]
  exact this
theorem OwnC.read {w : World} {base : Nat} {e : TypeId} {s : Nat} {v : Value} {m : Nat} {c : Nat → List Value} (hs : ∀ k, (c k).length = s) (h : OwnC w base e s v m c) :
    ∃ a cap, v = .slice a m cap ∧ CellsAt w a s m c ∧ m ≤ cap ∧ cap ≤ maxLen := by
  rcases h.2 with ⟨rfl, rfl⟩ | ⟨g, cap, cur, rfl, hb, hg, h1, h2, h3, h4⟩
  · exact ⟨none, 0, rfl, fun k hk => absurd hk (Nat.not_lt_zero _), Nat.le_refl _, Nat.zero_le _⟩
  · refine ⟨_, _, rfl, fun k hk => ⟨g, 0, rfl, fun i u hu => ?_⟩, h1, h2⟩
    have hi : i < s := by rw [← hs k]; exact (List.getElem?_eq_some_iff.1 hu).1
    have := World.ownsRow.cells h (g := g) rfl (k * s + i) u (by rw [flat_at c s hs m k hk i hi]; exact hu)
    rw [add_at, Nat.zero_add] at this
    rw [Nat.zero_add]; exact this

def qcell (q : Q) : List Value := [.int .i64 q.d, .int .i64 q.j, .int .i64 q.t, .int .i64 q.e]
theorem CellsAt.ords {w : World} {a : Option Addr} {m : Nat} {M : Nat → Q} (h : CellsAt w a 4 m (fun k => qcell (M k))) : Ords w a m M := by
  intro k hk
  obtain ⟨b, o, ha, hc⟩ := h k hk
  exact ⟨b, o, ha, by have := hc 0 _ rfl; simpa using this, hc 1 _ rfl, hc 2 _ rfl, hc 3 _ rfl⟩

/-- The cells of a new block, as 'append' asks them. -/
theorem new_cells (w : World) (l : List Value) (T : TypeId) : ∀ j u, l[j]? = some u → (w.alloc (.cells l.toArray T)).cell? ((⟨w.heap.size, 0, none⟩ : Addr).add j) = some u := by
  intro j u hj
  rw [add_at, Nat.zero_add, block_cell (heap_alloc_new w _)]
  simpa using hj

end Go.Proofs.Ytiegingpmcloeaa
