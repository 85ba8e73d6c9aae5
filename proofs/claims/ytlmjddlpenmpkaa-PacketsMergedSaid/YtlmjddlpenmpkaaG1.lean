import Derived.Test.YtlmjddlpenmpkaaA2
import Derived.Shelf.Lay
import Derived.Shelf.Slices.Delete
import Derived.Lib.OwnBridge
import Derived.Laws.OwnMore
import Derived.Ground.Names2Prog
namespace Go.Proofs.Ytlmjddlpenmpkaa
open Go.RowKit Go.Shelf

shelf_lay Lays2.n23 Nm2 23 at Try as Try.lays23

/-- The places left when place b is taken out. -/
def outZ (z : Nat → Int) (b : Nat) (j : Nat) : Int := z (if j < b then j else j + 1)

theorem delete_any {w w0 : World} {base g n cap : Nat} {z : Nat → Int} (b : Nat) (hb : b < n) (h : Own w base (some ⟨g, 0, none⟩) n cap z) (hB : Below base w0 w) :
    Calls Try.prog 69 #[.slice (some ⟨g, 0, none⟩) n cap, .int .i64 b, .int .i64 ((b : Int) + 1)] w fun e w' => e = .returned (.slice (some ⟨g, 0, none⟩) (n - 1) cap) ∧ Own w' base (some ⟨g, 0, none⟩) (n - 1) cap (outZ z b) ∧ Below base w0 w' := by
  have h' : w.ownsRow base 3 1 (.slice (some ⟨g, 0, none⟩) n cap) n (((List.range n).map z).map encI) := by
    have e : ((List.range n).map z).map encI = (List.range n).map fun j => .int .i64 (z j) := by rw [List.map_map]; rfl
    rw [e]; exact h
  obtain ⟨g', cap', e1, hg, _, hc, hm, hl, hH⟩ := Lib.holds_of_ownsRow h' (by simp)
  have e2 : g' = g ∧ cap' = cap := by injection e1 with e1 _ e3; injection e1 with e1; injection e1 with e1; exact ⟨e1.symm, e3.symm⟩
  obtain ⟨rfl, rfl⟩ := e2
  have hD := Any.slices_Delete_int Try.lays23 g' 0 cap' b (b + 1) ((List.range n).map z) w hH (by omega) (by unfold maxLen at hm; omega) (by omega) (by omega)
  rw [hl, show ((b + 1 : Nat) : Int) = (b : Int) + 1 from by omega] at hD
  refine hD.mono ?_
  rintro e w' ⟨rfl, q, rfl⟩
  have e3 : n - (b + 1 - b) = n - 1 := by omega
  rw [e3]
  refine ⟨rfl, ?_, Lib.below_putRow hB hg⟩
  have ho := Lib.ownsRow_putRow (enc := encI) (q := q) (k := n - 1) (ys := ((List.range n).map z).take b ++ ((List.range n).map z).drop (b + 1) ++ List.replicate (b + 1 - b) 0) h' (by simp; omega) (by omega)
  have e4 : ((((List.range n).map z).take b ++ ((List.range n).map z).drop (b + 1) ++ List.replicate (b + 1 - b) 0).take (n - 1)).map encI = (List.range (n - 1)).map fun j => .int .i64 (outZ z b j) := by
    apply List.ext_getElem
    · simp; omega
    · intro j h1 h2
      have hj : j < n - 1 := by simpa using h2
      have ej : min b n = b := by omega
      by_cases hjb : j < b
      · simp [outZ, hjb, ej, encI]
      · simp [outZ, hjb, List.getElem_append, ej, encI]
        grind
  rw [e4] at ho
  exact ho
end Go.Proofs.Ytlmjddlpenmpkaa
